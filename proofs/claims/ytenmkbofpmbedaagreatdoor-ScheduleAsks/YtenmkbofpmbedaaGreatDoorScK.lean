import Derived.Test.YtenmkbofpmbedaaGreatDoorMgAa
import Derived.Test.YtenmkbofpmbedaaGreatDoorMgAs
import Derived.Test.YtenmkbofpmbedaaGreatDoorRm9
namespace Go.Proofs.YtenmkbofpmbedaaGreatDoor
open Go.RowKit Go.Shelf
set_option linter.unusedVariables false
set_option maxRecDepth 20000

theorem Ps.far9 {w w' : World} {ps : List Pc} {l : List Pq} {n : Nat} (h : Ps w ps l n) {b' : Nat} {t : TypeId} {cs : Array Value} (V : Va w b' t cs) (hn : NoInt cs) (k : ∀ c, c ≠ b' → w'.heap[c]? = w.heap[c]?) : Ps w' ps l n := fun i hi => ⟨(h i hi).1.far V hn k, (h i hi).2.far V hn k⟩
theorem long_sz {w : World} {r : Rc} {v : Rat} (h : Rn w r v) (k : Nat) : max (r.l : Int) (r.m : Int) ≤ k ↔ Sz k v := by
  constructor
  · intro hl
    obtain ⟨h1, h2, u1, u2, -, e1, e2, -⟩ := h
    have z0 := num_nonneg h1.2.1
    have hab : (v.num.natAbs : Int) = num r.z := by rw [← e1]; generalize r.s = s; cases s <;> simp only [iv_t, iv_f] <;> omega
    exact ⟨by rw [hab]; exact (sz_used h1.2.1 u1).1 (by omega), by rw [← e2]; exact (sz_used h2.2.1 u2).1 (by omega)⟩
  · intro hs
    have := rn_len h hs
    omega
theorem rlong_rc (r : Rc) (w : World) : Calls Tryz.prog 48 #[.agg #[.bool r.s, .slice r.a r.l r.c, .slice r.b r.m r.d]] w fun e w' => e = .returned (.int .i64 (max (r.l : Int) (r.m : Int))) ∧ Below w.heap.size w w' := rlong5 r.s r.a r.l r.c r.b r.m r.d w
theorem radd_rc (p q : Rc) (x y v : Rat) (w : World) (h1 : Rn w p x) (h2 : Rn w q y) (he : x + y = v) (t1 : Short x) (t2 : Short y) :
    Calls Tryz.prog 59 #[.agg #[.bool p.s, .slice p.a p.l p.c, .slice p.b p.m p.d], .agg #[.bool q.s, .slice q.a q.l q.c, .slice q.b q.m q.d]] w fun e w' => ∃ r : Rc, e = .returned (.agg #[.bool r.s, .slice r.a r.l r.c, .slice r.b r.m r.d]) ∧ Rn w' r v ∧ Below w.heap.size w w' := by
  subst he
  refine (radd5 p.s p.a p.l p.c p.z p.b p.m p.d p.y x q.s q.a q.l q.c q.z q.b q.m q.d q.y y w h1 h2 t1 t2).mono ?_
  rintro e w' ⟨s, a, l, c, z, b, m, d, t, rfl, h, hb⟩
  exact ⟨⟨s, a, l, c, z, b, m, d, t⟩, rfl, h, hb⟩
theorem rsub_rc (p q : Rc) (x y v : Rat) (w : World) (h1 : Rn w p x) (h2 : Rn w q y) (he : x - y = v) (t1 : Short x) (t2 : Short y) :
    Calls Tryz.prog 60 #[.agg #[.bool p.s, .slice p.a p.l p.c, .slice p.b p.m p.d], .agg #[.bool q.s, .slice q.a q.l q.c, .slice q.b q.m q.d]] w fun e w' => ∃ r : Rc, e = .returned (.agg #[.bool r.s, .slice r.a r.l r.c, .slice r.b r.m r.d]) ∧ Rn w' r v ∧ Below w.heap.size w w' := by
  subst he
  refine (rsub5 p.s p.a p.l p.c p.z p.b p.m p.d p.y x q.s q.a q.l q.c q.z q.b q.m q.d q.y y w h1 h2 t1 t2).mono ?_
  rintro e w' ⟨s, a, l, c, z, b, m, d, t, rfl, h, hb⟩
  exact ⟨⟨s, a, l, c, z, b, m, d, t⟩, rfl, h, hb⟩
theorem rmul_rc (p q : Rc) (x y v : Rat) (w : World) (h1 : Rn w p x) (h2 : Rn w q y) (he : x * y = v) {i j : Nat} (t1 : Sz i x) (t2 : Sz j y) (hij : i + j ≤ 4000) :
    Calls Tryz.prog 44 #[.agg #[.bool p.s, .slice p.a p.l p.c, .slice p.b p.m p.d], .agg #[.bool q.s, .slice q.a q.l q.c, .slice q.b q.m q.d]] w fun e w' => ∃ r : Rc, e = .returned (.agg #[.bool r.s, .slice r.a r.l r.c, .slice r.b r.m r.d]) ∧ Rn w' r v ∧ Below w.heap.size w w' := by
  subst he
  refine (rmul9 p.s p.a p.l p.c p.z p.b p.m p.d p.y x q.s q.a q.l q.c q.z q.b q.m q.d q.y y w h1 h2 (t1.mono (by omega)) (t2.mono (by omega)) (fun n hn => ⟨rt_fits (by omega) (by omega) t1.1 t2.1 (by omega), rt_fits (by omega) (by omega) t1.2 t2.2 (by omega)⟩)).mono ?_
  rintro e w' ⟨s, a, l, c, z, b, m, d, t, rfl, h, hb⟩
  exact ⟨⟨s, a, l, c, z, b, m, d, t⟩, rfl, h, hb⟩
theorem results_rt' {fn : Func} {i j b : Nat} {x y z : Value} {tmps : Array Value} {w : World} (h : fn.results = #[.cell i 25, .tmp j]) (hi : tmps.getD i undef = .pointer (some ⟨b, 0, none⟩)) (hv : Va w b 25 #[x, y, z]) :
    (results fn tmps).run Tryz.prog w = .ok (.tuple #[.agg #[x, y, z], tmps.getD j undef]) w := by
  have c := hv.d0; have d := hv.d1; have e := hv.d2
  rw [Array.getD_eq_getD_getElem?] at hi
  simp [results, h, hi, c, d, e, go_sem]
def NrR (w : World) (q : Rc) (t : Bool) (l : List Pq) (n : Nat) (v : Rat) : Prop := (t = true ∧ ∃ k, Bg l v k ∧ k < n ∧ Rn w q (aq l k)) ∨ (t = false ∧ Bg l v n ∧ q = Rc.nil)
theorem NrR.after {w w' : World} (hb : Below w.heap.size w w') {q : Rc} {t : Bool} {l : List Pq} {n : Nat} {v : Rat} (h : NrR w q t l n v) : NrR w' q t l n v := by
  rcases h with ⟨h0, k, h1, h2, h3⟩ | h
  · exact .inl ⟨h0, k, h1, h2, h3.after hb⟩
  · exact .inr h
set_option maxHeartbeats 8000000 in
theorem rnext_any (lb lo n c : Nat) (ps : List Pc) (l : List Pq) (r : Rc) (v : Rat) (w : World) (hL : Le elP w (some ⟨lb, lo, none⟩) n ps) (hP : Ps w ps l n) (hn : l.length = n) (ho : Sok l) (hs : Sht l) (hr : Rn w r v) (hv : Short v) :
    Calls Tryz.prog 23 #[.slice (some ⟨lb, lo, none⟩) n c, .agg #[.bool r.s, .slice r.a r.l r.c, .slice r.b r.m r.d]] w fun e w' => ∃ (q : Rc) (t : Value), e = .returned (.tuple #[.agg #[.bool q.s, .slice q.a q.l q.c, .slice q.b q.m q.d], t]) ∧ Hid (∃ u, t = .bool u ∧ NrR w' q u l n v) ∧ Below w.heap.size w w' := by
  (have h8 : n ≤ 8 := by rw [← hn]; exact ho.few); (have h1 : 1 ≤ n := by rw [← hn]; exact ho.one); have HO : Hid (Sok l ∧ Sht l ∧ l.length = n ∧ Short v) := ⟨ho, hs, hn, hv⟩; clear ho hs hn hv; have B0 : Below w.heap.size w w := Below.refl _ _
  go_enter Tryz.func23, Tryz.ntmps23
  (go_wp2_with fail); refine ent2 w _ _ _ _ (Q := fun W => Code.wp Tryz.prog _ _ _ W) ?_; intro x1 hb hs_x1 V3 V4; replace hL := Le.after hb hL; replace hP := Ps.after hb hP; replace hr := Rn.after hb hr; replace B0 := step B0 hb; clear hb hs_x1; have HL : Hid (Le elP x1 (some ⟨lb, lo, none⟩) n ps) := hL; have HP : Hid (Ps x1 ps l n) := hP; have HR : Hid (Rn x1 r v) := hr; have HB : Hid (Below w.heap.size w x1) := B0; have HV3 : Hid (Va x1 (w.heap.size) 25 #[.bool r.s, .slice r.a r.l r.c, .slice r.b r.m r.d]) := V3; have HV4 : Hid (Va x1 (w.heap.size + 1) 25 #[.bool false, .slice none 0 0, .slice none 0 0]) := V4; clear hL hP hr V3 V4 B0
  go_loopw [6] (fun i wr => ∃ k : Nat, k ≤ n ∧ i = .int .i64 k ∧ Hid (∀ j, j < k → aq l j ≤ v) ∧ Hid (Below x1.heap.size x1 wr)) (fun i _ => n - (intOf i).toNat)
  case atStart => exact ⟨0, Nat.zero_le _, rfl, fun j hj => absurd hj (by omega), Below.refl _ _⟩
  case round =>
    obtain ⟨k, hk, rfl, HA, HW⟩ := hrel; have sz3 := HV3.out.lt; have sz4 := HV4.out.lt
    by_cases hlt : k < n
    ·
      have B0 := HW.out; have V3 := Va.after B0 HV3.out; have V4 := Va.after B0 HV4.out; have hr := HR.out.after B0; have hc : At6 wr lb (lo + k * 6) (ps.getD k pz) := (HL.out.after B0).six rfl rfl k hlt; have hpp := (HP.out.after B0) k hlt; (obtain ⟨p, hpe⟩ : ∃ p, ps.getD k (Rc.nil, Rc.nil) = p := ⟨_, rfl⟩); have hpe' : ps.getD k pz = p := hpe; rw [hpe'] at hc; rw [hpe] at hpp; clear hpe hpe'; obtain ⟨hp1, hp2⟩ := hpp; (obtain ⟨x, hx⟩ : ∃ x, aq l k = x := ⟨_, rfl⟩); rw [hx] at hp1; have HX : Hid (aq l k = x) := hx; (have HSX : Hid (Short x) := by have := (HO.out.2.1 k (by rw [HO.out.2.2.1]; exact hlt)).1; rw [hx] at this; exact this.short (by omega)); clear hx; (obtain ⟨cx, hcx⟩ : ∃ s, qcmp x v = s := ⟨_, rfl⟩); (have HCX : Hid (0 < cx ↔ v < x) := by have := cmp_gt x v; rw [hcx] at this; exact this); (go_wp2_with fail); refine wp_region_noPanic ?_; replace V3 : Va wr.drew _ _ _ := V3; replace V4 : Va wr.drew _ _ _ := V4; replace hr := hr.drw
      replace hc := hc.drw; replace hp1 := hp1.drw; replace hp2 := hp2.drw; replace B0 := Below.drew B0; refine wp_region_held_drew (S := (fun W => W.cell? ⟨w.heap.size, 0, none⟩ = some (.bool r.s) ∧ W.cell? ⟨w.heap.size, 1, none⟩ = some (.slice r.a r.l r.c) ∧ W.cell? ⟨w.heap.size, 2, none⟩ = some (.slice r.b r.m r.d) ∧ W.cell? ⟨lb, lo + k * 6, none⟩ = some (.bool p.1.s) ∧ W.cell? ⟨lb, lo + k * 6 + 1, none⟩ = some (.slice p.1.a p.1.l p.1.c) ∧ W.cell? ⟨lb, lo + k * 6 + 2, none⟩ = some (.slice p.1.b p.1.m p.1.d) ∧ W.cell? ⟨lb, lo + k * 6 + 3, none⟩ = some (.bool p.2.s) ∧ W.cell? ⟨lb, lo + k * 6 + 4, none⟩ = some (.slice p.2.a p.2.l p.2.c) ∧ W.cell? ⟨lb, lo + k * 6 + 5, none⟩ = some (.slice p.2.b p.2.m p.2.d))) (by kernel_rfl) ⟨V3.d0, V3.d1, V3.d2, hc.c0, hc.c1, hc.c2, hc.c3, hc.c4, hc.c5⟩ (fun hHeld => ?_); (obtain ⟨x6, hxd⟩ : ∃ xd, xd = wr.drew := ⟨_, rfl⟩); rw [← hxd] at V3 V4 hr hc hp1 hp2 B0 hHeld ⊢; clear hxd
      refine tjz 0 hHeld ?_; refine tjz 1 hHeld ?_; refine tjz 2 hHeld ?_; refine tjz 3 hHeld ?_; refine tjz 4 hHeld ?_; refine tjz 5 hHeld ?_; refine ryz 6 (fun K hK => ?_); simp only [gA, gB, gC]; (go_simp); refine (rcmp_rc p.1 r x v _ hp1 hr HSX.out HO.out.2.2.2).mono ?_; rintro e x7 ⟨rfl, hb⟩; replace V3 := V3.a hb; replace V4 := V4.a hb; replace hr := Rn.after hb hr; replace hc := At6.after hb hc; replace hp1 := Rn.after hb hp1; replace hp2 := Rn.after hb hp2; replace B0 := step B0 hb; clear hb; rw [hcx]; (try go_wp2_with fail); refine hK.out _ _ ⟨V3.d0, V3.d1, V3.d2, hc.c0, hc.c1, hc.c2, hc.c3, hc.c4, hc.c5⟩ (fun hHeld => ?_)
      clear hK K
      by_cases g1 : 0 < cx
      ·
        have e1 : decide (0 < cx) = true := decide_eq_true g1; refine tuz 7 (.bool true) rfl (Or.inl ⟨by rfl, ?_⟩) hHeld ?_
        · (intro W hSw; (try dsimp only at hSw); go_simp; first | (rw [e1]) | (simp; omega) | skip)
        simp only [gA, gB, gC, Act.put, gD, gE, gF]; refine dnz ?_; clear hHeld; obtain ⟨c0, c1, c2, -, -, -⟩ := id hc; obtain ⟨c_V4, f0_V4, d_V4, f1_V4, e_V4, f2_V4, l_V4, m_V4⟩ := V4.q3; (go_wp2_with fail); clear c_V4 f0_V4 d_V4 f1_V4 e_V4 f2_V4 l_V4 m_V4; refine bodyPost_ret (results_rt' rfl rfl (V4.set3 _ _ _)) rfl ?_; exact ⟨p.1, _, rfl, ⟨true, rfl, .inl ⟨rfl, k, ⟨by rw [HO.out.2.2.1]; omega, HA.out, fun _ => by rw [HX.out]; exact HCX.out.1 g1⟩, hlt, by rw [HX.out]; exact hp1.far V4 (noInt3 _ _ _ _ _ _ _) (fa3 _ _ _ _ _)⟩⟩, belo3 (step HB.out B0) (by omega) _ _ _⟩
      ·
        have e1 : decide (0 < cx) = false := decide_eq_false g1; refine tuz 7 (.bool false) rfl (Or.inl ⟨by rfl, ?_⟩) hHeld ?_
        · (intro W hSw; (try dsimp only at hSw); go_simp; first | (rw [e1]) | (simp; omega) | skip)
        simp only [gA, gB, gC, Act.put, gD, gE, gF]; refine dnz ?_; clear hHeld; (have HK : Hid (aq l k ≤ v) := by show _ ≤ _; rw [HX.out]; have := HCX.out; grind); clear hc; (go_wp2_with fail)
        go_roundw
        case measure => simp [intOf]; omega
        case rel =>
          refine ⟨k + 1, by omega, by go_num, fun j hj => ?_, B0⟩
          rcases Nat.lt_or_ge j k with h' | h'
          · exact HA.out j h'
          · obtain rfl : j = k := by omega
            exact HK.out
    ·
      have B0 := HW.out; have V4 := Va.after B0 HV4.out; obtain ⟨c_V4, f0_V4, d_V4, f1_V4, e_V4, f2_V4, l_V4, m_V4⟩ := V4.q3; (go_wp2_with fail); clear c_V4 f0_V4 d_V4 f1_V4 e_V4 f2_V4 l_V4 m_V4; refine bodyPost_ret (results_rt' rfl rfl (V4.set3 _ _ _)) rfl ?_; exact ⟨Rc.nil, _, rfl, ⟨false, rfl, .inr ⟨rfl, ⟨by rw [HO.out.2.2.1]; omega, fun j hj => HA.out j (by omega), fun h => by rw [HO.out.2.2.1] at h; omega⟩, rfl⟩⟩, belo3 (step HB.out B0) (by omega) _ _ _⟩
def SrR (w : World) (q : Rc) (er : Int) (l : List Pq) (v : Rat) : Prop := (er = 2 ∧ v < 0 ∧ q = Rc.nil) ∨ (er = 0 ∧ 0 ≤ v ∧ ∃ k, Bg l v (k + 1) ∧ Rn w q (rq l k))
theorem SrR.after {w w' : World} (hb : Below w.heap.size w w') {q : Rc} {er : Int} {l : List Pq} {v : Rat} (h : SrR w q er l v) : SrR w' q er l v := by
  rcases h with h | ⟨h0, h1, k, h2, h3⟩
  · exact .inl h
  · exact .inr ⟨h0, h1, k, h2, h3.after hb⟩
set_option maxHeartbeats 8000000 in
theorem rslope_any (lb lo n c : Nat) (ps : List Pc) (l : List Pq) (r : Rc) (v : Rat) (w : World) (hL : Le elP w (some ⟨lb, lo, none⟩) n ps) (hP : Ps w ps l n) (hn : l.length = n) (ho : Sok l) (hs : Sht l) (hr : Rn w r v) (hv : Short v) :
    Calls Tryz.prog 22 #[.slice (some ⟨lb, lo, none⟩) n c, .agg #[.bool r.s, .slice r.a r.l r.c, .slice r.b r.m r.d]] w fun e w' => ∃ (q : Rc) (er : Int), e = .returned (.tuple #[.agg #[.bool q.s, .slice q.a q.l q.c, .slice q.b q.m q.d], .int .i64 er]) ∧ Hid (SrR w' q er l v) ∧ Below w.heap.size w w' := by
  (have h8 : n ≤ 8 := by rw [← hn]; exact ho.few); (have h1 : 1 ≤ n := by rw [← hn]; exact ho.one); have HO : Hid (Sok l ∧ Sht l ∧ l.length = n ∧ Short v) := ⟨ho, hs, hn, hv⟩; clear ho hs hn hv; (obtain ⟨sv, hsv⟩ : ∃ s, Int.sign v.num = s := ⟨_, rfl⟩); (have HSV : Hid (sv < 0 ↔ v < 0) := by have := sgn_lt v; rw [hsv] at this; exact this); have B0 : Below w.heap.size w w := Below.refl _ _
  go_enter Tryz.func22, Tryz.ntmps22
  (go_wp2_with fail); refine ent2 w _ _ _ _ (Q := fun W => Calls Tryz.prog _ _ W _) ?_; intro x1 hb hs_x1 V3 V4; replace hL := Le.after hb hL; replace hP := Ps.after hb hP; replace hr := Rn.after hb hr; replace B0 := step B0 hb; clear hb hs_x1; refine (rsign_rc r v _ hr).mono ?_; rintro e x2 ⟨rfl, hb⟩; replace V3 := V3.a hb; replace V4 := V4.a hb; replace hL := Le.after hb hL; replace hP := Ps.after hb hP; replace hr := Rn.after hb hr; replace B0 := step B0 hb; clear hb; rw [hsv]
  by_cases g1 : sv < 0
  ·
    have e1 : decide (sv < 0) = true := decide_eq_true g1; obtain ⟨c_V4, f0_V4, d_V4, f1_V4, e_V4, f2_V4, l_V4, m_V4⟩ := V4.q3; (go_wp2_with fail); clear c_V4 f0_V4 d_V4 f1_V4 e_V4 f2_V4 l_V4 m_V4; refine bodyPost_ret (results_rt' rfl rfl (V4.set3 _ _ _)) rfl ?_; exact ⟨Rc.nil, 2, rfl, .inl ⟨rfl, HSV.out.1 g1, rfl⟩, belo3 B0 (by omega) _ _ _⟩
  ·
    have e1 : decide (sv < 0) = false := decide_eq_false g1; (have HV0 : Hid (0 ≤ v) := by show 0 ≤ v; have := HSV.out; grind); have hc : At6 x2 lb (lo + 0 * 6) (ps.getD 0 pz) := hL.six rfl rfl 0 (by omega); rw [Nat.zero_mul, Nat.add_zero] at hc; have hpp : Rn x2 (ps.getD 0 pz).2 (rq l 0) := (hP 0 (by omega)).2
    generalize ps.getD 0 pz = p0 at hc hpp
    have HL : Hid (Le elP x2 (some ⟨lb, lo, none⟩) n ps) := hL; have HP : Hid (Ps x2 ps l n) := hP; have HR : Hid (Rn x2 r v) := hr; have HB : Hid (Below w.heap.size w x2) := B0; have HV3 : Hid (Va x2 (w.heap.size) 25 #[.bool r.s, .slice r.a r.l r.c, .slice r.b r.m r.d]) := V3; have HV4 : Hid (Va x2 (w.heap.size + 1) 25 #[.bool false, .slice none 0 0, .slice none 0 0]) := V4; have bx : Bx x2 x2 := Below.refl _ _; obtain ⟨c0, c1, c2, c3, c4, c5⟩ := hc; (go_wp2_with fail); clear c0 c1 c2 c3 c4 c5; have lt_V6_V3 := V3.lt; have lt_V6_V4 := V4.lt; refine ent1 x2 _ _ (Q := fun W => Code.wp Tryz.prog _ _ _ W) ?_; intro x3 hb hs_x3 V6; replace V3 := V3.a hb; replace V4 := V4.a hb; replace hL := Le.after hb hL; replace hP := Ps.after hb hP; replace hr := Rn.after hb hr; replace hpp := Rn.after hb hpp; replace bx := Bx.after hb bx; replace B0 := step B0 hb; clear hb hs_x3; have HV6 : Hid (Va x3 (x2.heap.size) 25 #[.bool p0.2.s, .slice p0.2.a p0.2.l p0.2.c, .slice p0.2.b p0.2.m p0.2.d]) := V6
    have HR0 : Hid (Rn x3 p0.2 (rq l 0)) := hpp; have HX0 : Hid (Below x2.heap.size x2 x3) := bx; clear hL hP hr V3 V4 V6 B0 hpp bx
    go_loopw [7] (fun i wr => ∃ (k j : Nat) (q : Rc), 1 ≤ k ∧ k ≤ n ∧ j < k ∧ i = .int .i64 k ∧ Hid (Va wr (x2.heap.size) 25 #[.bool q.s, .slice q.a q.l q.c, .slice q.b q.m q.d]) ∧ Hid (Rn wr q (rq l j)) ∧ Hid (∀ t, t ≤ j → aq l t ≤ v) ∧ Hid (∀ t, j < t → t < k → v < aq l t) ∧ Hid (Below x2.heap.size x2 wr)) (fun i _ => n - (intOf i).toNat)
    case atStart =>
      refine ⟨1, 0, p0.2, Nat.le_refl _, by omega, by omega, rfl, HV6.out, HR0.out, fun t ht => ?_, fun t h1 h2 => by omega, HX0.out⟩; (have h0 : t = 0 := by omega); rw [h0, HO.out.1.nought]; exact HV0.out
    case round =>
      clear HV6 HR0 HX0; obtain ⟨k, j, q, h1k, hk, hjk, rfl, HV6, HRQ, HA, HN, HW⟩ := hrel; have hX := HV3.out.lt; have hX4 := HV4.out.lt
      by_cases hlt : k < n
      ·
        have B0 := HW.out; have V3 := Va.after B0 HV3.out; have V4 := Va.after B0 HV4.out; have V6 := HV6.out; have hr := HR.out.after B0; have hq := HRQ.out; have hc : At6 wr lb (lo + k * 6) (ps.getD k pz) := (HL.out.after B0).six rfl rfl k hlt; have hpp := (HP.out.after B0) k hlt; (obtain ⟨p, hpe⟩ : ∃ p, ps.getD k (Rc.nil, Rc.nil) = p := ⟨_, rfl⟩); have hpe' : ps.getD k pz = p := hpe; rw [hpe'] at hc; rw [hpe] at hpp; clear hpe hpe'; obtain ⟨hp1, hp2⟩ := hpp; (obtain ⟨x, hx⟩ : ∃ x, aq l k = x := ⟨_, rfl⟩); rw [hx] at hp1; have HX : Hid (aq l k = x) := hx; (have HSX : Hid (Short x) := by have := (HO.out.2.1 k (by rw [HO.out.2.2.1]; exact hlt)).1; rw [hx] at this; exact this.short (by omega)); clear hx; (obtain ⟨cx, hcx⟩ : ∃ s, qcmp x v = s := ⟨_, rfl⟩); (have HCX : Hid (0 < cx ↔ v < x) := by have := cmp_gt x v; rw [hcx] at this; exact this); (go_wp2_with fail); refine wp_region_noPanic ?_; replace V3 : Va wr.drew _ _ _ := V3; replace V4 : Va wr.drew _ _ _ := V4
        replace V6 : Va wr.drew _ _ _ := V6; replace hr := hr.drw; replace hq := hq.drw; replace hc := hc.drw; replace hp1 := hp1.drw; replace hp2 := hp2.drw; replace B0 := Below.drew B0; refine wp_region_held_drew (S := (fun W => W.cell? ⟨w.heap.size, 0, none⟩ = some (.bool r.s) ∧ W.cell? ⟨w.heap.size, 1, none⟩ = some (.slice r.a r.l r.c) ∧ W.cell? ⟨w.heap.size, 2, none⟩ = some (.slice r.b r.m r.d) ∧ W.cell? ⟨lb, lo + k * 6, none⟩ = some (.bool p.1.s) ∧ W.cell? ⟨lb, lo + k * 6 + 1, none⟩ = some (.slice p.1.a p.1.l p.1.c) ∧ W.cell? ⟨lb, lo + k * 6 + 2, none⟩ = some (.slice p.1.b p.1.m p.1.d) ∧ W.cell? ⟨lb, lo + k * 6 + 3, none⟩ = some (.bool p.2.s) ∧ W.cell? ⟨lb, lo + k * 6 + 4, none⟩ = some (.slice p.2.a p.2.l p.2.c) ∧ W.cell? ⟨lb, lo + k * 6 + 5, none⟩ = some (.slice p.2.b p.2.m p.2.d))) (by kernel_rfl) ⟨V3.d0, V3.d1, V3.d2, hc.c0, hc.c1, hc.c2, hc.c3, hc.c4, hc.c5⟩ (fun hHeld => ?_); (obtain ⟨x41, hxd⟩ : ∃ xd, xd = wr.drew := ⟨_, rfl⟩)
        rw [← hxd] at V3 V4 V6 hr hq hc hp1 hp2 B0 hHeld ⊢; clear hxd; refine tjz 0 hHeld ?_; refine tjz 1 hHeld ?_; refine tjz 2 hHeld ?_; refine tjz 3 hHeld ?_; refine tjz 4 hHeld ?_; refine tjz 5 hHeld ?_; refine ryz 6 (fun K hK => ?_); simp only [gA, gB, gC]; (go_simp); refine (rcmp_rc p.1 r x v _ hp1 hr HSX.out HO.out.2.2.2).mono ?_; rintro e x42 ⟨rfl, hb⟩; replace V3 := V3.a hb; replace V4 := V4.a hb; replace V6 := V6.a hb; replace hr := Rn.after hb hr; replace hq := Rn.after hb hq; replace hc := At6.after hb hc; replace hp1 := Rn.after hb hp1; replace hp2 := Rn.after hb hp2
        replace B0 := step B0 hb; clear hb; rw [hcx]; (try go_wp2_with fail); refine hK.out _ _ ⟨V3.d0, V3.d1, V3.d2, hc.c0, hc.c1, hc.c2, hc.c3, hc.c4, hc.c5⟩ (fun hHeld => ?_); clear hK K
        by_cases g2 : cx ≤ 0
        ·
          have e2 : decide (cx ≤ 0) = true := decide_eq_true g2; refine tuz 7 (.bool true) rfl (Or.inl ⟨by rfl, ?_⟩) hHeld ?_
          · (intro W hSw; (try dsimp only at hSw); go_simp; first | (rw [e2]) | (simp; omega) | skip)
          simp only [gA, gB, gC, Act.put, gD, gE, gF]; refine dnz ?_; clear hHeld; (have HXV : Hid (aq l k ≤ v) := by show _ ≤ _; rw [HX.out]; have := HCX.out; grind); obtain ⟨-, -, -, c3, c4, c5⟩ := id hc; obtain ⟨c_V6, f0_V6, d_V6, f1_V6, e_V6, f2_V6, l_V6, m_V6⟩ := V6.q3; (go_wp2_with fail); clear c_V6 f0_V6 d_V6 f1_V6 e_V6 f2_V6 l_V6 m_V6
          go_roundw
          case measure => simp [intOf]; omega
          case rel => exact ⟨k + 1, k, p.2, by omega, by omega, by omega, by go_num, V6.set3 _ _ _, hp2.far V6 (noInt3 _ _ _ _ _ _ _) (fa3 _ _ _ _ _), fun t ht => Rat.le_trans (HO.out.1.monoL ht (by rw [HO.out.2.2.1]; exact hlt)) HXV.out, fun t h1 h2 => by omega, belo3 B0 (Nat.le_refl _) _ _ _⟩
        ·
          have e2 : decide (cx ≤ 0) = false := decide_eq_false g2; refine tuz 7 (.bool false) rfl (Or.inl ⟨by rfl, ?_⟩) hHeld ?_
          · (intro W hSw; (try dsimp only at hSw); go_simp; first | (rw [e2]) | (simp; omega) | skip)
          simp only [gA, gB, gC, Act.put, gD, gE, gF]; refine dnz ?_; clear hHeld; (have HXV : Hid (v < aq l k) := by show _ < _; rw [HX.out]; exact HCX.out.1 (by omega)); have HV6' : Hid (Va x42 (x2.heap.size) 25 #[.bool q.s, .slice q.a q.l q.c, .slice q.b q.m q.d]) := V6; clear V6 V3 V4 hc; (go_wp2_with fail)
          go_roundw
          case measure => simp [intOf]; omega
          case rel =>
            refine ⟨k + 1, j, q, by omega, by omega, by omega, by go_num, HV6'.out, hq, HA.out, fun t h1 h2 => ?_, B0⟩
            by_cases e : t = k
            · rw [e]; exact HXV.out
            · exact HN.out t h1 (by omega)
      ·
        have B0 := HW.out; have V3 := Va.after B0 HV3.out; have V4 := Va.after B0 HV4.out; have V6 := HV6.out; have hr := HR.out.after B0; have hq := HRQ.out; obtain ⟨c_V6, f0_V6, d_V6, f1_V6, e_V6, f2_V6, l_V6, m_V6⟩ := V6.q3; obtain ⟨c_V4, f0_V4, d_V4, f1_V4, e_V4, f2_V4, l_V4, m_V4⟩ := V4.q3; (go_wp2_with fail); clear c_V6 f0_V6 d_V6 f1_V6 e_V6 f2_V6 l_V6 m_V6 c_V4 f0_V4 d_V4 f1_V4 e_V4 f2_V4 l_V4 m_V4; refine bodyPost_ret (results_rt' rfl rfl (V4.set3 _ _ _)) rfl ?_; exact ⟨q, 0, rfl, .inr ⟨rfl, HV0.out, j, ⟨by rw [HO.out.2.2.1]; omega, fun t ht => HA.out t (by omega), fun h => HN.out (j + 1) (by omega) (by rw [HO.out.2.2.1] at h; omega)⟩, hq.far V4 (noInt3 _ _ _ _ _ _ _) (fa3 _ _ _ _ _)⟩, belo3 (HB.out.trans (B0.mono (by omega))) (by omega) _ _ _⟩
set_option maxHeartbeats 4000000 in
theorem lesser_any (p q : Rc) (x y : Rat) (w : World) (h1 : Rn w p x) (h2 : Rn w q y) (t1 : Short x) (t2 : Short y) :
    Calls Tryz.prog 58 #[.agg #[.bool p.s, .slice p.a p.l p.c, .slice p.b p.m p.d], .agg #[.bool q.s, .slice q.a q.l q.c, .slice q.b q.m q.d]] w fun e w' => ∃ r : Rc, e = .returned (.agg #[.bool r.s, .slice r.a r.l r.c, .slice r.b r.m r.d]) ∧ Hid ((x < y ∧ Rn w' r x) ∨ (y ≤ x ∧ Rn w' r y)) ∧ Below w.heap.size w w' := by
  have B0 : Below w.heap.size w w := Below.refl _ _
  go_enter Tryz.func58, Tryz.ntmps58
  go_wp2_with fail
  refine ent3 w _ _ _ _ _ _ (Q := fun W => Calls Tryz.prog _ _ W _) ?_
  intro x1 hb hs_x1 V2 V3 V4
  replace h1 := Rn.after hb h1
  replace h2 := Rn.after hb h2
  replace B0 := step B0 hb
  clear hb hs_x1
  refine (rcmp_rc p q x y _ h1 h2 t1 t2).mono ?_
  rintro e x2 ⟨rfl, hb⟩
  replace V2 := V2.a hb
  replace V3 := V3.a hb
  replace V4 := V4.a hb
  replace h1 := Rn.after hb h1
  replace h2 := Rn.after hb h2
  replace B0 := step B0 hb
  clear hb
  obtain ⟨cc, hcc⟩ : ∃ s, qcmp x y = s := ⟨_, rfl⟩
  rw [hcc]
  have HCC : Hid (cc < 0 ↔ x < y) := by have := cmp_lt' x y; rw [hcc] at this; exact this
  by_cases g : cc < 0
  ·
    have e1 : decide (cc < 0) = true := decide_eq_true g
    have c_V2 := V2.d0
    have f0_V2 := V2.frozen 0
    have d_V2 := V2.d1
    have f1_V2 := V2.frozen 1
    have e_V2 := V2.d2
    have f2_V2 := V2.frozen 2
    have l_V2 := V2.lt
    have m_V2 := Nat.le_of_lt l_V2
    have c_V4 := V4.d0
    have f0_V4 := V4.frozen 0
    have d_V4 := V4.d1
    have f1_V4 := V4.frozen 1
    have e_V4 := V4.d2
    have f2_V4 := V4.frozen 2
    have l_V4 := V4.lt
    have m_V4 := Nat.le_of_lt l_V4
    go_wp2_with fail
    clear c_V2 f0_V2 d_V2 f1_V2 e_V2 f2_V2 l_V2 m_V2 c_V4 f0_V4 d_V4 f1_V4 e_V4 f2_V4 l_V4 m_V4
    refine bodyPost_ret (results_ra rfl rfl (V4.set3 _ _ _)) rfl ?_
    exact ⟨p, rfl, .inl ⟨HCC.out.1 g, h1.far V4 (noInt3 _ _ _ _ _ _ _) (fa3 _ _ _ _ _)⟩, belo3 B0 (by omega) _ _ _⟩
  ·
    have e1 : decide (cc < 0) = false := decide_eq_false g
    have c_V3 := V3.d0
    have f0_V3 := V3.frozen 0
    have d_V3 := V3.d1
    have f1_V3 := V3.frozen 1
    have e_V3 := V3.d2
    have f2_V3 := V3.frozen 2
    have l_V3 := V3.lt
    have m_V3 := Nat.le_of_lt l_V3
    have c_V4 := V4.d0
    have f0_V4 := V4.frozen 0
    have d_V4 := V4.d1
    have f1_V4 := V4.frozen 1
    have e_V4 := V4.d2
    have f2_V4 := V4.frozen 2
    have l_V4 := V4.lt
    have m_V4 := Nat.le_of_lt l_V4
    go_wp2_with fail
    clear c_V3 f0_V3 d_V3 f1_V3 e_V3 f2_V3 l_V3 m_V3 c_V4 f0_V4 d_V4 f1_V4 e_V4 f2_V4 l_V4 m_V4
    refine bodyPost_ret (results_ra rfl rfl (V4.set3 _ _ _)) rfl ?_
    exact ⟨q, rfl, .inr ⟨by have := HCC.out; grind, h2.far V4 (noInt3 _ _ _ _ _ _ _) (fa3 _ _ _ _ _)⟩, belo3 B0 (by omega) _ _ _⟩
def ArR (w : World) (q : Rc) (er : Int) (l : List Pq) (v : Rat) : Prop := (er = 2 ∧ v < 0 ∧ q = Rc.nil) ∨ (er = 3 ∧ 0 ≤ v ∧ ¬ Sz 512 v ∧ q = Rc.nil) ∨ (er = 0 ∧ 0 ≤ v ∧ Sz 512 v ∧ ∃ a, Ata l v a ∧ Rn w q a)
theorem ArR.after {w w' : World} (hb : Below w.heap.size w w') {q : Rc} {er : Int} {l : List Pq} {v : Rat} (h : ArR w q er l v) : ArR w' q er l v := by
  rcases h with h | h | ⟨h0, h1, h2, a, h3, h4⟩
  · exact .inl h
  · exact .inr (.inl h)
  · exact .inr (.inr ⟨h0, h1, h2, a, h3, h4.after hb⟩)
def Sm9 (l : List Pq) (v : Rat) (m i : Nat) (s : Rat) : Prop := (i ≤ m ∧ s = ful l i) ∨ (i = m + 1 ∧ s = ful l m + rq l m * (v - aq l m))
theorem Sm9.fin {l : List Pq} {v s : Rat} {m i : Nat} (h : Sm9 l v m i s) (ho : Sok l) (hk : Bg l v (m + 1)) (hi : i < l.length → v ≤ aq l i) (hn : i ≤ l.length) : Ata l v s := by
  have hm := hk.le
  rcases h with ⟨h1, h2⟩ | ⟨h1, h2⟩
  · have h3 := hi (by omega)
    have h4 := hk.ahead m (by omega)
    have e : i = m := by
      rcases Nat.lt_or_ge i m with h | h
      · have := ho.mono h (by omega); grind
      · omega
    subst e
    refine ⟨i + 1, hk, by omega, ?_⟩
    rw [h2]
    show ful l i = ful l i + rq l i * (v - aq l i)
    have : v = aq l i := by grind
    rw [this]
    grind
  · exact ⟨m + 1, hk, by omega, by rw [h2]; rfl⟩
set_option maxHeartbeats 16000000 in
theorem rat_any (lb lo n c : Nat) (ps : List Pc) (l : List Pq) (r : Rc) (v : Rat) (w : World) (hL : Le elP w (some ⟨lb, lo, none⟩) n ps) (hP : Ps w ps l n) (hn : l.length = n) (ho : Sok l) (hs : Sht l) (hr : Rn w r v) (hv : Short v) :
    Calls Tryz.prog 21 #[.slice (some ⟨lb, lo, none⟩) n c, .agg #[.bool r.s, .slice r.a r.l r.c, .slice r.b r.m r.d]] w fun e w' => ∃ (q : Rc) (er : Int), e = .returned (.tuple #[.agg #[.bool q.s, .slice q.a q.l q.c, .slice q.b q.m q.d], .int .i64 er]) ∧ Hid (ArR w' q er l v) ∧ Below w.heap.size w w' := by
  (have h8 : n ≤ 8 := by rw [← hn]; exact ho.few); (have h1 : 1 ≤ n := by rw [← hn]; exact ho.one); have HO : Hid (Sok l ∧ Sht l ∧ l.length = n ∧ Short v) := ⟨ho, hs, hn, hv⟩; clear ho hs hn hv; (obtain ⟨sv, hsv⟩ : ∃ s, Int.sign v.num = s := ⟨_, rfl⟩); (have HSV : Hid (sv < 0 ↔ v < 0) := by have := sgn_lt v; rw [hsv] at this; exact this); have B0 : Below w.heap.size w w := Below.refl _ _
  go_enter Tryz.func21, Tryz.ntmps21
  (go_wp2_with fail); refine ent2 w _ _ _ _ (Q := fun W => Calls Tryz.prog _ _ W _) ?_; intro x1 hb hs_x1 V3 V4; replace hL := Le.after hb hL; replace hP := Ps.after hb hP; replace hr := Rn.after hb hr; replace B0 := step B0 hb; clear hb hs_x1; refine (rsign_rc r v _ hr).mono ?_; rintro e x2 ⟨rfl, hb⟩; replace V3 := V3.a hb; replace V4 := V4.a hb; replace hL := Le.after hb hL; replace hP := Ps.after hb hP; replace hr := Rn.after hb hr; replace B0 := step B0 hb; clear hb; rw [hsv]
  by_cases g1 : sv < 0
  ·
    have e1 : decide (sv < 0) = true := decide_eq_true g1; obtain ⟨c_V4, f0_V4, d_V4, f1_V4, e_V4, f2_V4, l_V4, m_V4⟩ := V4.q3; (go_wp2_with fail); clear c_V4 f0_V4 d_V4 f1_V4 e_V4 f2_V4 l_V4 m_V4; refine bodyPost_ret (results_rt' rfl rfl (V4.set3 _ _ _)) rfl ?_; exact ⟨Rc.nil, 2, rfl, .inl ⟨rfl, HSV.out.1 g1, rfl⟩, belo3 B0 (by omega) _ _ _⟩
  ·
    have e1 : decide (sv < 0) = false := decide_eq_false g1; (have HV0 : Hid (0 ≤ v) := by show 0 ≤ v; have := HSV.out; grind); obtain ⟨c_V3, f0_V3, d_V3, f1_V3, e_V3, f2_V3, l_V3, m_V3⟩ := V3.q3; (go_wp2_with fail); clear c_V3 f0_V3 d_V3 f1_V3 e_V3 f2_V3 l_V3 m_V3; refine (rlong_rc r _).mono ?_; rintro e x3 ⟨rfl, hb⟩; replace V3 := V3.a hb; replace V4 := V4.a hb; replace hL := Le.after hb hL; replace hP := Ps.after hb hP; replace hr := Rn.after hb hr; replace B0 := step B0 hb; clear hb; (obtain ⟨nl, hnl⟩ : ∃ s, max (r.l : Int) (r.m : Int) = s := ⟨_, rfl⟩); rw [hnl]; (have HNL : Hid (nl ≤ 512 ↔ Sz 512 v) := by have := long_sz hr 512; rw [hnl] at this; exact this)
    by_cases g2 : 512 < nl
    ·
      have e2 : decide (512 < nl) = true := decide_eq_true g2; obtain ⟨c_V4, f0_V4, d_V4, f1_V4, e_V4, f2_V4, l_V4, m_V4⟩ := V4.q3; (go_wp2_with fail); clear c_V4 f0_V4 d_V4 f1_V4 e_V4 f2_V4 l_V4 m_V4; refine bodyPost_ret (results_rt' rfl rfl (V4.set3 _ _ _)) rfl ?_; exact ⟨Rc.nil, 3, rfl, .inr (.inl ⟨rfl, HV0.out, fun h => absurd (HNL.out.2 h) (by omega), rfl⟩), belo3 B0 (by omega) _ _ _⟩
    ·
      have e2 : decide (512 < nl) = false := decide_eq_false g2; have HZ : Hid (Sz 512 v) := HNL.out.1 (by omega)
      obtain ⟨m, hm⟩ : ∃ m, Bg l v (m + 1) := by
        obtain ⟨k, hk⟩ := Bg.ex HO.out.1 v; have := hk.pos HO.out.1 HV0.out; exact ⟨k - 1, by rwa [show k - 1 + 1 = k by omega]⟩
      have HK : Hid (Bg l v (m + 1)) := hm; (have hmn : m < n := by have := hm.le; rw [HO.out.2.2.1] at this; omega); clear hm; (go_wp2_with fail); refine (rint_rc 0 0 (by omega) (by omega) (by decide +kernel) _).mono ?_; rintro e x4 ⟨q0, rfl, hq0, hb⟩; replace V3 := V3.a hb; replace V4 := V4.a hb; replace hL := Le.after hb hL; replace hP := Ps.after hb hP; replace hr := Rn.after hb hr; replace B0 := step B0 hb; clear hb; have HL : Hid (Le elP x4 (some ⟨lb, lo, none⟩) n ps) := hL; have HP : Hid (Ps x4 ps l n) := hP; have HR : Hid (Rn x4 r v) := hr; have HB : Hid (Below w.heap.size w x4) := B0; have HV3 : Hid (Va x4 (w.heap.size) 25 #[.bool r.s, .slice r.a r.l r.c, .slice r.b r.m r.d]) := V3; have HV4 : Hid (Va x4 (w.heap.size + 1) 25 #[.bool false, .slice none 0 0, .slice none 0 0]) := V4; have bx : Bx x4 x4 := Below.refl _ _; (go_wp2_with fail); have lt_V6_V3 := V3.lt; have lt_V6_V4 := V4.lt; refine ent1 x4 _ _ (Q := fun W => Code.wp Tryz.prog _ _ _ W) ?_
      intro x5 hb hs_x5 V6; replace V3 := V3.a hb; replace V4 := V4.a hb; replace hL := Le.after hb hL; replace hP := Ps.after hb hP; replace hr := Rn.after hb hr; replace hq0 := Rn.after hb hq0; replace bx := Bx.after hb bx; replace B0 := step B0 hb; clear hb hs_x5; have HV6 : Hid (Va x5 (x4.heap.size) 25 #[.bool q0.s, .slice q0.a q0.l q0.c, .slice q0.b q0.m q0.d]) := V6; have HR0 : Hid (Rn x5 q0 0) := hq0; have HX0 : Hid (Below x4.heap.size x4 x5) := bx; clear hL hP hr V3 V4 V6 B0 hq0 bx
      go_loopw [7] (fun i wr => ∃ (k : Nat) (q : Rc) (s : Rat), k ≤ n ∧ i = .int .i64 k ∧ Hid (Va wr (x4.heap.size) 25 #[.bool q.s, .slice q.a q.l q.c, .slice q.b q.m q.d]) ∧ Hid (Rn wr q s) ∧ Hid (Sm9 l v m k s) ∧ Hid (Below x4.heap.size x4 wr)) (fun i _ => n - (intOf i).toNat)
      case atStart => exact ⟨0, q0, 0, Nat.zero_le _, rfl, HV6.out, HR0.out, .inl ⟨Nat.zero_le _, rfl⟩, HX0.out⟩
      case round =>
        clear HV6 HR0 HX0; obtain ⟨k, q, s, hk, rfl, HV6, HRQ, HS, HW⟩ := hrel; have hX := HV3.out.lt; have hX4 := HV4.out.lt; have hlb := HL.out.lt (by omega)
        by_cases hlt : k < n
        ·
          have B0 := HW.out; have V3 := Va.after B0 HV3.out; have V4 := Va.after B0 HV4.out; have V6 := HV6.out; have hr := HR.out.after B0; have hq := HRQ.out; have hc : At6 wr lb (lo + k * 6) (ps.getD k pz) := (HL.out.after B0).six rfl rfl k hlt; have hpp := (HP.out.after B0) k hlt; (obtain ⟨p, hpe⟩ : ∃ p, ps.getD k (Rc.nil, Rc.nil) = p := ⟨_, rfl⟩); have hpe' : ps.getD k pz = p := hpe; rw [hpe'] at hc; rw [hpe] at hpp; clear hpe hpe'; obtain ⟨hp1, hp2⟩ := hpp; (obtain ⟨x, hx⟩ : ∃ x, aq l k = x := ⟨_, rfl⟩); rw [hx] at hp1; have HX : Hid (aq l k = x) := hx; (have HSX : Hid (Short x) := by have := (HO.out.2.1 k (by rw [HO.out.2.2.1]; exact hlt)).1; rw [hx] at this; exact this.short (by omega)); clear hx; (obtain ⟨cx, hcx⟩ : ∃ s, qcmp v x = s := ⟨_, rfl⟩); (have HCX : Hid (0 < cx ↔ x < v) := by have := cmp_gt v x; rw [hcx] at this; exact this); (go_wp2_with fail); refine wp_region_noPanic ?_; replace V3 : Va wr.drew _ _ _ := V3; replace V4 : Va wr.drew _ _ _ := V4
          replace V6 : Va wr.drew _ _ _ := V6; replace hr := hr.drw; replace hq := hq.drw; replace hc := hc.drw; replace hp1 := hp1.drw; replace hp2 := hp2.drw; replace B0 := Below.drew B0; refine wp_region_held_drew (S := (fun W => W.cell? ⟨w.heap.size, 0, none⟩ = some (.bool r.s) ∧ W.cell? ⟨w.heap.size, 1, none⟩ = some (.slice r.a r.l r.c) ∧ W.cell? ⟨w.heap.size, 2, none⟩ = some (.slice r.b r.m r.d) ∧ W.cell? ⟨lb, lo + k * 6, none⟩ = some (.bool p.1.s) ∧ W.cell? ⟨lb, lo + k * 6 + 1, none⟩ = some (.slice p.1.a p.1.l p.1.c) ∧ W.cell? ⟨lb, lo + k * 6 + 2, none⟩ = some (.slice p.1.b p.1.m p.1.d) ∧ W.cell? ⟨lb, lo + k * 6 + 3, none⟩ = some (.bool p.2.s) ∧ W.cell? ⟨lb, lo + k * 6 + 4, none⟩ = some (.slice p.2.a p.2.l p.2.c) ∧ W.cell? ⟨lb, lo + k * 6 + 5, none⟩ = some (.slice p.2.b p.2.m p.2.d))) (by kernel_rfl) ⟨V3.d0, V3.d1, V3.d2, hc.c0, hc.c1, hc.c2, hc.c3, hc.c4, hc.c5⟩ (fun hHeld => ?_); (obtain ⟨x41, hxd⟩ : ∃ xd, xd = wr.drew := ⟨_, rfl⟩)
          rw [← hxd] at V3 V4 V6 hr hq hc hp1 hp2 B0 hHeld ⊢; clear hxd; refine tjz 0 hHeld ?_; refine tjz 1 hHeld ?_; refine tjz 2 hHeld ?_; refine tjz 3 hHeld ?_; refine tjz 4 hHeld ?_; refine tjz 5 hHeld ?_; refine ryz 6 (fun K hK => ?_); simp only [gA, gB, gC]; (go_simp); refine (rcmp_rc r p.1 v x _ hr hp1 HO.out.2.2.2 HSX.out).mono ?_; rintro e x42 ⟨rfl, hb⟩; replace V3 := V3.a hb; replace V4 := V4.a hb; replace V6 := V6.a hb; replace hr := Rn.after hb hr; replace hq := Rn.after hb hq; replace hc := At6.after hb hc; replace hp1 := Rn.after hb hp1; replace hp2 := Rn.after hb hp2
          replace B0 := step B0 hb; clear hb; rw [hcx]; (try go_wp2_with fail); refine hK.out _ _ ⟨V3.d0, V3.d1, V3.d2, hc.c0, hc.c1, hc.c2, hc.c3, hc.c4, hc.c5⟩ (fun hHeld => ?_); clear hK K
          by_cases g2 : cx ≤ 0
          ·
            have e2 : decide (cx ≤ 0) = true := decide_eq_true g2; refine tuz 7 (.bool true) rfl (Or.inl ⟨by rfl, ?_⟩) hHeld ?_
            · (intro W hSw; (try dsimp only at hSw); go_simp; first | (rw [e2]) | (simp; omega) | skip)
            simp only [gA, gB, gC, Act.put, gD, gE, gF]; refine dnz ?_; clear hHeld; (have HXV : Hid (v ≤ aq l k) := by show _ ≤ _; rw [HX.out]; have := HCX.out; grind); clear hc; obtain ⟨c_V6, f0_V6, d_V6, f1_V6, e_V6, f2_V6, l_V6, m_V6⟩ := V6.q3; obtain ⟨c_V4, f0_V4, d_V4, f1_V4, e_V4, f2_V4, l_V4, m_V4⟩ := V4.q3; (go_wp2_with fail); clear c_V6 f0_V6 d_V6 f1_V6 e_V6 f2_V6 l_V6 m_V6 c_V4 f0_V4 d_V4 f1_V4 e_V4 f2_V4 l_V4 m_V4; refine bodyPost_ret (results_rt' rfl rfl (V4.set3 _ _ _)) rfl ?_; exact ⟨q, 0, rfl, .inr (.inr ⟨rfl, HV0.out, HZ.out, s, HS.out.fin HO.out.1 HK.out (fun _ => HXV.out) (by rw [HO.out.2.2.1]; omega), hq.far V4 (noInt3 _ _ _ _ _ _ _) (fa3 _ _ _ _ _)⟩), belo3 (HB.out.trans (B0.mono (by omega))) (by omega) _ _ _⟩
          ·
            have e2 : decide (cx ≤ 0) = false := decide_eq_false g2; refine tuz 7 (.bool false) rfl (Or.inl ⟨by rfl, ?_⟩) hHeld ?_
            · (intro W hSw; (try dsimp only at hSw); go_simp; first | (rw [e2]) | (simp; omega) | skip)
            simp only [gA, gB, gC, Act.put, gD, gE, gF]; refine dnz ?_; clear hHeld; (have HXV : Hid (aq l k < v) := by show _ < _; rw [HX.out]; exact HCX.out.1 (by omega))
            have hkm : k ≤ m := by
              rcases Nat.lt_or_ge m k with h | h
              · have h1 := HK.out.next (by rw [HO.out.2.2.1]; omega)
                have h2 := HO.out.1.monoL (show m + 1 ≤ k by omega) (by rw [HO.out.2.2.1]; exact hlt); have := HXV.out; grind
              · exact h
            have HSF : Hid (s = ful l k) := by
              rcases HS.out with h | h
              · exact h.2
              · omega
            (have HSS : Hid (Sz 78 s) := by show Sz 78 s; rw [HSF.out]; exact (HO.out.2.1.ful k (by rw [HO.out.2.2.1]; exact hlt)).mono (by omega)); have HSA : Hid (Sz 3 (aq l k) ∧ Sz 3 (rq l k)) := HO.out.2.1 k (by rw [HO.out.2.2.1]; exact hlt)
            by_cases hk1 : k + 1 < n
            ·
              (obtain ⟨k1, hk1'⟩ : ∃ k1, k + 1 = k1 := ⟨_, rfl⟩); (have hk2 : k1 < n := by omega); have HK1 : Hid (k + 1 = k1) := hk1'; (have e6 : (k : Int) + 1 = (k1 : Int) := by omega); have hd : At6 x42 lb (lo + k1 * 6) (ps.getD k1 pz) := (HL.out.after (show Below x4.heap.size x4 x42 from B0)).six rfl rfl k1 hk2; have hpp2 : Rn x42 (ps.getD k1 pz).1 (aq l k1) := ((HP.out.after (show Below x4.heap.size x4 x42 from B0)) k1 hk2).1
              generalize ps.getD k1 pz = p2 at hd hpp2
              (obtain ⟨x2, hx2⟩ : ∃ x, aq l k1 = x := ⟨_, rfl⟩); rw [hx2] at hpp2; have HX2 : Hid (aq l k1 = x2) := hx2; (have HSX2 : Hid (Sz 3 x2) := by have := (HO.out.2.1 k1 (by rw [HO.out.2.2.1]; exact hk2)).1; rw [hx2] at this; exact this); clear hx2 hk1'; (have e7 : decide ((k1 : Int) < (n : Int)) = true := by rw [decide_eq_true_iff]; omega); obtain ⟨c_V3, f0_V3, d_V3, f1_V3, e_V3, f2_V3, l_V3, m_V3⟩ := V3.q3; (go_wp2_with fail); clear c_V3 f0_V3 d_V3 f1_V3 e_V3 f2_V3 l_V3 m_V3; have lt_V8_V3 := V3.lt; have lt_V8_V4 := V4.lt; have lt_V8_V6 := V6.lt; refine ent1 x42 _ _ (Q := fun W => Code.wp Tryz.prog _ _ _ W) ?_; intro x43 hb hs_x43 V8; replace V3 := V3.a hb; replace V4 := V4.a hb; replace V6 := V6.a hb; replace hr := Rn.after hb hr; replace hq := Rn.after hb hq; replace hc := At6.after hb hc; replace hp1 := Rn.after hb hp1
              replace hp2 := Rn.after hb hp2; replace hd := At6.after hb hd; replace hpp2 := Rn.after hb hpp2; replace B0 := step B0 hb; clear hb hs_x43; refine wp_region_noPanic ?_; replace V3 : Va x43.drew _ _ _ := V3; replace V4 : Va x43.drew _ _ _ := V4; replace V6 : Va x43.drew _ _ _ := V6; replace V8 : Va x43.drew _ _ _ := V8; replace hr := hr.drw; replace hq := hq.drw; replace hc := hc.drw; replace hp1 := hp1.drw; replace hp2 := hp2.drw; replace hd := hd.drw; replace hpp2 := hpp2.drw; replace B0 := Below.drew B0; refine wp_region_held_drew (S := (fun W => W.cell? ⟨w.heap.size, 0, none⟩ = some (.bool r.s) ∧ W.cell? ⟨w.heap.size, 1, none⟩ = some (.slice r.a r.l r.c) ∧ W.cell? ⟨w.heap.size, 2, none⟩ = some (.slice r.b r.m r.d) ∧ W.cell? ⟨lb, lo + k1 * 6, none⟩ = some (.bool p2.1.s) ∧ W.cell? ⟨lb, lo + k1 * 6 + 1, none⟩ = some (.slice p2.1.a p2.1.l p2.1.c) ∧ W.cell? ⟨lb, lo + k1 * 6 + 2, none⟩ = some (.slice p2.1.b p2.1.m p2.1.d))) (by kernel_rfl) ⟨V3.d0, V3.d1, V3.d2, hd.c0, hd.c1, hd.c2⟩ (fun hHeld => ?_)
              (obtain ⟨x44, hxd⟩ : ∃ xd, xd = x43.drew := ⟨_, rfl⟩); rw [← hxd] at V3 V4 V6 V8 hr hq hc hp1 hp2 hd hpp2 B0 hHeld ⊢; clear hxd; refine tjz 0 hHeld ?_; refine tjz 1 hHeld ?_; refine tjz 2 hHeld ?_; refine tuz 3 (.int .i64 (k1 : Int)) rfl (Or.inl ⟨by rfl, ?_⟩) hHeld ?_
              · (intro W hSw; (try dsimp only at hSw); go_simp; (simp only [IntKind.wrap_i64]; omega))
              simp only [gA, gB, gC, Act.put, gD, gE, gF]; refine tjz 4 hHeld ?_; refine tjz 5 hHeld ?_; refine tjz 6 hHeld ?_; refine ryz 7 (fun K hK => ?_); simp only [gA, gB, gC]; (go_simp); refine (lesser_any r p2.1 v x2 _ hr hpp2 HO.out.2.2.2 (HSX2.out.short (by omega))).mono ?_; rintro e x45 ⟨le, rfl, hle, hb⟩; replace V3 := V3.a hb; replace V4 := V4.a hb; replace V6 := V6.a hb; replace V8 := V8.a hb; replace hr := Rn.after hb hr; replace hq := Rn.after hb hq; replace hc := At6.after hb hc; replace hp1 := Rn.after hb hp1; replace hp2 := Rn.after hb hp2; replace hd := At6.after hb hd; replace hpp2 := Rn.after hb hpp2; replace B0 := step B0 hb; clear hb
              obtain ⟨E, HE, hlr⟩ : ∃ E, Hid ((k < m ∧ E = aq l (k + 1)) ∨ (k = m ∧ E = v)) ∧ Rn x45 le E := by
                rcases hle.out with ⟨h1, h2⟩ | ⟨h1, h2⟩
                · refine ⟨v, .inr ⟨?_, rfl⟩, h2⟩
                  rcases Nat.lt_or_ge k m with h | h
                  · have h3 := HK.out.ahead (k + 1) (by omega)
                    have h4 := HX2.out; rw [← HK1.out] at h4; rw [h4] at h3; grind
                  · omega
                · refine ⟨x2, .inl ⟨?_, by rw [HK1.out]; exact HX2.out.symm⟩, h2⟩
                  rcases Nat.lt_or_ge k m with h | h
                  · exact h
                  · have h3 := HK.out.next (by rw [HO.out.2.2.1]; omega)
                    have h4 := HX2.out; rw [← HK1.out, show k = m by omega] at h4; rw [h4] at h3; grind
              clear hle; (try go_wp2_with fail); refine hK.out _ _ ⟨V3.d0, V3.d1, V3.d2, hd.c0, hd.c1, hd.c2⟩ (fun hHeld => ?_); clear hK K; obtain ⟨c_V8, f0_V8, d_V8, f1_V8, e_V8, f2_V8, l_V8, m_V8⟩ := V8.q3; refine ryz 8 (fun K hK => ?_); simp only [gA, gB, gC]; (go_simp); clear c_V8 f0_V8 d_V8 f1_V8 e_V8 f2_V8 l_V8 m_V8; refine sto3 V8 (.bool le.s) (.slice le.a le.l le.c) (.slice le.b le.m le.d) (Q := fun W => K _ W) ?_; intro x46 V' oth far; replace V3 := apz (oth _ _ _) V3; replace V4 := apz (oth _ _ _) V4; replace V6 := apz (oth _ _ _) V6; replace hr := hr.far V8 (noInt3 _ _ _ _ _ _ _) far.1; replace hq := hq.far V8 (noInt3 _ _ _ _ _ _ _) far.1
              replace hp1 := hp1.far V8 (noInt3 _ _ _ _ _ _ _) far.1; replace hp2 := hp2.far V8 (noInt3 _ _ _ _ _ _ _) far.1; replace hpp2 := hpp2.far V8 (noInt3 _ _ _ _ _ _ _) far.1; replace hlr := hlr.far V8 (noInt3 _ _ _ _ _ _ _) far.1; replace B0 := apz (far.2 _ _) B0; replace hc := hc.far far.1 (by omega); replace hd := hd.far far.1 (by omega); replace V8 := V'; clear oth far; refine hK.out _ _ ⟨V3.d0, V3.d1, V3.d2, hd.c0, hd.c1, hd.c2⟩ (fun hHeld => ?_); clear hK K; refine dnz ?_; clear hHeld; clear hd hpp2
              have HZE : Hid (Sz 512 E) := by
                rcases HE.out with ⟨h1, h2⟩ | ⟨h1, h2⟩
                · show Sz 512 E; rw [h2]; exact (HO.out.2.1 (k + 1) (by rw [HO.out.2.2.1]; omega)).1.mono (by omega)
                · show Sz 512 E; rw [h2]; exact HZ.out
              (have HZD : Hid (Sz 516 (E - x)) := by show Sz 516 _; rw [← HX.out]; exact (HZE.out.sub HSA.out.1).mono (by omega))
              have HSN : Hid (Sm9 l v m (k + 1) (s + rq l k * (E - x))) := by
                show Sm9 _ _ _ _ _
                rw [← HX.out, HSF.out]
                rcases HE.out with ⟨h1, h2⟩ | ⟨h1, h2⟩
                · exact .inl ⟨by omega, by rw [h2]; rfl⟩
                · subst h1; exact .inr ⟨rfl, by rw [h2]⟩
              (go_wp2_with fail); refine wp_region_noPanic ?_; replace V3 : Va x46.drew _ _ _ := V3; replace V4 : Va x46.drew _ _ _ := V4; replace V6 : Va x46.drew _ _ _ := V6; replace V8 : Va x46.drew _ _ _ := V8; replace hr := hr.drw; replace hq := hq.drw; replace hp1 := hp1.drw; replace hp2 := hp2.drw; replace hlr := hlr.drw; replace hc := hc.drw; replace B0 := Below.drew B0; refine wp_region_held_drew (S := (fun W => W.cell? ⟨x42.heap.size, 0, none⟩ = some (.bool le.s) ∧ W.cell? ⟨x42.heap.size, 1, none⟩ = some (.slice le.a le.l le.c) ∧ W.cell? ⟨x42.heap.size, 2, none⟩ = some (.slice le.b le.m le.d) ∧ W.cell? ⟨lb, lo + k * 6, none⟩ = some (.bool p.1.s) ∧ W.cell? ⟨lb, lo + k * 6 + 1, none⟩ = some (.slice p.1.a p.1.l p.1.c) ∧ W.cell? ⟨lb, lo + k * 6 + 2, none⟩ = some (.slice p.1.b p.1.m p.1.d) ∧ W.cell? ⟨lb, lo + k * 6 + 3, none⟩ = some (.bool p.2.s) ∧ W.cell? ⟨lb, lo + k * 6 + 4, none⟩ = some (.slice p.2.a p.2.l p.2.c) ∧ W.cell? ⟨lb, lo + k * 6 + 5, none⟩ = some (.slice p.2.b p.2.m p.2.d))) (by kernel_rfl) ⟨V8.d0, V8.d1, V8.d2, hc.c0, hc.c1, hc.c2, hc.c3, hc.c4, hc.c5⟩ (fun hHeld => ?_)
              (obtain ⟨x47, hxd⟩ : ∃ xd, xd = x46.drew := ⟨_, rfl⟩); rw [← hxd] at V3 V4 V6 V8 hr hq hp1 hp2 hlr hc B0 hHeld ⊢; clear hxd; refine tjz 1 hHeld ?_; refine tjz 2 hHeld ?_; refine tjz 3 hHeld ?_; refine tjz 4 hHeld ?_; refine tjz 5 hHeld ?_; refine tjz 6 hHeld ?_; refine tjz 7 hHeld ?_; refine tjz 8 hHeld ?_; refine tjz 9 hHeld ?_; refine tjz 10 hHeld ?_; refine tjz 11 hHeld ?_; refine wpAnyH_ready (rs := [0, 12]) (by kernel_rfl) (by simp) ?_
              refine AllReadyH.cons rfl (fun K hK => ?_) (AllReadyH.cons rfl (fun K hK => ?_) AllReadyH.nil)
              ·
                obtain ⟨c_V6, f0_V6, d_V6, f1_V6, e_V6, f2_V6, l_V6, m_V6⟩ := V6.q3; simp only [gA, gB]; (go_simp); clear c_V6 f0_V6 d_V6 f1_V6 e_V6 f2_V6 l_V6 m_V6; refine hK.out _ _ ⟨V8.d0, V8.d1, V8.d2, hc.c0, hc.c1, hc.c2, hc.c3, hc.c4, hc.c5⟩ (fun hHeld => ?_); clear hK K; refine ryz 12 (fun K hK => ?_); simp only [gA, gB, gC]; (go_simp); refine (rsub_rc le p.1 E x (E - x) _ hlr hp1 rfl (HZE.out.short (by omega)) HSX.out).mono ?_; rintro e x48 ⟨d1, rfl, hd1, hb⟩; replace V3 := V3.a hb; replace V4 := V4.a hb; replace V6 := V6.a hb; replace V8 := V8.a hb; replace hr := Rn.after hb hr; replace hq := Rn.after hb hq; replace hp1 := Rn.after hb hp1; replace hp2 := Rn.after hb hp2; replace hlr := Rn.after hb hlr; replace hc := At6.after hb hc
                replace B0 := step B0 hb; clear hb; (try go_wp2_with fail); refine hK.out _ _ ⟨V8.d0, V8.d1, V8.d2, hc.c0, hc.c1, hc.c2, hc.c3, hc.c4, hc.c5⟩ (fun hHeld => ?_); clear hK K; refine ryz 13 (fun K hK => ?_); simp only [gA, gB, gC]; (go_simp); refine (rmul_rc p.2 d1 (rq l k) (E - x) (rq l k * (E - x)) _ hp2 hd1 rfl HSA.out.2 HZD.out (by omega)).mono ?_; rintro e x49 ⟨d2, rfl, hd2, hb⟩; replace V3 := V3.a hb; replace V4 := V4.a hb; replace V6 := V6.a hb; replace V8 := V8.a hb; replace hr := Rn.after hb hr; replace hq := Rn.after hb hq; replace hp1 := Rn.after hb hp1; replace hp2 := Rn.after hb hp2; replace hlr := Rn.after hb hlr; replace hc := At6.after hb hc; replace hd1 := Rn.after hb hd1; replace B0 := step B0 hb; clear hb; (try go_wp2_with fail); refine hK.out _ _ ⟨V8.d0, V8.d1, V8.d2, hc.c0, hc.c1, hc.c2, hc.c3, hc.c4, hc.c5⟩ (fun hHeld => ?_)
                clear hK K; refine ryz 14 (fun K hK => ?_); simp only [gA, gB, gC]; (go_simp); refine (radd_rc q d2 s (rq l k * (E - x)) (s + rq l k * (E - x)) _ hq hd2 rfl (HSS.out.short (by omega)) ((HSA.out.2.mul HZD.out).short (by omega))).mono ?_; rintro e x50 ⟨d3, rfl, hd3, hb⟩; replace V3 := V3.a hb; replace V4 := V4.a hb; replace V6 := V6.a hb; replace V8 := V8.a hb; replace hr := Rn.after hb hr; replace hq := Rn.after hb hq; replace hp1 := Rn.after hb hp1; replace hp2 := Rn.after hb hp2; replace hlr := Rn.after hb hlr; replace hc := At6.after hb hc; replace hd1 := Rn.after hb hd1; replace hd2 := Rn.after hb hd2; replace B0 := step B0 hb; clear hb; (try go_wp2_with fail); refine hK.out _ _ ⟨V8.d0, V8.d1, V8.d2, hc.c0, hc.c1, hc.c2, hc.c3, hc.c4, hc.c5⟩ (fun hHeld => ?_); clear hK K; have c_V6 := V6.d0; have f0_V6 := V6.frozen 0; have d_V6 := V6.d1
                have f1_V6 := V6.frozen 1; have e_V6 := V6.d2; have f2_V6 := V6.frozen 2; have l_V6 := V6.lt; have m_V6 := Nat.le_of_lt l_V6; refine ryz 15 (fun K hK => ?_); simp only [gA, gB, gC]; (go_simp); clear c_V6 f0_V6 d_V6 f1_V6 e_V6 f2_V6 l_V6 m_V6; refine sto3 V6 (.bool d3.s) (.slice d3.a d3.l d3.c) (.slice d3.b d3.m d3.d) (Q := fun W => K _ W) ?_; intro x51 V' oth far; replace V3 := apz (oth _ _ _) V3; replace V4 := apz (oth _ _ _) V4; replace V8 := apz (oth _ _ _) V8; replace hr := hr.far V6 (noInt3 _ _ _ _ _ _ _) far.1; replace hq := hq.far V6 (noInt3 _ _ _ _ _ _ _) far.1; replace hp1 := hp1.far V6 (noInt3 _ _ _ _ _ _ _) far.1; replace hp2 := hp2.far V6 (noInt3 _ _ _ _ _ _ _) far.1; replace hlr := hlr.far V6 (noInt3 _ _ _ _ _ _ _) far.1
                replace hd1 := hd1.far V6 (noInt3 _ _ _ _ _ _ _) far.1; replace hd2 := hd2.far V6 (noInt3 _ _ _ _ _ _ _) far.1; replace hd3 := hd3.far V6 (noInt3 _ _ _ _ _ _ _) far.1; replace B0 := apz (far.2 _ _) B0; replace hc := hc.far far.1 (by omega); replace V6 := V'; clear oth far; refine hK.out _ _ ⟨V8.d0, V8.d1, V8.d2, hc.c0, hc.c1, hc.c2, hc.c3, hc.c4, hc.c5⟩ (fun hHeld => ?_); clear hK K; refine dnz ?_; clear hHeld; have HV6' : Hid (Va x51 (x4.heap.size) 25 #[.bool d3.s, .slice d3.a d3.l d3.c, .slice d3.b d3.m d3.d]) := V6; clear V6 V3 V4 V8 hc; (go_wp2_with fail)
                go_roundw
                case measure => simp [intOf]; omega
                case rel => exact ⟨k + 1, d3, _, by omega, by go_num, HV6'.out, hd3, HSN.out, B0⟩
              ·
                simp only [gA, gB, gC]; (go_simp); refine (rsub_rc le p.1 E x (E - x) _ hlr hp1 rfl (HZE.out.short (by omega)) HSX.out).mono ?_; rintro e x52 ⟨d1, rfl, hd1, hb⟩; replace V3 := V3.a hb; replace V4 := V4.a hb; replace V6 := V6.a hb; replace V8 := V8.a hb; replace hr := Rn.after hb hr; replace hq := Rn.after hb hq; replace hp1 := Rn.after hb hp1; replace hp2 := Rn.after hb hp2; replace hlr := Rn.after hb hlr; replace hc := At6.after hb hc; replace B0 := step B0 hb; clear hb; (try go_wp2_with fail); refine hK.out _ _ ⟨V8.d0, V8.d1, V8.d2, hc.c0, hc.c1, hc.c2, hc.c3, hc.c4, hc.c5⟩ (fun hHeld => ?_); clear hK K; refine wpAnyH_ready (rs := [0, 13]) (by kernel_rfl) (by simp) ?_; refine AllReadyH.cons rfl (fun K hK => ?_) (AllReadyH.cons rfl (fun K hK => ?_) AllReadyH.nil)
                ·
                  obtain ⟨c_V6, f0_V6, d_V6, f1_V6, e_V6, f2_V6, l_V6, m_V6⟩ := V6.q3; simp only [gA, gB]; (go_simp); clear c_V6 f0_V6 d_V6 f1_V6 e_V6 f2_V6 l_V6 m_V6; refine hK.out _ _ ⟨V8.d0, V8.d1, V8.d2, hc.c0, hc.c1, hc.c2, hc.c3, hc.c4, hc.c5⟩ (fun hHeld => ?_); clear hK K; refine ryz 13 (fun K hK => ?_); simp only [gA, gB, gC]; (go_simp); refine (rmul_rc p.2 d1 (rq l k) (E - x) (rq l k * (E - x)) _ hp2 hd1 rfl HSA.out.2 HZD.out (by omega)).mono ?_; rintro e x53 ⟨d2, rfl, hd2, hb⟩; replace V3 := V3.a hb; replace V4 := V4.a hb; replace V6 := V6.a hb; replace V8 := V8.a hb; replace hr := Rn.after hb hr; replace hq := Rn.after hb hq; replace hp1 := Rn.after hb hp1; replace hp2 := Rn.after hb hp2; replace hlr := Rn.after hb hlr
                  replace hc := At6.after hb hc; replace hd1 := Rn.after hb hd1; replace B0 := step B0 hb; clear hb; (try go_wp2_with fail); refine hK.out _ _ ⟨V8.d0, V8.d1, V8.d2, hc.c0, hc.c1, hc.c2, hc.c3, hc.c4, hc.c5⟩ (fun hHeld => ?_); clear hK K; refine ryz 14 (fun K hK => ?_); simp only [gA, gB, gC]; (go_simp); refine (radd_rc q d2 s (rq l k * (E - x)) (s + rq l k * (E - x)) _ hq hd2 rfl (HSS.out.short (by omega)) ((HSA.out.2.mul HZD.out).short (by omega))).mono ?_; rintro e x54 ⟨d3, rfl, hd3, hb⟩; replace V3 := V3.a hb; replace V4 := V4.a hb; replace V6 := V6.a hb; replace V8 := V8.a hb; replace hr := Rn.after hb hr; replace hq := Rn.after hb hq; replace hp1 := Rn.after hb hp1; replace hp2 := Rn.after hb hp2; replace hlr := Rn.after hb hlr; replace hc := At6.after hb hc; replace hd1 := Rn.after hb hd1; replace hd2 := Rn.after hb hd2
                  replace B0 := step B0 hb; clear hb; (try go_wp2_with fail); refine hK.out _ _ ⟨V8.d0, V8.d1, V8.d2, hc.c0, hc.c1, hc.c2, hc.c3, hc.c4, hc.c5⟩ (fun hHeld => ?_); clear hK K; obtain ⟨c_V6, f0_V6, d_V6, f1_V6, e_V6, f2_V6, l_V6, m_V6⟩ := V6.q3; refine ryz 15 (fun K hK => ?_); simp only [gA, gB, gC]; (go_simp); clear c_V6 f0_V6 d_V6 f1_V6 e_V6 f2_V6 l_V6 m_V6; refine sto3 V6 (.bool d3.s) (.slice d3.a d3.l d3.c) (.slice d3.b d3.m d3.d) (Q := fun W => K _ W) ?_; intro x55 V' oth far; replace V3 := apz (oth _ _ _) V3; replace V4 := apz (oth _ _ _) V4; replace V8 := apz (oth _ _ _) V8; replace hr := hr.far V6 (noInt3 _ _ _ _ _ _ _) far.1
                  replace hq := hq.far V6 (noInt3 _ _ _ _ _ _ _) far.1; replace hp1 := hp1.far V6 (noInt3 _ _ _ _ _ _ _) far.1; replace hp2 := hp2.far V6 (noInt3 _ _ _ _ _ _ _) far.1; replace hlr := hlr.far V6 (noInt3 _ _ _ _ _ _ _) far.1; replace hd1 := hd1.far V6 (noInt3 _ _ _ _ _ _ _) far.1; replace hd2 := hd2.far V6 (noInt3 _ _ _ _ _ _ _) far.1; replace hd3 := hd3.far V6 (noInt3 _ _ _ _ _ _ _) far.1; replace B0 := apz (far.2 _ _) B0; replace hc := hc.far far.1 (by omega); replace V6 := V'; clear oth far; refine hK.out _ _ ⟨V8.d0, V8.d1, V8.d2, hc.c0, hc.c1, hc.c2, hc.c3, hc.c4, hc.c5⟩ (fun hHeld => ?_); clear hK K; refine dnz ?_; clear hHeld; have HV6' : Hid (Va x55 (x4.heap.size) 25 #[.bool d3.s, .slice d3.a d3.l d3.c, .slice d3.b d3.m d3.d]) := V6; clear V6 V3 V4 V8 hc; (go_wp2_with fail)
                  go_roundw
                  case measure => simp [intOf]; omega
                  case rel => exact ⟨k + 1, d3, _, by omega, by go_num, HV6'.out, hd3, HSN.out, B0⟩
                ·
                  simp only [gA, gB, gC]; (go_simp); refine (rmul_rc p.2 d1 (rq l k) (E - x) (rq l k * (E - x)) _ hp2 hd1 rfl HSA.out.2 HZD.out (by omega)).mono ?_; rintro e x56 ⟨d2, rfl, hd2, hb⟩; replace V3 := V3.a hb; replace V4 := V4.a hb; replace V6 := V6.a hb; replace V8 := V8.a hb; replace hr := Rn.after hb hr; replace hq := Rn.after hb hq; replace hp1 := Rn.after hb hp1; replace hp2 := Rn.after hb hp2; replace hlr := Rn.after hb hlr; replace hc := At6.after hb hc; replace hd1 := Rn.after hb hd1; replace B0 := step B0 hb; clear hb; (try go_wp2_with fail); refine hK.out _ _ ⟨V8.d0, V8.d1, V8.d2, hc.c0, hc.c1, hc.c2, hc.c3, hc.c4, hc.c5⟩ (fun hHeld => ?_); clear hK K; refine ryz 0 (fun K hK => ?_); have c_V6 := V6.d0; have f0_V6 := V6.frozen 0; have d_V6 := V6.d1; have f1_V6 := V6.frozen 1; have e_V6 := V6.d2; have f2_V6 := V6.frozen 2; have l_V6 := V6.lt
                  have m_V6 := Nat.le_of_lt l_V6; simp only [gA, gB]; (go_simp); clear c_V6 f0_V6 d_V6 f1_V6 e_V6 f2_V6 l_V6 m_V6; refine hK.out _ _ ⟨V8.d0, V8.d1, V8.d2, hc.c0, hc.c1, hc.c2, hc.c3, hc.c4, hc.c5⟩ (fun hHeld => ?_); clear hK K; refine ryz 14 (fun K hK => ?_); simp only [gA, gB, gC]; (go_simp); refine (radd_rc q d2 s (rq l k * (E - x)) (s + rq l k * (E - x)) _ hq hd2 rfl (HSS.out.short (by omega)) ((HSA.out.2.mul HZD.out).short (by omega))).mono ?_; rintro e x57 ⟨d3, rfl, hd3, hb⟩; replace V3 := V3.a hb; replace V4 := V4.a hb; replace V6 := V6.a hb; replace V8 := V8.a hb; replace hr := Rn.after hb hr; replace hq := Rn.after hb hq; replace hp1 := Rn.after hb hp1; replace hp2 := Rn.after hb hp2; replace hlr := Rn.after hb hlr; replace hc := At6.after hb hc; replace hd1 := Rn.after hb hd1; replace hd2 := Rn.after hb hd2; replace B0 := step B0 hb
                  clear hb; (try go_wp2_with fail); refine hK.out _ _ ⟨V8.d0, V8.d1, V8.d2, hc.c0, hc.c1, hc.c2, hc.c3, hc.c4, hc.c5⟩ (fun hHeld => ?_); clear hK K; obtain ⟨c_V6, f0_V6, d_V6, f1_V6, e_V6, f2_V6, l_V6, m_V6⟩ := V6.q3; refine ryz 15 (fun K hK => ?_); simp only [gA, gB, gC]; (go_simp); clear c_V6 f0_V6 d_V6 f1_V6 e_V6 f2_V6 l_V6 m_V6; refine sto3 V6 (.bool d3.s) (.slice d3.a d3.l d3.c) (.slice d3.b d3.m d3.d) (Q := fun W => K _ W) ?_; intro x58 V' oth far; replace V3 := apz (oth _ _ _) V3; replace V4 := apz (oth _ _ _) V4; replace V8 := apz (oth _ _ _) V8; replace hr := hr.far V6 (noInt3 _ _ _ _ _ _ _) far.1
                  replace hq := hq.far V6 (noInt3 _ _ _ _ _ _ _) far.1; replace hp1 := hp1.far V6 (noInt3 _ _ _ _ _ _ _) far.1; replace hp2 := hp2.far V6 (noInt3 _ _ _ _ _ _ _) far.1; replace hlr := hlr.far V6 (noInt3 _ _ _ _ _ _ _) far.1; replace hd1 := hd1.far V6 (noInt3 _ _ _ _ _ _ _) far.1; replace hd2 := hd2.far V6 (noInt3 _ _ _ _ _ _ _) far.1; replace hd3 := hd3.far V6 (noInt3 _ _ _ _ _ _ _) far.1; replace B0 := apz (far.2 _ _) B0; replace hc := hc.far far.1 (by omega); replace V6 := V'; clear oth far; refine hK.out _ _ ⟨V8.d0, V8.d1, V8.d2, hc.c0, hc.c1, hc.c2, hc.c3, hc.c4, hc.c5⟩ (fun hHeld => ?_); clear hK K; refine dnz ?_; clear hHeld; have HV6' : Hid (Va x58 (x4.heap.size) 25 #[.bool d3.s, .slice d3.a d3.l d3.c, .slice d3.b d3.m d3.d]) := V6; clear V6 V3 V4 V8 hc; (go_wp2_with fail)
                  go_roundw
                  case measure => simp [intOf]; omega
                  case rel => exact ⟨k + 1, d3, _, by omega, by go_num, HV6'.out, hd3, HSN.out, B0⟩
            ·
              (have HKM : Hid (k = m) := by show k = m; omega); (obtain ⟨k1, hk1'⟩ : ∃ k1, k + 1 = k1 := ⟨_, rfl⟩); (have e6 : (k : Int) + 1 = (k1 : Int) := by omega); (have e7 : decide ((k1 : Int) < (n : Int)) = false := by rw [decide_eq_false_iff_not]; omega); clear hk1'; have HZE : Hid (Sz 512 v) := HZ.out; (have HZD : Hid (Sz 516 (v - x)) := by show Sz 516 _; rw [← HX.out]; exact (HZE.out.sub HSA.out.1).mono (by omega))
              have HSN : Hid (Sm9 l v m (k + 1) (s + rq l k * (v - x))) := by
                show Sm9 _ _ _ _ _
                rw [← HX.out, HSF.out]; exact .inr ⟨by have := HKM.out; omega, by rw [HKM.out]⟩
              obtain ⟨c_V3, f0_V3, d_V3, f1_V3, e_V3, f2_V3, l_V3, m_V3⟩ := V3.q3; (go_wp2_with fail); clear c_V3 f0_V3 d_V3 f1_V3 e_V3 f2_V3 l_V3 m_V3; have lt_V8_V3 := V3.lt; have lt_V8_V4 := V4.lt; have lt_V8_V6 := V6.lt; refine ent1 x42 _ _ (Q := fun W => Code.wp Tryz.prog _ _ _ W) ?_; intro x59 hb hs_x59 V8; replace V3 := V3.a hb; replace V4 := V4.a hb; replace V6 := V6.a hb; replace hr := Rn.after hb hr; replace hq := Rn.after hb hq; replace hc := At6.after hb hc; replace hp1 := Rn.after hb hp1; replace hp2 := Rn.after hb hp2; replace B0 := step B0 hb; clear hb hs_x59; refine wp_region_noPanic ?_; replace V3 : Va x59.drew _ _ _ := V3; replace V4 : Va x59.drew _ _ _ := V4; replace V6 : Va x59.drew _ _ _ := V6; replace V8 : Va x59.drew _ _ _ := V8; replace hr := hr.drw; replace hq := hq.drw; replace hc := hc.drw; replace hp1 := hp1.drw
              replace hp2 := hp2.drw; replace B0 := Below.drew B0; refine wp_region_held_drew (S := (fun W => W.cell? ⟨x42.heap.size, 0, none⟩ = some (.bool r.s) ∧ W.cell? ⟨x42.heap.size, 1, none⟩ = some (.slice r.a r.l r.c) ∧ W.cell? ⟨x42.heap.size, 2, none⟩ = some (.slice r.b r.m r.d) ∧ W.cell? ⟨lb, lo + k * 6, none⟩ = some (.bool p.1.s) ∧ W.cell? ⟨lb, lo + k * 6 + 1, none⟩ = some (.slice p.1.a p.1.l p.1.c) ∧ W.cell? ⟨lb, lo + k * 6 + 2, none⟩ = some (.slice p.1.b p.1.m p.1.d) ∧ W.cell? ⟨lb, lo + k * 6 + 3, none⟩ = some (.bool p.2.s) ∧ W.cell? ⟨lb, lo + k * 6 + 4, none⟩ = some (.slice p.2.a p.2.l p.2.c) ∧ W.cell? ⟨lb, lo + k * 6 + 5, none⟩ = some (.slice p.2.b p.2.m p.2.d))) (by kernel_rfl) ⟨V8.d0, V8.d1, V8.d2, hc.c0, hc.c1, hc.c2, hc.c3, hc.c4, hc.c5⟩ (fun hHeld => ?_); (obtain ⟨x60, hxd⟩ : ∃ xd, xd = x59.drew := ⟨_, rfl⟩); rw [← hxd] at V3 V4 V6 V8 hr hq hc hp1 hp2 B0 hHeld ⊢; clear hxd; refine tk 1 rfl hHeld ?_
              simp only [gA, gB, gC, Act.put, gD, gE, gF]; refine tjz 2 hHeld ?_; refine tjz 3 hHeld ?_; refine tjz 4 hHeld ?_; refine tjz 5 hHeld ?_; refine tjz 6 hHeld ?_; refine tjz 7 hHeld ?_; refine tjz 8 hHeld ?_; refine tjz 9 hHeld ?_; refine tjz 10 hHeld ?_; refine tjz 11 hHeld ?_; refine wpAnyH_ready (rs := [0, 12]) (by kernel_rfl) (by simp) ?_; refine AllReadyH.cons rfl (fun K hK => ?_) (AllReadyH.cons rfl (fun K hK => ?_) AllReadyH.nil)
              ·
                obtain ⟨c_V6, f0_V6, d_V6, f1_V6, e_V6, f2_V6, l_V6, m_V6⟩ := V6.q3; simp only [gA, gB]; (go_simp); clear c_V6 f0_V6 d_V6 f1_V6 e_V6 f2_V6 l_V6 m_V6; refine hK.out _ _ ⟨V8.d0, V8.d1, V8.d2, hc.c0, hc.c1, hc.c2, hc.c3, hc.c4, hc.c5⟩ (fun hHeld => ?_); clear hK K; refine ryz 12 (fun K hK => ?_); simp only [gA, gB, gC]; (go_simp); refine (rsub_rc r p.1 v x (v - x) _ hr hp1 rfl (HZE.out.short (by omega)) HSX.out).mono ?_; rintro e x61 ⟨d1, rfl, hd1, hb⟩; replace V3 := V3.a hb; replace V4 := V4.a hb; replace V6 := V6.a hb; replace V8 := V8.a hb; replace hr := Rn.after hb hr; replace hq := Rn.after hb hq; replace hc := At6.after hb hc; replace hp1 := Rn.after hb hp1; replace hp2 := Rn.after hb hp2; replace B0 := step B0 hb
                clear hb; (try go_wp2_with fail); refine hK.out _ _ ⟨V8.d0, V8.d1, V8.d2, hc.c0, hc.c1, hc.c2, hc.c3, hc.c4, hc.c5⟩ (fun hHeld => ?_); clear hK K; refine ryz 13 (fun K hK => ?_); simp only [gA, gB, gC]; (go_simp); refine (rmul_rc p.2 d1 (rq l k) (v - x) (rq l k * (v - x)) _ hp2 hd1 rfl HSA.out.2 HZD.out (by omega)).mono ?_; rintro e x62 ⟨d2, rfl, hd2, hb⟩; replace V3 := V3.a hb; replace V4 := V4.a hb; replace V6 := V6.a hb; replace V8 := V8.a hb; replace hr := Rn.after hb hr; replace hq := Rn.after hb hq; replace hc := At6.after hb hc; replace hp1 := Rn.after hb hp1; replace hp2 := Rn.after hb hp2; replace hd1 := Rn.after hb hd1; replace B0 := step B0 hb; clear hb; (try go_wp2_with fail); refine hK.out _ _ ⟨V8.d0, V8.d1, V8.d2, hc.c0, hc.c1, hc.c2, hc.c3, hc.c4, hc.c5⟩ (fun hHeld => ?_); clear hK K; refine wpAnyH_ready (rs := [14]) (by kernel_rfl) (by simp) ?_
                refine AllReadyH.cons rfl (fun K hK => ?_) AllReadyH.nil; simp only [gA, gB, gC]; (go_simp); refine (radd_rc q d2 s (rq l k * (v - x)) (s + rq l k * (v - x)) _ hq hd2 rfl (HSS.out.short (by omega)) ((HSA.out.2.mul HZD.out).short (by omega))).mono ?_; rintro e x63 ⟨d3, rfl, hd3, hb⟩; replace V3 := V3.a hb; replace V4 := V4.a hb; replace V6 := V6.a hb; replace V8 := V8.a hb; replace hr := Rn.after hb hr; replace hq := Rn.after hb hq; replace hc := At6.after hb hc; replace hp1 := Rn.after hb hp1; replace hp2 := Rn.after hb hp2; replace hd1 := Rn.after hb hd1; replace hd2 := Rn.after hb hd2; replace B0 := step B0 hb; clear hb; (try go_wp2_with fail); refine hK.out _ _ ⟨V8.d0, V8.d1, V8.d2, hc.c0, hc.c1, hc.c2, hc.c3, hc.c4, hc.c5⟩ (fun hHeld => ?_); clear hK K; have c_V6 := V6.d0; have f0_V6 := V6.frozen 0; have d_V6 := V6.d1; have f1_V6 := V6.frozen 1; have e_V6 := V6.d2; have f2_V6 := V6.frozen 2; have l_V6 := V6.lt
                have m_V6 := Nat.le_of_lt l_V6; refine ryz 15 (fun K hK => ?_); simp only [gA, gB, gC]; (go_simp); clear c_V6 f0_V6 d_V6 f1_V6 e_V6 f2_V6 l_V6 m_V6; refine sto3 V6 (.bool d3.s) (.slice d3.a d3.l d3.c) (.slice d3.b d3.m d3.d) (Q := fun W => K _ W) ?_; intro x64 V' oth far; replace V3 := apz (oth _ _ _) V3; replace V4 := apz (oth _ _ _) V4; replace V8 := apz (oth _ _ _) V8; replace hr := hr.far V6 (noInt3 _ _ _ _ _ _ _) far.1; replace hq := hq.far V6 (noInt3 _ _ _ _ _ _ _) far.1; replace hp1 := hp1.far V6 (noInt3 _ _ _ _ _ _ _) far.1; replace hp2 := hp2.far V6 (noInt3 _ _ _ _ _ _ _) far.1; replace hd1 := hd1.far V6 (noInt3 _ _ _ _ _ _ _) far.1; replace hd2 := hd2.far V6 (noInt3 _ _ _ _ _ _ _) far.1; replace hd3 := hd3.far V6 (noInt3 _ _ _ _ _ _ _) far.1
                replace B0 := apz (far.2 _ _) B0; replace hc := hc.far far.1 (by omega); replace V6 := V'; clear oth far; refine hK.out _ _ ⟨V8.d0, V8.d1, V8.d2, hc.c0, hc.c1, hc.c2, hc.c3, hc.c4, hc.c5⟩ (fun hHeld => ?_); clear hK K; refine dnz ?_; clear hHeld; have HV6' : Hid (Va x64 (x4.heap.size) 25 #[.bool d3.s, .slice d3.a d3.l d3.c, .slice d3.b d3.m d3.d]) := V6; clear V6 V3 V4 V8 hc; (go_wp2_with fail)
                go_roundw
                case measure => simp [intOf]; omega
                case rel => exact ⟨k + 1, d3, _, by omega, by go_num, HV6'.out, hd3, HSN.out, B0⟩
              ·
                simp only [gA, gB, gC]; (go_simp); refine (rsub_rc r p.1 v x (v - x) _ hr hp1 rfl (HZE.out.short (by omega)) HSX.out).mono ?_; rintro e x65 ⟨d1, rfl, hd1, hb⟩; replace V3 := V3.a hb; replace V4 := V4.a hb; replace V6 := V6.a hb; replace V8 := V8.a hb; replace hr := Rn.after hb hr; replace hq := Rn.after hb hq; replace hc := At6.after hb hc; replace hp1 := Rn.after hb hp1; replace hp2 := Rn.after hb hp2; replace B0 := step B0 hb; clear hb; (try go_wp2_with fail); refine hK.out _ _ ⟨V8.d0, V8.d1, V8.d2, hc.c0, hc.c1, hc.c2, hc.c3, hc.c4, hc.c5⟩ (fun hHeld => ?_); clear hK K; refine wpAnyH_ready (rs := [0, 13]) (by kernel_rfl) (by simp) ?_; refine AllReadyH.cons rfl (fun K hK => ?_) (AllReadyH.cons rfl (fun K hK => ?_) AllReadyH.nil)
                ·
                  obtain ⟨c_V6, f0_V6, d_V6, f1_V6, e_V6, f2_V6, l_V6, m_V6⟩ := V6.q3; simp only [gA, gB]; (go_simp); clear c_V6 f0_V6 d_V6 f1_V6 e_V6 f2_V6 l_V6 m_V6; refine hK.out _ _ ⟨V8.d0, V8.d1, V8.d2, hc.c0, hc.c1, hc.c2, hc.c3, hc.c4, hc.c5⟩ (fun hHeld => ?_); clear hK K; refine ryz 13 (fun K hK => ?_); simp only [gA, gB, gC]; (go_simp); refine (rmul_rc p.2 d1 (rq l k) (v - x) (rq l k * (v - x)) _ hp2 hd1 rfl HSA.out.2 HZD.out (by omega)).mono ?_; rintro e x66 ⟨d2, rfl, hd2, hb⟩; replace V3 := V3.a hb; replace V4 := V4.a hb; replace V6 := V6.a hb; replace V8 := V8.a hb; replace hr := Rn.after hb hr; replace hq := Rn.after hb hq; replace hc := At6.after hb hc; replace hp1 := Rn.after hb hp1; replace hp2 := Rn.after hb hp2
                  replace hd1 := Rn.after hb hd1; replace B0 := step B0 hb; clear hb; (try go_wp2_with fail); refine hK.out _ _ ⟨V8.d0, V8.d1, V8.d2, hc.c0, hc.c1, hc.c2, hc.c3, hc.c4, hc.c5⟩ (fun hHeld => ?_); clear hK K; refine ryz 14 (fun K hK => ?_); simp only [gA, gB, gC]; (go_simp); refine (radd_rc q d2 s (rq l k * (v - x)) (s + rq l k * (v - x)) _ hq hd2 rfl (HSS.out.short (by omega)) ((HSA.out.2.mul HZD.out).short (by omega))).mono ?_; rintro e x67 ⟨d3, rfl, hd3, hb⟩; replace V3 := V3.a hb; replace V4 := V4.a hb; replace V6 := V6.a hb; replace V8 := V8.a hb; replace hr := Rn.after hb hr; replace hq := Rn.after hb hq; replace hc := At6.after hb hc; replace hp1 := Rn.after hb hp1; replace hp2 := Rn.after hb hp2; replace hd1 := Rn.after hb hd1; replace hd2 := Rn.after hb hd2; replace B0 := step B0 hb; clear hb; (try go_wp2_with fail); refine hK.out _ _ ⟨V8.d0, V8.d1, V8.d2, hc.c0, hc.c1, hc.c2, hc.c3, hc.c4, hc.c5⟩ (fun hHeld => ?_)
                  clear hK K; obtain ⟨c_V6, f0_V6, d_V6, f1_V6, e_V6, f2_V6, l_V6, m_V6⟩ := V6.q3; refine ryz 15 (fun K hK => ?_); simp only [gA, gB, gC]; (go_simp); clear c_V6 f0_V6 d_V6 f1_V6 e_V6 f2_V6 l_V6 m_V6; refine sto3 V6 (.bool d3.s) (.slice d3.a d3.l d3.c) (.slice d3.b d3.m d3.d) (Q := fun W => K _ W) ?_; intro x68 V' oth far; replace V3 := apz (oth _ _ _) V3; replace V4 := apz (oth _ _ _) V4; replace V8 := apz (oth _ _ _) V8; replace hr := hr.far V6 (noInt3 _ _ _ _ _ _ _) far.1; replace hq := hq.far V6 (noInt3 _ _ _ _ _ _ _) far.1; replace hp1 := hp1.far V6 (noInt3 _ _ _ _ _ _ _) far.1; replace hp2 := hp2.far V6 (noInt3 _ _ _ _ _ _ _) far.1
                  replace hd1 := hd1.far V6 (noInt3 _ _ _ _ _ _ _) far.1; replace hd2 := hd2.far V6 (noInt3 _ _ _ _ _ _ _) far.1; replace hd3 := hd3.far V6 (noInt3 _ _ _ _ _ _ _) far.1; replace B0 := apz (far.2 _ _) B0; replace hc := hc.far far.1 (by omega); replace V6 := V'; clear oth far; refine hK.out _ _ ⟨V8.d0, V8.d1, V8.d2, hc.c0, hc.c1, hc.c2, hc.c3, hc.c4, hc.c5⟩ (fun hHeld => ?_); clear hK K; refine dnz ?_; clear hHeld; have HV6' : Hid (Va x68 (x4.heap.size) 25 #[.bool d3.s, .slice d3.a d3.l d3.c, .slice d3.b d3.m d3.d]) := V6; clear V6 V3 V4 V8 hc; (go_wp2_with fail)
                  go_roundw
                  case measure => simp [intOf]; omega
                  case rel => exact ⟨k + 1, d3, _, by omega, by go_num, HV6'.out, hd3, HSN.out, B0⟩
                ·
                  simp only [gA, gB, gC]; (go_simp); refine (rmul_rc p.2 d1 (rq l k) (v - x) (rq l k * (v - x)) _ hp2 hd1 rfl HSA.out.2 HZD.out (by omega)).mono ?_; rintro e x69 ⟨d2, rfl, hd2, hb⟩; replace V3 := V3.a hb; replace V4 := V4.a hb; replace V6 := V6.a hb; replace V8 := V8.a hb; replace hr := Rn.after hb hr; replace hq := Rn.after hb hq; replace hc := At6.after hb hc; replace hp1 := Rn.after hb hp1; replace hp2 := Rn.after hb hp2; replace hd1 := Rn.after hb hd1; replace B0 := step B0 hb; clear hb; (try go_wp2_with fail); refine hK.out _ _ ⟨V8.d0, V8.d1, V8.d2, hc.c0, hc.c1, hc.c2, hc.c3, hc.c4, hc.c5⟩ (fun hHeld => ?_); clear hK K; refine ryz 0 (fun K hK => ?_); obtain ⟨c_V6, f0_V6, d_V6, f1_V6, e_V6, f2_V6, l_V6, m_V6⟩ := V6.q3
                  simp only [gA, gB]; (go_simp); clear c_V6 f0_V6 d_V6 f1_V6 e_V6 f2_V6 l_V6 m_V6; refine hK.out _ _ ⟨V8.d0, V8.d1, V8.d2, hc.c0, hc.c1, hc.c2, hc.c3, hc.c4, hc.c5⟩ (fun hHeld => ?_); clear hK K; refine ryz 14 (fun K hK => ?_); simp only [gA, gB, gC]; (go_simp); refine (radd_rc q d2 s (rq l k * (v - x)) (s + rq l k * (v - x)) _ hq hd2 rfl (HSS.out.short (by omega)) ((HSA.out.2.mul HZD.out).short (by omega))).mono ?_; rintro e x70 ⟨d3, rfl, hd3, hb⟩; replace V3 := V3.a hb; replace V4 := V4.a hb; replace V6 := V6.a hb; replace V8 := V8.a hb; replace hr := Rn.after hb hr; replace hq := Rn.after hb hq; replace hc := At6.after hb hc; replace hp1 := Rn.after hb hp1; replace hp2 := Rn.after hb hp2; replace hd1 := Rn.after hb hd1; replace hd2 := Rn.after hb hd2; replace B0 := step B0 hb; clear hb; (try go_wp2_with fail); refine hK.out _ _ ⟨V8.d0, V8.d1, V8.d2, hc.c0, hc.c1, hc.c2, hc.c3, hc.c4, hc.c5⟩ (fun hHeld => ?_)
                  clear hK K; obtain ⟨c_V6, f0_V6, d_V6, f1_V6, e_V6, f2_V6, l_V6, m_V6⟩ := V6.q3; refine ryz 15 (fun K hK => ?_); simp only [gA, gB, gC]; (go_simp); clear c_V6 f0_V6 d_V6 f1_V6 e_V6 f2_V6 l_V6 m_V6; refine sto3 V6 (.bool d3.s) (.slice d3.a d3.l d3.c) (.slice d3.b d3.m d3.d) (Q := fun W => K _ W) ?_; intro x71 V' oth far; replace V3 := apz (oth _ _ _) V3; replace V4 := apz (oth _ _ _) V4; replace V8 := apz (oth _ _ _) V8; replace hr := hr.far V6 (noInt3 _ _ _ _ _ _ _) far.1; replace hq := hq.far V6 (noInt3 _ _ _ _ _ _ _) far.1; replace hp1 := hp1.far V6 (noInt3 _ _ _ _ _ _ _) far.1; replace hp2 := hp2.far V6 (noInt3 _ _ _ _ _ _ _) far.1
                  replace hd1 := hd1.far V6 (noInt3 _ _ _ _ _ _ _) far.1; replace hd2 := hd2.far V6 (noInt3 _ _ _ _ _ _ _) far.1; replace hd3 := hd3.far V6 (noInt3 _ _ _ _ _ _ _) far.1; replace B0 := apz (far.2 _ _) B0; replace hc := hc.far far.1 (by omega); replace V6 := V'; clear oth far; refine hK.out _ _ ⟨V8.d0, V8.d1, V8.d2, hc.c0, hc.c1, hc.c2, hc.c3, hc.c4, hc.c5⟩ (fun hHeld => ?_); clear hK K; refine dnz ?_; clear hHeld; have HV6' : Hid (Va x71 (x4.heap.size) 25 #[.bool d3.s, .slice d3.a d3.l d3.c, .slice d3.b d3.m d3.d]) := V6; clear V6 V3 V4 V8 hc; (go_wp2_with fail)
                  go_roundw
                  case measure => simp [intOf]; omega
                  case rel => exact ⟨k + 1, d3, _, by omega, by go_num, HV6'.out, hd3, HSN.out, B0⟩
        ·
          have B0 := HW.out; have V3 := Va.after B0 HV3.out; have V4 := Va.after B0 HV4.out; have V6 := HV6.out; have hr := HR.out.after B0; have hq := HRQ.out; obtain ⟨c_V6, f0_V6, d_V6, f1_V6, e_V6, f2_V6, l_V6, m_V6⟩ := V6.q3; obtain ⟨c_V4, f0_V4, d_V4, f1_V4, e_V4, f2_V4, l_V4, m_V4⟩ := V4.q3; (go_wp2_with fail); clear c_V6 f0_V6 d_V6 f1_V6 e_V6 f2_V6 l_V6 m_V6 c_V4 f0_V4 d_V4 f1_V4 e_V4 f2_V4 l_V4 m_V4; refine bodyPost_ret (results_rt' rfl rfl (V4.set3 _ _ _)) rfl ?_; exact ⟨q, 0, rfl, .inr (.inr ⟨rfl, HV0.out, HZ.out, s, HS.out.fin HO.out.1 HK.out (fun h => by rw [HO.out.2.2.1] at h; omega) (by rw [HO.out.2.2.1]; omega), hq.far V4 (noInt3 _ _ _ _ _ _ _) (fa3 _ _ _ _ _)⟩), belo3 (HB.out.trans (B0.mono (by omega))) (by omega) _ _ _⟩
end Go.Proofs.YtenmkbofpmbedaaGreatDoor
