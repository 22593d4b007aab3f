import Derived.Test.YtenmkbofpmbedaaGreatDoorMgAa
import Derived.Test.YtenmkbofpmbedaaGreatDoorMgAk
import Derived.Test.YtenmkbofpmbedaaGreatDoorWh3
import Derived.Test.YtenmkbofpmbedaaGreatDoorBsO
namespace Go.Proofs.YtenmkbofpmbedaaGreatDoor
open Go.RowKit Go.Shelf
set_option linter.unusedVariables false
set_option maxRecDepth 20000

structure Sd (w : World) (g b off n c : Nat) (xs : List Pc) (l : List Pq) : Prop where
  va : Va w g 65 #[.slice (some ⟨b, off, none⟩) n c]
  le : Le elT w (some ⟨b, off, none⟩) n xs
  ss : Ss w xs l
  ln : l.length = n
  ok : Sok l
  sh : Sht l
  lc : n ≤ c
theorem Sd.after {w w' : World} (hb : Below w.heap.size w w') {g b off n c : Nat} {xs : List Pc} {l : List Pq} (h : Sd w g b off n c xs l) : Sd w' g b off n c xs l := ⟨Va.after hb h.va, h.le.after hb, h.ss.after hb, h.ln, h.ok, h.sh, h.lc⟩
theorem Sd.drw {w : World} {g b off n c : Nat} {xs : List Pc} {l : List Pq} (h : Sd w g b off n c xs l) : Sd w.drew g b off n c xs l := ⟨h.va, h.le, h.ss, h.ln, h.ok, h.sh, h.lc⟩
theorem Sd.far {w : World} {g b off n c : Nat} {xs : List Pc} {l : List Pq} (h : Sd w g b off n c xs l) {b' : Nat} {t : TypeId} {cs : Array Value} (V : Va w b' t cs) (hn : NoInt cs) {w' : World} (k : ∀ c, c ≠ b' → w'.heap[c]? = w.heap[c]?) (h1 : g ≠ b') (h2 : b ≠ b') : Sd w' g b off n c xs l :=
  ⟨h.va.stay k h1, h.le.kept (fun _ c o e _ => by cases e; exact k b h2), ⟨h.ss.1, fun i hi => ⟨(h.ss.2 i hi).1.far V hn k, (h.ss.2 i hi).2.far V hn k⟩⟩, h.ln, h.ok, h.sh, h.lc⟩
theorem Sd.few {w : World} {g b off n c : Nat} {xs : List Pc} {l : List Pq} (h : Sd w g b off n c xs l) : 1 ≤ n ∧ n ≤ 8 := by have := h.ok.one; have := h.ok.few; have := h.ln; omega
theorem Sd.lts {w : World} {g b off n c : Nat} {xs : List Pc} {l : List Pq} (h : Sd w g b off n c xs l) : g < w.heap.size ∧ b < w.heap.size := ⟨h.va.lt, h.le.lt h.few.1⟩
theorem isSch_yes (g b off n c : Nat) (w : World) (h : Va w g 65 #[.slice (some ⟨b, off, none⟩) n c]) (hn : 1 ≤ n) : Calls Tryz.prog 57 #[.pointer (some ⟨g, 0, none⟩)] w fun e w' => e = .returned (.bool true) ∧ w' = w := by
  have c0 := h.cell
  have hd : (0 : Int) < (n : Int) := by omega
  clear h
  go_enter Tryz.func57, Tryz.ntmps57
  go_wp2_with fail
  go_ret
  exact ⟨by simp <;> omega, rfl⟩
set_option maxHeartbeats 8000000 in
theorem begun8_any (g b off n c : Nat) (xs : List Pc) (l : List Pq) (r : Rc) (v : Rat) (w : World) (hd : Sd w g b off n c xs l) (hr : Rv w r v) :
    Calls Tryz.prog 64 #[.pointer (some ⟨g, 0, none⟩), .agg #[.bool r.s, .slice r.a r.l r.c, .slice r.b r.m r.d]] w fun e w' => ∃ k : Nat, e = .returned (.int .i64 (k : Int)) ∧ Hid (Bg l v k) ∧ Below w.heap.size w w' := by
  have B0 : Below w.heap.size w w := Below.refl _ _
  have c0 := hd.va.cell
  have lg := hd.va.lt
  go_enter Tryz.func64, Tryz.ntmps64
  go_wp2_with fail
  refine ent1 w _ _ (Q := fun W => Code.wp Tryz.prog _ _ _ W) ?_
  intro x1 hb hs_x1 V3
  replace hd := Sd.after hb hd
  replace hr := Rv.after hb hr
  replace B0 := step B0 hb
  clear hb hs_x1
  have HD : Hid (Sd x1 g b off n c xs l) := hd
  have HR : Hid (Rv x1 r v) := hr
  have HV3 : Hid (Va x1 (w.heap.size) 36 #[.bool r.s, .slice r.a r.l r.c, .slice r.b r.m r.d]) := V3
  have HB : Hid (Below w.heap.size w x1) := B0
  clear hd hr V3 B0 c0 lg
  go_loopw [12] (fun i wr => ∃ k : Nat, k ≤ n ∧ i = .int .i64 k ∧ Hid (∀ j, j < k → aq l j ≤ v) ∧ Hid (Below x1.heap.size x1 wr)) (fun i _ => n - (intOf i).toNat)
  case atStart => exact ⟨0, Nat.zero_le _, rfl, fun j hj => absurd hj (by omega), Below.refl _ _⟩
  case round =>
    obtain ⟨k, hk, rfl, HO, HW⟩ := hrel
    have hln := HD.out.ln
    have h8 := HD.out.few.2
    by_cases hlt : k < n
    ·
      have B0 := HW.out
      have V3 := Va.after B0 HV3.out
      have hr := HR.out.after B0
      have hD := HD.out.after B0
      have hS := (hD.ss.2 k (by rw [hln]; exact hlt)).1
      have hc : At6 wr b (off + k * 6) (xs.getD k (Rc.nil, Rc.nil)) := hD.le.six rfl rfl k hlt
      clear hD
      obtain ⟨x, hx⟩ : ∃ x, aq l k = x := ⟨_, rfl⟩
      rw [hx] at hS
      have HX : Hid (aq l k = x) := hx
      clear hx
      generalize xs.getD k (Rc.nil, Rc.nil) = p at hc hS
      obtain ⟨cx, hcx⟩ : ∃ s, qcmp x v = s := ⟨_, rfl⟩
      have HCX : Hid (0 < cx ↔ v < x) := by have := cmp_gt x v; rw [hcx] at this; exact this
      obtain ⟨c0, c1, c2, c3, c4, c5⟩ := hc
      have lb := cell_lt c0
      have c_V3 := V3.d0
      have f0_V3 := V3.frozen 0
      have d_V3 := V3.d1
      have f1_V3 := V3.frozen 1
      have e_V3 := V3.d2
      have f2_V3 := V3.frozen 2
      have l_V3 := V3.lt
      have m_V3 := Nat.le_of_lt l_V3
      go_wp2_with fail
      clear c_V3 f0_V3 d_V3 f1_V3 e_V3 f2_V3 l_V3 m_V3
      refine ent1 wr _ _ (Q := fun W => Calls Tryz.prog _ _ W _) ?_
      intro x6 hb hs_x6 V6
      replace V3 := V3.a hb
      replace hr := Rv.after hb hr
      replace hS := Rv.after hb hS
      replace B0 := step B0 hb
      clear hb hs_x6
      clear c0 c1 c2 c3 c4 c5 lb
      refine (cmp_rc p.1 r x v _ hS hr).mono ?_
      rintro e x7 ⟨rfl, hb⟩
      replace V3 := V3.a hb
      replace V6 := V6.a hb
      replace hr := Rv.after hb hr
      replace hS := Rv.after hb hS
      replace B0 := step B0 hb
      clear hb
      rw [hcx]
      by_cases g1 : 0 < cx
      ·
        have e1 : decide (0 < cx) = true := decide_eq_true g1
        go_wp2_with fail
        go_ret
        exact ⟨k, rfl, ⟨by omega, HO.out, fun _ => by rw [HX.out]; exact HCX.out.1 g1⟩, step HB.out B0⟩
      ·
        have e1 : decide (0 < cx) = false := decide_eq_false g1
        have HK : Hid (aq l k ≤ v) := by show _ ≤ _; rw [HX.out]; have := HCX.out; grind
        go_wp2_with fail
        go_roundw
        case measure => simp [intOf]; omega
        case rel =>
          refine ⟨k + 1, by omega, by go_num, fun j hj => ?_, B0⟩
          rcases Nat.lt_or_ge j k with h' | h'
          · exact HO.out j h'
          · obtain rfl : j = k := by omega
            exact HK.out
    ·
      have c0 := (Va.after HW.out HD.out.va).cell
      go_wp2_with fail
      go_ret
      exact ⟨n, rfl, ⟨by omega, fun j hj => HO.out j (by omega), fun h => by omega⟩, step HB.out HW.out⟩
def NxR (w : World) (q : Rc) (t : Bool) (n k : Nat) (l : List Pq) : Prop := (t = true ∧ k < n ∧ Rv w q (aq l k)) ∨ (t = false ∧ k = n ∧ Rv w q 0)
set_option maxHeartbeats 8000000 in
theorem next8_any (g b off n c : Nat) (xs : List Pc) (l : List Pq) (r : Rc) (v : Rat) (w : World) (hd : Sd w g b off n c xs l) (hr : Rv w r v) (k : Nat) (hk : Bg l v k) :
    Calls Tryz.prog 26 #[.pointer (some ⟨g, 0, none⟩), .agg #[.bool r.s, .slice r.a r.l r.c, .slice r.b r.m r.d]] w fun e w' => ∃ (q : Rc) (t : Bool), e = .returned (.tuple #[.agg #[.bool q.s, .slice q.a q.l q.c, .slice q.b q.m q.d], .bool t]) ∧ Hid (NxR w' q t n k l) ∧ Below w.heap.size w w' := by
  have HK : Hid (Bg l v k) := hk
  clear hk
  have B0 : Below w.heap.size w w := Below.refl _ _
  go_enter Tryz.func26, Tryz.ntmps26
  go_wp2_with fail
  refine ent2 w _ _ _ _ (Q := fun W => Calls Tryz.prog _ _ W _) ?_
  intro x1 hb hs_x1 V3 V4
  replace hd := Sd.after hb hd
  replace hr := Rv.after hb hr
  replace B0 := step B0 hb
  clear hb hs_x1
  have h1 := hd.ok.one
  have hln := hd.ln
  refine (isSch_yes g b off n c _ hd.va (by omega)).mono ?_
  rintro e wz ⟨rfl, hw⟩
  rw [hw]
  clear hw wz h1
  have c_V3 := V3.d0
  have f0_V3 := V3.frozen 0
  have d_V3 := V3.d1
  have f1_V3 := V3.frozen 1
  have e_V3 := V3.d2
  have f2_V3 := V3.frozen 2
  have l_V3 := V3.lt
  have m_V3 := Nat.le_of_lt l_V3
  go_wp2_with fail
  refine (begun8_any g b off n c xs l r v _ hd hr).mono ?_
  rintro e x2 ⟨k', rfl, hk', hb⟩
  clear c_V3 f0_V3 d_V3 f1_V3 e_V3 f2_V3 l_V3 m_V3
  replace V3 := V3.a hb
  replace V4 := V4.a hb
  replace hd := Sd.after hb hd
  replace hr := Rv.after hb hr
  replace B0 := step B0 hb
  obtain rfl := hk'.out.uniq HK.out
  clear hb hk'
  have hkn := HK.out.le
  by_cases hlt : k' < n
  ·
    have e1 : ((k' : Int) == (n : Int)) = false := by simp; omega
    have c0 := hd.va.cell
    have hS := (hd.ss.2 k' (by omega)).1
    have hc : At6 x2 b (off + k' * 6) (xs.getD k' (Rc.nil, Rc.nil)) := hd.le.six rfl rfl k' hlt
    generalize xs.getD k' (Rc.nil, Rc.nil) = p at hc hS
    obtain ⟨c1, c2, c3, -, -, -⟩ := hc
    have c_V4 := V4.d0
    have f0_V4 := V4.frozen 0
    have d_V4 := V4.d1
    have f1_V4 := V4.frozen 1
    have e_V4 := V4.d2
    have f2_V4 := V4.frozen 2
    have l_V4 := V4.lt
    have m_V4 := Nat.le_of_lt l_V4
    go_wp2_with fail
    clear c_V4 f0_V4 d_V4 f1_V4 e_V4 f2_V4 l_V4 m_V4
    refine bodyPost_ret (results_rt rfl rfl (V4.set3 _ _ _)) rfl ?_
    have VV := V4
    exact ⟨p.1, true, rfl, .inl ⟨rfl, hlt, hS.far V4 (noInt3 _ _ _ _ _ _ _) (fa3 _ _ _ _ _)⟩, belo3 B0 (by omega) _ _ _⟩
  ·
    obtain rfl : k' = n := by omega
    have c0 := hd.va.cell
    have c_V4 := V4.d0
    have f0_V4 := V4.frozen 0
    have d_V4 := V4.d1
    have f1_V4 := V4.frozen 1
    have e_V4 := V4.d2
    have f2_V4 := V4.frozen 2
    have l_V4 := V4.lt
    have m_V4 := Nat.le_of_lt l_V4
    go_wp2_with fail
    clear c_V4 f0_V4 d_V4 f1_V4 e_V4 f2_V4 l_V4 m_V4
    refine bodyPost_ret (results_rt rfl rfl (V4.set3 _ _ _)) rfl ?_
    exact ⟨Rc.nil, false, rfl, .inr ⟨rfl, rfl, Rv.nil _⟩, belo3 B0 (by omega) _ _ _⟩
set_option maxHeartbeats 8000000 in
theorem slope8_ok (g b off n c : Nat) (xs : List Pc) (l : List Pq) (r : Rc) (v : Rat) (w : World) (hd : Sd w g b off n c xs l) (hr : Rv w r v) (k : Nat) (hk : Bg l v k) (h0 : 0 ≤ v) :
    Calls Tryz.prog 25 #[.pointer (some ⟨g, 0, none⟩), .agg #[.bool r.s, .slice r.a r.l r.c, .slice r.b r.m r.d]] w fun e w' => ∃ q : Rc, e = .returned (.tuple #[.agg #[.bool q.s, .slice q.a q.l q.c, .slice q.b q.m q.d], .int .i64 0]) ∧ Rv w' q (rq l (k - 1)) ∧ Below w.heap.size w w' := by
  have HK : Hid (Bg l v k) := hk; have HK1 : Hid (1 ≤ k) := hk.pos hd.ok h0; have L0 := hd.lts; (obtain ⟨sv, hsv⟩ : ∃ s, Int.sign v.num = s := ⟨_, rfl⟩); (have hs0 : ¬ sv < 0 := by have := sgn_lt v; rw [hsv] at this; rw [this]; grind); clear hk h0; have B0 : Below w.heap.size w w := Below.refl _ _
  go_enter Tryz.func25, Tryz.ntmps25
  (go_wp2_with fail); refine ent2 w _ _ _ _ (Q := fun W => Calls Tryz.prog _ _ W _) ?_; intro x1 hb hs_x1 V3 V4; replace hd := Sd.after hb hd; replace hr := Rv.after hb hr; replace B0 := step B0 hb; clear hb hs_x1; have h1 := hd.ok.one; have hln := hd.ln; refine (isSch_yes g b off n c _ hd.va (by omega)).mono ?_; rintro e wz ⟨rfl, hw⟩; rw [hw]; clear hw wz h1; obtain ⟨c_V3, f0_V3, d_V3, f1_V3, e_V3, f2_V3, l_V3, m_V3⟩ := V3.q3; (go_wp2_with fail); refine (sign_rc r v _ hr).mono ?_; rintro e x2 ⟨rfl, hb⟩; replace V3 := V3.a hb; replace V4 := V4.a hb; replace hd := Sd.after hb hd; replace hr := Rv.after hb hr; replace B0 := step B0 hb; clear hb; rw [hsv]; have e1 : decide (sv < 0) = false := decide_eq_false (by omega); clear c_V3 f0_V3 d_V3 f1_V3 e_V3 f2_V3 l_V3 m_V3; (go_wp2_with fail); (obtain ⟨j, rfl⟩ : ∃ j, k = j + 1 := ⟨k - 1, by have := HK1.out; omega⟩)
  have hkn := HK.out.le; have lts := hd.lts; have lt0 : g < w.heap.size ∧ b < w.heap.size := L0; have hS := (hd.ss.2 j (by omega)).2; have hc : At6 x2 b (off + j * 6) (xs.getD j (Rc.nil, Rc.nil)) := hd.le.six rfl rfl j (by omega)
  generalize xs.getD j (Rc.nil, Rc.nil) = p at hc hS
  (have hjn : j < n := by omega); have h8 := hd.few.2; refine wp_region_noPanic ?_; replace V3 : Va x2.drew _ _ _ := V3; replace V4 : Va x2.drew _ _ _ := V4; replace hd := hd.drw; replace hr := hr.drw; replace hc := hc.drw; replace hS := hS.drw; replace B0 := Below.drew B0; refine wp_region_held_drew (S := (fun W => W.cell? ⟨w.heap.size, 0, none⟩ = some (.bool r.s) ∧ W.cell? ⟨w.heap.size, 1, none⟩ = some (.slice r.a r.l r.c) ∧ W.cell? ⟨w.heap.size, 2, none⟩ = some (.slice r.b r.m r.d) ∧ W.cell? ⟨g, 0, none⟩ = some (.slice (some ⟨b, off, none⟩) n c) ∧ W.cell? ⟨b, off + j * 6, none⟩ = some (.bool p.1.s) ∧ W.cell? ⟨b, off + j * 6 + 1, none⟩ = some (.slice p.1.a p.1.l p.1.c) ∧ W.cell? ⟨b, off + j * 6 + 2, none⟩ = some (.slice p.1.b p.1.m p.1.d) ∧ W.cell? ⟨b, off + j * 6 + 3, none⟩ = some (.bool p.2.s) ∧ W.cell? ⟨b, off + j * 6 + 4, none⟩ = some (.slice p.2.a p.2.l p.2.c) ∧ W.cell? ⟨b, off + j * 6 + 5, none⟩ = some (.slice p.2.b p.2.m p.2.d))) (by kernel_rfl) ⟨V3.d0, V3.d1, V3.d2, hd.va.cell, hc.c0, hc.c1, hc.c2, hc.c3, hc.c4, hc.c5⟩ (fun hHeld => ?_)
  (obtain ⟨x3, hxd⟩ : ∃ xd, xd = x2.drew := ⟨_, rfl⟩); rw [← hxd] at V3 V4 hd hr hc hS B0 hHeld ⊢; clear hxd; refine tjz 0 hHeld ?_; refine tjz 1 hHeld ?_; refine tjz 2 hHeld ?_; refine tjz 3 hHeld ?_; refine tjz 4 hHeld ?_; refine tjz 5 hHeld ?_; refine ryz 6 (fun K hK => ?_); simp only [gA, gB, gC]; (go_simp); refine (begun8_any g b off n c xs l r v _ hd hr).mono ?_; rintro e x4 ⟨k', rfl, hk', hb⟩; replace V3 := V3.a hb; replace V4 := V4.a hb; replace hd := Sd.after hb hd; replace hr := Rv.after hb hr; replace hc := At6.after hb hc; replace hS := Rv.after hb hS
  replace B0 := step B0 hb; clear hb; (have e2 : (k' : Int) - 1 = (j : Int) := by have := hk'.out.uniq HK.out; omega); clear hk'; (try go_wp2_with fail); refine hK.out _ _ ⟨V3.d0, V3.d1, V3.d2, hd.va.cell, hc.c0, hc.c1, hc.c2, hc.c3, hc.c4, hc.c5⟩ (fun hHeld => ?_); clear hK K; refine tuz 7 (.int .i64 (j : Int)) rfl (Or.inl ⟨by rfl, ?_⟩) hHeld ?_
  · (intro W hSw; (try dsimp only at hSw); go_simp; (simp only [IntKind.wrap_i64]; omega))
  simp only [gA, gB, gC, Act.put, gD, gE, gF]; refine tjz 8 hHeld ?_; refine tjz 9 hHeld ?_; refine tjz 10 hHeld ?_; obtain ⟨c_V4, f0_V4, d_V4, f1_V4, e_V4, f2_V4, l_V4, m_V4⟩ := V4.q3; refine ryz 11 (fun K hK => ?_); simp only [gA, gB, gC]; (go_simp); clear c_V4 f0_V4 d_V4 f1_V4 e_V4 f2_V4 l_V4 m_V4; refine sto3 V4 (.bool p.2.s) (.slice p.2.a p.2.l p.2.c) (.slice p.2.b p.2.m p.2.d) (Q := fun W => K _ W) ?_; intro x5 V' oth far; replace V3 := apz (oth _ _ _) V3; replace hr := hr.far V4 (noInt3 _ _ _ _ _ _ _) far.1; replace hS := hS.far V4 (noInt3 _ _ _ _ _ _ _) far.1
  replace B0 := apz (far.2 _ _) B0; replace hd := hd.far V4 (noInt3 _ _ _ _ _ _ _) far.1 (by omega) (by omega); replace hc := hc.far far.1 (by omega); replace V4 := V'; clear oth far; refine hK.out _ _ ⟨V3.d0, V3.d1, V3.d2, hd.va.cell, hc.c0, hc.c1, hc.c2, hc.c3, hc.c4, hc.c5⟩ (fun hHeld => ?_); clear hK K; refine tjz 12 hHeld ?_; refine dnz ?_; clear hHeld; (go_wp2_with fail); refine bodyPost_ret (results_rt rfl rfl V4) rfl ?_; exact ⟨p.2, rfl, hS, B0⟩
end Go.Proofs.YtenmkbofpmbedaaGreatDoor
namespace Go.Proofs.YtenmkbofpmbedaaGreatDoor
open Go.RowKit Go.Shelf
set_option linter.unusedVariables false
set_option maxRecDepth 20000

abbrev pz : Pc := (Rc.nil, Rc.nil)
def Lg (p : Pc) : Prop := 3 < max (p.1.l : Int) (p.1.m : Int) ∨ 3 < max (p.2.l : Int) (p.2.m : Int)
def Vals (ps : List Pc) (l : List Pq) (k : Nat) : Prop := l.length = k ∧ ∀ i, i < k → Nm (ps.getD i pz).1 (aq l i) ∧ Nm (ps.getD i pz).2 (rq l i)
theorem Nm.uniq {r : Rc} {x y : Rat} (h1 : Nm r x) (h2 : Nm r y) : x = y := by
  obtain ⟨-, a1, a2⟩ := h1
  obtain ⟨-, b1, b2⟩ := h2
  have e : (x.den : Int) = y.den := by rw [← a2, ← b2]
  exact Rat.ext (by rw [← a1, ← b1]) (by omega)
theorem aq_app {l : List Pq} {i : Nat} (p : Pq) (h : i < l.length) : aq (l ++ [p]) i = aq l i := by
  unfold aq; rw [List.getD_eq_getElem?_getD, List.getElem?_append_left h, ← List.getD_eq_getElem?_getD]
theorem rq_app {l : List Pq} {i : Nat} (p : Pq) (h : i < l.length) : rq (l ++ [p]) i = rq l i := by
  unfold rq; rw [List.getD_eq_getElem?_getD, List.getElem?_append_left h, ← List.getD_eq_getElem?_getD]
theorem aq_last (l : List Pq) (p : Pq) : aq (l ++ [p]) l.length = p.1 := by
  unfold aq; rw [List.getD_eq_getElem?_getD, List.getElem?_append_right (Nat.le_refl _)]; simp
theorem rq_last (l : List Pq) (p : Pq) : rq (l ++ [p]) l.length = p.2 := by
  unfold rq; rw [List.getD_eq_getElem?_getD, List.getElem?_append_right (Nat.le_refl _)]; simp
theorem Vals.snoc {ps : List Pc} {l : List Pq} {k : Nat} (h : Vals ps l k) {x y : Rat} (h1 : Nm (ps.getD k pz).1 x) (h2 : Nm (ps.getD k pz).2 y) : Vals ps (l ++ [(x, y)]) (k + 1) := by
  refine ⟨by rw [List.length_append, h.1]; rfl, fun i hi => ?_⟩
  have hl := h.1
  by_cases e : i = k
  · rw [e, ← hl, aq_last, rq_last, hl]; exact ⟨h1, h2⟩
  · rw [aq_app _ (by omega), rq_app _ (by omega)]; exact h.2 i (by omega)
theorem Vals.val {ps : List Pc} {l l' : List Pq} {k n i : Nat} (h : Vals ps l k) (h' : Vals ps l' n) (hi : i < k) (hn : i < n) : aq l i = aq l' i ∧ rq l i = rq l' i :=
  ⟨(h.2 i hi).1.uniq (h'.2 i hn).1, (h.2 i hi).2.uniq (h'.2 i hn).2⟩
theorem ck_congr {ps : List Pc} {l l' : List Pq} {n i : Nat} (h : Vals ps l n) (h' : Vals ps l' n) (hi : i < n) (hc : Ck l' i) : Ck l i := by
  obtain ⟨e1, e2⟩ := h.val h' hi hi
  refine ⟨fun h0 => ?_, fun h0 => ?_, by rw [e2]; exact hc.r0, by rw [e2]; exact hc.r1⟩
  · subst h0; rw [e1]; exact hc.z rfl
  · obtain ⟨e3, -⟩ := h.val h' (i := i - 1) (by omega) (by omega)
    rw [e1, e3]; exact hc.u h0
theorem Sht.snoc {l : List Pq} (h : Sht l) {x y : Rat} (h1 : Sz 3 x) (h2 : Sz 3 y) : Sht (l ++ [(x, y)]) := by
  intro i hi
  rw [List.length_append] at hi
  by_cases e : i = l.length
  · rw [e, aq_last, rq_last]; exact ⟨h1, h2⟩
  · have : i < l.length := by simp at hi; omega
    rw [aq_app _ this, rq_app _ this]; exact h i this
def OfE (ps : List Pc) (n : Nat) (er : Int) : Prop :=
  (er = 180 ∧ ¬ (1 ≤ n ∧ n ≤ 8)) ∨ (er = 3 ∧ (1 ≤ n ∧ n ≤ 8) ∧ ∃ i, i < n ∧ Lg (ps.getD i pz)) ∨
  (er = 180 ∧ (1 ≤ n ∧ n ≤ 8) ∧ (∀ i, i < n → ¬ Lg (ps.getD i pz)) ∧ ¬ ∃ l, Vals ps l n ∧ Sok l)
def Sf (w : World) (xs : List Pc) (l : List Pq) (k : Nat) : Prop := ∀ i, i < k → Rv w (xs.getD i pz).1 (aq l i) ∧ Rv w (xs.getD i pz).2 (rq l i)
theorem Sf.after {w w' : World} (hb : Below w.heap.size w w') {xs : List Pc} {l : List Pq} {k : Nat} (h : Sf w xs l k) : Sf w' xs l k := fun i hi => ⟨(h i hi).1.after hb, (h i hi).2.after hb⟩
theorem Sf.drw {w : World} {xs : List Pc} {l : List Pq} {k : Nat} (h : Sf w xs l k) : Sf w.drew xs l k := h
theorem Sf.put {w w' : World} {xs : List Pc} {l : List Pq} {k g : Nat} {p : Pc} {x y : Rat} (h : Sf w xs l k) (hl : l.length = k) (hb : Bk elT w g xs) (hk : k < xs.length) (h1 : Rv w p.1 x) (h2 : Rv w p.2 y) (hf : ∀ c, c ≠ g → w'.heap[c]? = w.heap[c]?) : Sf w' (xs.set k p) (l ++ [(x, y)]) (k + 1) := by
  intro i hi
  rw [getD_set _ _ _ _ _ hk]
  by_cases e : i = k
  · subst e
    rw [if_pos rfl]
    have e1 : aq (l ++ [(x, y)]) i = x := by rw [← hl, aq_last]
    have e2 : rq (l ++ [(x, y)]) i = y := by rw [← hl, rq_last]
    rw [e1, e2]
    exact ⟨h1.far hb (row_noInt rfl _) hf, h2.far hb (row_noInt rfl _) hf⟩
  · rw [if_neg e, aq_app _ (by omega), rq_app _ (by omega)]
    have := h i (by omega)
    exact ⟨this.1.far hb (row_noInt rfl _) hf, this.2.far hb (row_noInt rfl _) hf⟩
def Rp (w : World) (ps : List Pc) (n : Nat) : Prop := ∀ i, i < n → Rd2 w (ps.getD i pz).1 ∧ Rd2 w (ps.getD i pz).2
theorem Rp.after {w w' : World} (hb : Below w.heap.size w w') {ps : List Pc} {n : Nat} (h : Rp w ps n) : Rp w' ps n := fun i hi => ⟨(h i hi).1.after hb, (h i hi).2.after hb⟩
def OfR (w : World) (p r : Rc) (er : Int) : Prop := (er = 0 ∧ ∃ v, Nm p v ∧ Sz 3 v ∧ Rv w r v) ∨ (er ≠ 0 ∧ ∀ v, ¬ Nm p v)
theorem OfR.after {w w' : World} (hb : Below w.heap.size w w') {p r : Rc} {er : Int} (h : OfR w p r er) : OfR w' p r er := by
  rcases h with ⟨h0, v, h1, h2, h3⟩ | h
  · exact .inl ⟨h0, v, h1, h2, h3.after hb⟩
  · exact .inr h
theorem of_any (p : Rc) (w : World) (h : Rd2 w p) (hl : ¬ 3 < max (p.l : Int) (p.m : Int)) :
    Calls Tryz.prog 41 #[.agg #[.bool p.s, .slice p.a p.l p.c, .slice p.b p.m p.d]] w fun e w' => ∃ (r : Rc) (er : Int), e = .returned (.tuple #[.agg #[.bool r.s, .slice r.a r.l r.c, .slice r.b r.m r.d], .int .i64 er]) ∧ OfR w' p r er ∧ Below w.heap.size w w' := by
  by_cases hN : Norm p.s p.z p.y
  · obtain ⟨v, e1, e2, e3⟩ := norm_rat h.1.2.1 h.2.1.2.1 hN
    refine (of_rc p v w h (by omega) (by omega) ⟨hN, e1, e2⟩).mono ?_
    rintro e w' ⟨r, rfl, hr, hb⟩
    exact ⟨r, 0, rfl, .inl ⟨rfl, v, ⟨hN, e1, e2⟩, sz_of h.1 h.2.1 (by omega) (by omega) e1 e2, hr⟩, hb⟩
  · refine (of_bad_rc p w h (by omega) (by omega) hN).mono ?_
    rintro e w' ⟨rfl, hb⟩
    exact ⟨Rc.nil, 50, rfl, .inr ⟨by decide, fun v hv => hN hv.1⟩, hb⟩
structure Stp (w : World) (B : Nat) (a : Option Addr) (n' c' : Nat) (ps : List Pc) (n : Nat) : Prop where
  ex : ∃ (g : Nat) (xs : List Pc) (l : List Pq), a = some ⟨g, 0, none⟩ ∧ n' = n ∧ c' = n ∧ B ≤ g ∧ xs.length = n ∧ Bk elT w g xs ∧ Sf w xs l n ∧ Vals ps l n ∧ Sok l ∧ Sht l
set_option maxHeartbeats 16000000 in
theorem ofPieces_any (a : Option Addr) (n c : Nat) (ps : List Pc) (w : World) (hL : Le elP w a n ps) (hR : Rp w ps n) :
    Calls Tryz.prog 55 #[.slice a n c] w fun e w' => ∃ (a' : Option Addr) (n' c' : Nat) (er : Int), e = .returned (.tuple #[.slice a' n' c', .int .i64 er]) ∧ Hid ((er = 0 ∧ Stp w' w.heap.size a' n' c' ps n) ∨ (er ≠ 0 ∧ OfE ps n er)) ∧ Below w.heap.size w w' := by
  have HL : Hid (Le elP w a n ps) := hL
  have HR : Hid (Rp w ps n) := hR
  clear hL hR
  by_cases hn : 1 ≤ n ∧ n ≤ 8
  · have HN : Hid (1 ≤ n ∧ n ≤ 8) := hn
    have hb0 : decide ((1 : Int) ≤ (n : Int) ∧ (n : Int) ≤ 8) = true := by rw [decide_eq_true_iff]; omega
    obtain ⟨lb, lo, rfl⟩ := HL.out.ex hn.1
    clear hn
    go_enter Tryz.func55, Tryz.ntmps55
    go_wp2_with fail
    refine (isCount_any (n : Int) w).mono ?_
    rintro e wz ⟨rfl, hw⟩
    rw [hw, hb0]
    clear hw wz
    go_wp2_with fail
    go_loopw [19] (fun i wr => ∃ k : Nat, k ≤ n ∧ i = .int .i64 k ∧ Hid (∀ j, j < k → ¬ Lg (ps.getD j pz)) ∧ Hid (Below w.heap.size w wr)) (fun i _ => n - (intOf i).toNat)
    case atStart => exact ⟨0, Nat.zero_le _, rfl, fun j hj => absurd hj (by omega), Below.refl _ _⟩
    case round =>
      obtain ⟨k, hk, rfl, HO, HW⟩ := hrel
      have h8 := HN.out.2
      by_cases hlt : k < n
      ·
        have B0 := HW.out
        have hc : At6 wr lb (lo + k * 6) (ps.getD k pz) := (HL.out.after B0).six rfl rfl k hlt
        obtain ⟨p, hp⟩ : ∃ p, ps.getD k pz = p := ⟨_, rfl⟩
        rw [hp] at hc
        have HP : Hid (ps.getD k pz = p) := hp
        clear hp
        obtain ⟨c0, c1, c2, c3, c4, c5⟩ := hc
        have lb0 := cell_lt c0
        go_wp2_with fail
        refine ent1 wr _ _ (Q := fun W => Calls Tryz.prog _ _ W _) ?_
        intro x6 hb hs_x6 V6
        replace B0 := step B0 hb
        clear hb hs_x6
        clear c0 c1 c2 c3 c4 c5 lb0
        refine (isLong_any p.1 _).mono ?_
        rintro e x7 ⟨rfl, hb⟩
        replace V6 := V6.a hb
        replace B0 := step B0 hb
        clear hb
        by_cases g1 : 3 < max (p.1.l : Int) (p.1.m : Int)
        ·
          rw [decide_eq_true g1]
          go_wp2_with fail
          go_ret2
          exact ⟨none, 0, 0, 3, rfl, .inr ⟨by decide, .inr (.inl ⟨rfl, HN.out, k, hlt, by rw [HP.out]; exact .inl g1⟩)⟩, B0⟩
        ·
          rw [decide_eq_false g1]
          have c_V6 := V6.e0
          have f0_V6 := V6.frozen 0
          have d_V6 := V6.e1
          have f1_V6 := V6.frozen 1
          have e_V6 := V6.e2
          have f2_V6 := V6.frozen 2
          have j_V6 := V6.e3
          have f3_V6 := V6.frozen 3
          have k_V6 := V6.e4
          have f4_V6 := V6.frozen 4
          have z_V6 := V6.e5
          have f5_V6 := V6.frozen 5
          have l_V6 := V6.lt
          have m_V6 := Nat.le_of_lt l_V6
          go_wp2_with fail
          refine (isLong_any p.2 _).mono ?_
          rintro e x8 ⟨rfl, hb⟩
          replace V6 := V6.a hb
          replace B0 := step B0 hb
          clear hb
          clear c_V6 f0_V6 d_V6 f1_V6 e_V6 f2_V6 j_V6 f3_V6 k_V6 f4_V6 z_V6 f5_V6 l_V6 m_V6
          by_cases g2 : 3 < max (p.2.l : Int) (p.2.m : Int)
          ·
            rw [decide_eq_true g2]
            go_wp2_with fail
            go_ret2
            exact ⟨none, 0, 0, 3, rfl, .inr ⟨by decide, .inr (.inl ⟨rfl, HN.out, k, hlt, by rw [HP.out]; exact .inr g2⟩)⟩, B0⟩
          ·
            rw [decide_eq_false g2]
            have HK : Hid (¬ Lg (ps.getD k pz)) := by rw [HP.out]; exact fun h => h.elim (fun h' => by omega) (fun h' => by omega)
            go_wp2_with fail
            go_roundw
            case measure => simp [intOf]; omega
            case rel =>
              refine ⟨k + 1, by omega, by go_num, fun j hj => ?_, B0⟩
              rcases Nat.lt_or_ge j k with h' | h'
              · exact HO.out j h'
              · obtain rfl : j = k := by omega
                exact HK.out
      ·
        obtain rfl : k = n := by omega
        obtain ⟨w2, rfl⟩ : ∃ w2, w2 = wr := ⟨_, rfl⟩
        have HBW := HW
        have HON := HO
        clear HW HO
        obtain ⟨w1, hmk, hG, hb1, hs1⟩ := make_T k HN.out.2 w2
        have HG : Hid (Bk elT w1 w2.heap.size (List.replicate k (Rc.nil, Rc.nil))) := hG
        have HB1 : Hid (Below w2.heap.size w2 w1) := hb1
        clear hG hb1 hs1
        go_wp2_with fail
        clear hmk
        go_loopw [37] (fun i wr => ∃ (j : Nat) (xs : List Pc) (l : List Pq), j ≤ k ∧ i = .int .i64 j ∧ xs.length = k ∧ Hid (Bk elT wr w2.heap.size xs) ∧ Hid (Sf wr xs l j) ∧ Hid (Vals ps l j) ∧ Hid (Sht l) ∧ Hid (Below w2.heap.size w2 wr)) (fun i _ => k - (intOf i).toNat)
        case atStart => exact ⟨0, _, [], Nat.zero_le _, rfl, List.length_replicate, HG.out, fun j hj => absurd hj (by omega), ⟨rfl, fun j hj => absurd hj (by omega)⟩, fun j hj => absurd hj (by simp), HB1.out⟩
        case round =>
          clear HG HB1
          obtain ⟨j, xs, l, hj, rfl, hxl, HG, HF, HV, HT, HQ⟩ := hrel
          have hww := HBW.out.size
          by_cases hlt : j < k
          ·
            have B0 := HQ.out
            have hG := HG.out
            have hF := HF.out
            have flt := HG.out.lt
            have hc : At6 wr lb (lo + j * 6) (ps.getD j pz) := ((HL.out.after HBW.out).after B0).six rfl rfl j hlt
            have hR2 := ((HR.out.after HBW.out).after B0) j hlt
            have hNL := HON.out j hlt
            obtain ⟨p, hp⟩ : ∃ p, ps.getD j pz = p := ⟨_, rfl⟩
            rw [hp] at hc hR2 hNL
            have HP : Hid (ps.getD j pz = p) := hp
            clear hp
            obtain ⟨hr1, hr2⟩ := hR2
            have HNL : Hid (¬ Lg p) := hNL
            clear hNL
            obtain ⟨c0, c1, c2, c3, c4, c5⟩ := hc
            have lb0 := cell_lt c0
            go_wp2_with fail
            refine ent1 wr _ _ (Q := fun W => Calls Tryz.prog _ _ W _) ?_
            intro x21 hb hs_x21 V8
            replace hG := Bk.after hb hG
            replace hF := Sf.after hb hF
            replace hr1 := Rd2.after hb hr1
            replace hr2 := Rd2.after hb hr2
            replace B0 := step B0 hb
            clear hb hs_x21
            clear c0 c1 c2 c3 c4 c5 lb0
            refine (of_any p.1 _ hr1 (fun h => HNL.out (.inl h))).mono ?_
            rintro e x22 ⟨r1, e1, rfl, ho1, hb⟩
            replace V8 := V8.a hb
            replace hG := Bk.after hb hG
            replace hF := Sf.after hb hF
            replace hr1 := Rd2.after hb hr1
            replace hr2 := Rd2.after hb hr2
            replace B0 := step B0 hb
            clear hb
            have c_V8 := V8.e0
            have f0_V8 := V8.frozen 0
            have d_V8 := V8.e1
            have f1_V8 := V8.frozen 1
            have e_V8 := V8.e2
            have f2_V8 := V8.frozen 2
            have j_V8 := V8.e3
            have f3_V8 := V8.frozen 3
            have k_V8 := V8.e4
            have f4_V8 := V8.frozen 4
            have z_V8 := V8.e5
            have f5_V8 := V8.frozen 5
            have l_V8 := V8.lt
            have m_V8 := Nat.le_of_lt l_V8
            go_wp2_with fail
            refine ent1 x22 _ _ (Q := fun W => Calls Tryz.prog _ _ W _) ?_
            intro x23 hb hs_x23 V9
            replace V8 := V8.a hb
            replace hG := Bk.after hb hG
            replace hF := Sf.after hb hF
            replace hr1 := Rd2.after hb hr1
            replace hr2 := Rd2.after hb hr2
            replace ho1 := OfR.after hb ho1
            replace B0 := step B0 hb
            clear hb hs_x23
            clear c_V8 f0_V8 d_V8 f1_V8 e_V8 f2_V8 j_V8 f3_V8 k_V8 f4_V8 z_V8 f5_V8 l_V8 m_V8
            refine (of_any p.2 _ hr2 (fun h => HNL.out (.inr h))).mono ?_
            rintro e x24 ⟨r2, e2, rfl, ho2, hb⟩
            replace V8 := V8.a hb
            replace V9 := V9.a hb
            replace hG := Bk.after hb hG
            replace hF := Sf.after hb hF
            replace hr1 := Rd2.after hb hr1
            replace hr2 := Rd2.after hb hr2
            replace ho1 := OfR.after hb ho1
            replace B0 := step B0 hb
            clear hb
            by_cases z1 : e1 = 0
            ·
              have z1' : (e1 != 0) = false := by simp [z1]
              by_cases z2 : e2 = 0
              ·
                have z2' : (e2 != 0) = false := by simp [z2]
                obtain ⟨x, hx, sx, vx⟩ : ∃ v, Nm p.1 v ∧ Sz 3 v ∧ Rv x24 r1 v := Or.elim ho1 (fun h => h.2) (fun h => absurd z1 h.1)
                obtain ⟨y, hy, sy, vy⟩ : ∃ v, Nm p.2 v ∧ Sz 3 v ∧ Rv x24 r2 v := Or.elim ho2 (fun h => h.2) (fun h => absurd z2 h.1)
                clear ho1 ho2
                clear hr1 hr2
                have HNX : Hid (Vals ps (l ++ [(x, y)]) (j + 1)) := HV.out.snoc (by rw [HP.out]; exact hx) (by rw [HP.out]; exact hy)
                have HSX : Hid (Sht (l ++ [(x, y)])) := HT.out.snoc sx sy
                clear hx hy sx sy
                have lg := hG.lt
                have lg2 := Nat.ne_of_lt lg
                obtain ⟨b0, b1, b2, b3, b4, b5⟩ := hG.at6 rfl rfl j (by omega)
                have fr0 := hG.frozen (j * 6)
                have fr1 := hG.frozen (j * 6 + 1)
                have fr2 := hG.frozen (j * 6 + 2)
                have fr3 := hG.frozen (j * 6 + 3)
                have fr4 := hG.frozen (j * 6 + 4)
                have fr5 := hG.frozen (j * 6 + 5)
                have hGa : Bk elT (x24.alloc (.cells #[.bool r2.s, .slice r2.a r2.l r2.c, .slice r2.b r2.m r2.d] 36)) w2.heap.size xs := Va.old hG _
                obtain ⟨d0, d1, d2, d3, d4, d5⟩ := hGa.at6 rfl rfl j (by omega)
                have ga0 := hGa.frozen (j * 6)
                have ga1 := hGa.frozen (j * 6 + 1)
                have ga2 := hGa.frozen (j * 6 + 2)
                have ga3 := hGa.frozen (j * 6 + 3)
                have ga4 := hGa.frozen (j * 6 + 4)
                have ga5 := hGa.frozen (j * 6 + 5)
                have c_V9 := V9.d0
                have f0_V9 := V9.frozen 0
                have d_V9 := V9.d1
                have f1_V9 := V9.frozen 1
                have e_V9 := V9.d2
                have f2_V9 := V9.frozen 2
                have l_V9 := V9.lt
                have m_V9 := Nat.le_of_lt l_V9
                have p0_V9 := (V9.old (.cells #[.bool r2.s, .slice r2.a r2.l r2.c, .slice r2.b r2.m r2.d] 36)).d0
                have q0_V9 := (V9.old (.cells #[.bool r2.s, .slice r2.a r2.l r2.c, .slice r2.b r2.m r2.d] 36)).frozen 0
                have p1_V9 := (V9.old (.cells #[.bool r2.s, .slice r2.a r2.l r2.c, .slice r2.b r2.m r2.d] 36)).d1
                have q1_V9 := (V9.old (.cells #[.bool r2.s, .slice r2.a r2.l r2.c, .slice r2.b r2.m r2.d] 36)).frozen 1
                have p2_V9 := (V9.old (.cells #[.bool r2.s, .slice r2.a r2.l r2.c, .slice r2.b r2.m r2.d] 36)).d2
                have q2_V9 := (V9.old (.cells #[.bool r2.s, .slice r2.a r2.l r2.c, .slice r2.b r2.m r2.d] 36)).frozen 2
                go_wp2_with fail
                go_roundw
                case measure => simp [intOf]; omega
                case rel =>
                  have AL : ∀ W o, Below W.heap.size W (W.alloc o) := fun W o => (Below.refl _ _).alloc (Nat.le_refl _) _
                  have PB := put6_below B0 (Nat.le_refl _) j (r1, r2)
                  exact ⟨j + 1, xs.set j (r1, r2), l ++ [(x, y)], by omega, by go_num, by rw [List.length_set]; exact hxl, (hG.put6 rfl rfl (by omega) (r1, r2)).after (AL _ _), (hF.put HV.out.1 hG (by omega) vx vy (put6_other _ _ _ (r1, r2))).after (AL _ _), HNX.out, HSX.out, PB.alloc PB.size _⟩
              ·
                have z2' : (e2 != 0) = true := by simp [z2]
                have z2'' : (e2 == 0) = false := by simp [z2]
                go_wp2_with fail
                have HBAD : Hid (∀ l', Vals ps l' k → False) := fun l' hv => by
                  have h' := hv.2 j hlt
                  rw [HP.out] at h'
                  rcases ho2 with ⟨h0, -⟩ | ⟨-, h0⟩
                  · exact z2 h0
                  · exact h0 _ h'.2
                go_ret2
                exact ⟨none, 0, 0, 180, rfl, .inr ⟨by decide, .inr (.inr ⟨rfl, HN.out, HON.out, fun ⟨l', hv, _⟩ => HBAD.out l' hv⟩)⟩, HBW.out.trans ((B0.alloc (by have := B0.size; omega) _).mono hww)⟩
            ·
              have z1' : (e1 != 0) = true := by simp [z1]
              have z1'' : (e1 == 0) = false := by simp [z1]
              go_wp2_with fail
              have HBAD : Hid (∀ l', Vals ps l' k → False) := fun l' hv => by
                have h' := hv.2 j hlt
                rw [HP.out] at h'
                rcases ho1 with ⟨h0, -⟩ | ⟨-, h0⟩
                · exact z1 h0
                · exact h0 _ h'.1
              go_ret2
              exact ⟨none, 0, 0, 180, rfl, .inr ⟨by decide, .inr (.inr ⟨rfl, HN.out, HON.out, fun ⟨l', hv, _⟩ => HBAD.out l' hv⟩)⟩, HBW.out.trans ((B0.alloc (by have := B0.size; omega) _).mono hww)⟩
          ·
            obtain rfl : j = k := by omega
            have hL2 : Le elT wr (some ⟨w2.heap.size, 0, none⟩) j xs := by have := HG.out.le; rwa [hxl] at this
            have hS2 : Ss wr xs l := ⟨by rw [hxl, HV.out.1], fun i hi => HF.out i (by rw [← HV.out.1]; exact hi)⟩
            go_wp2_with fail
            refine (check_any w2.heap.size 0 j j xs l wr hL2 hS2 HV.out.1 HN.out.2).mono ?_
            rintro e wz ⟨er, rfl, hck, hb⟩
            clear hL2 hS2
            go_wp2_with fail
            go_ret2
            refine ⟨_, _, _, er, rfl, ?_, HBW.out.trans ((step HQ.out hb).mono hww)⟩
            rcases hck.out with ⟨h0, hk⟩ | ⟨h0, hk⟩
            · exact .inl ⟨h0, ⟨w2.heap.size, xs, l, rfl, rfl, rfl, hww, hxl, HG.out.after hb, HF.out.after hb, HV.out, Sok.of (by rw [HV.out.1]; exact HN.out.1) (by rw [HV.out.1]; exact HN.out.2) (by rw [HV.out.1]; exact hk), HT.out⟩⟩
            · refine .inr ⟨by omega, .inr (.inr ⟨h0, HN.out, HON.out, fun ⟨l', hv, ho⟩ => hk (fun i hi => ?_)⟩)⟩
              have := ho.ck (j := i) (by rw [hv.1]; exact hi)
              exact ck_congr HV.out hv hi this
  · have hb0 : decide ((1 : Int) ≤ (n : Int) ∧ (n : Int) ≤ 8) = false := by rw [decide_eq_false_iff_not]; omega
    have HN : Hid (¬ (1 ≤ n ∧ n ≤ 8)) := hn
    clear hn
    go_enter Tryz.func55, Tryz.ntmps55
    go_wp2_with fail
    refine (isCount_any (n : Int) w).mono ?_
    rintro e wz ⟨rfl, hw⟩
    rw [hw, hb0]
    clear hw wz
    go_wp2_with fail
    go_ret2
    exact ⟨none, 0, 0, 180, rfl, .inr ⟨by decide, .inl ⟨rfl, HN.out⟩⟩, Below.refl _ _⟩
end Go.Proofs.YtenmkbofpmbedaaGreatDoor
namespace Go.Proofs.YtenmkbofpmbedaaGreatDoor
open Go.RowKit Go.Shelf
set_option linter.unusedVariables false

end Go.Proofs.YtenmkbofpmbedaaGreatDoor
