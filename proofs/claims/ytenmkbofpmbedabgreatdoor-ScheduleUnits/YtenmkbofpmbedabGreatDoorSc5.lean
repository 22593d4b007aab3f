import Derived.Test.YtenmkbofpmbedabGreatDoorMgAa
import Derived.Test.YtenmkbofpmbedabGreatDoorMgAk
namespace Go.Proofs.YtenmkbofpmbedabGreatDoor
open Go.RowKit Go.Shelf
set_option linter.unusedVariables false
set_option maxRecDepth 20000

structure Sd (w : World) (g b off n c : Nat) (xs : List Pc) (l : List Pq) : Prop where
  va : Va w g 68 #[.slice (some ⟨b, off, none⟩) n c]
  le : Le elT w (some ⟨b, off, none⟩) n xs
  ss : Ss w xs l
  ln : l.length = n
  ok : Sok l
  sh : Sht l
  lc : n ≤ c
theorem Sd.after {w w' : World} (hb : Below w.heap.size w w') {g b off n c : Nat} {xs : List Pc} {l : List Pq} (h : Sd w g b off n c xs l) : Sd w' g b off n c xs l := ⟨Va.after hb h.va, h.le.after hb, h.ss.after hb, h.ln, h.ok, h.sh, h.lc⟩
theorem Sd.drw {w : World} {g b off n c : Nat} {xs : List Pc} {l : List Pq} (h : Sd w g b off n c xs l) : Sd w.drew g b off n c xs l := ⟨h.va, h.le, h.ss, h.ln, h.ok, h.sh, h.lc⟩
theorem Sd.far {w : World} {g b off n c : Nat} {xs : List Pc} {l : List Pq} (h : Sd w g b off n c xs l) {b' : Nat} {t : TypeId} {cs : Array Value} (V : Va w b' t cs) (hn : NoInt cs) {w' : World} (k : ∀ c, c ≠ b' → w'.heap[c]? = w.heap[c]?) (h1 : g ≠ b') (h2 : b ≠ b') : Sd w' g b off n c xs l :=
  ⟨h.va.stay k h1, h.le.kept (fun _ c o e _ => by cases e; exact k b h2), ⟨h.ss.1, fun i hi => ⟨(h.ss.2 i hi).1.far V hn k, (h.ss.2 i hi).2.far V hn k⟩⟩, h.ln, h.ok, h.sh, h.lc⟩
theorem Sd.few {w : World} {g b off n c : Nat} {xs : List Pc} {l : List Pq} (h : Sd w g b off n c xs l) : 1 ≤ n ∧ n ≤ 8 := by have := h.ok.one; have := h.ok.few; have := h.ln; omega
theorem Sd.lts {w : World} {g b off n c : Nat} {xs : List Pc} {l : List Pq} (h : Sd w g b off n c xs l) : g < w.heap.size ∧ b < w.heap.size := ⟨h.va.lt, h.le.lt h.few.1⟩
theorem isSch_yes (g b off n c : Nat) (w : World) (h : Va w g 68 #[.slice (some ⟨b, off, none⟩) n c]) (hn : 1 ≤ n) : Calls Tryz.prog 36 #[.pointer (some ⟨g, 0, none⟩)] w fun e w' => e = .returned (.bool true) ∧ w' = w := by
  have c0 := h.cell
  have hd : (0 : Int) < (n : Int) := by omega
  clear h
  go_enter Tryz.func36, Tryz.ntmps36
  go_wp2_with fail
  go_ret
  exact ⟨by simp <;> omega, rfl⟩
set_option maxHeartbeats 8000000 in
theorem begun8_any (g b off n c : Nat) (xs : List Pc) (l : List Pq) (r : Rc) (v : Rat) (w : World) (hd : Sd w g b off n c xs l) (hr : Rv w r v) :
    Calls Tryz.prog 40 #[.pointer (some ⟨g, 0, none⟩), .agg #[.bool r.s, .slice r.a r.l r.c, .slice r.b r.m r.d]] w fun e w' => ∃ k : Nat, e = .returned (.int .i64 (k : Int)) ∧ Hid (Bg l v k) ∧ Below w.heap.size w w' := by
  have B0 : Below w.heap.size w w := Below.refl _ _
  have c0 := hd.va.cell
  have lg := hd.va.lt
  go_enter Tryz.func40, Tryz.ntmps40
  go_wp2_with fail
  refine ent1 w _ _ (Q := fun W => Code.wp Tryz.prog _ _ _ W) ?_
  intro x1 hb hs_x1 V3
  replace hd := Sd.after hb hd
  replace hr := Rv.after hb hr
  replace B0 := step B0 hb
  clear hb hs_x1
  have HD : Hid (Sd x1 g b off n c xs l) := hd
  have HR : Hid (Rv x1 r v) := hr
  have HV3 : Hid (Va x1 (w.heap.size) 32 #[.bool r.s, .slice r.a r.l r.c, .slice r.b r.m r.d]) := V3
  have HB : Hid (Below w.heap.size w x1) := B0
  clear hd hr V3 B0 c0 lg
  go_loopw [12] (fun i wr => ∃ k : Nat, k ≤ n ∧ i = .int .i64 k ∧ Hid (∀ j, j < k → aq l j ≤ v) ∧ Hid (Below x1.heap.size x1 wr)) (fun i _ => n - (intOf i).toNat)
  case atStart => exact ⟨0, Nat.zero_le _, rfl, fun j hj => absurd hj (by omega), Below.refl _ _⟩
  case round =>
    obtain ⟨k, hk, rfl, HO, HW⟩ := hrel
    have hln := HD.out.ln
    have h8 := HD.out.few.2
    by_cases hlt : k < n
    ·
      have B0 := HW.out
      have V3 := Va.after B0 HV3.out
      have hr := HR.out.after B0
      have hD := HD.out.after B0
      have hS := (hD.ss.2 k (by rw [hln]; exact hlt)).1
      have hc : At6 wr b (off + k * 6) (xs.getD k (Rc.nil, Rc.nil)) := hD.le.six rfl rfl k hlt
      clear hD
      obtain ⟨x, hx⟩ : ∃ x, aq l k = x := ⟨_, rfl⟩
      rw [hx] at hS
      have HX : Hid (aq l k = x) := hx
      clear hx
      generalize xs.getD k (Rc.nil, Rc.nil) = p at hc hS
      obtain ⟨cx, hcx⟩ : ∃ s, qcmp x v = s := ⟨_, rfl⟩
      have HCX : Hid (0 < cx ↔ v < x) := by have := cmp_gt x v; rw [hcx] at this; exact this
      obtain ⟨c0, c1, c2, c3, c4, c5⟩ := hc
      have lb := cell_lt c0
      have c_V3 := V3.d0
      have f0_V3 := V3.frozen 0
      have d_V3 := V3.d1
      have f1_V3 := V3.frozen 1
      have e_V3 := V3.d2
      have f2_V3 := V3.frozen 2
      have l_V3 := V3.lt
      have m_V3 := Nat.le_of_lt l_V3
      go_wp2_with fail
      clear c_V3 f0_V3 d_V3 f1_V3 e_V3 f2_V3 l_V3 m_V3
      refine ent1 wr _ _ (Q := fun W => Calls Tryz.prog _ _ W _) ?_
      intro x6 hb hs_x6 V6
      replace V3 := V3.a hb
      replace hr := Rv.after hb hr
      replace hS := Rv.after hb hS
      replace B0 := step B0 hb
      clear hb hs_x6
      clear c0 c1 c2 c3 c4 c5 lb
      refine (cmp_rc p.1 r x v _ hS hr).mono ?_
      rintro e x7 ⟨rfl, hb⟩
      replace V3 := V3.a hb
      replace V6 := V6.a hb
      replace hr := Rv.after hb hr
      replace hS := Rv.after hb hS
      replace B0 := step B0 hb
      clear hb
      rw [hcx]
      by_cases g1 : 0 < cx
      ·
        have e1 : decide (0 < cx) = true := decide_eq_true g1
        go_wp2_with fail
        go_ret
        exact ⟨k, rfl, ⟨by omega, HO.out, fun _ => by rw [HX.out]; exact HCX.out.1 g1⟩, step HB.out B0⟩
      ·
        have e1 : decide (0 < cx) = false := decide_eq_false g1
        have HK : Hid (aq l k ≤ v) := by show _ ≤ _; rw [HX.out]; have := HCX.out; grind
        go_wp2_with fail
        go_roundw
        case measure => simp [intOf]; omega
        case rel =>
          refine ⟨k + 1, by omega, by go_num, fun j hj => ?_, B0⟩
          rcases Nat.lt_or_ge j k with h' | h'
          · exact HO.out j h'
          · obtain rfl : j = k := by omega
            exact HK.out
    ·
      have c0 := (Va.after HW.out HD.out.va).cell
      go_wp2_with fail
      go_ret
      exact ⟨n, rfl, ⟨by omega, fun j hj => HO.out j (by omega), fun h => by omega⟩, step HB.out HW.out⟩
def NxR (w : World) (q : Rc) (t : Bool) (n k : Nat) (l : List Pq) : Prop := (t = true ∧ k < n ∧ Rv w q (aq l k)) ∨ (t = false ∧ k = n ∧ Rv w q 0)
set_option maxHeartbeats 8000000 in
theorem next8_any (g b off n c : Nat) (xs : List Pc) (l : List Pq) (r : Rc) (v : Rat) (w : World) (hd : Sd w g b off n c xs l) (hr : Rv w r v) (k : Nat) (hk : Bg l v k) :
    Calls Tryz.prog 17 #[.pointer (some ⟨g, 0, none⟩), .agg #[.bool r.s, .slice r.a r.l r.c, .slice r.b r.m r.d]] w fun e w' => ∃ (q : Rc) (t : Bool), e = .returned (.tuple #[.agg #[.bool q.s, .slice q.a q.l q.c, .slice q.b q.m q.d], .bool t]) ∧ Hid (NxR w' q t n k l) ∧ Below w.heap.size w w' := by
  have HK : Hid (Bg l v k) := hk
  clear hk
  have B0 : Below w.heap.size w w := Below.refl _ _
  go_enter Tryz.func17, Tryz.ntmps17
  go_wp2_with fail
  refine ent2 w _ _ _ _ (Q := fun W => Calls Tryz.prog _ _ W _) ?_
  intro x1 hb hs_x1 V3 V4
  replace hd := Sd.after hb hd
  replace hr := Rv.after hb hr
  replace B0 := step B0 hb
  clear hb hs_x1
  have h1 := hd.ok.one
  have hln := hd.ln
  refine (isSch_yes g b off n c _ hd.va (by omega)).mono ?_
  rintro e wz ⟨rfl, hw⟩
  rw [hw]
  clear hw wz h1
  have c_V3 := V3.d0
  have f0_V3 := V3.frozen 0
  have d_V3 := V3.d1
  have f1_V3 := V3.frozen 1
  have e_V3 := V3.d2
  have f2_V3 := V3.frozen 2
  have l_V3 := V3.lt
  have m_V3 := Nat.le_of_lt l_V3
  go_wp2_with fail
  refine (begun8_any g b off n c xs l r v _ hd hr).mono ?_
  rintro e x2 ⟨k', rfl, hk', hb⟩
  clear c_V3 f0_V3 d_V3 f1_V3 e_V3 f2_V3 l_V3 m_V3
  replace V3 := V3.a hb
  replace V4 := V4.a hb
  replace hd := Sd.after hb hd
  replace hr := Rv.after hb hr
  replace B0 := step B0 hb
  obtain rfl := hk'.out.uniq HK.out
  clear hb hk'
  have hkn := HK.out.le
  by_cases hlt : k' < n
  ·
    have e1 : ((k' : Int) == (n : Int)) = false := by simp; omega
    have c0 := hd.va.cell
    have hS := (hd.ss.2 k' (by omega)).1
    have hc : At6 x2 b (off + k' * 6) (xs.getD k' (Rc.nil, Rc.nil)) := hd.le.six rfl rfl k' hlt
    generalize xs.getD k' (Rc.nil, Rc.nil) = p at hc hS
    obtain ⟨c1, c2, c3, -, -, -⟩ := hc
    have c_V4 := V4.d0
    have f0_V4 := V4.frozen 0
    have d_V4 := V4.d1
    have f1_V4 := V4.frozen 1
    have e_V4 := V4.d2
    have f2_V4 := V4.frozen 2
    have l_V4 := V4.lt
    have m_V4 := Nat.le_of_lt l_V4
    go_wp2_with fail
    clear c_V4 f0_V4 d_V4 f1_V4 e_V4 f2_V4 l_V4 m_V4
    refine bodyPost_ret (results_rt rfl rfl (V4.set3 _ _ _)) rfl ?_
    have VV := V4
    exact ⟨p.1, true, rfl, .inl ⟨rfl, hlt, hS.far V4 (noInt3 _ _ _ _ _ _ _) (fa3 _ _ _ _ _)⟩, belo3 B0 (by omega) _ _ _⟩
  ·
    obtain rfl : k' = n := by omega
    have c0 := hd.va.cell
    have c_V4 := V4.d0
    have f0_V4 := V4.frozen 0
    have d_V4 := V4.d1
    have f1_V4 := V4.frozen 1
    have e_V4 := V4.d2
    have f2_V4 := V4.frozen 2
    have l_V4 := V4.lt
    have m_V4 := Nat.le_of_lt l_V4
    go_wp2_with fail
    clear c_V4 f0_V4 d_V4 f1_V4 e_V4 f2_V4 l_V4 m_V4
    refine bodyPost_ret (results_rt rfl rfl (V4.set3 _ _ _)) rfl ?_
    exact ⟨Rc.nil, false, rfl, .inr ⟨rfl, rfl, Rv.nil _⟩, belo3 B0 (by omega) _ _ _⟩
set_option maxHeartbeats 8000000 in
theorem slope8_ok (g b off n c : Nat) (xs : List Pc) (l : List Pq) (r : Rc) (v : Rat) (w : World) (hd : Sd w g b off n c xs l) (hr : Rv w r v) (k : Nat) (hk : Bg l v k) (h0 : 0 ≤ v) :
    Calls Tryz.prog 15 #[.pointer (some ⟨g, 0, none⟩), .agg #[.bool r.s, .slice r.a r.l r.c, .slice r.b r.m r.d]] w fun e w' => ∃ q : Rc, e = .returned (.tuple #[.agg #[.bool q.s, .slice q.a q.l q.c, .slice q.b q.m q.d], .int .i64 0]) ∧ Rv w' q (rq l (k - 1)) ∧ Below w.heap.size w w' := by
  have HK : Hid (Bg l v k) := hk; have HK1 : Hid (1 ≤ k) := hk.pos hd.ok h0; have L0 := hd.lts; (obtain ⟨sv, hsv⟩ : ∃ s, Int.sign v.num = s := ⟨_, rfl⟩); (have hs0 : ¬ sv < 0 := by have := sgn_lt v; rw [hsv] at this; rw [this]; grind); clear hk h0; have B0 : Below w.heap.size w w := Below.refl _ _
  go_enter Tryz.func15, Tryz.ntmps15
  (go_wp2_with fail); refine ent2 w _ _ _ _ (Q := fun W => Calls Tryz.prog _ _ W _) ?_; intro x1 hb hs_x1 V3 V4; replace hd := Sd.after hb hd; replace hr := Rv.after hb hr; replace B0 := step B0 hb; clear hb hs_x1; have h1 := hd.ok.one; have hln := hd.ln; refine (isSch_yes g b off n c _ hd.va (by omega)).mono ?_; rintro e wz ⟨rfl, hw⟩; rw [hw]; clear hw wz h1; have c_V3 := V3.d0; have f0_V3 := V3.frozen 0; have d_V3 := V3.d1; have f1_V3 := V3.frozen 1; have e_V3 := V3.d2; have f2_V3 := V3.frozen 2; have l_V3 := V3.lt; have m_V3 := Nat.le_of_lt l_V3; (go_wp2_with fail); refine (sign_rc r v _ hr).mono ?_; rintro e x2 ⟨rfl, hb⟩; replace V3 := V3.a hb; replace V4 := V4.a hb; replace hd := Sd.after hb hd; replace hr := Rv.after hb hr; replace B0 := step B0 hb; clear hb; rw [hsv]; have e1 : decide (sv < 0) = false := decide_eq_false (by omega); clear c_V3 f0_V3 d_V3 f1_V3 e_V3 f2_V3 l_V3 m_V3; (go_wp2_with fail); (obtain ⟨j, rfl⟩ : ∃ j, k = j + 1 := ⟨k - 1, by have := HK1.out; omega⟩)
  have hkn := HK.out.le; have lts := hd.lts; have lt0 : g < w.heap.size ∧ b < w.heap.size := L0; have hS := (hd.ss.2 j (by omega)).2; have hc : At6 x2 b (off + j * 6) (xs.getD j (Rc.nil, Rc.nil)) := hd.le.six rfl rfl j (by omega)
  generalize xs.getD j (Rc.nil, Rc.nil) = p at hc hS
  (have hjn : j < n := by omega); have h8 := hd.few.2; refine wp_region_noPanic ?_; replace V3 : Va x2.drew _ _ _ := V3; replace V4 : Va x2.drew _ _ _ := V4; replace hd := hd.drw; replace hr := hr.drw; replace hc := hc.drw; replace hS := hS.drw; replace B0 := Below.drew B0; refine wp_region_held_drew (S := (fun W => W.cell? ⟨w.heap.size, 0, none⟩ = some (.bool r.s) ∧ W.cell? ⟨w.heap.size, 1, none⟩ = some (.slice r.a r.l r.c) ∧ W.cell? ⟨w.heap.size, 2, none⟩ = some (.slice r.b r.m r.d) ∧ W.cell? ⟨g, 0, none⟩ = some (.slice (some ⟨b, off, none⟩) n c) ∧ W.cell? ⟨b, off + j * 6, none⟩ = some (.bool p.1.s) ∧ W.cell? ⟨b, off + j * 6 + 1, none⟩ = some (.slice p.1.a p.1.l p.1.c) ∧ W.cell? ⟨b, off + j * 6 + 2, none⟩ = some (.slice p.1.b p.1.m p.1.d) ∧ W.cell? ⟨b, off + j * 6 + 3, none⟩ = some (.bool p.2.s) ∧ W.cell? ⟨b, off + j * 6 + 4, none⟩ = some (.slice p.2.a p.2.l p.2.c) ∧ W.cell? ⟨b, off + j * 6 + 5, none⟩ = some (.slice p.2.b p.2.m p.2.d))) (by kernel_rfl) ⟨V3.d0, V3.d1, V3.d2, hd.va.cell, hc.c0, hc.c1, hc.c2, hc.c3, hc.c4, hc.c5⟩ (fun hHeld => ?_)
  (obtain ⟨x3, hxd⟩ : ∃ xd, xd = x2.drew := ⟨_, rfl⟩); rw [← hxd] at V3 V4 hd hr hc hS B0 hHeld ⊢; clear hxd; refine tjz 0 hHeld ?_; refine tjz 1 hHeld ?_; refine tjz 2 hHeld ?_; refine tjz 3 hHeld ?_; refine tjz 4 hHeld ?_; refine tjz 5 hHeld ?_; refine ryz 6 (fun K hK => ?_); simp only [gA, gB, gC]; (go_simp); refine (begun8_any g b off n c xs l r v _ hd hr).mono ?_; rintro e x4 ⟨k', rfl, hk', hb⟩; replace V3 := V3.a hb; replace V4 := V4.a hb; replace hd := Sd.after hb hd; replace hr := Rv.after hb hr; replace hc := At6.after hb hc; replace hS := Rv.after hb hS
  replace B0 := step B0 hb; clear hb; (have e2 : (k' : Int) - 1 = (j : Int) := by have := hk'.out.uniq HK.out; omega); clear hk'; (try go_wp2_with fail); refine hK.out _ _ ⟨V3.d0, V3.d1, V3.d2, hd.va.cell, hc.c0, hc.c1, hc.c2, hc.c3, hc.c4, hc.c5⟩ (fun hHeld => ?_); clear hK K; refine wpAnyH_take (i := 7) (v := .int .i64 (j : Int)) rfl (by kernel_rfl) (by kernel_rfl) (by kernel_rfl) (fun _ _ _ h => h) (Or.inl ⟨by rfl, ?_⟩) hHeld ?_
  · (intro W hSw; (try dsimp only at hSw); go_simp; (simp only [IntKind.wrap_i64]; omega))
  simp only [gA, gB, gC, Act.put, gD, gE, gF]; refine tjz 8 hHeld ?_; refine tjz 9 hHeld ?_; refine tjz 10 hHeld ?_; have c_V4 := V4.d0; have f0_V4 := V4.frozen 0; have d_V4 := V4.d1; have f1_V4 := V4.frozen 1; have e_V4 := V4.d2; have f2_V4 := V4.frozen 2; have l_V4 := V4.lt; have m_V4 := Nat.le_of_lt l_V4; refine ryz 11 (fun K hK => ?_); simp only [gA, gB, gC]; (go_simp); clear c_V4 f0_V4 d_V4 f1_V4 e_V4 f2_V4 l_V4 m_V4; refine sto3 V4 (.bool p.2.s) (.slice p.2.a p.2.l p.2.c) (.slice p.2.b p.2.m p.2.d) (Q := fun W => K _ W) ?_; intro x5 V' oth far; replace V3 := apz (oth _ _ _) V3; replace hr := hr.far V4 (noInt3 _ _ _ _ _ _ _) far.1; replace hS := hS.far V4 (noInt3 _ _ _ _ _ _ _) far.1
  replace B0 := apz (far.2 _ _) B0; replace hd := hd.far V4 (noInt3 _ _ _ _ _ _ _) far.1 (by omega) (by omega); replace hc := hc.far far.1 (by omega); replace V4 := V'; clear oth far; refine hK.out _ _ ⟨V3.d0, V3.d1, V3.d2, hd.va.cell, hc.c0, hc.c1, hc.c2, hc.c3, hc.c4, hc.c5⟩ (fun hHeld => ?_); clear hK K; refine tjz 12 hHeld ?_; refine dnz ?_; clear hHeld; (go_wp2_with fail); refine bodyPost_ret (results_rt rfl rfl V4) rfl ?_; exact ⟨p.2, rfl, hS, B0⟩
end Go.Proofs.YtenmkbofpmbedabGreatDoor
