/-
  order: leastOnRing.
-/
import Derived.Test.YtonhooaboieapaaOdC
import Derived.Deep.DeepCutAuto
namespace Go.Proofs.Ytonhooaboieapaa
open Go.RowKit Go.Shelf
set_option linter.unusedVariables false
set_option linter.unusedSimpArgs false
variable {n b0 : Nat} {w wr w' : World} {P : Tpp} {dv ov dv' ov' : Value} {M M' : Tmm} {N : Nat → List Nat} {segs : List (Nat × List Nat)}

theorem Fb.falses {n : Nat} {w : World} {g : Nat} (h : Va w g 4 (Array.replicate n (.bool false))) : Fb n w g (fun _ => false) := Fb.make (by simpa using h)
theorem Fn.noughts {n : Nat} {w : World} {g : Nat} (h : Va w g 3 (Array.replicate n (.int .i64 0))) : Fn n w g (fun _ => 0) := Fn.make (by simpa using h)
theorem visN_zero (n : Nat) : visN n (fun _ => 0) = 0 := by
  unfold visN
  rw [List.countP_eq_zero]
  intro x _; simp
theorem St.init {W : World} {p gg gc ge gi : Nat} (Vg : Va W gg 3 (Array.replicate n (.int .i64 0))) (Vc : Va W gc 3 (Array.replicate n (.int .i64 0))) (Ve : Va W ge 3 (Array.replicate n (.int .i64 0))) (Vi : Va W gi 4 (Array.replicate n (.bool false)))
    (Vs : Va W p 58 #[.slice (some ⟨b0, 0, none⟩) n n, .slice (some ⟨gg, 0, none⟩) n n, .slice (some ⟨gc, 0, none⟩) n n, .int .i64 0, .slice (some ⟨ge, 0, none⟩) n n, .slice none 0 0, .slice none 0 0, .slice (some ⟨gi, 0, none⟩) n n, .int .i64 (-1)])
    (hd : gg ≠ gc ∧ gg ≠ ge ∧ gc ≠ ge) (hlo : w.heap.size ≤ p ∧ w.heap.size ≤ gg ∧ w.heap.size ≤ gc ∧ w.heap.size ≤ ge ∧ w.heap.size ≤ gi) (hb : Below w.heap.size w W) :
    ∃ M, St N n b0 w W ⟨p, gg, gc, ge, gi⟩ (.slice none 0 0) (.slice none 0 0) M [] :=
  ⟨⟨fun _ => 0, fun _ => 0, fun _ => 0, 0, [], [], fun _ => false, -1⟩, ⟨Vs, Fn.noughts Vg, Fn.noughts Vc, Fn.noughts Ve, Fb.falses Vi, Ge.nil _ _, Ge.nil _ _, hd.1, hd.2.1, hd.2.2, fun c hc => (by cases hc), fun c hc => (by cases hc), hb, hlo⟩, Tj.start, rfl, rfl, fun x hx => by simp [opl], visN_zero n⟩
set_option maxRecDepth 20000 in
set_option maxHeartbeats 16000000 in
theorem leastOnRing_any (n : Nat) (hn : n ≤ 4096) (b0 : Nat) (N : Nat → List Nat) (w : World) (h : Rw n w b0 N) (hl : ∀ p, (N p).length ≤ 65536) (hN : ∀ x y, y ∈ N x → x < n ∧ y < n) :
    Calls Try.prog 30 #[.slice (some ⟨b0, 0, none⟩) n n] w fun e w' => (∃ l : Int, e = .returned (.int .i64 l) ∧ LO (RgN (Rn N)) l) ∧ Below w.heap.size w w' := by
  have HRr : Hid (Rw n w b0 N) := h
  have HL6 : Hid (∀ p, (N p).length ≤ 65536) := hl
  have HNn : Hid (∀ x y, y ∈ N x → x < n ∧ y < n) := hN
  have hm := fun W => make_int n (by omega) W
  have hmb := fun W => make_bool n (by omega) W
  clear h hl hN
  go_enter Try.func30, Try.ntmps30
  go_wp2_with fail
  go_cut [4, 10, 12, 14, 16, 17, 18] (fun s4 s10 s12 s14 s16 s17 s18 wx => ∃ P dv ov M, s4 = .pointer (some ⟨Tpp.p P, 0, none⟩) ∧ Hid (St N n b0 w wx P dv ov M []))
  · refine wp_region_noPanic ?_
    refine wp_region_held_drew (S := (fun W => True)) (by kernel_rfl) trivial (fun hHeld => ?_)
    have B0 : Below w.heap.size w w.drew := (Below.refl _ _).drew
    have hs0 : w.drew.heap.size = w.heap.size := rfl
    obtain ⟨x0, hx0⟩ : ∃ x0, x0 = w.drew := ⟨_, rfl⟩
    rw [← hx0] at B0 hs0 ⊢
    have H0 : Hid (x0.heap.size = w.heap.size) := hs0
    clear hx0 hs0
    refine wpAnyH_take (i := 0) (v := ?_) rfl (by kernel_rfl) (by kernel_rfl) (by kernel_rfl) (fun _ _ _ h => h) (Or.inl ⟨by rfl, ?_⟩) hHeld ?_
    rotate_left
    · (intro W hSw; (try dsimp only at hSw); go_simp; all_goals (with_reducible rfl))
    simp only [List.getElem_toArray, List.getElem_cons_zero, Act.put, List.setIfInBounds_toArray, List.set_cons_zero, List.set_cons_succ]
    refine wpAnyH_take (i := 1) (v := ?_) rfl (by kernel_rfl) (by kernel_rfl) (by kernel_rfl) (fun _ _ _ h => h) (Or.inl ⟨by rfl, ?_⟩) hHeld ?_
    rotate_left
    · (intro W hSw; (try dsimp only at hSw); go_simp; all_goals (with_reducible rfl))
    simp only [List.getElem_toArray, List.getElem_cons_zero, List.getElem_cons_succ, Act.put, List.setIfInBounds_toArray, List.set_cons_zero, List.set_cons_succ]
    refine wpAnyH_take (i := 3) (v := ?_) rfl (by kernel_rfl) (by kernel_rfl) (by kernel_rfl) (fun _ _ _ h => h) (Or.inl ⟨by rfl, ?_⟩) hHeld ?_
    rotate_left
    · (intro W hSw; (try dsimp only at hSw); go_simp; all_goals (with_reducible rfl))
    simp only [List.getElem_toArray, List.getElem_cons_zero, List.getElem_cons_succ, Act.put, List.setIfInBounds_toArray, List.set_cons_zero, List.set_cons_succ]
    refine wpAnyH_take (i := 5) (v := ?_) rfl (by kernel_rfl) (by kernel_rfl) (by kernel_rfl) (fun _ _ _ h => h) (Or.inl ⟨by rfl, ?_⟩) hHeld ?_
    rotate_left
    · (intro W hSw; (try dsimp only at hSw); go_simp; all_goals (with_reducible rfl))
    simp only [List.getElem_toArray, List.getElem_cons_zero, List.getElem_cons_succ, Act.put, List.setIfInBounds_toArray, List.set_cons_zero, List.set_cons_succ]
    refine wpAnyH_take (i := 7) (v := ?_) rfl (by kernel_rfl) (by kernel_rfl) (by kernel_rfl) (fun _ _ _ h => h) (Or.inl ⟨by rfl, ?_⟩) hHeld ?_
    rotate_left
    · (intro W hSw; (try dsimp only at hSw); go_simp; all_goals (with_reducible rfl))
    simp only [List.getElem_toArray, List.getElem_cons_zero, List.getElem_cons_succ, Act.put, List.setIfInBounds_toArray, List.set_cons_zero, List.set_cons_succ]
    refine wpAnyH_ready (rs := [2, 4, 6, 8]) (by kernel_rfl) (by simp) ?_
    refine AllReadyH.cons rfl (fun K hK => ?_) (AllReadyH.cons rfl (fun K hK => ?_) (AllReadyH.cons rfl (fun K hK => ?_) (AllReadyH.cons rfl (fun K hK => ?_) AllReadyH.nil)))
    ·
      simp only [List.getElem_toArray, List.getElem_cons_zero, List.getElem_cons_succ]
      go_simp
      refine ent1 x0 _ _ (Q := fun V => K _ V) ?_
      intro x1 hb1 hs1 V2
      have H1 : Hid (x1.heap.size = x0.heap.size + 1) := hs1
      clear hs1
      replace B0 := step B0 hb1
      refine hK.out _ _ trivial (fun hHeld => ?_)
      clear hK K
      refine wpAnyH_ready (rs := [4, 6, 8]) (by kernel_rfl) (by simp) ?_
      refine AllReadyH.cons rfl (fun K hK => ?_) (AllReadyH.cons rfl (fun K hK => ?_) (AllReadyH.cons rfl (fun K hK => ?_) AllReadyH.nil))
      ·
        simp only [List.getElem_toArray, List.getElem_cons_zero, List.getElem_cons_succ]
        go_simp
        refine ent1 x1 _ _ (Q := fun V => K _ V) ?_
        intro x2 hb2 hs2 V4
        have H2 : Hid (x2.heap.size = x1.heap.size + 1) := hs2
        clear hs2
        replace V2 := V2.after hb2
        replace B0 := step B0 hb2
        refine hK.out _ _ trivial (fun hHeld => ?_)
        clear hK K
        refine wpAnyH_ready (rs := [6, 8]) (by kernel_rfl) (by simp) ?_
        refine AllReadyH.cons rfl (fun K hK => ?_) (AllReadyH.cons rfl (fun K hK => ?_) AllReadyH.nil)
        ·
          simp only [List.getElem_toArray, List.getElem_cons_zero, List.getElem_cons_succ]
          go_simp
          refine ent1 x2 _ _ (Q := fun V => K _ V) ?_
          intro x3 hb3 hs3 V6
          have H3 : Hid (x3.heap.size = x2.heap.size + 1) := hs3
          clear hs3
          replace V2 := V2.after hb3
          replace V4 := V4.after hb3
          replace B0 := step B0 hb3
          refine hK.out _ _ trivial (fun hHeld => ?_)
          clear hK K
          refine wpAnyH_ready (rs := [8]) (by kernel_rfl) (by simp) ?_
          refine AllReadyH.cons rfl (fun K hK => ?_) AllReadyH.nil
          simp only [List.getElem_toArray, List.getElem_cons_zero, List.getElem_cons_succ]
          go_simp
          refine ent1 x3 _ _ (Q := fun V => K _ V) ?_
          intro x4 hb4 hs4 V8
          have H4 : Hid (x4.heap.size = x3.heap.size + 1) := hs4
          clear hs4
          replace V2 := V2.after hb4
          replace V4 := V4.after hb4
          replace V6 := V6.after hb4
          replace B0 := step B0 hb4
          refine hK.out _ _ trivial (fun hHeld => ?_)
          clear hK K
          refine wpAnyH_take (i := 9) (v := ?_) rfl (by kernel_rfl) (by kernel_rfl) (by kernel_rfl) (fun _ _ _ h => h) (Or.inl ⟨by rfl, ?_⟩) hHeld ?_
          rotate_left
          · (intro W hSw; (try dsimp only at hSw); go_simp; all_goals (with_reducible rfl))
          simp only [List.getElem_toArray, List.getElem_cons_zero, List.getElem_cons_succ, Act.put, List.setIfInBounds_toArray, List.set_cons_zero, List.set_cons_succ]
          refine wpAnyH_ready (rs := [10]) (by kernel_rfl) (by simp) ?_
          refine AllReadyH.cons rfl (fun K hK => ?_) AllReadyH.nil
          simp only [List.getElem_toArray, List.getElem_cons_zero, List.getElem_cons_succ]
          go_simp
          refine ent1 x4 _ _ (Q := fun V => K _ V) ?_
          intro x5 hb5 hs5 VS
          clear hs5
          replace V2 := V2.after hb5
          replace V4 := V4.after hb5
          replace V6 := V6.after hb5
          replace V8 := V8.after hb5
          replace B0 := step B0 hb5
          refine hK.out _ _ trivial (fun hHeld => ?_)
          clear hK K
          refine wpAnyH_take (i := 11) (v := ?_) rfl (by kernel_rfl) (by kernel_rfl) (by kernel_rfl) (fun _ _ _ h => h) (Or.inl ⟨by rfl, ?_⟩) hHeld ?_
          rotate_left
          · (intro W hSw; (try dsimp only at hSw); go_simp; all_goals (with_reducible rfl))
          simp only [List.getElem_toArray, List.getElem_cons_zero, List.getElem_cons_succ, Act.put, List.setIfInBounds_toArray, List.set_cons_zero, List.set_cons_succ]
          refine wpAnyH_done (by kernel_rfl) ?_ _
          refine NoPanic.normal ?_
          clear hHeld
          obtain ⟨z0, z1, z2, z3, z4⟩ : x0.heap.size = w.heap.size ∧ x1.heap.size = x0.heap.size + 1 ∧ x2.heap.size = x1.heap.size + 1 ∧ x3.heap.size = x2.heap.size + 1 ∧ x4.heap.size = x3.heap.size + 1 := ⟨H0.out, H1.out, H2.out, H3.out, H4.out⟩
          obtain ⟨M0, h0⟩ := St.init (w := w) (N := N) (p := x4.heap.size) (gg := x0.heap.size) (gc := x1.heap.size) (ge := x2.heap.size) (gi := x3.heap.size) V2 V4 V6 V8 VS (by omega) (by omega) B0
          clear z0 z1 z2 z3 z4
          go_wp2_with fail
          go_meet
          exact ⟨_, _, _, M0, rfl, h0⟩
        ·
          simp only [List.getElem_toArray, List.getElem_cons_zero, List.getElem_cons_succ]
          go_simp
          refine ent1 x2 _ _ (Q := fun V => K _ V) ?_
          intro x3 hb3 hs3 V8
          have H3 : Hid (x3.heap.size = x2.heap.size + 1) := hs3
          clear hs3
          replace V2 := V2.after hb3
          replace V4 := V4.after hb3
          replace B0 := step B0 hb3
          refine hK.out _ _ trivial (fun hHeld => ?_)
          clear hK K
          refine wpAnyH_ready (rs := [6]) (by kernel_rfl) (by simp) ?_
          refine AllReadyH.cons rfl (fun K hK => ?_) AllReadyH.nil
          simp only [List.getElem_toArray, List.getElem_cons_zero, List.getElem_cons_succ]
          go_simp
          refine ent1 x3 _ _ (Q := fun V => K _ V) ?_
          intro x4 hb4 hs4 V6
          have H4 : Hid (x4.heap.size = x3.heap.size + 1) := hs4
          clear hs4
          replace V2 := V2.after hb4
          replace V4 := V4.after hb4
          replace V8 := V8.after hb4
          replace B0 := step B0 hb4
          refine hK.out _ _ trivial (fun hHeld => ?_)
          clear hK K
          refine wpAnyH_take (i := 9) (v := ?_) rfl (by kernel_rfl) (by kernel_rfl) (by kernel_rfl) (fun _ _ _ h => h) (Or.inl ⟨by rfl, ?_⟩) hHeld ?_
          rotate_left
          · (intro W hSw; (try dsimp only at hSw); go_simp; all_goals (with_reducible rfl))
          simp only [List.getElem_toArray, List.getElem_cons_zero, List.getElem_cons_succ, Act.put, List.setIfInBounds_toArray, List.set_cons_zero, List.set_cons_succ]
          refine wpAnyH_ready (rs := [10]) (by kernel_rfl) (by simp) ?_
          refine AllReadyH.cons rfl (fun K hK => ?_) AllReadyH.nil
          simp only [List.getElem_toArray, List.getElem_cons_zero, List.getElem_cons_succ]
          go_simp
          refine ent1 x4 _ _ (Q := fun V => K _ V) ?_
          intro x5 hb5 hs5 VS
          clear hs5
          replace V2 := V2.after hb5
          replace V4 := V4.after hb5
          replace V8 := V8.after hb5
          replace V6 := V6.after hb5
          replace B0 := step B0 hb5
          refine hK.out _ _ trivial (fun hHeld => ?_)
          clear hK K
          refine wpAnyH_take (i := 11) (v := ?_) rfl (by kernel_rfl) (by kernel_rfl) (by kernel_rfl) (fun _ _ _ h => h) (Or.inl ⟨by rfl, ?_⟩) hHeld ?_
          rotate_left
          · (intro W hSw; (try dsimp only at hSw); go_simp; all_goals (with_reducible rfl))
          simp only [List.getElem_toArray, List.getElem_cons_zero, List.getElem_cons_succ, Act.put, List.setIfInBounds_toArray, List.set_cons_zero, List.set_cons_succ]
          refine wpAnyH_done (by kernel_rfl) ?_ _
          refine NoPanic.normal ?_
          clear hHeld
          obtain ⟨z0, z1, z2, z3, z4⟩ : x0.heap.size = w.heap.size ∧ x1.heap.size = x0.heap.size + 1 ∧ x2.heap.size = x1.heap.size + 1 ∧ x3.heap.size = x2.heap.size + 1 ∧ x4.heap.size = x3.heap.size + 1 := ⟨H0.out, H1.out, H2.out, H3.out, H4.out⟩
          obtain ⟨M0, h0⟩ := St.init (w := w) (N := N) (p := x4.heap.size) (gg := x0.heap.size) (gc := x1.heap.size) (ge := x3.heap.size) (gi := x2.heap.size) V2 V4 V6 V8 VS (by omega) (by omega) B0
          clear z0 z1 z2 z3 z4
          go_wp2_with fail
          go_meet
          exact ⟨_, _, _, M0, rfl, h0⟩
      ·
        simp only [List.getElem_toArray, List.getElem_cons_zero, List.getElem_cons_succ]
        go_simp
        refine ent1 x1 _ _ (Q := fun V => K _ V) ?_
        intro x2 hb2 hs2 V6
        have H2 : Hid (x2.heap.size = x1.heap.size + 1) := hs2
        clear hs2
        replace V2 := V2.after hb2
        replace B0 := step B0 hb2
        refine hK.out _ _ trivial (fun hHeld => ?_)
        clear hK K
        refine wpAnyH_ready (rs := [4, 8]) (by kernel_rfl) (by simp) ?_
        refine AllReadyH.cons rfl (fun K hK => ?_) (AllReadyH.cons rfl (fun K hK => ?_) AllReadyH.nil)
        ·
          simp only [List.getElem_toArray, List.getElem_cons_zero, List.getElem_cons_succ]
          go_simp
          refine ent1 x2 _ _ (Q := fun V => K _ V) ?_
          intro x3 hb3 hs3 V4
          have H3 : Hid (x3.heap.size = x2.heap.size + 1) := hs3
          clear hs3
          replace V2 := V2.after hb3
          replace V6 := V6.after hb3
          replace B0 := step B0 hb3
          refine hK.out _ _ trivial (fun hHeld => ?_)
          clear hK K
          refine wpAnyH_ready (rs := [8]) (by kernel_rfl) (by simp) ?_
          refine AllReadyH.cons rfl (fun K hK => ?_) AllReadyH.nil
          simp only [List.getElem_toArray, List.getElem_cons_zero, List.getElem_cons_succ]
          go_simp
          refine ent1 x3 _ _ (Q := fun V => K _ V) ?_
          intro x4 hb4 hs4 V8
          have H4 : Hid (x4.heap.size = x3.heap.size + 1) := hs4
          clear hs4
          replace V2 := V2.after hb4
          replace V6 := V6.after hb4
          replace V4 := V4.after hb4
          replace B0 := step B0 hb4
          refine hK.out _ _ trivial (fun hHeld => ?_)
          clear hK K
          refine wpAnyH_take (i := 9) (v := ?_) rfl (by kernel_rfl) (by kernel_rfl) (by kernel_rfl) (fun _ _ _ h => h) (Or.inl ⟨by rfl, ?_⟩) hHeld ?_
          rotate_left
          · (intro W hSw; (try dsimp only at hSw); go_simp; all_goals (with_reducible rfl))
          simp only [List.getElem_toArray, List.getElem_cons_zero, List.getElem_cons_succ, Act.put, List.setIfInBounds_toArray, List.set_cons_zero, List.set_cons_succ]
          refine wpAnyH_ready (rs := [10]) (by kernel_rfl) (by simp) ?_
          refine AllReadyH.cons rfl (fun K hK => ?_) AllReadyH.nil
          simp only [List.getElem_toArray, List.getElem_cons_zero, List.getElem_cons_succ]
          go_simp
          refine ent1 x4 _ _ (Q := fun V => K _ V) ?_
          intro x5 hb5 hs5 VS
          clear hs5
          replace V2 := V2.after hb5
          replace V6 := V6.after hb5
          replace V4 := V4.after hb5
          replace V8 := V8.after hb5
          replace B0 := step B0 hb5
          refine hK.out _ _ trivial (fun hHeld => ?_)
          clear hK K
          refine wpAnyH_take (i := 11) (v := ?_) rfl (by kernel_rfl) (by kernel_rfl) (by kernel_rfl) (fun _ _ _ h => h) (Or.inl ⟨by rfl, ?_⟩) hHeld ?_
          rotate_left
          · (intro W hSw; (try dsimp only at hSw); go_simp; all_goals (with_reducible rfl))
          simp only [List.getElem_toArray, List.getElem_cons_zero, List.getElem_cons_succ, Act.put, List.setIfInBounds_toArray, List.set_cons_zero, List.set_cons_succ]
          refine wpAnyH_done (by kernel_rfl) ?_ _
          refine NoPanic.normal ?_
          clear hHeld
          obtain ⟨z0, z1, z2, z3, z4⟩ : x0.heap.size = w.heap.size ∧ x1.heap.size = x0.heap.size + 1 ∧ x2.heap.size = x1.heap.size + 1 ∧ x3.heap.size = x2.heap.size + 1 ∧ x4.heap.size = x3.heap.size + 1 := ⟨H0.out, H1.out, H2.out, H3.out, H4.out⟩
          obtain ⟨M0, h0⟩ := St.init (w := w) (N := N) (p := x4.heap.size) (gg := x0.heap.size) (gc := x2.heap.size) (ge := x1.heap.size) (gi := x3.heap.size) V2 V4 V6 V8 VS (by omega) (by omega) B0
          clear z0 z1 z2 z3 z4
          go_wp2_with fail
          go_meet
          exact ⟨_, _, _, M0, rfl, h0⟩
        ·
          simp only [List.getElem_toArray, List.getElem_cons_zero, List.getElem_cons_succ]
          go_simp
          refine ent1 x2 _ _ (Q := fun V => K _ V) ?_
          intro x3 hb3 hs3 V8
          have H3 : Hid (x3.heap.size = x2.heap.size + 1) := hs3
          clear hs3
          replace V2 := V2.after hb3
          replace V6 := V6.after hb3
          replace B0 := step B0 hb3
          refine hK.out _ _ trivial (fun hHeld => ?_)
          clear hK K
          refine wpAnyH_ready (rs := [4]) (by kernel_rfl) (by simp) ?_
          refine AllReadyH.cons rfl (fun K hK => ?_) AllReadyH.nil
          simp only [List.getElem_toArray, List.getElem_cons_zero, List.getElem_cons_succ]
          go_simp
          refine ent1 x3 _ _ (Q := fun V => K _ V) ?_
          intro x4 hb4 hs4 V4
          have H4 : Hid (x4.heap.size = x3.heap.size + 1) := hs4
          clear hs4
          replace V2 := V2.after hb4
          replace V6 := V6.after hb4
          replace V8 := V8.after hb4
          replace B0 := step B0 hb4
          refine hK.out _ _ trivial (fun hHeld => ?_)
          clear hK K
          refine wpAnyH_take (i := 9) (v := ?_) rfl (by kernel_rfl) (by kernel_rfl) (by kernel_rfl) (fun _ _ _ h => h) (Or.inl ⟨by rfl, ?_⟩) hHeld ?_
          rotate_left
          · (intro W hSw; (try dsimp only at hSw); go_simp; all_goals (with_reducible rfl))
          simp only [List.getElem_toArray, List.getElem_cons_zero, List.getElem_cons_succ, Act.put, List.setIfInBounds_toArray, List.set_cons_zero, List.set_cons_succ]
          refine wpAnyH_ready (rs := [10]) (by kernel_rfl) (by simp) ?_
          refine AllReadyH.cons rfl (fun K hK => ?_) AllReadyH.nil
          simp only [List.getElem_toArray, List.getElem_cons_zero, List.getElem_cons_succ]
          go_simp
          refine ent1 x4 _ _ (Q := fun V => K _ V) ?_
          intro x5 hb5 hs5 VS
          clear hs5
          replace V2 := V2.after hb5
          replace V6 := V6.after hb5
          replace V8 := V8.after hb5
          replace V4 := V4.after hb5
          replace B0 := step B0 hb5
          refine hK.out _ _ trivial (fun hHeld => ?_)
          clear hK K
          refine wpAnyH_take (i := 11) (v := ?_) rfl (by kernel_rfl) (by kernel_rfl) (by kernel_rfl) (fun _ _ _ h => h) (Or.inl ⟨by rfl, ?_⟩) hHeld ?_
          rotate_left
          · (intro W hSw; (try dsimp only at hSw); go_simp; all_goals (with_reducible rfl))
          simp only [List.getElem_toArray, List.getElem_cons_zero, List.getElem_cons_succ, Act.put, List.setIfInBounds_toArray, List.set_cons_zero, List.set_cons_succ]
          refine wpAnyH_done (by kernel_rfl) ?_ _
          refine NoPanic.normal ?_
          clear hHeld
          obtain ⟨z0, z1, z2, z3, z4⟩ : x0.heap.size = w.heap.size ∧ x1.heap.size = x0.heap.size + 1 ∧ x2.heap.size = x1.heap.size + 1 ∧ x3.heap.size = x2.heap.size + 1 ∧ x4.heap.size = x3.heap.size + 1 := ⟨H0.out, H1.out, H2.out, H3.out, H4.out⟩
          obtain ⟨M0, h0⟩ := St.init (w := w) (N := N) (p := x4.heap.size) (gg := x0.heap.size) (gc := x3.heap.size) (ge := x1.heap.size) (gi := x2.heap.size) V2 V4 V6 V8 VS (by omega) (by omega) B0
          clear z0 z1 z2 z3 z4
          go_wp2_with fail
          go_meet
          exact ⟨_, _, _, M0, rfl, h0⟩
      ·
        simp only [List.getElem_toArray, List.getElem_cons_zero, List.getElem_cons_succ]
        go_simp
        refine ent1 x1 _ _ (Q := fun V => K _ V) ?_
        intro x2 hb2 hs2 V8
        have H2 : Hid (x2.heap.size = x1.heap.size + 1) := hs2
        clear hs2
        replace V2 := V2.after hb2
        replace B0 := step B0 hb2
        refine hK.out _ _ trivial (fun hHeld => ?_)
        clear hK K
        refine wpAnyH_ready (rs := [4, 6]) (by kernel_rfl) (by simp) ?_
        refine AllReadyH.cons rfl (fun K hK => ?_) (AllReadyH.cons rfl (fun K hK => ?_) AllReadyH.nil)
        ·
          simp only [List.getElem_toArray, List.getElem_cons_zero, List.getElem_cons_succ]
          go_simp
          refine ent1 x2 _ _ (Q := fun V => K _ V) ?_
          intro x3 hb3 hs3 V4
          have H3 : Hid (x3.heap.size = x2.heap.size + 1) := hs3
          clear hs3
          replace V2 := V2.after hb3
          replace V8 := V8.after hb3
          replace B0 := step B0 hb3
          refine hK.out _ _ trivial (fun hHeld => ?_)
          clear hK K
          refine wpAnyH_ready (rs := [6]) (by kernel_rfl) (by simp) ?_
          refine AllReadyH.cons rfl (fun K hK => ?_) AllReadyH.nil
          simp only [List.getElem_toArray, List.getElem_cons_zero, List.getElem_cons_succ]
          go_simp
          refine ent1 x3 _ _ (Q := fun V => K _ V) ?_
          intro x4 hb4 hs4 V6
          have H4 : Hid (x4.heap.size = x3.heap.size + 1) := hs4
          clear hs4
          replace V2 := V2.after hb4
          replace V8 := V8.after hb4
          replace V4 := V4.after hb4
          replace B0 := step B0 hb4
          refine hK.out _ _ trivial (fun hHeld => ?_)
          clear hK K
          refine wpAnyH_take (i := 9) (v := ?_) rfl (by kernel_rfl) (by kernel_rfl) (by kernel_rfl) (fun _ _ _ h => h) (Or.inl ⟨by rfl, ?_⟩) hHeld ?_
          rotate_left
          · (intro W hSw; (try dsimp only at hSw); go_simp; all_goals (with_reducible rfl))
          simp only [List.getElem_toArray, List.getElem_cons_zero, List.getElem_cons_succ, Act.put, List.setIfInBounds_toArray, List.set_cons_zero, List.set_cons_succ]
          refine wpAnyH_ready (rs := [10]) (by kernel_rfl) (by simp) ?_
          refine AllReadyH.cons rfl (fun K hK => ?_) AllReadyH.nil
          simp only [List.getElem_toArray, List.getElem_cons_zero, List.getElem_cons_succ]
          go_simp
          refine ent1 x4 _ _ (Q := fun V => K _ V) ?_
          intro x5 hb5 hs5 VS
          clear hs5
          replace V2 := V2.after hb5
          replace V8 := V8.after hb5
          replace V4 := V4.after hb5
          replace V6 := V6.after hb5
          replace B0 := step B0 hb5
          refine hK.out _ _ trivial (fun hHeld => ?_)
          clear hK K
          refine wpAnyH_take (i := 11) (v := ?_) rfl (by kernel_rfl) (by kernel_rfl) (by kernel_rfl) (fun _ _ _ h => h) (Or.inl ⟨by rfl, ?_⟩) hHeld ?_
          rotate_left
          · (intro W hSw; (try dsimp only at hSw); go_simp; all_goals (with_reducible rfl))
          simp only [List.getElem_toArray, List.getElem_cons_zero, List.getElem_cons_succ, Act.put, List.setIfInBounds_toArray, List.set_cons_zero, List.set_cons_succ]
          refine wpAnyH_done (by kernel_rfl) ?_ _
          refine NoPanic.normal ?_
          clear hHeld
          obtain ⟨z0, z1, z2, z3, z4⟩ : x0.heap.size = w.heap.size ∧ x1.heap.size = x0.heap.size + 1 ∧ x2.heap.size = x1.heap.size + 1 ∧ x3.heap.size = x2.heap.size + 1 ∧ x4.heap.size = x3.heap.size + 1 := ⟨H0.out, H1.out, H2.out, H3.out, H4.out⟩
          obtain ⟨M0, h0⟩ := St.init (w := w) (N := N) (p := x4.heap.size) (gg := x0.heap.size) (gc := x2.heap.size) (ge := x3.heap.size) (gi := x1.heap.size) V2 V4 V6 V8 VS (by omega) (by omega) B0
          clear z0 z1 z2 z3 z4
          go_wp2_with fail
          go_meet
          exact ⟨_, _, _, M0, rfl, h0⟩
        ·
          simp only [List.getElem_toArray, List.getElem_cons_zero, List.getElem_cons_succ]
          go_simp
          refine ent1 x2 _ _ (Q := fun V => K _ V) ?_
          intro x3 hb3 hs3 V6
          have H3 : Hid (x3.heap.size = x2.heap.size + 1) := hs3
          clear hs3
          replace V2 := V2.after hb3
          replace V8 := V8.after hb3
          replace B0 := step B0 hb3
          refine hK.out _ _ trivial (fun hHeld => ?_)
          clear hK K
          refine wpAnyH_ready (rs := [4]) (by kernel_rfl) (by simp) ?_
          refine AllReadyH.cons rfl (fun K hK => ?_) AllReadyH.nil
          simp only [List.getElem_toArray, List.getElem_cons_zero, List.getElem_cons_succ]
          go_simp
          refine ent1 x3 _ _ (Q := fun V => K _ V) ?_
          intro x4 hb4 hs4 V4
          have H4 : Hid (x4.heap.size = x3.heap.size + 1) := hs4
          clear hs4
          replace V2 := V2.after hb4
          replace V8 := V8.after hb4
          replace V6 := V6.after hb4
          replace B0 := step B0 hb4
          refine hK.out _ _ trivial (fun hHeld => ?_)
          clear hK K
          refine wpAnyH_take (i := 9) (v := ?_) rfl (by kernel_rfl) (by kernel_rfl) (by kernel_rfl) (fun _ _ _ h => h) (Or.inl ⟨by rfl, ?_⟩) hHeld ?_
          rotate_left
          · (intro W hSw; (try dsimp only at hSw); go_simp; all_goals (with_reducible rfl))
          simp only [List.getElem_toArray, List.getElem_cons_zero, List.getElem_cons_succ, Act.put, List.setIfInBounds_toArray, List.set_cons_zero, List.set_cons_succ]
          refine wpAnyH_ready (rs := [10]) (by kernel_rfl) (by simp) ?_
          refine AllReadyH.cons rfl (fun K hK => ?_) AllReadyH.nil
          simp only [List.getElem_toArray, List.getElem_cons_zero, List.getElem_cons_succ]
          go_simp
          refine ent1 x4 _ _ (Q := fun V => K _ V) ?_
          intro x5 hb5 hs5 VS
          clear hs5
          replace V2 := V2.after hb5
          replace V8 := V8.after hb5
          replace V6 := V6.after hb5
          replace V4 := V4.after hb5
          replace B0 := step B0 hb5
          refine hK.out _ _ trivial (fun hHeld => ?_)
          clear hK K
          refine wpAnyH_take (i := 11) (v := ?_) rfl (by kernel_rfl) (by kernel_rfl) (by kernel_rfl) (fun _ _ _ h => h) (Or.inl ⟨by rfl, ?_⟩) hHeld ?_
          rotate_left
          · (intro W hSw; (try dsimp only at hSw); go_simp; all_goals (with_reducible rfl))
          simp only [List.getElem_toArray, List.getElem_cons_zero, List.getElem_cons_succ, Act.put, List.setIfInBounds_toArray, List.set_cons_zero, List.set_cons_succ]
          refine wpAnyH_done (by kernel_rfl) ?_ _
          refine NoPanic.normal ?_
          clear hHeld
          obtain ⟨z0, z1, z2, z3, z4⟩ : x0.heap.size = w.heap.size ∧ x1.heap.size = x0.heap.size + 1 ∧ x2.heap.size = x1.heap.size + 1 ∧ x3.heap.size = x2.heap.size + 1 ∧ x4.heap.size = x3.heap.size + 1 := ⟨H0.out, H1.out, H2.out, H3.out, H4.out⟩
          obtain ⟨M0, h0⟩ := St.init (w := w) (N := N) (p := x4.heap.size) (gg := x0.heap.size) (gc := x3.heap.size) (ge := x2.heap.size) (gi := x1.heap.size) V2 V4 V6 V8 VS (by omega) (by omega) B0
          clear z0 z1 z2 z3 z4
          go_wp2_with fail
          go_meet
          exact ⟨_, _, _, M0, rfl, h0⟩
    ·
      simp only [List.getElem_toArray, List.getElem_cons_zero, List.getElem_cons_succ]
      go_simp
      refine ent1 x0 _ _ (Q := fun V => K _ V) ?_
      intro x1 hb1 hs1 V4
      have H1 : Hid (x1.heap.size = x0.heap.size + 1) := hs1
      clear hs1
      replace B0 := step B0 hb1
      refine hK.out _ _ trivial (fun hHeld => ?_)
      clear hK K
      refine wpAnyH_ready (rs := [2, 6, 8]) (by kernel_rfl) (by simp) ?_
      refine AllReadyH.cons rfl (fun K hK => ?_) (AllReadyH.cons rfl (fun K hK => ?_) (AllReadyH.cons rfl (fun K hK => ?_) AllReadyH.nil))
      ·
        simp only [List.getElem_toArray, List.getElem_cons_zero, List.getElem_cons_succ]
        go_simp
        refine ent1 x1 _ _ (Q := fun V => K _ V) ?_
        intro x2 hb2 hs2 V2
        have H2 : Hid (x2.heap.size = x1.heap.size + 1) := hs2
        clear hs2
        replace V4 := V4.after hb2
        replace B0 := step B0 hb2
        refine hK.out _ _ trivial (fun hHeld => ?_)
        clear hK K
        refine wpAnyH_ready (rs := [6, 8]) (by kernel_rfl) (by simp) ?_
        refine AllReadyH.cons rfl (fun K hK => ?_) (AllReadyH.cons rfl (fun K hK => ?_) AllReadyH.nil)
        ·
          simp only [List.getElem_toArray, List.getElem_cons_zero, List.getElem_cons_succ]
          go_simp
          refine ent1 x2 _ _ (Q := fun V => K _ V) ?_
          intro x3 hb3 hs3 V6
          have H3 : Hid (x3.heap.size = x2.heap.size + 1) := hs3
          clear hs3
          replace V4 := V4.after hb3
          replace V2 := V2.after hb3
          replace B0 := step B0 hb3
          refine hK.out _ _ trivial (fun hHeld => ?_)
          clear hK K
          refine wpAnyH_ready (rs := [8]) (by kernel_rfl) (by simp) ?_
          refine AllReadyH.cons rfl (fun K hK => ?_) AllReadyH.nil
          simp only [List.getElem_toArray, List.getElem_cons_zero, List.getElem_cons_succ]
          go_simp
          refine ent1 x3 _ _ (Q := fun V => K _ V) ?_
          intro x4 hb4 hs4 V8
          have H4 : Hid (x4.heap.size = x3.heap.size + 1) := hs4
          clear hs4
          replace V4 := V4.after hb4
          replace V2 := V2.after hb4
          replace V6 := V6.after hb4
          replace B0 := step B0 hb4
          refine hK.out _ _ trivial (fun hHeld => ?_)
          clear hK K
          refine wpAnyH_take (i := 9) (v := ?_) rfl (by kernel_rfl) (by kernel_rfl) (by kernel_rfl) (fun _ _ _ h => h) (Or.inl ⟨by rfl, ?_⟩) hHeld ?_
          rotate_left
          · (intro W hSw; (try dsimp only at hSw); go_simp; all_goals (with_reducible rfl))
          simp only [List.getElem_toArray, List.getElem_cons_zero, List.getElem_cons_succ, Act.put, List.setIfInBounds_toArray, List.set_cons_zero, List.set_cons_succ]
          refine wpAnyH_ready (rs := [10]) (by kernel_rfl) (by simp) ?_
          refine AllReadyH.cons rfl (fun K hK => ?_) AllReadyH.nil
          simp only [List.getElem_toArray, List.getElem_cons_zero, List.getElem_cons_succ]
          go_simp
          refine ent1 x4 _ _ (Q := fun V => K _ V) ?_
          intro x5 hb5 hs5 VS
          clear hs5
          replace V4 := V4.after hb5
          replace V2 := V2.after hb5
          replace V6 := V6.after hb5
          replace V8 := V8.after hb5
          replace B0 := step B0 hb5
          refine hK.out _ _ trivial (fun hHeld => ?_)
          clear hK K
          refine wpAnyH_take (i := 11) (v := ?_) rfl (by kernel_rfl) (by kernel_rfl) (by kernel_rfl) (fun _ _ _ h => h) (Or.inl ⟨by rfl, ?_⟩) hHeld ?_
          rotate_left
          · (intro W hSw; (try dsimp only at hSw); go_simp; all_goals (with_reducible rfl))
          simp only [List.getElem_toArray, List.getElem_cons_zero, List.getElem_cons_succ, Act.put, List.setIfInBounds_toArray, List.set_cons_zero, List.set_cons_succ]
          refine wpAnyH_done (by kernel_rfl) ?_ _
          refine NoPanic.normal ?_
          clear hHeld
          obtain ⟨z0, z1, z2, z3, z4⟩ : x0.heap.size = w.heap.size ∧ x1.heap.size = x0.heap.size + 1 ∧ x2.heap.size = x1.heap.size + 1 ∧ x3.heap.size = x2.heap.size + 1 ∧ x4.heap.size = x3.heap.size + 1 := ⟨H0.out, H1.out, H2.out, H3.out, H4.out⟩
          obtain ⟨M0, h0⟩ := St.init (w := w) (N := N) (p := x4.heap.size) (gg := x1.heap.size) (gc := x0.heap.size) (ge := x2.heap.size) (gi := x3.heap.size) V2 V4 V6 V8 VS (by omega) (by omega) B0
          clear z0 z1 z2 z3 z4
          go_wp2_with fail
          go_meet
          exact ⟨_, _, _, M0, rfl, h0⟩
        ·
          simp only [List.getElem_toArray, List.getElem_cons_zero, List.getElem_cons_succ]
          go_simp
          refine ent1 x2 _ _ (Q := fun V => K _ V) ?_
          intro x3 hb3 hs3 V8
          have H3 : Hid (x3.heap.size = x2.heap.size + 1) := hs3
          clear hs3
          replace V4 := V4.after hb3
          replace V2 := V2.after hb3
          replace B0 := step B0 hb3
          refine hK.out _ _ trivial (fun hHeld => ?_)
          clear hK K
          refine wpAnyH_ready (rs := [6]) (by kernel_rfl) (by simp) ?_
          refine AllReadyH.cons rfl (fun K hK => ?_) AllReadyH.nil
          simp only [List.getElem_toArray, List.getElem_cons_zero, List.getElem_cons_succ]
          go_simp
          refine ent1 x3 _ _ (Q := fun V => K _ V) ?_
          intro x4 hb4 hs4 V6
          have H4 : Hid (x4.heap.size = x3.heap.size + 1) := hs4
          clear hs4
          replace V4 := V4.after hb4
          replace V2 := V2.after hb4
          replace V8 := V8.after hb4
          replace B0 := step B0 hb4
          refine hK.out _ _ trivial (fun hHeld => ?_)
          clear hK K
          refine wpAnyH_take (i := 9) (v := ?_) rfl (by kernel_rfl) (by kernel_rfl) (by kernel_rfl) (fun _ _ _ h => h) (Or.inl ⟨by rfl, ?_⟩) hHeld ?_
          rotate_left
          · (intro W hSw; (try dsimp only at hSw); go_simp; all_goals (with_reducible rfl))
          simp only [List.getElem_toArray, List.getElem_cons_zero, List.getElem_cons_succ, Act.put, List.setIfInBounds_toArray, List.set_cons_zero, List.set_cons_succ]
          refine wpAnyH_ready (rs := [10]) (by kernel_rfl) (by simp) ?_
          refine AllReadyH.cons rfl (fun K hK => ?_) AllReadyH.nil
          simp only [List.getElem_toArray, List.getElem_cons_zero, List.getElem_cons_succ]
          go_simp
          refine ent1 x4 _ _ (Q := fun V => K _ V) ?_
          intro x5 hb5 hs5 VS
          clear hs5
          replace V4 := V4.after hb5
          replace V2 := V2.after hb5
          replace V8 := V8.after hb5
          replace V6 := V6.after hb5
          replace B0 := step B0 hb5
          refine hK.out _ _ trivial (fun hHeld => ?_)
          clear hK K
          refine wpAnyH_take (i := 11) (v := ?_) rfl (by kernel_rfl) (by kernel_rfl) (by kernel_rfl) (fun _ _ _ h => h) (Or.inl ⟨by rfl, ?_⟩) hHeld ?_
          rotate_left
          · (intro W hSw; (try dsimp only at hSw); go_simp; all_goals (with_reducible rfl))
          simp only [List.getElem_toArray, List.getElem_cons_zero, List.getElem_cons_succ, Act.put, List.setIfInBounds_toArray, List.set_cons_zero, List.set_cons_succ]
          refine wpAnyH_done (by kernel_rfl) ?_ _
          refine NoPanic.normal ?_
          clear hHeld
          obtain ⟨z0, z1, z2, z3, z4⟩ : x0.heap.size = w.heap.size ∧ x1.heap.size = x0.heap.size + 1 ∧ x2.heap.size = x1.heap.size + 1 ∧ x3.heap.size = x2.heap.size + 1 ∧ x4.heap.size = x3.heap.size + 1 := ⟨H0.out, H1.out, H2.out, H3.out, H4.out⟩
          obtain ⟨M0, h0⟩ := St.init (w := w) (N := N) (p := x4.heap.size) (gg := x1.heap.size) (gc := x0.heap.size) (ge := x3.heap.size) (gi := x2.heap.size) V2 V4 V6 V8 VS (by omega) (by omega) B0
          clear z0 z1 z2 z3 z4
          go_wp2_with fail
          go_meet
          exact ⟨_, _, _, M0, rfl, h0⟩
      ·
        simp only [List.getElem_toArray, List.getElem_cons_zero, List.getElem_cons_succ]
        go_simp
        refine ent1 x1 _ _ (Q := fun V => K _ V) ?_
        intro x2 hb2 hs2 V6
        have H2 : Hid (x2.heap.size = x1.heap.size + 1) := hs2
        clear hs2
        replace V4 := V4.after hb2
        replace B0 := step B0 hb2
        refine hK.out _ _ trivial (fun hHeld => ?_)
        clear hK K
        refine wpAnyH_ready (rs := [2, 8]) (by kernel_rfl) (by simp) ?_
        refine AllReadyH.cons rfl (fun K hK => ?_) (AllReadyH.cons rfl (fun K hK => ?_) AllReadyH.nil)
        ·
          simp only [List.getElem_toArray, List.getElem_cons_zero, List.getElem_cons_succ]
          go_simp
          refine ent1 x2 _ _ (Q := fun V => K _ V) ?_
          intro x3 hb3 hs3 V2
          have H3 : Hid (x3.heap.size = x2.heap.size + 1) := hs3
          clear hs3
          replace V4 := V4.after hb3
          replace V6 := V6.after hb3
          replace B0 := step B0 hb3
          refine hK.out _ _ trivial (fun hHeld => ?_)
          clear hK K
          refine wpAnyH_ready (rs := [8]) (by kernel_rfl) (by simp) ?_
          refine AllReadyH.cons rfl (fun K hK => ?_) AllReadyH.nil
          simp only [List.getElem_toArray, List.getElem_cons_zero, List.getElem_cons_succ]
          go_simp
          refine ent1 x3 _ _ (Q := fun V => K _ V) ?_
          intro x4 hb4 hs4 V8
          have H4 : Hid (x4.heap.size = x3.heap.size + 1) := hs4
          clear hs4
          replace V4 := V4.after hb4
          replace V6 := V6.after hb4
          replace V2 := V2.after hb4
          replace B0 := step B0 hb4
          refine hK.out _ _ trivial (fun hHeld => ?_)
          clear hK K
          refine wpAnyH_take (i := 9) (v := ?_) rfl (by kernel_rfl) (by kernel_rfl) (by kernel_rfl) (fun _ _ _ h => h) (Or.inl ⟨by rfl, ?_⟩) hHeld ?_
          rotate_left
          · (intro W hSw; (try dsimp only at hSw); go_simp; all_goals (with_reducible rfl))
          simp only [List.getElem_toArray, List.getElem_cons_zero, List.getElem_cons_succ, Act.put, List.setIfInBounds_toArray, List.set_cons_zero, List.set_cons_succ]
          refine wpAnyH_ready (rs := [10]) (by kernel_rfl) (by simp) ?_
          refine AllReadyH.cons rfl (fun K hK => ?_) AllReadyH.nil
          simp only [List.getElem_toArray, List.getElem_cons_zero, List.getElem_cons_succ]
          go_simp
          refine ent1 x4 _ _ (Q := fun V => K _ V) ?_
          intro x5 hb5 hs5 VS
          clear hs5
          replace V4 := V4.after hb5
          replace V6 := V6.after hb5
          replace V2 := V2.after hb5
          replace V8 := V8.after hb5
          replace B0 := step B0 hb5
          refine hK.out _ _ trivial (fun hHeld => ?_)
          clear hK K
          refine wpAnyH_take (i := 11) (v := ?_) rfl (by kernel_rfl) (by kernel_rfl) (by kernel_rfl) (fun _ _ _ h => h) (Or.inl ⟨by rfl, ?_⟩) hHeld ?_
          rotate_left
          · (intro W hSw; (try dsimp only at hSw); go_simp; all_goals (with_reducible rfl))
          simp only [List.getElem_toArray, List.getElem_cons_zero, List.getElem_cons_succ, Act.put, List.setIfInBounds_toArray, List.set_cons_zero, List.set_cons_succ]
          refine wpAnyH_done (by kernel_rfl) ?_ _
          refine NoPanic.normal ?_
          clear hHeld
          obtain ⟨z0, z1, z2, z3, z4⟩ : x0.heap.size = w.heap.size ∧ x1.heap.size = x0.heap.size + 1 ∧ x2.heap.size = x1.heap.size + 1 ∧ x3.heap.size = x2.heap.size + 1 ∧ x4.heap.size = x3.heap.size + 1 := ⟨H0.out, H1.out, H2.out, H3.out, H4.out⟩
          obtain ⟨M0, h0⟩ := St.init (w := w) (N := N) (p := x4.heap.size) (gg := x2.heap.size) (gc := x0.heap.size) (ge := x1.heap.size) (gi := x3.heap.size) V2 V4 V6 V8 VS (by omega) (by omega) B0
          clear z0 z1 z2 z3 z4
          go_wp2_with fail
          go_meet
          exact ⟨_, _, _, M0, rfl, h0⟩
        ·
          simp only [List.getElem_toArray, List.getElem_cons_zero, List.getElem_cons_succ]
          go_simp
          refine ent1 x2 _ _ (Q := fun V => K _ V) ?_
          intro x3 hb3 hs3 V8
          have H3 : Hid (x3.heap.size = x2.heap.size + 1) := hs3
          clear hs3
          replace V4 := V4.after hb3
          replace V6 := V6.after hb3
          replace B0 := step B0 hb3
          refine hK.out _ _ trivial (fun hHeld => ?_)
          clear hK K
          refine wpAnyH_ready (rs := [2]) (by kernel_rfl) (by simp) ?_
          refine AllReadyH.cons rfl (fun K hK => ?_) AllReadyH.nil
          simp only [List.getElem_toArray, List.getElem_cons_zero, List.getElem_cons_succ]
          go_simp
          refine ent1 x3 _ _ (Q := fun V => K _ V) ?_
          intro x4 hb4 hs4 V2
          have H4 : Hid (x4.heap.size = x3.heap.size + 1) := hs4
          clear hs4
          replace V4 := V4.after hb4
          replace V6 := V6.after hb4
          replace V8 := V8.after hb4
          replace B0 := step B0 hb4
          refine hK.out _ _ trivial (fun hHeld => ?_)
          clear hK K
          refine wpAnyH_take (i := 9) (v := ?_) rfl (by kernel_rfl) (by kernel_rfl) (by kernel_rfl) (fun _ _ _ h => h) (Or.inl ⟨by rfl, ?_⟩) hHeld ?_
          rotate_left
          · (intro W hSw; (try dsimp only at hSw); go_simp; all_goals (with_reducible rfl))
          simp only [List.getElem_toArray, List.getElem_cons_zero, List.getElem_cons_succ, Act.put, List.setIfInBounds_toArray, List.set_cons_zero, List.set_cons_succ]
          refine wpAnyH_ready (rs := [10]) (by kernel_rfl) (by simp) ?_
          refine AllReadyH.cons rfl (fun K hK => ?_) AllReadyH.nil
          simp only [List.getElem_toArray, List.getElem_cons_zero, List.getElem_cons_succ]
          go_simp
          refine ent1 x4 _ _ (Q := fun V => K _ V) ?_
          intro x5 hb5 hs5 VS
          clear hs5
          replace V4 := V4.after hb5
          replace V6 := V6.after hb5
          replace V8 := V8.after hb5
          replace V2 := V2.after hb5
          replace B0 := step B0 hb5
          refine hK.out _ _ trivial (fun hHeld => ?_)
          clear hK K
          refine wpAnyH_take (i := 11) (v := ?_) rfl (by kernel_rfl) (by kernel_rfl) (by kernel_rfl) (fun _ _ _ h => h) (Or.inl ⟨by rfl, ?_⟩) hHeld ?_
          rotate_left
          · (intro W hSw; (try dsimp only at hSw); go_simp; all_goals (with_reducible rfl))
          simp only [List.getElem_toArray, List.getElem_cons_zero, List.getElem_cons_succ, Act.put, List.setIfInBounds_toArray, List.set_cons_zero, List.set_cons_succ]
          refine wpAnyH_done (by kernel_rfl) ?_ _
          refine NoPanic.normal ?_
          clear hHeld
          obtain ⟨z0, z1, z2, z3, z4⟩ : x0.heap.size = w.heap.size ∧ x1.heap.size = x0.heap.size + 1 ∧ x2.heap.size = x1.heap.size + 1 ∧ x3.heap.size = x2.heap.size + 1 ∧ x4.heap.size = x3.heap.size + 1 := ⟨H0.out, H1.out, H2.out, H3.out, H4.out⟩
          obtain ⟨M0, h0⟩ := St.init (w := w) (N := N) (p := x4.heap.size) (gg := x3.heap.size) (gc := x0.heap.size) (ge := x1.heap.size) (gi := x2.heap.size) V2 V4 V6 V8 VS (by omega) (by omega) B0
          clear z0 z1 z2 z3 z4
          go_wp2_with fail
          go_meet
          exact ⟨_, _, _, M0, rfl, h0⟩
      ·
        simp only [List.getElem_toArray, List.getElem_cons_zero, List.getElem_cons_succ]
        go_simp
        refine ent1 x1 _ _ (Q := fun V => K _ V) ?_
        intro x2 hb2 hs2 V8
        have H2 : Hid (x2.heap.size = x1.heap.size + 1) := hs2
        clear hs2
        replace V4 := V4.after hb2
        replace B0 := step B0 hb2
        refine hK.out _ _ trivial (fun hHeld => ?_)
        clear hK K
        refine wpAnyH_ready (rs := [2, 6]) (by kernel_rfl) (by simp) ?_
        refine AllReadyH.cons rfl (fun K hK => ?_) (AllReadyH.cons rfl (fun K hK => ?_) AllReadyH.nil)
        ·
          simp only [List.getElem_toArray, List.getElem_cons_zero, List.getElem_cons_succ]
          go_simp
          refine ent1 x2 _ _ (Q := fun V => K _ V) ?_
          intro x3 hb3 hs3 V2
          have H3 : Hid (x3.heap.size = x2.heap.size + 1) := hs3
          clear hs3
          replace V4 := V4.after hb3
          replace V8 := V8.after hb3
          replace B0 := step B0 hb3
          refine hK.out _ _ trivial (fun hHeld => ?_)
          clear hK K
          refine wpAnyH_ready (rs := [6]) (by kernel_rfl) (by simp) ?_
          refine AllReadyH.cons rfl (fun K hK => ?_) AllReadyH.nil
          simp only [List.getElem_toArray, List.getElem_cons_zero, List.getElem_cons_succ]
          go_simp
          refine ent1 x3 _ _ (Q := fun V => K _ V) ?_
          intro x4 hb4 hs4 V6
          have H4 : Hid (x4.heap.size = x3.heap.size + 1) := hs4
          clear hs4
          replace V4 := V4.after hb4
          replace V8 := V8.after hb4
          replace V2 := V2.after hb4
          replace B0 := step B0 hb4
          refine hK.out _ _ trivial (fun hHeld => ?_)
          clear hK K
          refine wpAnyH_take (i := 9) (v := ?_) rfl (by kernel_rfl) (by kernel_rfl) (by kernel_rfl) (fun _ _ _ h => h) (Or.inl ⟨by rfl, ?_⟩) hHeld ?_
          rotate_left
          · (intro W hSw; (try dsimp only at hSw); go_simp; all_goals (with_reducible rfl))
          simp only [List.getElem_toArray, List.getElem_cons_zero, List.getElem_cons_succ, Act.put, List.setIfInBounds_toArray, List.set_cons_zero, List.set_cons_succ]
          refine wpAnyH_ready (rs := [10]) (by kernel_rfl) (by simp) ?_
          refine AllReadyH.cons rfl (fun K hK => ?_) AllReadyH.nil
          simp only [List.getElem_toArray, List.getElem_cons_zero, List.getElem_cons_succ]
          go_simp
          refine ent1 x4 _ _ (Q := fun V => K _ V) ?_
          intro x5 hb5 hs5 VS
          clear hs5
          replace V4 := V4.after hb5
          replace V8 := V8.after hb5
          replace V2 := V2.after hb5
          replace V6 := V6.after hb5
          replace B0 := step B0 hb5
          refine hK.out _ _ trivial (fun hHeld => ?_)
          clear hK K
          refine wpAnyH_take (i := 11) (v := ?_) rfl (by kernel_rfl) (by kernel_rfl) (by kernel_rfl) (fun _ _ _ h => h) (Or.inl ⟨by rfl, ?_⟩) hHeld ?_
          rotate_left
          · (intro W hSw; (try dsimp only at hSw); go_simp; all_goals (with_reducible rfl))
          simp only [List.getElem_toArray, List.getElem_cons_zero, List.getElem_cons_succ, Act.put, List.setIfInBounds_toArray, List.set_cons_zero, List.set_cons_succ]
          refine wpAnyH_done (by kernel_rfl) ?_ _
          refine NoPanic.normal ?_
          clear hHeld
          obtain ⟨z0, z1, z2, z3, z4⟩ : x0.heap.size = w.heap.size ∧ x1.heap.size = x0.heap.size + 1 ∧ x2.heap.size = x1.heap.size + 1 ∧ x3.heap.size = x2.heap.size + 1 ∧ x4.heap.size = x3.heap.size + 1 := ⟨H0.out, H1.out, H2.out, H3.out, H4.out⟩
          obtain ⟨M0, h0⟩ := St.init (w := w) (N := N) (p := x4.heap.size) (gg := x2.heap.size) (gc := x0.heap.size) (ge := x3.heap.size) (gi := x1.heap.size) V2 V4 V6 V8 VS (by omega) (by omega) B0
          clear z0 z1 z2 z3 z4
          go_wp2_with fail
          go_meet
          exact ⟨_, _, _, M0, rfl, h0⟩
        ·
          simp only [List.getElem_toArray, List.getElem_cons_zero, List.getElem_cons_succ]
          go_simp
          refine ent1 x2 _ _ (Q := fun V => K _ V) ?_
          intro x3 hb3 hs3 V6
          have H3 : Hid (x3.heap.size = x2.heap.size + 1) := hs3
          clear hs3
          replace V4 := V4.after hb3
          replace V8 := V8.after hb3
          replace B0 := step B0 hb3
          refine hK.out _ _ trivial (fun hHeld => ?_)
          clear hK K
          refine wpAnyH_ready (rs := [2]) (by kernel_rfl) (by simp) ?_
          refine AllReadyH.cons rfl (fun K hK => ?_) AllReadyH.nil
          simp only [List.getElem_toArray, List.getElem_cons_zero, List.getElem_cons_succ]
          go_simp
          refine ent1 x3 _ _ (Q := fun V => K _ V) ?_
          intro x4 hb4 hs4 V2
          have H4 : Hid (x4.heap.size = x3.heap.size + 1) := hs4
          clear hs4
          replace V4 := V4.after hb4
          replace V8 := V8.after hb4
          replace V6 := V6.after hb4
          replace B0 := step B0 hb4
          refine hK.out _ _ trivial (fun hHeld => ?_)
          clear hK K
          refine wpAnyH_take (i := 9) (v := ?_) rfl (by kernel_rfl) (by kernel_rfl) (by kernel_rfl) (fun _ _ _ h => h) (Or.inl ⟨by rfl, ?_⟩) hHeld ?_
          rotate_left
          · (intro W hSw; (try dsimp only at hSw); go_simp; all_goals (with_reducible rfl))
          simp only [List.getElem_toArray, List.getElem_cons_zero, List.getElem_cons_succ, Act.put, List.setIfInBounds_toArray, List.set_cons_zero, List.set_cons_succ]
          refine wpAnyH_ready (rs := [10]) (by kernel_rfl) (by simp) ?_
          refine AllReadyH.cons rfl (fun K hK => ?_) AllReadyH.nil
          simp only [List.getElem_toArray, List.getElem_cons_zero, List.getElem_cons_succ]
          go_simp
          refine ent1 x4 _ _ (Q := fun V => K _ V) ?_
          intro x5 hb5 hs5 VS
          clear hs5
          replace V4 := V4.after hb5
          replace V8 := V8.after hb5
          replace V6 := V6.after hb5
          replace V2 := V2.after hb5
          replace B0 := step B0 hb5
          refine hK.out _ _ trivial (fun hHeld => ?_)
          clear hK K
          refine wpAnyH_take (i := 11) (v := ?_) rfl (by kernel_rfl) (by kernel_rfl) (by kernel_rfl) (fun _ _ _ h => h) (Or.inl ⟨by rfl, ?_⟩) hHeld ?_
          rotate_left
          · (intro W hSw; (try dsimp only at hSw); go_simp; all_goals (with_reducible rfl))
          simp only [List.getElem_toArray, List.getElem_cons_zero, List.getElem_cons_succ, Act.put, List.setIfInBounds_toArray, List.set_cons_zero, List.set_cons_succ]
          refine wpAnyH_done (by kernel_rfl) ?_ _
          refine NoPanic.normal ?_
          clear hHeld
          obtain ⟨z0, z1, z2, z3, z4⟩ : x0.heap.size = w.heap.size ∧ x1.heap.size = x0.heap.size + 1 ∧ x2.heap.size = x1.heap.size + 1 ∧ x3.heap.size = x2.heap.size + 1 ∧ x4.heap.size = x3.heap.size + 1 := ⟨H0.out, H1.out, H2.out, H3.out, H4.out⟩
          obtain ⟨M0, h0⟩ := St.init (w := w) (N := N) (p := x4.heap.size) (gg := x3.heap.size) (gc := x0.heap.size) (ge := x2.heap.size) (gi := x1.heap.size) V2 V4 V6 V8 VS (by omega) (by omega) B0
          clear z0 z1 z2 z3 z4
          go_wp2_with fail
          go_meet
          exact ⟨_, _, _, M0, rfl, h0⟩
    ·
      simp only [List.getElem_toArray, List.getElem_cons_zero, List.getElem_cons_succ]
      go_simp
      refine ent1 x0 _ _ (Q := fun V => K _ V) ?_
      intro x1 hb1 hs1 V6
      have H1 : Hid (x1.heap.size = x0.heap.size + 1) := hs1
      clear hs1
      replace B0 := step B0 hb1
      refine hK.out _ _ trivial (fun hHeld => ?_)
      clear hK K
      refine wpAnyH_ready (rs := [2, 4, 8]) (by kernel_rfl) (by simp) ?_
      refine AllReadyH.cons rfl (fun K hK => ?_) (AllReadyH.cons rfl (fun K hK => ?_) (AllReadyH.cons rfl (fun K hK => ?_) AllReadyH.nil))
      ·
        simp only [List.getElem_toArray, List.getElem_cons_zero, List.getElem_cons_succ]
        go_simp
        refine ent1 x1 _ _ (Q := fun V => K _ V) ?_
        intro x2 hb2 hs2 V2
        have H2 : Hid (x2.heap.size = x1.heap.size + 1) := hs2
        clear hs2
        replace V6 := V6.after hb2
        replace B0 := step B0 hb2
        refine hK.out _ _ trivial (fun hHeld => ?_)
        clear hK K
        refine wpAnyH_ready (rs := [4, 8]) (by kernel_rfl) (by simp) ?_
        refine AllReadyH.cons rfl (fun K hK => ?_) (AllReadyH.cons rfl (fun K hK => ?_) AllReadyH.nil)
        ·
          simp only [List.getElem_toArray, List.getElem_cons_zero, List.getElem_cons_succ]
          go_simp
          refine ent1 x2 _ _ (Q := fun V => K _ V) ?_
          intro x3 hb3 hs3 V4
          have H3 : Hid (x3.heap.size = x2.heap.size + 1) := hs3
          clear hs3
          replace V6 := V6.after hb3
          replace V2 := V2.after hb3
          replace B0 := step B0 hb3
          refine hK.out _ _ trivial (fun hHeld => ?_)
          clear hK K
          refine wpAnyH_ready (rs := [8]) (by kernel_rfl) (by simp) ?_
          refine AllReadyH.cons rfl (fun K hK => ?_) AllReadyH.nil
          simp only [List.getElem_toArray, List.getElem_cons_zero, List.getElem_cons_succ]
          go_simp
          refine ent1 x3 _ _ (Q := fun V => K _ V) ?_
          intro x4 hb4 hs4 V8
          have H4 : Hid (x4.heap.size = x3.heap.size + 1) := hs4
          clear hs4
          replace V6 := V6.after hb4
          replace V2 := V2.after hb4
          replace V4 := V4.after hb4
          replace B0 := step B0 hb4
          refine hK.out _ _ trivial (fun hHeld => ?_)
          clear hK K
          refine wpAnyH_take (i := 9) (v := ?_) rfl (by kernel_rfl) (by kernel_rfl) (by kernel_rfl) (fun _ _ _ h => h) (Or.inl ⟨by rfl, ?_⟩) hHeld ?_
          rotate_left
          · (intro W hSw; (try dsimp only at hSw); go_simp; all_goals (with_reducible rfl))
          simp only [List.getElem_toArray, List.getElem_cons_zero, List.getElem_cons_succ, Act.put, List.setIfInBounds_toArray, List.set_cons_zero, List.set_cons_succ]
          refine wpAnyH_ready (rs := [10]) (by kernel_rfl) (by simp) ?_
          refine AllReadyH.cons rfl (fun K hK => ?_) AllReadyH.nil
          simp only [List.getElem_toArray, List.getElem_cons_zero, List.getElem_cons_succ]
          go_simp
          refine ent1 x4 _ _ (Q := fun V => K _ V) ?_
          intro x5 hb5 hs5 VS
          clear hs5
          replace V6 := V6.after hb5
          replace V2 := V2.after hb5
          replace V4 := V4.after hb5
          replace V8 := V8.after hb5
          replace B0 := step B0 hb5
          refine hK.out _ _ trivial (fun hHeld => ?_)
          clear hK K
          refine wpAnyH_take (i := 11) (v := ?_) rfl (by kernel_rfl) (by kernel_rfl) (by kernel_rfl) (fun _ _ _ h => h) (Or.inl ⟨by rfl, ?_⟩) hHeld ?_
          rotate_left
          · (intro W hSw; (try dsimp only at hSw); go_simp; all_goals (with_reducible rfl))
          simp only [List.getElem_toArray, List.getElem_cons_zero, List.getElem_cons_succ, Act.put, List.setIfInBounds_toArray, List.set_cons_zero, List.set_cons_succ]
          refine wpAnyH_done (by kernel_rfl) ?_ _
          refine NoPanic.normal ?_
          clear hHeld
          obtain ⟨z0, z1, z2, z3, z4⟩ : x0.heap.size = w.heap.size ∧ x1.heap.size = x0.heap.size + 1 ∧ x2.heap.size = x1.heap.size + 1 ∧ x3.heap.size = x2.heap.size + 1 ∧ x4.heap.size = x3.heap.size + 1 := ⟨H0.out, H1.out, H2.out, H3.out, H4.out⟩
          obtain ⟨M0, h0⟩ := St.init (w := w) (N := N) (p := x4.heap.size) (gg := x1.heap.size) (gc := x2.heap.size) (ge := x0.heap.size) (gi := x3.heap.size) V2 V4 V6 V8 VS (by omega) (by omega) B0
          clear z0 z1 z2 z3 z4
          go_wp2_with fail
          go_meet
          exact ⟨_, _, _, M0, rfl, h0⟩
        ·
          simp only [List.getElem_toArray, List.getElem_cons_zero, List.getElem_cons_succ]
          go_simp
          refine ent1 x2 _ _ (Q := fun V => K _ V) ?_
          intro x3 hb3 hs3 V8
          have H3 : Hid (x3.heap.size = x2.heap.size + 1) := hs3
          clear hs3
          replace V6 := V6.after hb3
          replace V2 := V2.after hb3
          replace B0 := step B0 hb3
          refine hK.out _ _ trivial (fun hHeld => ?_)
          clear hK K
          refine wpAnyH_ready (rs := [4]) (by kernel_rfl) (by simp) ?_
          refine AllReadyH.cons rfl (fun K hK => ?_) AllReadyH.nil
          simp only [List.getElem_toArray, List.getElem_cons_zero, List.getElem_cons_succ]
          go_simp
          refine ent1 x3 _ _ (Q := fun V => K _ V) ?_
          intro x4 hb4 hs4 V4
          have H4 : Hid (x4.heap.size = x3.heap.size + 1) := hs4
          clear hs4
          replace V6 := V6.after hb4
          replace V2 := V2.after hb4
          replace V8 := V8.after hb4
          replace B0 := step B0 hb4
          refine hK.out _ _ trivial (fun hHeld => ?_)
          clear hK K
          refine wpAnyH_take (i := 9) (v := ?_) rfl (by kernel_rfl) (by kernel_rfl) (by kernel_rfl) (fun _ _ _ h => h) (Or.inl ⟨by rfl, ?_⟩) hHeld ?_
          rotate_left
          · (intro W hSw; (try dsimp only at hSw); go_simp; all_goals (with_reducible rfl))
          simp only [List.getElem_toArray, List.getElem_cons_zero, List.getElem_cons_succ, Act.put, List.setIfInBounds_toArray, List.set_cons_zero, List.set_cons_succ]
          refine wpAnyH_ready (rs := [10]) (by kernel_rfl) (by simp) ?_
          refine AllReadyH.cons rfl (fun K hK => ?_) AllReadyH.nil
          simp only [List.getElem_toArray, List.getElem_cons_zero, List.getElem_cons_succ]
          go_simp
          refine ent1 x4 _ _ (Q := fun V => K _ V) ?_
          intro x5 hb5 hs5 VS
          clear hs5
          replace V6 := V6.after hb5
          replace V2 := V2.after hb5
          replace V8 := V8.after hb5
          replace V4 := V4.after hb5
          replace B0 := step B0 hb5
          refine hK.out _ _ trivial (fun hHeld => ?_)
          clear hK K
          refine wpAnyH_take (i := 11) (v := ?_) rfl (by kernel_rfl) (by kernel_rfl) (by kernel_rfl) (fun _ _ _ h => h) (Or.inl ⟨by rfl, ?_⟩) hHeld ?_
          rotate_left
          · (intro W hSw; (try dsimp only at hSw); go_simp; all_goals (with_reducible rfl))
          simp only [List.getElem_toArray, List.getElem_cons_zero, List.getElem_cons_succ, Act.put, List.setIfInBounds_toArray, List.set_cons_zero, List.set_cons_succ]
          refine wpAnyH_done (by kernel_rfl) ?_ _
          refine NoPanic.normal ?_
          clear hHeld
          obtain ⟨z0, z1, z2, z3, z4⟩ : x0.heap.size = w.heap.size ∧ x1.heap.size = x0.heap.size + 1 ∧ x2.heap.size = x1.heap.size + 1 ∧ x3.heap.size = x2.heap.size + 1 ∧ x4.heap.size = x3.heap.size + 1 := ⟨H0.out, H1.out, H2.out, H3.out, H4.out⟩
          obtain ⟨M0, h0⟩ := St.init (w := w) (N := N) (p := x4.heap.size) (gg := x1.heap.size) (gc := x3.heap.size) (ge := x0.heap.size) (gi := x2.heap.size) V2 V4 V6 V8 VS (by omega) (by omega) B0
          clear z0 z1 z2 z3 z4
          go_wp2_with fail
          go_meet
          exact ⟨_, _, _, M0, rfl, h0⟩
      ·
        simp only [List.getElem_toArray, List.getElem_cons_zero, List.getElem_cons_succ]
        go_simp
        refine ent1 x1 _ _ (Q := fun V => K _ V) ?_
        intro x2 hb2 hs2 V4
        have H2 : Hid (x2.heap.size = x1.heap.size + 1) := hs2
        clear hs2
        replace V6 := V6.after hb2
        replace B0 := step B0 hb2
        refine hK.out _ _ trivial (fun hHeld => ?_)
        clear hK K
        refine wpAnyH_ready (rs := [2, 8]) (by kernel_rfl) (by simp) ?_
        refine AllReadyH.cons rfl (fun K hK => ?_) (AllReadyH.cons rfl (fun K hK => ?_) AllReadyH.nil)
        ·
          simp only [List.getElem_toArray, List.getElem_cons_zero, List.getElem_cons_succ]
          go_simp
          refine ent1 x2 _ _ (Q := fun V => K _ V) ?_
          intro x3 hb3 hs3 V2
          have H3 : Hid (x3.heap.size = x2.heap.size + 1) := hs3
          clear hs3
          replace V6 := V6.after hb3
          replace V4 := V4.after hb3
          replace B0 := step B0 hb3
          refine hK.out _ _ trivial (fun hHeld => ?_)
          clear hK K
          refine wpAnyH_ready (rs := [8]) (by kernel_rfl) (by simp) ?_
          refine AllReadyH.cons rfl (fun K hK => ?_) AllReadyH.nil
          simp only [List.getElem_toArray, List.getElem_cons_zero, List.getElem_cons_succ]
          go_simp
          refine ent1 x3 _ _ (Q := fun V => K _ V) ?_
          intro x4 hb4 hs4 V8
          have H4 : Hid (x4.heap.size = x3.heap.size + 1) := hs4
          clear hs4
          replace V6 := V6.after hb4
          replace V4 := V4.after hb4
          replace V2 := V2.after hb4
          replace B0 := step B0 hb4
          refine hK.out _ _ trivial (fun hHeld => ?_)
          clear hK K
          refine wpAnyH_take (i := 9) (v := ?_) rfl (by kernel_rfl) (by kernel_rfl) (by kernel_rfl) (fun _ _ _ h => h) (Or.inl ⟨by rfl, ?_⟩) hHeld ?_
          rotate_left
          · (intro W hSw; (try dsimp only at hSw); go_simp; all_goals (with_reducible rfl))
          simp only [List.getElem_toArray, List.getElem_cons_zero, List.getElem_cons_succ, Act.put, List.setIfInBounds_toArray, List.set_cons_zero, List.set_cons_succ]
          refine wpAnyH_ready (rs := [10]) (by kernel_rfl) (by simp) ?_
          refine AllReadyH.cons rfl (fun K hK => ?_) AllReadyH.nil
          simp only [List.getElem_toArray, List.getElem_cons_zero, List.getElem_cons_succ]
          go_simp
          refine ent1 x4 _ _ (Q := fun V => K _ V) ?_
          intro x5 hb5 hs5 VS
          clear hs5
          replace V6 := V6.after hb5
          replace V4 := V4.after hb5
          replace V2 := V2.after hb5
          replace V8 := V8.after hb5
          replace B0 := step B0 hb5
          refine hK.out _ _ trivial (fun hHeld => ?_)
          clear hK K
          refine wpAnyH_take (i := 11) (v := ?_) rfl (by kernel_rfl) (by kernel_rfl) (by kernel_rfl) (fun _ _ _ h => h) (Or.inl ⟨by rfl, ?_⟩) hHeld ?_
          rotate_left
          · (intro W hSw; (try dsimp only at hSw); go_simp; all_goals (with_reducible rfl))
          simp only [List.getElem_toArray, List.getElem_cons_zero, List.getElem_cons_succ, Act.put, List.setIfInBounds_toArray, List.set_cons_zero, List.set_cons_succ]
          refine wpAnyH_done (by kernel_rfl) ?_ _
          refine NoPanic.normal ?_
          clear hHeld
          obtain ⟨z0, z1, z2, z3, z4⟩ : x0.heap.size = w.heap.size ∧ x1.heap.size = x0.heap.size + 1 ∧ x2.heap.size = x1.heap.size + 1 ∧ x3.heap.size = x2.heap.size + 1 ∧ x4.heap.size = x3.heap.size + 1 := ⟨H0.out, H1.out, H2.out, H3.out, H4.out⟩
          obtain ⟨M0, h0⟩ := St.init (w := w) (N := N) (p := x4.heap.size) (gg := x2.heap.size) (gc := x1.heap.size) (ge := x0.heap.size) (gi := x3.heap.size) V2 V4 V6 V8 VS (by omega) (by omega) B0
          clear z0 z1 z2 z3 z4
          go_wp2_with fail
          go_meet
          exact ⟨_, _, _, M0, rfl, h0⟩
        ·
          simp only [List.getElem_toArray, List.getElem_cons_zero, List.getElem_cons_succ]
          go_simp
          refine ent1 x2 _ _ (Q := fun V => K _ V) ?_
          intro x3 hb3 hs3 V8
          have H3 : Hid (x3.heap.size = x2.heap.size + 1) := hs3
          clear hs3
          replace V6 := V6.after hb3
          replace V4 := V4.after hb3
          replace B0 := step B0 hb3
          refine hK.out _ _ trivial (fun hHeld => ?_)
          clear hK K
          refine wpAnyH_ready (rs := [2]) (by kernel_rfl) (by simp) ?_
          refine AllReadyH.cons rfl (fun K hK => ?_) AllReadyH.nil
          simp only [List.getElem_toArray, List.getElem_cons_zero, List.getElem_cons_succ]
          go_simp
          refine ent1 x3 _ _ (Q := fun V => K _ V) ?_
          intro x4 hb4 hs4 V2
          have H4 : Hid (x4.heap.size = x3.heap.size + 1) := hs4
          clear hs4
          replace V6 := V6.after hb4
          replace V4 := V4.after hb4
          replace V8 := V8.after hb4
          replace B0 := step B0 hb4
          refine hK.out _ _ trivial (fun hHeld => ?_)
          clear hK K
          refine wpAnyH_take (i := 9) (v := ?_) rfl (by kernel_rfl) (by kernel_rfl) (by kernel_rfl) (fun _ _ _ h => h) (Or.inl ⟨by rfl, ?_⟩) hHeld ?_
          rotate_left
          · (intro W hSw; (try dsimp only at hSw); go_simp; all_goals (with_reducible rfl))
          simp only [List.getElem_toArray, List.getElem_cons_zero, List.getElem_cons_succ, Act.put, List.setIfInBounds_toArray, List.set_cons_zero, List.set_cons_succ]
          refine wpAnyH_ready (rs := [10]) (by kernel_rfl) (by simp) ?_
          refine AllReadyH.cons rfl (fun K hK => ?_) AllReadyH.nil
          simp only [List.getElem_toArray, List.getElem_cons_zero, List.getElem_cons_succ]
          go_simp
          refine ent1 x4 _ _ (Q := fun V => K _ V) ?_
          intro x5 hb5 hs5 VS
          clear hs5
          replace V6 := V6.after hb5
          replace V4 := V4.after hb5
          replace V8 := V8.after hb5
          replace V2 := V2.after hb5
          replace B0 := step B0 hb5
          refine hK.out _ _ trivial (fun hHeld => ?_)
          clear hK K
          refine wpAnyH_take (i := 11) (v := ?_) rfl (by kernel_rfl) (by kernel_rfl) (by kernel_rfl) (fun _ _ _ h => h) (Or.inl ⟨by rfl, ?_⟩) hHeld ?_
          rotate_left
          · (intro W hSw; (try dsimp only at hSw); go_simp; all_goals (with_reducible rfl))
          simp only [List.getElem_toArray, List.getElem_cons_zero, List.getElem_cons_succ, Act.put, List.setIfInBounds_toArray, List.set_cons_zero, List.set_cons_succ]
          refine wpAnyH_done (by kernel_rfl) ?_ _
          refine NoPanic.normal ?_
          clear hHeld
          obtain ⟨z0, z1, z2, z3, z4⟩ : x0.heap.size = w.heap.size ∧ x1.heap.size = x0.heap.size + 1 ∧ x2.heap.size = x1.heap.size + 1 ∧ x3.heap.size = x2.heap.size + 1 ∧ x4.heap.size = x3.heap.size + 1 := ⟨H0.out, H1.out, H2.out, H3.out, H4.out⟩
          obtain ⟨M0, h0⟩ := St.init (w := w) (N := N) (p := x4.heap.size) (gg := x3.heap.size) (gc := x1.heap.size) (ge := x0.heap.size) (gi := x2.heap.size) V2 V4 V6 V8 VS (by omega) (by omega) B0
          clear z0 z1 z2 z3 z4
          go_wp2_with fail
          go_meet
          exact ⟨_, _, _, M0, rfl, h0⟩
      ·
        simp only [List.getElem_toArray, List.getElem_cons_zero, List.getElem_cons_succ]
        go_simp
        refine ent1 x1 _ _ (Q := fun V => K _ V) ?_
        intro x2 hb2 hs2 V8
        have H2 : Hid (x2.heap.size = x1.heap.size + 1) := hs2
        clear hs2
        replace V6 := V6.after hb2
        replace B0 := step B0 hb2
        refine hK.out _ _ trivial (fun hHeld => ?_)
        clear hK K
        refine wpAnyH_ready (rs := [2, 4]) (by kernel_rfl) (by simp) ?_
        refine AllReadyH.cons rfl (fun K hK => ?_) (AllReadyH.cons rfl (fun K hK => ?_) AllReadyH.nil)
        ·
          simp only [List.getElem_toArray, List.getElem_cons_zero, List.getElem_cons_succ]
          go_simp
          refine ent1 x2 _ _ (Q := fun V => K _ V) ?_
          intro x3 hb3 hs3 V2
          have H3 : Hid (x3.heap.size = x2.heap.size + 1) := hs3
          clear hs3
          replace V6 := V6.after hb3
          replace V8 := V8.after hb3
          replace B0 := step B0 hb3
          refine hK.out _ _ trivial (fun hHeld => ?_)
          clear hK K
          refine wpAnyH_ready (rs := [4]) (by kernel_rfl) (by simp) ?_
          refine AllReadyH.cons rfl (fun K hK => ?_) AllReadyH.nil
          simp only [List.getElem_toArray, List.getElem_cons_zero, List.getElem_cons_succ]
          go_simp
          refine ent1 x3 _ _ (Q := fun V => K _ V) ?_
          intro x4 hb4 hs4 V4
          have H4 : Hid (x4.heap.size = x3.heap.size + 1) := hs4
          clear hs4
          replace V6 := V6.after hb4
          replace V8 := V8.after hb4
          replace V2 := V2.after hb4
          replace B0 := step B0 hb4
          refine hK.out _ _ trivial (fun hHeld => ?_)
          clear hK K
          refine wpAnyH_take (i := 9) (v := ?_) rfl (by kernel_rfl) (by kernel_rfl) (by kernel_rfl) (fun _ _ _ h => h) (Or.inl ⟨by rfl, ?_⟩) hHeld ?_
          rotate_left
          · (intro W hSw; (try dsimp only at hSw); go_simp; all_goals (with_reducible rfl))
          simp only [List.getElem_toArray, List.getElem_cons_zero, List.getElem_cons_succ, Act.put, List.setIfInBounds_toArray, List.set_cons_zero, List.set_cons_succ]
          refine wpAnyH_ready (rs := [10]) (by kernel_rfl) (by simp) ?_
          refine AllReadyH.cons rfl (fun K hK => ?_) AllReadyH.nil
          simp only [List.getElem_toArray, List.getElem_cons_zero, List.getElem_cons_succ]
          go_simp
          refine ent1 x4 _ _ (Q := fun V => K _ V) ?_
          intro x5 hb5 hs5 VS
          clear hs5
          replace V6 := V6.after hb5
          replace V8 := V8.after hb5
          replace V2 := V2.after hb5
          replace V4 := V4.after hb5
          replace B0 := step B0 hb5
          refine hK.out _ _ trivial (fun hHeld => ?_)
          clear hK K
          refine wpAnyH_take (i := 11) (v := ?_) rfl (by kernel_rfl) (by kernel_rfl) (by kernel_rfl) (fun _ _ _ h => h) (Or.inl ⟨by rfl, ?_⟩) hHeld ?_
          rotate_left
          · (intro W hSw; (try dsimp only at hSw); go_simp; all_goals (with_reducible rfl))
          simp only [List.getElem_toArray, List.getElem_cons_zero, List.getElem_cons_succ, Act.put, List.setIfInBounds_toArray, List.set_cons_zero, List.set_cons_succ]
          refine wpAnyH_done (by kernel_rfl) ?_ _
          refine NoPanic.normal ?_
          clear hHeld
          obtain ⟨z0, z1, z2, z3, z4⟩ : x0.heap.size = w.heap.size ∧ x1.heap.size = x0.heap.size + 1 ∧ x2.heap.size = x1.heap.size + 1 ∧ x3.heap.size = x2.heap.size + 1 ∧ x4.heap.size = x3.heap.size + 1 := ⟨H0.out, H1.out, H2.out, H3.out, H4.out⟩
          obtain ⟨M0, h0⟩ := St.init (w := w) (N := N) (p := x4.heap.size) (gg := x2.heap.size) (gc := x3.heap.size) (ge := x0.heap.size) (gi := x1.heap.size) V2 V4 V6 V8 VS (by omega) (by omega) B0
          clear z0 z1 z2 z3 z4
          go_wp2_with fail
          go_meet
          exact ⟨_, _, _, M0, rfl, h0⟩
        ·
          simp only [List.getElem_toArray, List.getElem_cons_zero, List.getElem_cons_succ]
          go_simp
          refine ent1 x2 _ _ (Q := fun V => K _ V) ?_
          intro x3 hb3 hs3 V4
          have H3 : Hid (x3.heap.size = x2.heap.size + 1) := hs3
          clear hs3
          replace V6 := V6.after hb3
          replace V8 := V8.after hb3
          replace B0 := step B0 hb3
          refine hK.out _ _ trivial (fun hHeld => ?_)
          clear hK K
          refine wpAnyH_ready (rs := [2]) (by kernel_rfl) (by simp) ?_
          refine AllReadyH.cons rfl (fun K hK => ?_) AllReadyH.nil
          simp only [List.getElem_toArray, List.getElem_cons_zero, List.getElem_cons_succ]
          go_simp
          refine ent1 x3 _ _ (Q := fun V => K _ V) ?_
          intro x4 hb4 hs4 V2
          have H4 : Hid (x4.heap.size = x3.heap.size + 1) := hs4
          clear hs4
          replace V6 := V6.after hb4
          replace V8 := V8.after hb4
          replace V4 := V4.after hb4
          replace B0 := step B0 hb4
          refine hK.out _ _ trivial (fun hHeld => ?_)
          clear hK K
          refine wpAnyH_take (i := 9) (v := ?_) rfl (by kernel_rfl) (by kernel_rfl) (by kernel_rfl) (fun _ _ _ h => h) (Or.inl ⟨by rfl, ?_⟩) hHeld ?_
          rotate_left
          · (intro W hSw; (try dsimp only at hSw); go_simp; all_goals (with_reducible rfl))
          simp only [List.getElem_toArray, List.getElem_cons_zero, List.getElem_cons_succ, Act.put, List.setIfInBounds_toArray, List.set_cons_zero, List.set_cons_succ]
          refine wpAnyH_ready (rs := [10]) (by kernel_rfl) (by simp) ?_
          refine AllReadyH.cons rfl (fun K hK => ?_) AllReadyH.nil
          simp only [List.getElem_toArray, List.getElem_cons_zero, List.getElem_cons_succ]
          go_simp
          refine ent1 x4 _ _ (Q := fun V => K _ V) ?_
          intro x5 hb5 hs5 VS
          clear hs5
          replace V6 := V6.after hb5
          replace V8 := V8.after hb5
          replace V4 := V4.after hb5
          replace V2 := V2.after hb5
          replace B0 := step B0 hb5
          refine hK.out _ _ trivial (fun hHeld => ?_)
          clear hK K
          refine wpAnyH_take (i := 11) (v := ?_) rfl (by kernel_rfl) (by kernel_rfl) (by kernel_rfl) (fun _ _ _ h => h) (Or.inl ⟨by rfl, ?_⟩) hHeld ?_
          rotate_left
          · (intro W hSw; (try dsimp only at hSw); go_simp; all_goals (with_reducible rfl))
          simp only [List.getElem_toArray, List.getElem_cons_zero, List.getElem_cons_succ, Act.put, List.setIfInBounds_toArray, List.set_cons_zero, List.set_cons_succ]
          refine wpAnyH_done (by kernel_rfl) ?_ _
          refine NoPanic.normal ?_
          clear hHeld
          obtain ⟨z0, z1, z2, z3, z4⟩ : x0.heap.size = w.heap.size ∧ x1.heap.size = x0.heap.size + 1 ∧ x2.heap.size = x1.heap.size + 1 ∧ x3.heap.size = x2.heap.size + 1 ∧ x4.heap.size = x3.heap.size + 1 := ⟨H0.out, H1.out, H2.out, H3.out, H4.out⟩
          obtain ⟨M0, h0⟩ := St.init (w := w) (N := N) (p := x4.heap.size) (gg := x3.heap.size) (gc := x2.heap.size) (ge := x0.heap.size) (gi := x1.heap.size) V2 V4 V6 V8 VS (by omega) (by omega) B0
          clear z0 z1 z2 z3 z4
          go_wp2_with fail
          go_meet
          exact ⟨_, _, _, M0, rfl, h0⟩
    ·
      simp only [List.getElem_toArray, List.getElem_cons_zero, List.getElem_cons_succ]
      go_simp
      refine ent1 x0 _ _ (Q := fun V => K _ V) ?_
      intro x1 hb1 hs1 V8
      have H1 : Hid (x1.heap.size = x0.heap.size + 1) := hs1
      clear hs1
      replace B0 := step B0 hb1
      refine hK.out _ _ trivial (fun hHeld => ?_)
      clear hK K
      refine wpAnyH_ready (rs := [2, 4, 6]) (by kernel_rfl) (by simp) ?_
      refine AllReadyH.cons rfl (fun K hK => ?_) (AllReadyH.cons rfl (fun K hK => ?_) (AllReadyH.cons rfl (fun K hK => ?_) AllReadyH.nil))
      ·
        simp only [List.getElem_toArray, List.getElem_cons_zero, List.getElem_cons_succ]
        go_simp
        refine ent1 x1 _ _ (Q := fun V => K _ V) ?_
        intro x2 hb2 hs2 V2
        have H2 : Hid (x2.heap.size = x1.heap.size + 1) := hs2
        clear hs2
        replace V8 := V8.after hb2
        replace B0 := step B0 hb2
        refine hK.out _ _ trivial (fun hHeld => ?_)
        clear hK K
        refine wpAnyH_ready (rs := [4, 6]) (by kernel_rfl) (by simp) ?_
        refine AllReadyH.cons rfl (fun K hK => ?_) (AllReadyH.cons rfl (fun K hK => ?_) AllReadyH.nil)
        ·
          simp only [List.getElem_toArray, List.getElem_cons_zero, List.getElem_cons_succ]
          go_simp
          refine ent1 x2 _ _ (Q := fun V => K _ V) ?_
          intro x3 hb3 hs3 V4
          have H3 : Hid (x3.heap.size = x2.heap.size + 1) := hs3
          clear hs3
          replace V8 := V8.after hb3
          replace V2 := V2.after hb3
          replace B0 := step B0 hb3
          refine hK.out _ _ trivial (fun hHeld => ?_)
          clear hK K
          refine wpAnyH_ready (rs := [6]) (by kernel_rfl) (by simp) ?_
          refine AllReadyH.cons rfl (fun K hK => ?_) AllReadyH.nil
          simp only [List.getElem_toArray, List.getElem_cons_zero, List.getElem_cons_succ]
          go_simp
          refine ent1 x3 _ _ (Q := fun V => K _ V) ?_
          intro x4 hb4 hs4 V6
          have H4 : Hid (x4.heap.size = x3.heap.size + 1) := hs4
          clear hs4
          replace V8 := V8.after hb4
          replace V2 := V2.after hb4
          replace V4 := V4.after hb4
          replace B0 := step B0 hb4
          refine hK.out _ _ trivial (fun hHeld => ?_)
          clear hK K
          refine wpAnyH_take (i := 9) (v := ?_) rfl (by kernel_rfl) (by kernel_rfl) (by kernel_rfl) (fun _ _ _ h => h) (Or.inl ⟨by rfl, ?_⟩) hHeld ?_
          rotate_left
          · (intro W hSw; (try dsimp only at hSw); go_simp; all_goals (with_reducible rfl))
          simp only [List.getElem_toArray, List.getElem_cons_zero, List.getElem_cons_succ, Act.put, List.setIfInBounds_toArray, List.set_cons_zero, List.set_cons_succ]
          refine wpAnyH_ready (rs := [10]) (by kernel_rfl) (by simp) ?_
          refine AllReadyH.cons rfl (fun K hK => ?_) AllReadyH.nil
          simp only [List.getElem_toArray, List.getElem_cons_zero, List.getElem_cons_succ]
          go_simp
          refine ent1 x4 _ _ (Q := fun V => K _ V) ?_
          intro x5 hb5 hs5 VS
          clear hs5
          replace V8 := V8.after hb5
          replace V2 := V2.after hb5
          replace V4 := V4.after hb5
          replace V6 := V6.after hb5
          replace B0 := step B0 hb5
          refine hK.out _ _ trivial (fun hHeld => ?_)
          clear hK K
          refine wpAnyH_take (i := 11) (v := ?_) rfl (by kernel_rfl) (by kernel_rfl) (by kernel_rfl) (fun _ _ _ h => h) (Or.inl ⟨by rfl, ?_⟩) hHeld ?_
          rotate_left
          · (intro W hSw; (try dsimp only at hSw); go_simp; all_goals (with_reducible rfl))
          simp only [List.getElem_toArray, List.getElem_cons_zero, List.getElem_cons_succ, Act.put, List.setIfInBounds_toArray, List.set_cons_zero, List.set_cons_succ]
          refine wpAnyH_done (by kernel_rfl) ?_ _
          refine NoPanic.normal ?_
          clear hHeld
          obtain ⟨z0, z1, z2, z3, z4⟩ : x0.heap.size = w.heap.size ∧ x1.heap.size = x0.heap.size + 1 ∧ x2.heap.size = x1.heap.size + 1 ∧ x3.heap.size = x2.heap.size + 1 ∧ x4.heap.size = x3.heap.size + 1 := ⟨H0.out, H1.out, H2.out, H3.out, H4.out⟩
          obtain ⟨M0, h0⟩ := St.init (w := w) (N := N) (p := x4.heap.size) (gg := x1.heap.size) (gc := x2.heap.size) (ge := x3.heap.size) (gi := x0.heap.size) V2 V4 V6 V8 VS (by omega) (by omega) B0
          clear z0 z1 z2 z3 z4
          go_wp2_with fail
          go_meet
          exact ⟨_, _, _, M0, rfl, h0⟩
        ·
          simp only [List.getElem_toArray, List.getElem_cons_zero, List.getElem_cons_succ]
          go_simp
          refine ent1 x2 _ _ (Q := fun V => K _ V) ?_
          intro x3 hb3 hs3 V6
          have H3 : Hid (x3.heap.size = x2.heap.size + 1) := hs3
          clear hs3
          replace V8 := V8.after hb3
          replace V2 := V2.after hb3
          replace B0 := step B0 hb3
          refine hK.out _ _ trivial (fun hHeld => ?_)
          clear hK K
          refine wpAnyH_ready (rs := [4]) (by kernel_rfl) (by simp) ?_
          refine AllReadyH.cons rfl (fun K hK => ?_) AllReadyH.nil
          simp only [List.getElem_toArray, List.getElem_cons_zero, List.getElem_cons_succ]
          go_simp
          refine ent1 x3 _ _ (Q := fun V => K _ V) ?_
          intro x4 hb4 hs4 V4
          have H4 : Hid (x4.heap.size = x3.heap.size + 1) := hs4
          clear hs4
          replace V8 := V8.after hb4
          replace V2 := V2.after hb4
          replace V6 := V6.after hb4
          replace B0 := step B0 hb4
          refine hK.out _ _ trivial (fun hHeld => ?_)
          clear hK K
          refine wpAnyH_take (i := 9) (v := ?_) rfl (by kernel_rfl) (by kernel_rfl) (by kernel_rfl) (fun _ _ _ h => h) (Or.inl ⟨by rfl, ?_⟩) hHeld ?_
          rotate_left
          · (intro W hSw; (try dsimp only at hSw); go_simp; all_goals (with_reducible rfl))
          simp only [List.getElem_toArray, List.getElem_cons_zero, List.getElem_cons_succ, Act.put, List.setIfInBounds_toArray, List.set_cons_zero, List.set_cons_succ]
          refine wpAnyH_ready (rs := [10]) (by kernel_rfl) (by simp) ?_
          refine AllReadyH.cons rfl (fun K hK => ?_) AllReadyH.nil
          simp only [List.getElem_toArray, List.getElem_cons_zero, List.getElem_cons_succ]
          go_simp
          refine ent1 x4 _ _ (Q := fun V => K _ V) ?_
          intro x5 hb5 hs5 VS
          clear hs5
          replace V8 := V8.after hb5
          replace V2 := V2.after hb5
          replace V6 := V6.after hb5
          replace V4 := V4.after hb5
          replace B0 := step B0 hb5
          refine hK.out _ _ trivial (fun hHeld => ?_)
          clear hK K
          refine wpAnyH_take (i := 11) (v := ?_) rfl (by kernel_rfl) (by kernel_rfl) (by kernel_rfl) (fun _ _ _ h => h) (Or.inl ⟨by rfl, ?_⟩) hHeld ?_
          rotate_left
          · (intro W hSw; (try dsimp only at hSw); go_simp; all_goals (with_reducible rfl))
          simp only [List.getElem_toArray, List.getElem_cons_zero, List.getElem_cons_succ, Act.put, List.setIfInBounds_toArray, List.set_cons_zero, List.set_cons_succ]
          refine wpAnyH_done (by kernel_rfl) ?_ _
          refine NoPanic.normal ?_
          clear hHeld
          obtain ⟨z0, z1, z2, z3, z4⟩ : x0.heap.size = w.heap.size ∧ x1.heap.size = x0.heap.size + 1 ∧ x2.heap.size = x1.heap.size + 1 ∧ x3.heap.size = x2.heap.size + 1 ∧ x4.heap.size = x3.heap.size + 1 := ⟨H0.out, H1.out, H2.out, H3.out, H4.out⟩
          obtain ⟨M0, h0⟩ := St.init (w := w) (N := N) (p := x4.heap.size) (gg := x1.heap.size) (gc := x3.heap.size) (ge := x2.heap.size) (gi := x0.heap.size) V2 V4 V6 V8 VS (by omega) (by omega) B0
          clear z0 z1 z2 z3 z4
          go_wp2_with fail
          go_meet
          exact ⟨_, _, _, M0, rfl, h0⟩
      ·
        simp only [List.getElem_toArray, List.getElem_cons_zero, List.getElem_cons_succ]
        go_simp
        refine ent1 x1 _ _ (Q := fun V => K _ V) ?_
        intro x2 hb2 hs2 V4
        have H2 : Hid (x2.heap.size = x1.heap.size + 1) := hs2
        clear hs2
        replace V8 := V8.after hb2
        replace B0 := step B0 hb2
        refine hK.out _ _ trivial (fun hHeld => ?_)
        clear hK K
        refine wpAnyH_ready (rs := [2, 6]) (by kernel_rfl) (by simp) ?_
        refine AllReadyH.cons rfl (fun K hK => ?_) (AllReadyH.cons rfl (fun K hK => ?_) AllReadyH.nil)
        ·
          simp only [List.getElem_toArray, List.getElem_cons_zero, List.getElem_cons_succ]
          go_simp
          refine ent1 x2 _ _ (Q := fun V => K _ V) ?_
          intro x3 hb3 hs3 V2
          have H3 : Hid (x3.heap.size = x2.heap.size + 1) := hs3
          clear hs3
          replace V8 := V8.after hb3
          replace V4 := V4.after hb3
          replace B0 := step B0 hb3
          refine hK.out _ _ trivial (fun hHeld => ?_)
          clear hK K
          refine wpAnyH_ready (rs := [6]) (by kernel_rfl) (by simp) ?_
          refine AllReadyH.cons rfl (fun K hK => ?_) AllReadyH.nil
          simp only [List.getElem_toArray, List.getElem_cons_zero, List.getElem_cons_succ]
          go_simp
          refine ent1 x3 _ _ (Q := fun V => K _ V) ?_
          intro x4 hb4 hs4 V6
          have H4 : Hid (x4.heap.size = x3.heap.size + 1) := hs4
          clear hs4
          replace V8 := V8.after hb4
          replace V4 := V4.after hb4
          replace V2 := V2.after hb4
          replace B0 := step B0 hb4
          refine hK.out _ _ trivial (fun hHeld => ?_)
          clear hK K
          refine wpAnyH_take (i := 9) (v := ?_) rfl (by kernel_rfl) (by kernel_rfl) (by kernel_rfl) (fun _ _ _ h => h) (Or.inl ⟨by rfl, ?_⟩) hHeld ?_
          rotate_left
          · (intro W hSw; (try dsimp only at hSw); go_simp; all_goals (with_reducible rfl))
          simp only [List.getElem_toArray, List.getElem_cons_zero, List.getElem_cons_succ, Act.put, List.setIfInBounds_toArray, List.set_cons_zero, List.set_cons_succ]
          refine wpAnyH_ready (rs := [10]) (by kernel_rfl) (by simp) ?_
          refine AllReadyH.cons rfl (fun K hK => ?_) AllReadyH.nil
          simp only [List.getElem_toArray, List.getElem_cons_zero, List.getElem_cons_succ]
          go_simp
          refine ent1 x4 _ _ (Q := fun V => K _ V) ?_
          intro x5 hb5 hs5 VS
          clear hs5
          replace V8 := V8.after hb5
          replace V4 := V4.after hb5
          replace V2 := V2.after hb5
          replace V6 := V6.after hb5
          replace B0 := step B0 hb5
          refine hK.out _ _ trivial (fun hHeld => ?_)
          clear hK K
          refine wpAnyH_take (i := 11) (v := ?_) rfl (by kernel_rfl) (by kernel_rfl) (by kernel_rfl) (fun _ _ _ h => h) (Or.inl ⟨by rfl, ?_⟩) hHeld ?_
          rotate_left
          · (intro W hSw; (try dsimp only at hSw); go_simp; all_goals (with_reducible rfl))
          simp only [List.getElem_toArray, List.getElem_cons_zero, List.getElem_cons_succ, Act.put, List.setIfInBounds_toArray, List.set_cons_zero, List.set_cons_succ]
          refine wpAnyH_done (by kernel_rfl) ?_ _
          refine NoPanic.normal ?_
          clear hHeld
          obtain ⟨z0, z1, z2, z3, z4⟩ : x0.heap.size = w.heap.size ∧ x1.heap.size = x0.heap.size + 1 ∧ x2.heap.size = x1.heap.size + 1 ∧ x3.heap.size = x2.heap.size + 1 ∧ x4.heap.size = x3.heap.size + 1 := ⟨H0.out, H1.out, H2.out, H3.out, H4.out⟩
          obtain ⟨M0, h0⟩ := St.init (w := w) (N := N) (p := x4.heap.size) (gg := x2.heap.size) (gc := x1.heap.size) (ge := x3.heap.size) (gi := x0.heap.size) V2 V4 V6 V8 VS (by omega) (by omega) B0
          clear z0 z1 z2 z3 z4
          go_wp2_with fail
          go_meet
          exact ⟨_, _, _, M0, rfl, h0⟩
        ·
          simp only [List.getElem_toArray, List.getElem_cons_zero, List.getElem_cons_succ]
          go_simp
          refine ent1 x2 _ _ (Q := fun V => K _ V) ?_
          intro x3 hb3 hs3 V6
          have H3 : Hid (x3.heap.size = x2.heap.size + 1) := hs3
          clear hs3
          replace V8 := V8.after hb3
          replace V4 := V4.after hb3
          replace B0 := step B0 hb3
          refine hK.out _ _ trivial (fun hHeld => ?_)
          clear hK K
          refine wpAnyH_ready (rs := [2]) (by kernel_rfl) (by simp) ?_
          refine AllReadyH.cons rfl (fun K hK => ?_) AllReadyH.nil
          simp only [List.getElem_toArray, List.getElem_cons_zero, List.getElem_cons_succ]
          go_simp
          refine ent1 x3 _ _ (Q := fun V => K _ V) ?_
          intro x4 hb4 hs4 V2
          have H4 : Hid (x4.heap.size = x3.heap.size + 1) := hs4
          clear hs4
          replace V8 := V8.after hb4
          replace V4 := V4.after hb4
          replace V6 := V6.after hb4
          replace B0 := step B0 hb4
          refine hK.out _ _ trivial (fun hHeld => ?_)
          clear hK K
          refine wpAnyH_take (i := 9) (v := ?_) rfl (by kernel_rfl) (by kernel_rfl) (by kernel_rfl) (fun _ _ _ h => h) (Or.inl ⟨by rfl, ?_⟩) hHeld ?_
          rotate_left
          · (intro W hSw; (try dsimp only at hSw); go_simp; all_goals (with_reducible rfl))
          simp only [List.getElem_toArray, List.getElem_cons_zero, List.getElem_cons_succ, Act.put, List.setIfInBounds_toArray, List.set_cons_zero, List.set_cons_succ]
          refine wpAnyH_ready (rs := [10]) (by kernel_rfl) (by simp) ?_
          refine AllReadyH.cons rfl (fun K hK => ?_) AllReadyH.nil
          simp only [List.getElem_toArray, List.getElem_cons_zero, List.getElem_cons_succ]
          go_simp
          refine ent1 x4 _ _ (Q := fun V => K _ V) ?_
          intro x5 hb5 hs5 VS
          clear hs5
          replace V8 := V8.after hb5
          replace V4 := V4.after hb5
          replace V6 := V6.after hb5
          replace V2 := V2.after hb5
          replace B0 := step B0 hb5
          refine hK.out _ _ trivial (fun hHeld => ?_)
          clear hK K
          refine wpAnyH_take (i := 11) (v := ?_) rfl (by kernel_rfl) (by kernel_rfl) (by kernel_rfl) (fun _ _ _ h => h) (Or.inl ⟨by rfl, ?_⟩) hHeld ?_
          rotate_left
          · (intro W hSw; (try dsimp only at hSw); go_simp; all_goals (with_reducible rfl))
          simp only [List.getElem_toArray, List.getElem_cons_zero, List.getElem_cons_succ, Act.put, List.setIfInBounds_toArray, List.set_cons_zero, List.set_cons_succ]
          refine wpAnyH_done (by kernel_rfl) ?_ _
          refine NoPanic.normal ?_
          clear hHeld
          obtain ⟨z0, z1, z2, z3, z4⟩ : x0.heap.size = w.heap.size ∧ x1.heap.size = x0.heap.size + 1 ∧ x2.heap.size = x1.heap.size + 1 ∧ x3.heap.size = x2.heap.size + 1 ∧ x4.heap.size = x3.heap.size + 1 := ⟨H0.out, H1.out, H2.out, H3.out, H4.out⟩
          obtain ⟨M0, h0⟩ := St.init (w := w) (N := N) (p := x4.heap.size) (gg := x3.heap.size) (gc := x1.heap.size) (ge := x2.heap.size) (gi := x0.heap.size) V2 V4 V6 V8 VS (by omega) (by omega) B0
          clear z0 z1 z2 z3 z4
          go_wp2_with fail
          go_meet
          exact ⟨_, _, _, M0, rfl, h0⟩
      ·
        simp only [List.getElem_toArray, List.getElem_cons_zero, List.getElem_cons_succ]
        go_simp
        refine ent1 x1 _ _ (Q := fun V => K _ V) ?_
        intro x2 hb2 hs2 V6
        have H2 : Hid (x2.heap.size = x1.heap.size + 1) := hs2
        clear hs2
        replace V8 := V8.after hb2
        replace B0 := step B0 hb2
        refine hK.out _ _ trivial (fun hHeld => ?_)
        clear hK K
        refine wpAnyH_ready (rs := [2, 4]) (by kernel_rfl) (by simp) ?_
        refine AllReadyH.cons rfl (fun K hK => ?_) (AllReadyH.cons rfl (fun K hK => ?_) AllReadyH.nil)
        ·
          simp only [List.getElem_toArray, List.getElem_cons_zero, List.getElem_cons_succ]
          go_simp
          refine ent1 x2 _ _ (Q := fun V => K _ V) ?_
          intro x3 hb3 hs3 V2
          have H3 : Hid (x3.heap.size = x2.heap.size + 1) := hs3
          clear hs3
          replace V8 := V8.after hb3
          replace V6 := V6.after hb3
          replace B0 := step B0 hb3
          refine hK.out _ _ trivial (fun hHeld => ?_)
          clear hK K
          refine wpAnyH_ready (rs := [4]) (by kernel_rfl) (by simp) ?_
          refine AllReadyH.cons rfl (fun K hK => ?_) AllReadyH.nil
          simp only [List.getElem_toArray, List.getElem_cons_zero, List.getElem_cons_succ]
          go_simp
          refine ent1 x3 _ _ (Q := fun V => K _ V) ?_
          intro x4 hb4 hs4 V4
          have H4 : Hid (x4.heap.size = x3.heap.size + 1) := hs4
          clear hs4
          replace V8 := V8.after hb4
          replace V6 := V6.after hb4
          replace V2 := V2.after hb4
          replace B0 := step B0 hb4
          refine hK.out _ _ trivial (fun hHeld => ?_)
          clear hK K
          refine wpAnyH_take (i := 9) (v := ?_) rfl (by kernel_rfl) (by kernel_rfl) (by kernel_rfl) (fun _ _ _ h => h) (Or.inl ⟨by rfl, ?_⟩) hHeld ?_
          rotate_left
          · (intro W hSw; (try dsimp only at hSw); go_simp; all_goals (with_reducible rfl))
          simp only [List.getElem_toArray, List.getElem_cons_zero, List.getElem_cons_succ, Act.put, List.setIfInBounds_toArray, List.set_cons_zero, List.set_cons_succ]
          refine wpAnyH_ready (rs := [10]) (by kernel_rfl) (by simp) ?_
          refine AllReadyH.cons rfl (fun K hK => ?_) AllReadyH.nil
          simp only [List.getElem_toArray, List.getElem_cons_zero, List.getElem_cons_succ]
          go_simp
          refine ent1 x4 _ _ (Q := fun V => K _ V) ?_
          intro x5 hb5 hs5 VS
          clear hs5
          replace V8 := V8.after hb5
          replace V6 := V6.after hb5
          replace V2 := V2.after hb5
          replace V4 := V4.after hb5
          replace B0 := step B0 hb5
          refine hK.out _ _ trivial (fun hHeld => ?_)
          clear hK K
          refine wpAnyH_take (i := 11) (v := ?_) rfl (by kernel_rfl) (by kernel_rfl) (by kernel_rfl) (fun _ _ _ h => h) (Or.inl ⟨by rfl, ?_⟩) hHeld ?_
          rotate_left
          · (intro W hSw; (try dsimp only at hSw); go_simp; all_goals (with_reducible rfl))
          simp only [List.getElem_toArray, List.getElem_cons_zero, List.getElem_cons_succ, Act.put, List.setIfInBounds_toArray, List.set_cons_zero, List.set_cons_succ]
          refine wpAnyH_done (by kernel_rfl) ?_ _
          refine NoPanic.normal ?_
          clear hHeld
          obtain ⟨z0, z1, z2, z3, z4⟩ : x0.heap.size = w.heap.size ∧ x1.heap.size = x0.heap.size + 1 ∧ x2.heap.size = x1.heap.size + 1 ∧ x3.heap.size = x2.heap.size + 1 ∧ x4.heap.size = x3.heap.size + 1 := ⟨H0.out, H1.out, H2.out, H3.out, H4.out⟩
          obtain ⟨M0, h0⟩ := St.init (w := w) (N := N) (p := x4.heap.size) (gg := x2.heap.size) (gc := x3.heap.size) (ge := x1.heap.size) (gi := x0.heap.size) V2 V4 V6 V8 VS (by omega) (by omega) B0
          clear z0 z1 z2 z3 z4
          go_wp2_with fail
          go_meet
          exact ⟨_, _, _, M0, rfl, h0⟩
        ·
          simp only [List.getElem_toArray, List.getElem_cons_zero, List.getElem_cons_succ]
          go_simp
          refine ent1 x2 _ _ (Q := fun V => K _ V) ?_
          intro x3 hb3 hs3 V4
          have H3 : Hid (x3.heap.size = x2.heap.size + 1) := hs3
          clear hs3
          replace V8 := V8.after hb3
          replace V6 := V6.after hb3
          replace B0 := step B0 hb3
          refine hK.out _ _ trivial (fun hHeld => ?_)
          clear hK K
          refine wpAnyH_ready (rs := [2]) (by kernel_rfl) (by simp) ?_
          refine AllReadyH.cons rfl (fun K hK => ?_) AllReadyH.nil
          simp only [List.getElem_toArray, List.getElem_cons_zero, List.getElem_cons_succ]
          go_simp
          refine ent1 x3 _ _ (Q := fun V => K _ V) ?_
          intro x4 hb4 hs4 V2
          have H4 : Hid (x4.heap.size = x3.heap.size + 1) := hs4
          clear hs4
          replace V8 := V8.after hb4
          replace V6 := V6.after hb4
          replace V4 := V4.after hb4
          replace B0 := step B0 hb4
          refine hK.out _ _ trivial (fun hHeld => ?_)
          clear hK K
          refine wpAnyH_take (i := 9) (v := ?_) rfl (by kernel_rfl) (by kernel_rfl) (by kernel_rfl) (fun _ _ _ h => h) (Or.inl ⟨by rfl, ?_⟩) hHeld ?_
          rotate_left
          · (intro W hSw; (try dsimp only at hSw); go_simp; all_goals (with_reducible rfl))
          simp only [List.getElem_toArray, List.getElem_cons_zero, List.getElem_cons_succ, Act.put, List.setIfInBounds_toArray, List.set_cons_zero, List.set_cons_succ]
          refine wpAnyH_ready (rs := [10]) (by kernel_rfl) (by simp) ?_
          refine AllReadyH.cons rfl (fun K hK => ?_) AllReadyH.nil
          simp only [List.getElem_toArray, List.getElem_cons_zero, List.getElem_cons_succ]
          go_simp
          refine ent1 x4 _ _ (Q := fun V => K _ V) ?_
          intro x5 hb5 hs5 VS
          clear hs5
          replace V8 := V8.after hb5
          replace V6 := V6.after hb5
          replace V4 := V4.after hb5
          replace V2 := V2.after hb5
          replace B0 := step B0 hb5
          refine hK.out _ _ trivial (fun hHeld => ?_)
          clear hK K
          refine wpAnyH_take (i := 11) (v := ?_) rfl (by kernel_rfl) (by kernel_rfl) (by kernel_rfl) (fun _ _ _ h => h) (Or.inl ⟨by rfl, ?_⟩) hHeld ?_
          rotate_left
          · (intro W hSw; (try dsimp only at hSw); go_simp; all_goals (with_reducible rfl))
          simp only [List.getElem_toArray, List.getElem_cons_zero, List.getElem_cons_succ, Act.put, List.setIfInBounds_toArray, List.set_cons_zero, List.set_cons_succ]
          refine wpAnyH_done (by kernel_rfl) ?_ _
          refine NoPanic.normal ?_
          clear hHeld
          obtain ⟨z0, z1, z2, z3, z4⟩ : x0.heap.size = w.heap.size ∧ x1.heap.size = x0.heap.size + 1 ∧ x2.heap.size = x1.heap.size + 1 ∧ x3.heap.size = x2.heap.size + 1 ∧ x4.heap.size = x3.heap.size + 1 := ⟨H0.out, H1.out, H2.out, H3.out, H4.out⟩
          obtain ⟨M0, h0⟩ := St.init (w := w) (N := N) (p := x4.heap.size) (gg := x3.heap.size) (gc := x2.heap.size) (ge := x1.heap.size) (gi := x0.heap.size) V2 V4 V6 V8 VS (by omega) (by omega) B0
          clear z0 z1 z2 z3 z4
          go_wp2_with fail
          go_meet
          exact ⟨_, _, _, M0, rfl, h0⟩
  · obtain ⟨P, dv, ov, M, rfl, HT⟩ := hcut
    go_wp2_with fail
    go_loopw [21] (fun v wz => ∃ (k : Nat) (dv ov : Value) (M : Tmm), v = .int .i64 k ∧ k ≤ n ∧ Hid (St N n b0 w wz P dv ov M []) ∧ Hid (∀ x, x < k → M.came x ≠ 0)) (fun v _ => (n - (intOf v).toNat : Nat))
    case atStart => exact ⟨0, dv, ov, M, rfl, Nat.zero_le _, HT.out, fun x h => absurd h (by omega)⟩
    case round =>
      clear HT
      obtain ⟨k, dv, ov, M, rfl, hk, HT, HC⟩ := hrel
      rcases Nat.lt_or_ge k n with hlt | hge
      · have hki : (k : Int) < n := by omega
        have c2 := HT.out.se.f2
        have ck := HT.out.se.ca.cell hlt
        by_cases hc : M.came k = 0
        · rw [hc] at ck
          have hF := from_any hn HT.out HRr.out HL6.out HNn.out k hlt hc
          clear hc
          go_wp2_with (go_at_call 37; refine hF.mono ?_; rintro e w6 ⟨⟨u6, rfl⟩, dv6, ov6, M6, hT6, hc6⟩; have HT6 : Hid (St N n b0 w w6 P dv6 ov6 M6 []) := hT6; have HC6 : Hid (∀ x, M.came x ≠ 0 ∨ x = k → M6.came x ≠ 0) := hc6; clear hT6 hc6 hF)
          go_roundw
          case rel => exact ⟨k + 1, dv6, ov6, M6, rfl, by omega, HT6.out, fun x hx => HC6.out x (by
            by_cases e : x = k
            · exact .inr e
            · exact .inl (HC.out x (by omega)))⟩
          case measure => simp [intOf]; omega
        · have hci : ¬ ((M.came k : Nat) : Int) = 0 := by omega
          have HK : Hid (M.came k ≠ 0) := hc
          clear hc
          go_wp2_with fail
          go_roundw
          case rel => exact ⟨k + 1, dv, ov, M, rfl, by omega, HT.out, fun x hx => by
            by_cases e : x = k
            · rw [e]; exact HK.out
            · exact HC.out x (by omega)⟩
          case measure => simp [intOf]; omega
      · obtain rfl : k = n := by omega
        clear hge hk
        have c8 := HT.out.se.f8
        go_wp2_with fail
        go_ret
        exact ⟨⟨M.least, rfl, HT.out.tj.all HNn.out HC.out⟩, HT.out.se.below⟩
end Go.Proofs.Ytonhooaboieapaa
