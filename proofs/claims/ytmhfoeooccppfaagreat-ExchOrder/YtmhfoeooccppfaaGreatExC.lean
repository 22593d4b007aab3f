/-
  exchange: cmp.Compare of texts, cmp.Or of two numbers, comparePairs, slices.SortFunc of pairs.
-/
import Derived.Test.YtmhfoeooccppfaaGreatExA
import Derived.Test.YtmhfoeooccppfaaGreatShelfP
namespace Go.Proofs.YtmhfoeooccppfaaGreat
open Go.RowKit Go.Shelf Go.Lib Go.Sort
set_option linter.unusedVariables false
set_option maxRecDepth 20000

theorem infoP : (Tryz.prog.info? 71).map (fun i => (i.zero, i.size, i.bytes)) = some (some (.agg #[.string ⟨#[]⟩, .string ⟨#[]⟩]), 2, 32) := by kernel_rfl
/-- Pairs in memory. -/
def elP : El Pa where
  enc k := [sv k.1, sv k.2]
  dft := ([], [])
  te := 71
  tl := 85
  z := .agg #[.string ⟨#[]⟩, .string ⟨#[]⟩]
  s := 2
  by8 := 32
  len := fun _ => rfl
  one := fun x v hv => by
    simp at hv
    rcases hv with rfl | rfl <;> rfl
  pos := by decide
  und := Tryz.underlying85
  inf := infoP
  zs := rfl
  bt := by decide
instance (a b : List UInt8) : Decidable (sl a b) := by unfold sl; infer_instance
/-- Two texts compared. -/
def cfT (x y : List UInt8) : Int := if sl x y then -1 else if sl y x then 1 else 0
theorem cfT_range (x y : List UInt8) : cfT x y = -1 ∨ cfT x y = 0 ∨ cfT x y = 1 := by unfold cfT; split <;> (try split) <;> simp
def cfP (x y : Pa) : Int := if cfT x.1 y.1 = 0 then cfT x.2 y.2 else cfT x.1 y.1
theorem cfT_lt {x y : List UInt8} : cfT x y < 0 ↔ sl x y := by
  unfold cfT
  split
  · simp [*]
  · split <;> simp [*]
theorem cfT_eq {x y : List UInt8} : cfT x y = 0 ↔ x = y := by
  unfold cfT
  constructor
  · intro h
    rcases sl_tri x y with h1 | h1 | h1
    · rw [if_pos h1] at h; cases h
    · exact h1
    · rw [if_neg (fun h2 => sl_irr _ (sl_trans _ _ _ h1 h2)), if_pos h1] at h; cases h
  · rintro rfl
    rw [if_neg (sl_irr x), if_neg (sl_irr x)]
theorem ltP (x y : Pa) : ltOf cfP x y = true ↔ PlE x y := by
  unfold ltOf cfP PlE
  rw [decide_eq_true_eq]
  by_cases h : cfT x.1 y.1 = 0
  · rw [if_pos h, cfT_lt]
    have e := cfT_eq.1 h
    constructor
    · exact fun h1 => Or.inr ⟨e, h1⟩
    · rintro (h1 | ⟨-, h1⟩)
      · rw [e] at h1; exact absurd h1 (sl_irr _)
      · exact h1
  · rw [if_neg h, cfT_lt]
    constructor
    · exact fun h1 => Or.inl h1
    · rintro (h1 | ⟨h1, -⟩)
      · exact h1
      · exact absurd (cfT_eq.2 h1) h
theorem ple_irr (x : Pa) : ¬ PlE x x := by
  rintro (h | ⟨-, h⟩) <;> exact sl_irr _ h
theorem ple_trans {x y z : Pa} (h : PlE x y) (g : PlE y z) : PlE x z := by
  rcases h with h | ⟨h1, h2⟩ <;> rcases g with g | ⟨g1, g2⟩
  · exact Or.inl (sl_trans _ _ _ h g)
  · exact Or.inl (g1 ▸ h)
  · exact Or.inl (h1 ▸ g)
  · exact Or.inr ⟨h1.trans g1, sl_trans _ _ _ h2 g2⟩
theorem ple_tri (x y : Pa) : PlE x y ∨ x = y ∨ PlE y x := by
  rcases sl_tri x.1 y.1 with h | h | h
  · exact Or.inl (Or.inl h)
  · rcases sl_tri x.2 y.2 with g | g | g
    · exact Or.inl (Or.inr ⟨h, g⟩)
    · exact Or.inr (Or.inl (Prod.ext h g))
    · exact Or.inr (Or.inr (Or.inr ⟨h.symm, g⟩))
  · exact Or.inr (Or.inr (Or.inl h))
theorem ltP_false {x y : Pa} : ltOf cfP x y = false ↔ ¬ PlE x y := by rw [← ltP]; simp
theorem swoP : SWO (ltOf cfP) where
  irrefl x := by rw [ltP_false]; exact ple_irr x
  trans x y z h1 h2 := by rw [ltP] at *; exact ple_trans h1 h2
  ntrans x y z h1 h2 := by
    rw [ltP_false] at *
    intro h
    rcases ple_tri x y with g | g | g
    · exact h1 g
    · subst g; exact h2 h
    · exact h2 (ple_trans g h)
theorem cmpStr (x y : List UInt8) (w : World) : Calls Tryz.prog 73 #[sv x, sv y] w fun e w' => e = .returned (.int .i64 (cfT x y)) ∧ w' = w := by
  have hn : ∀ z W, Calls Tryz.prog 99 #[sv z] W fun e w' => e = .returned (.bool false) ∧ w' = W := by
    intro z W
    go_enter Tryz.func99, Tryz.ntmps99
    go_wp2_with fail
    go_ret
    exact ⟨by simp, rfl⟩
  rcases sl_tri x y with h | h | h
  · have HE : Hid (cfT x y = -1) := by show _ = _; unfold cfT; rw [if_pos h]
    unfold sl at h
    go_enter Tryz.func73, Tryz.ntmps73
    go_wp2_with (go_at_call 99; refine (hn _ _).mono ?_; rintro e w' ⟨rfl, rfl⟩)
    go_ret
    exact ⟨by rw [HE.out]; rfl, rfl⟩
  · subst h
    have HE : Hid (cfT x x = 0) := cfT_eq.2 rfl
    have h' : Op.bytesLess x x = false := by have := sl_irr x; unfold sl at this; simpa using this
    go_enter Tryz.func73, Tryz.ntmps73
    go_wp2_with (go_at_call 99; refine (hn _ _).mono ?_; rintro e w' ⟨rfl, rfl⟩)
    go_ret
    exact ⟨by rw [HE.out]; rfl, rfl⟩
  · have g : ¬ sl x y := fun g => sl_irr _ (sl_trans _ _ _ h g)
    have HE : Hid (cfT x y = 1) := by show _ = _; unfold cfT; rw [if_neg g, if_pos h]
    have h' : Op.bytesLess x y = false := by unfold sl at g; simpa using g
    have g' : Op.bytesLess y x = true := h
    have e : (x == y) = false := by
      rw [beq_eq_false_iff_ne]
      rintro rfl
      exact g h
    clear h g
    go_enter Tryz.func73, Tryz.ntmps73
    go_wp2_with (go_at_call 99; refine (hn _ _).mono ?_; rintro e w' ⟨rfl, rfl⟩)
    go_ret
    exact ⟨by rw [HE.out]; rfl, rfl⟩
theorem or_any (a b : Int) (g : Nat) (t : TypeId) (w : World) (h : Va w g t #[.int .i64 a, .int .i64 b]) : Calls Tryz.prog 72 #[.slice (some ⟨g, 0, none⟩) 2 2] w fun e w' => e = .returned (.int .i64 (if a = 0 then b else a)) ∧ w' = w := by
  have c0 : w.cell? ⟨g, 0, none⟩ = some (.int .i64 a) := by rw [h.cellAt 0]; rfl
  have c1 : w.cell? ⟨g, 1, none⟩ = some (.int .i64 b) := by rw [h.cellAt 1]; rfl
  clear h
  by_cases ha : a = 0
  · subst ha
    by_cases hb : b = 0
    · subst hb
      go_enter Tryz.func72, Tryz.ntmps72
      go_wp2_with fail
      refine wp_loop_rounds 3 ?_
      rw [rounds_succ]
      go_wp2_with fail
      rw [rounds_succ]
      go_wp2_with fail
      rw [rounds_succ]
      go_wp2_with fail
      go_ret
      exact ⟨rfl, rfl⟩
    · have hbb : (b == 0) = false := by simpa using hb
      go_enter Tryz.func72, Tryz.ntmps72
      go_wp2_with fail
      refine wp_loop_rounds 2 ?_
      rw [rounds_succ]
      go_wp2_with fail
      rw [rounds_succ]
      go_wp2_with fail
      go_ret
      exact ⟨rfl, rfl⟩
  · have hab : (a == 0) = false := by simpa using ha
    go_enter Tryz.func72, Tryz.ntmps72
    go_wp2_with fail
    refine wp_loop_rounds 1 ?_
    rw [rounds_succ]
    go_wp2_with fail
    go_ret
    exact ⟨by simp, rfl⟩
set_option maxHeartbeats 2000000 in
theorem pairs_any (x y : Pa) (w : World) : Calls Tryz.prog 39 #[.agg #[sv x.1, sv x.2], .agg #[sv y.1, sv y.2]] w fun e w' => e = .returned (.int .i64 (cfP x y)) ∧ ∃ q os', w' = grow (w.drewN q) os' := by
  obtain ⟨r, hr⟩ : ∃ r, cfP x y = r := ⟨_, rfl⟩
  have HR : Hid ((if cfT x.1 y.1 = 0 then cfT x.2 y.2 else cfT x.1 y.1) = r) := hr
  rw [hr]
  clear hr
  obtain ⟨c1, hc1⟩ : ∃ c, cfT x.1 y.1 = c := ⟨_, rfl⟩
  obtain ⟨c2, hc2⟩ : ∃ c, cfT x.2 y.2 = c := ⟨_, rfl⟩
  have k1 := cmpStr x.1 y.1
  have k2 := cmpStr x.2 y.2
  rw [hc1] at k1
  rw [hc2] at k2
  rw [hc1, hc2] at HR
  clear hc1 hc2
  obtain ⟨x1, x2⟩ := x
  obtain ⟨y1, y2⟩ := y
  simp only at k1 k2 ⊢
  have B0 : Below w.heap.size w w := Below.refl _ _
  go_enter Tryz.func39, Tryz.ntmps39
  go_upto_region 1 with fail
  obtain ⟨wa, hwa⟩ : ∃ wa, wa = (w.alloc (.cells #[sv x1, sv x2] 71)).alloc (.cells #[sv y1, sv y2] 71) := ⟨_, rfl⟩
  have V1 : Va wa w.heap.size 71 #[sv x1, sv x2] := by rw [hwa]; exact (Va.new w _ _).old _
  have V2 : Va wa (w.heap.size + 1) 71 #[sv y1, sv y2] := by
    have := Va.new (w.alloc (.cells #[sv x1, sv x2] 71)) 71 #[sv y1, sv y2]
    rw [World.size_alloc] at this
    rw [hwa]; exact this
  have HWA : Hid (wa = (w.alloc (.cells #[sv x1, sv x2] 71)).alloc (.cells #[sv y1, sv y2] 71)) := hwa
  rw [← hwa]
  clear hwa
  have B0 : Below wa.heap.size wa wa := Below.refl _ _
  refine wp_region_noPanic ?_
  replace V1 : Va wa.drew _ _ _ := V1
  replace V2 : Va wa.drew _ _ _ := V2
  replace B0 := Below.drew B0
  refine wp_region_held_drew (S := (fun W => (W.cell? ⟨w.heap.size, 0, none⟩ = some (sv x1) ∧ W.cell? ⟨w.heap.size, 1, none⟩ = some (sv x2)) ∧ W.cell? ⟨w.heap.size + 1, 0, none⟩ = some (sv y1) ∧ W.cell? ⟨w.heap.size + 1, 1, none⟩ = some (sv y2))) (by kernel_rfl) ⟨⟨by rw [V1.cellAt 0]; rfl, by rw [V1.cellAt 1]; rfl⟩, by rw [V2.cellAt 0]; rfl, by rw [V2.cellAt 1]; rfl⟩ (fun hHeld => ?_)
  obtain ⟨wb, hxd⟩ : ∃ xd, xd = wa.drew := ⟨_, rfl⟩
  rw [← hxd] at V1 V2 B0 hHeld ⊢
  have HWB : Hid (wb = wa.drew) := hxd
  clear hxd
  refine wpAnyH_take (i := 0) (v := ?_) rfl (by kernel_rfl) (by kernel_rfl) (by kernel_rfl) (fun _ _ _ h => h) (Or.inl ⟨by rfl, ?_⟩) hHeld ?_
  rotate_left
  · (intro W hSw; (try dsimp only at hSw); go_simp; all_goals (with_reducible rfl))
  simp only [List.getElem_toArray, List.getElem_cons_zero, Act.put, List.setIfInBounds_toArray, List.set_cons_zero, List.set_cons_succ]
  refine wpAnyH_take (i := 1) (v := ?_) rfl (by kernel_rfl) (by kernel_rfl) (by kernel_rfl) (fun _ _ _ h => h) (Or.inl ⟨by rfl, ?_⟩) hHeld ?_
  rotate_left
  · (intro W hSw; (try dsimp only at hSw); go_simp; all_goals (with_reducible rfl))
  simp only [List.getElem_toArray, List.getElem_cons_zero, List.getElem_cons_succ, Act.put, List.setIfInBounds_toArray, List.set_cons_zero, List.set_cons_succ]
  refine wpAnyH_take (i := 2) (v := ?_) rfl (by kernel_rfl) (by kernel_rfl) (by kernel_rfl) (fun _ _ _ h => h) (Or.inl ⟨by rfl, ?_⟩) hHeld ?_
  rotate_left
  · (intro W hSw; (try dsimp only at hSw); go_simp; all_goals (with_reducible rfl))
  simp only [List.getElem_toArray, List.getElem_cons_zero, List.getElem_cons_succ, Act.put, List.setIfInBounds_toArray, List.set_cons_zero, List.set_cons_succ]
  refine wpAnyH_take (i := 3) (v := ?_) rfl (by kernel_rfl) (by kernel_rfl) (by kernel_rfl) (fun _ _ _ h => h) (Or.inl ⟨by rfl, ?_⟩) hHeld ?_
  rotate_left
  · (intro W hSw; (try dsimp only at hSw); go_simp; all_goals (with_reducible rfl))
  simp only [List.getElem_toArray, List.getElem_cons_zero, List.getElem_cons_succ, Act.put, List.setIfInBounds_toArray, List.set_cons_zero, List.set_cons_succ]
  refine wpAnyH_take (i := 5) (v := ?_) rfl (by kernel_rfl) (by kernel_rfl) (by kernel_rfl) (fun _ _ _ h => h) (Or.inl ⟨by rfl, ?_⟩) hHeld ?_
  rotate_left
  · (intro W hSw; (try dsimp only at hSw); go_simp; all_goals (with_reducible rfl))
  simp only [List.getElem_toArray, List.getElem_cons_zero, List.getElem_cons_succ, Act.put, List.setIfInBounds_toArray, List.set_cons_zero, List.set_cons_succ]
  refine wpAnyH_take (i := 6) (v := ?_) rfl (by kernel_rfl) (by kernel_rfl) (by kernel_rfl) (fun _ _ _ h => h) (Or.inl ⟨by rfl, ?_⟩) hHeld ?_
  rotate_left
  · (intro W hSw; (try dsimp only at hSw); go_simp; all_goals (with_reducible rfl))
  simp only [List.getElem_toArray, List.getElem_cons_zero, List.getElem_cons_succ, Act.put, List.setIfInBounds_toArray, List.set_cons_zero, List.set_cons_succ]
  refine wpAnyH_take (i := 7) (v := ?_) rfl (by kernel_rfl) (by kernel_rfl) (by kernel_rfl) (fun _ _ _ h => h) (Or.inl ⟨by rfl, ?_⟩) hHeld ?_
  rotate_left
  · (intro W hSw; (try dsimp only at hSw); go_simp; all_goals (with_reducible rfl))
  simp only [List.getElem_toArray, List.getElem_cons_zero, List.getElem_cons_succ, Act.put, List.setIfInBounds_toArray, List.set_cons_zero, List.set_cons_succ]
  refine wpAnyH_take (i := 8) (v := ?_) rfl (by kernel_rfl) (by kernel_rfl) (by kernel_rfl) (fun _ _ _ h => h) (Or.inl ⟨by rfl, ?_⟩) hHeld ?_
  rotate_left
  · (intro W hSw; (try dsimp only at hSw); go_simp; all_goals (with_reducible rfl))
  simp only [List.getElem_toArray, List.getElem_cons_zero, List.getElem_cons_succ, Act.put, List.setIfInBounds_toArray, List.set_cons_zero, List.set_cons_succ]
  refine wpAnyH_ready (rs := [4]) (by kernel_rfl) (by simp) ?_
  refine AllReadyH.cons rfl (fun K hK => ?_) AllReadyH.nil
  simp only [List.getElem_toArray, List.getElem_cons_zero, List.getElem_cons_succ]
  go_simp
  refine (k1 _).mono ?_
  rintro e w2 ⟨rfl, rfl⟩
  try go_wp2_with fail
  refine hK.out _ _ ⟨⟨by rw [V1.cellAt 0]; rfl, by rw [V1.cellAt 1]; rfl⟩, by rw [V2.cellAt 0]; rfl, by rw [V2.cellAt 1]; rfl⟩ (fun hHeld => ?_)
  clear hK K
  refine wpAnyH_ready (rs := [9]) (by kernel_rfl) (by simp) ?_
  refine AllReadyH.cons rfl (fun K hK => ?_) AllReadyH.nil
  simp only [List.getElem_toArray, List.getElem_cons_zero, List.getElem_cons_succ]
  go_simp
  refine (k2 _).mono ?_
  rintro e w3 ⟨rfl, rfl⟩
  try go_wp2_with fail
  refine hK.out _ _ ⟨⟨by rw [V1.cellAt 0]; rfl, by rw [V1.cellAt 1]; rfl⟩, by rw [V2.cellAt 0]; rfl, by rw [V2.cellAt 1]; rfl⟩ (fun hHeld => ?_)
  clear hK K
  refine wpAnyH_ready (rs := [10]) (by kernel_rfl) (by simp) ?_
  refine AllReadyH.cons rfl (fun K hK => ?_) AllReadyH.nil
  simp only [List.getElem_toArray, List.getElem_cons_zero, List.getElem_cons_succ]
  go_simp
  have V3 := Va.new w3 3 #[.int .i64 c1, .int .i64 c2]
  replace V1 := V1.old (.cells #[.int .i64 c1, .int .i64 c2] 3)
  replace V2 := V2.old (.cells #[.int .i64 c1, .int .i64 c2] 3)
  refine hK.out _ _ ⟨⟨by rw [V1.cellAt 0]; rfl, by rw [V1.cellAt 1]; rfl⟩, by rw [V2.cellAt 0]; rfl, by rw [V2.cellAt 1]; rfl⟩ (fun hHeld => ?_)
  clear hK K
  have ko := or_any c1 c2 w3.heap.size 3 _ V3
  rw [HR.out] at ko
  have HW4 : Hid (w3.alloc (.cells #[.int .i64 c1, .int .i64 c2] 3) = w3.alloc (.cells #[.int .i64 c1, .int .i64 c2] 3)) := rfl
  obtain ⟨w4, hw4⟩ : ∃ w4, w4 = w3.alloc (.cells #[.int .i64 c1, .int .i64 c2] 3) := ⟨_, rfl⟩
  rw [← hw4] at ko V1 V2 V3 hHeld ⊢
  have HW5 : Hid (w4 = w3.alloc (.cells #[.int .i64 c1, .int .i64 c2] 3)) := hw4
  clear hw4 HW4
  refine wpAnyH_ready (rs := [11]) (by kernel_rfl) (by simp) ?_
  refine AllReadyH.cons rfl (fun K hK => ?_) AllReadyH.nil
  simp only [List.getElem_toArray, List.getElem_cons_zero, List.getElem_cons_succ]
  go_simp
  refine (ko).mono ?_
  rintro e w5 ⟨rfl, rfl⟩
  try go_wp2_with fail
  refine hK.out _ _ ⟨⟨by rw [V1.cellAt 0]; rfl, by rw [V1.cellAt 1]; rfl⟩, by rw [V2.cellAt 0]; rfl, by rw [V2.cellAt 1]; rfl⟩ (fun hHeld => ?_)
  clear hK K
  refine wpAnyH_take (i := 12) (v := ?_) rfl (by kernel_rfl) (by kernel_rfl) (by kernel_rfl) (fun _ _ _ h => h) (Or.inl ⟨by rfl, ?_⟩) hHeld ?_
  rotate_left
  · (intro W hSw; (try dsimp only at hSw); go_simp; all_goals (with_reducible rfl))
  simp only [List.getElem_toArray, List.getElem_cons_zero, List.getElem_cons_succ, Act.put, List.setIfInBounds_toArray, List.set_cons_zero, List.set_cons_succ]
  refine wpAnyH_done (by kernel_rfl) ?_ _
  refine NoPanic.normal ?_
  clear hHeld
  try go_wp2_with fail
  go_ret
  exact ⟨rfl, 1, _, by rw [HW5.out, HWB.out, HWA.out, alloc_eq_grow, alloc_eq_grow, alloc_eq_grow, grow_grow]; exact grow_grow w.drew _ _⟩
/-- A pair's two cells. -/
abbrev encP (k : Pa) : List Value := [sv k.1, sv k.2]
theorem cmpLaysP (blk off size : Nat) (w : World) : CmpLays Tryz.prog 39 #[] encP 2 cfP blk off size w :=
  fun _ _ _ _ x y => pairs_any x y _
instance : Inhabited Pa := ⟨([], [])⟩
theorem getD_arrP (ps : List Pa) (i : Nat) (hi : i < ps.length) : (ps.toArray)[i]! = ps.getD i ([], []) := by
  rw [getElem!_pos _ i (by simpa using hi), List.getD_eq_getElem?_getD, List.getElem?_eq_getElem hi]
  simp
theorem enc_two (k : Pa) (j : Nat) : (encP k)[j % 2]? = some (id (encP k)[j % 2]!) := by
  rcases Nat.mod_two_eq_zero_or_one j with e | e <;> rw [e] <;> rfl
theorem getP (ps : List Pa) (j : Nat) (hj : j < ps.length * 2) : (rowE elP ps)[j]? = (encP ((ps.toArray)[j / 2]!))[j % 2]? := by
  have := rowE_get elP (j % 2) (Nat.mod_lt _ (by decide)) ps (j / 2) (by omega)
  rw [getD_arrP ps (j / 2) (by omega)]
  rw [show j / 2 * elP.s + j % 2 = j by show j / 2 * 2 + j % 2 = j; omega] at this
  exact this
theorem Ge.holdsP {w : World} {B g n cap : Nat} {ps : List Pa} (h : Ge elP w B (.slice (some ⟨g, 0, none⟩) n cap) ps) : HoldsK encP 2 w g 0 ps.toArray := by
  intro j hj
  have hj' : j < ps.length * 2 := by simpa using hj
  rw [get_flatK _ _ _ _ (by simpa using hj'), Nat.zero_add]
  obtain ⟨a', c', e, -, -, -⟩ := h.shape
  have hn : n = ps.length := by cases e; rfl
  obtain ⟨b', off', e2, hc⟩ := h.toLe.2 (by omega)
  cases e2
  refine ⟨?_, h.frozen j⟩
  have := hc j
  rw [getP ps j hj', enc_two, Nat.zero_add] at this
  exact this _ rfl
theorem sort_world_p {w : World} {B g n cap m : Nat} {ps : List Pa} {d' : Array Pa} {os : Array Obj} (h : Ge elP w B (.slice (some ⟨g, 0, none⟩) n cap) ps) (hs : d'.size = ps.length) :
    Le elP (sortWorldK encP 2 w g 0 m d' os) (some ⟨g, 0, none⟩) n d'.toList ∧ (∀ n₀, n₀ ≤ g → Below n₀ w (sortWorldK encP 2 w g 0 m d' os)) := by
  have hg : g < w.heap.size := h.lt g rfl
  obtain ⟨a', cap', e, -, -, -⟩ := h.shape
  have hn : n = ps.length := by cases e; rfl
  have hH := holdsK_sortWorldK_c encP 2 w g 0 ps.toArray d' m os h.holdsP hg (by simpa using hs)
  refine ⟨⟨by simp [hs, hn], fun h0 => ⟨g, 0, rfl, fun i u hu => ?_⟩⟩, fun n₀ hn₀ => ?_⟩
  · have hi : i < d'.toList.length * 2 := by
      rcases Nat.lt_or_ge i (rowE elP d'.toList).length with h' | h'
      · rwa [rowE_length] at h'
      · rw [List.getElem?_eq_none h'] at hu; cases hu
    rw [getP d'.toList i hi] at hu
    have := (hH i (by simpa using hi)).1
    rw [get_flatK _ _ _ _ (by simpa using hi)] at this
    rw [show d'.toList.toArray = d' by simp] at hu
    rw [enc_two] at hu
    rw [Option.some.inj hu] at this
    exact this
  · unfold sortWorldK
    have hsz : (putRowK encP 2 (Sort.ahead w m) g 0 d').heap.size = w.heap.size := by rw [size_putRowK]; rfl
    refine ⟨rfl, rfl, rfl, by show w.heap.size ≤ (_ ++ os).size; rw [Array.size_append, hsz]; omega, fun k hk => ?_⟩
    show (_ ++ os)[k]? = _
    rw [Array.getElem?_append_left (by rw [hsz]; omega)]
    unfold putRowK putRow mapBlock
    show ((Sort.ahead w m).heap.modify g _)[k]? = _
    rw [Array.getElem?_modify, if_neg (by omega)]
    rfl

end Go.Proofs.YtmhfoeooccppfaaGreat
