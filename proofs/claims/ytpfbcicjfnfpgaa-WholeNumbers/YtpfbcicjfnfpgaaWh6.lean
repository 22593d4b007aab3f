/-
  Whether a number is the document's; the document's Sign, Neg, Compare, Add, Sub, Mul, Long; 'agrees'.
-/
import Derived.Test.YtpfbcicjfnfpgaaWh5
import Derived.Test.YtpfbcicjfnfpgaaNRef3
import Derived.Test.YtpfbcicjfnfpgaaBsL
import Derived.Test.YtpfbcicjfnfpgaaNRef6
namespace Go.Proofs.Ytpfbcicjfnfpgaa
open Go.RowKit Go.Shelf
set_option linter.unusedVariables false

set_option maxHeartbeats 1000000 in
theorem samek_any (a b : Option Addr) (la ca cb : Nat) (xs : List Int) (w : World) (ha : Sl w a la xs) (hb : Sl w b la xs) (h1 : la ≤ 40000000000000) :
    Calls Try.prog 39 #[.slice a la ca, .slice b la cb] w fun e w' => e = .returned (.bool true) ∧ ∃ n, w' = w.drewN n := by
  have hza := ha.1
  have g1 : ((la : Int) != la) = false := by simp
  by_cases h0 : la = 0
  · subst h0
    clear ha hb
    go_enter Try.func39, Try.ntmps39
    go_wp2_with fail
    refine wp_loop_rounds 1 ?_
    rw [rounds_succ]
    go_wp2_with fail
    go_ret
    exact ⟨rfl, 0, rfl⟩
  · obtain ⟨ba, oa, rfl, hca⟩ := ha.2.2 (by omega)
    obtain ⟨bb, ob, rfl, hcb⟩ := hb.2.2 (by omega)
    clear ha hb
    go_enter Try.func39, Try.ntmps39
    go_wp2_with fail
    go_loopw [5] (fun i wr => ∃ k : Nat, k ≤ la ∧ i = .int .i64 k ∧ ∃ q, wr = w.drewN q) (fun i _ => la - (intOf i).toNat)
    case atStart => exact ⟨0, Nat.zero_le _, rfl, 0, rfl⟩
    case round =>
      obtain ⟨k, hk, rfl, q, rfl⟩ := hrel
      by_cases hlt : k < la
      · have hcx := hca k (by omega)
        have hcy := hcb k (by omega)
        obtain ⟨x, hx⟩ : ∃ x, xs.getD k 0 = x := ⟨_, rfl⟩
        rw [hx] at hcx hcy
        clear hx
        have g2 : (x != x) = false := by simp
        go_wp2_with fail
        go_quiet (fail)
        go_wp2_with fail
        go_roundw
        case rel => exact ⟨k + 1, by omega, by go_num, q + nq, rfl⟩
        case measure => simp [intOf]; omega
      · go_wp2_with fail
        go_ret
        exact ⟨rfl, q, rfl⟩


theorem samek_b (a b : Option Addr) (la ca cb : Nat) (xs : List Int) (w : World) (ha : Sl w a la xs) (hb : Sl w b la xs) (h1 : la ≤ 40000000000000) :
    Calls Try.prog 39 #[.slice a la ca, .slice b la cb] w fun e w' => e = .returned (.bool true) ∧ Below w.heap.size w w' := by
  refine (samek_any a b la ca cb xs w ha hb h1).mono ?_
  rintro e w' ⟨rfl, n, rfl⟩
  exact ⟨rfl, below_drewN (Below.refl _ _) n⟩
theorem own_aft {w w' : World} {g : Nat} {cs : List Int} (b : Below w.heap.size w w') (h : Own w g cs) : Own w' g cs := h.below b h.lt
theorem Ir.sign {w : World} {s : Bool} {a : Option Addr} {l c : Nat} {zs : List Int} (h : Ir w s a l c zs) : s = decide (iv s zs < 0) := by
  have h0 := h.nonneg
  cases s
  · rw [iv_f]; symm; simpa using h0
  · have := h.2.2.2.2 rfl
    rw [iv_t]; symm; simp; omega
theorem Ir.abs {w : World} {s : Bool} {a : Option Addr} {l c : Nat} {zs : List Int} (h : Ir w s a l c zs) : num zs = (iv s zs).natAbs := by
  have h0 := h.nonneg
  cases s
  · rw [iv_f]; omega
  · rw [iv_t]; omega
theorem Ir.zero {w : World} {s : Bool} {a : Option Addr} {l c : Nat} {zs : List Int} (h : Ir w s a l c zs) : ((l : Int) == 0) = decide (num zs = 0) := by
  have e := num_eq_zero h.1.2.1
  rw [h.2.1] at e
  rw [Bool.eq_iff_iff]; simp; omega
theorem Ir.nil (w : World) : Ir w false none 0 0 [] := ⟨⟨rfl, Limbs.nil, fun h => absurd h (by decide)⟩, rfl, Nat.le_refl _, fun _ => ⟨rfl, rfl⟩, fun h => by cases h⟩
theorem It.ir {w w' : World} {s t : Bool} {a b : Option Addr} {l c m k : Nat} {zs ds : List Int} (h : It w s a l c zs) (g : Ir w' t b m k ds) (e : iv t ds = iv s zs) : t = s ∧ m = l ∧ ds = zs := by
  have e1 := h.sign
  have e2 := g.sign
  rw [e] at e2
  obtain ⟨e3, e4⟩ := h.1.same g.1 g.2.1 (by rw [g.abs, h.abs, e])
  exact ⟨e2.trans e1.symm, e3, e4⟩

theorem rsign_any (s : Bool) (a : Option Addr) (l c : Nat) (zs : List Int) (w : World) (h : Ir w s a l c zs) :
    Calls Try.prog 38 #[.agg #[.bool s, .slice a l c]] w fun e w' => e = .returned (.int .i64 (Int.sign (iv s zs))) ∧ Below w.heap.size w w' := by
  have hz := h.zero
  have hp := h.nonneg
  cases s
  · have es : Int.sign (iv false zs) = if num zs = 0 then 0 else 1 := by
      rw [iv_f]
      by_cases e : num zs = 0
      · rw [if_pos e, e]; rfl
      · rw [if_neg e, Int.sign_eq_one_of_pos (by omega)]
    rw [es]
    clear es
    by_cases e : num zs = 0
    · rw [if_pos e]
      have ez : ((l : Int) == 0) = true := by rw [hz]; simpa using e
      clear hz hp e h
      go_enter Try.func38, Try.ntmps38
      go_wp2_with fail
      go_ret
      exact ⟨rfl, (Below.refl _ _).alloc (Nat.le_refl _) _⟩
    · rw [if_neg e]
      have ez : ((l : Int) == 0) = false := by rw [hz]; simpa using e
      clear hz hp e h
      go_enter Try.func38, Try.ntmps38
      go_wp2_with fail
      go_ret
      exact ⟨rfl, (Below.refl _ _).alloc (Nat.le_refl _) _⟩
  · have es : Int.sign (iv true zs) = -1 := by
      have := h.2.2.2.2 rfl
      rw [iv_t, Int.sign_eq_neg_one_of_neg (by omega)]
    rw [es]
    clear es hz hp h
    go_enter Try.func38, Try.ntmps38
    go_wp2_with fail
    go_ret
    exact ⟨rfl, (Below.refl _ _).alloc (Nat.le_refl _) _⟩

set_option maxHeartbeats 4000000 in
theorem is4_ok (s t : Bool) (a b : Option Addr) (l c m k : Nat) (zs ds : List Int) (w : World) (h : It w s a l c zs) (g : Ir w t b m k ds) (he : iv t ds = iv s zs) :
    Calls Try.prog 15 #[.agg #[.bool s, .slice a l c], .agg #[.bool t, .slice b m k]] w fun e w' => e = .returned (.bool true) ∧ Below w.heap.size w w' := by
  obtain ⟨rfl, rfl, rfl⟩ := h.ir g he
  have hl := h.1.2.2.2
  have hzl := h.1.1.1
  clear he
  have B0 : Below w.heap.size w w := Below.refl _ _
  go_enter Try.func15, Try.ntmps15
  go_wp2_with fail
  refine ent2 w _ _ _ _ (Q := fun W => Code.wp Try.prog _ _ _ W) ?_
  intro x1 hb hs_x1 V0 V1
  replace h := It.after hb h
  replace g := Ir.after hb g
  replace B0 := step B0 hb
  clear hb hs_x1
  refine wp_region_noPanic ?_
  replace V0 : Va x1.drew _ _ _ := V0
  replace V1 : Va x1.drew _ _ _ := V1
  replace h : It x1.drew _ _ _ _ _ := h
  replace g := g.drw
  replace B0 := Below.drew B0
  refine wp_region_held_drew (S := (fun W => W.cell? ⟨w.heap.size, 0, none⟩ = some (.bool t) ∧ W.cell? ⟨w.heap.size, 1, none⟩ = some (.slice a m c) ∧ W.cell? ⟨w.heap.size + 1, 0, none⟩ = some (.bool t) ∧ W.cell? ⟨w.heap.size + 1, 1, none⟩ = some (.slice b m k))) (by kernel_rfl) ⟨V0.c0, V0.c1, V1.c0, V1.c1⟩ (fun hHeld => ?_)
  obtain ⟨x2, hxd⟩ : ∃ xd, xd = x1.drew := ⟨_, rfl⟩
  rw [← hxd] at V0 V1 h g B0 hHeld ⊢
  clear hxd
  refine wpAnyH_take (i := 0) (v := ?_) rfl (by kernel_rfl) (by kernel_rfl) (by kernel_rfl) (fun _ _ _ h => h) (Or.inl ⟨by rfl, ?_⟩) hHeld ?_
  rotate_left
  · (intro W hSw; (try dsimp only at hSw); go_simp; all_goals (with_reducible rfl))
  simp only [List.getElem_toArray, List.getElem_cons_zero, Act.put, List.setIfInBounds_toArray, List.set_cons_zero, List.set_cons_succ]
  refine wpAnyH_take (i := 2) (v := ?_) rfl (by kernel_rfl) (by kernel_rfl) (by kernel_rfl) (fun _ _ _ h => h) (Or.inl ⟨by rfl, ?_⟩) hHeld ?_
  rotate_left
  · (intro W hSw; (try dsimp only at hSw); go_simp; all_goals (with_reducible rfl))
  simp only [List.getElem_toArray, List.getElem_cons_zero, List.getElem_cons_succ, Act.put, List.setIfInBounds_toArray, List.set_cons_zero, List.set_cons_succ]
  refine wpAnyH_ready (rs := [1]) (by kernel_rfl) (by simp) ?_
  refine AllReadyH.cons rfl (fun K hK => ?_) AllReadyH.nil
  simp only [List.getElem_toArray, List.getElem_cons_zero, List.getElem_cons_succ]
  go_simp
  refine (wsign_any t a m c ds _ h).mono ?_
  rintro e x3 ⟨rfl, hb⟩
  replace V0 := Va.after hb V0
  replace V1 := Va.after hb V1
  replace h := It.after hb h
  replace g := Ir.after hb g
  replace B0 := step B0 hb
  clear hb
  obtain ⟨q, hq⟩ : ∃ q, Int.sign (iv t ds) = q := ⟨_, rfl⟩
  rw [hq]
  try go_wp2_with fail
  refine hK.out _ _ ⟨V0.c0, V0.c1, V1.c0, V1.c1⟩ (fun hHeld => ?_)
  clear hK K
  refine wpAnyH_ready (rs := [3]) (by kernel_rfl) (by simp) ?_
  refine AllReadyH.cons rfl (fun K hK => ?_) AllReadyH.nil
  simp only [List.getElem_toArray, List.getElem_cons_zero, List.getElem_cons_succ]
  go_simp
  refine (rsign_any t b m k ds _ g).mono ?_
  rintro e x4 ⟨rfl, hb⟩
  replace V0 := Va.after hb V0
  replace V1 := Va.after hb V1
  replace h := It.after hb h
  replace g := Ir.after hb g
  replace B0 := step B0 hb
  clear hb
  rw [hq]
  try go_wp2_with fail
  refine hK.out _ _ ⟨V0.c0, V0.c1, V1.c0, V1.c1⟩ (fun hHeld => ?_)
  clear hK K
  refine wpAnyH_take (i := 4) (v := ?_) rfl (by kernel_rfl) (by kernel_rfl) (by kernel_rfl) (fun _ _ _ h => h) (Or.inl ⟨by rfl, ?_⟩) hHeld ?_
  rotate_left
  · (intro W hSw; (try dsimp only at hSw); go_simp; all_goals (with_reducible rfl))
  simp only [List.getElem_toArray, List.getElem_cons_zero, List.getElem_cons_succ, Act.put, List.setIfInBounds_toArray, List.set_cons_zero, List.set_cons_succ]
  refine wpAnyH_take (i := 5) (v := ?_) rfl (by kernel_rfl) (by kernel_rfl) (by kernel_rfl) (fun _ _ _ h => h) (Or.inl ⟨by rfl, ?_⟩) hHeld ?_
  rotate_left
  · (intro W hSw; (try dsimp only at hSw); go_simp; all_goals (with_reducible rfl))
  simp only [List.getElem_toArray, List.getElem_cons_zero, List.getElem_cons_succ, Act.put, List.setIfInBounds_toArray, List.set_cons_zero, List.set_cons_succ]
  refine wpAnyH_take (i := 6) (v := ?_) rfl (by kernel_rfl) (by kernel_rfl) (by kernel_rfl) (fun _ _ _ h => h) (Or.inl ⟨by rfl, ?_⟩) hHeld ?_
  rotate_left
  · (intro W hSw; (try dsimp only at hSw); go_simp; all_goals (with_reducible rfl))
  simp only [List.getElem_toArray, List.getElem_cons_zero, List.getElem_cons_succ, Act.put, List.setIfInBounds_toArray, List.set_cons_zero, List.set_cons_succ]
  refine wpAnyH_take (i := 9) (v := ?_) rfl (by kernel_rfl) (by kernel_rfl) (by kernel_rfl) (fun _ _ _ h => h) (Or.inl ⟨by rfl, ?_⟩) hHeld ?_
  rotate_left
  · (intro W hSw; (try dsimp only at hSw); go_simp; all_goals (with_reducible rfl))
  simp only [List.getElem_toArray, List.getElem_cons_zero, List.getElem_cons_succ, Act.put, List.setIfInBounds_toArray, List.set_cons_zero, List.set_cons_succ]
  refine wpAnyH_take (i := 10) (v := ?_) rfl (by kernel_rfl) (by kernel_rfl) (by kernel_rfl) (fun _ _ _ h => h) (Or.inl ⟨by rfl, ?_⟩) hHeld ?_
  rotate_left
  · (intro W hSw; (try dsimp only at hSw); go_simp; all_goals (with_reducible rfl))
  simp only [List.getElem_toArray, List.getElem_cons_zero, List.getElem_cons_succ, Act.put, List.setIfInBounds_toArray, List.set_cons_zero, List.set_cons_succ]
  refine wpAnyH_ready (rs := [7]) (by kernel_rfl) (by simp) ?_
  refine AllReadyH.cons rfl (fun K hK => ?_) AllReadyH.nil
  simp only [List.getElem_toArray, List.getElem_cons_zero, List.getElem_cons_succ]
  go_simp
  refine (wabs_any t a m c _).mono ?_
  rintro e x5 ⟨rfl, hb⟩
  replace V0 := Va.after hb V0
  replace V1 := Va.after hb V1
  replace h := It.after hb h
  replace g := Ir.after hb g
  replace B0 := step B0 hb
  clear hb
  try go_wp2_with fail
  refine hK.out _ _ ⟨V0.c0, V0.c1, V1.c0, V1.c1⟩ (fun hHeld => ?_)
  clear hK K
  refine wpAnyH_ready (rs := [8]) (by kernel_rfl) (by simp) ?_
  refine AllReadyH.cons rfl (fun K hK => ?_) AllReadyH.nil
  simp only [List.getElem_toArray, List.getElem_cons_zero, List.getElem_cons_succ]
  go_simp
  refine (limbs_any a m c ds _ h.1).mono ?_
  rintro e x6 ⟨g1, rfl, hg1, ho, hb⟩
  replace V0 := Va.after hb V0
  replace V1 := Va.after hb V1
  replace h := It.after hb h
  replace g := Ir.after hb g
  replace B0 := step B0 hb
  clear hb
  clear hg1
  try go_wp2_with fail
  refine hK.out _ _ ⟨V0.c0, V0.c1, V1.c0, V1.c1⟩ (fun hHeld => ?_)
  clear hK K
  refine wpAnyH_ready (rs := [11]) (by kernel_rfl) (by simp) ?_
  refine AllReadyH.cons rfl (fun K hK => ?_) AllReadyH.nil
  simp only [List.getElem_toArray, List.getElem_cons_zero, List.getElem_cons_succ]
  go_simp
  refine (samek_b (some ⟨g1, 0, none⟩) b m m k ds _ (by have s1 := ho.sl h.1.limbs; rw [hzl] at s1; exact s1) g.1 (by omega)).mono ?_
  rintro e x7 ⟨rfl, hb⟩
  replace V0 := Va.after hb V0
  replace V1 := Va.after hb V1
  replace h := It.after hb h
  replace ho := own_aft hb ho
  replace g := Ir.after hb g
  replace B0 := step B0 hb
  clear hb
  try go_wp2_with fail
  refine hK.out _ _ ⟨V0.c0, V0.c1, V1.c0, V1.c1⟩ (fun hHeld => ?_)
  clear hK K
  refine wpAnyH_take (i := 12) (v := ?_) rfl (by kernel_rfl) (by kernel_rfl) (by kernel_rfl) (fun _ _ _ h => h) (Or.inl ⟨by rfl, ?_⟩) hHeld ?_
  rotate_left
  · (intro W hSw; (try dsimp only at hSw); go_simp; all_goals (with_reducible rfl))
  simp only [List.getElem_toArray, List.getElem_cons_zero, List.getElem_cons_succ, Act.put, List.setIfInBounds_toArray, List.set_cons_zero, List.set_cons_succ]
  refine wpAnyH_take (i := 13) (v := ?_) rfl (by kernel_rfl) (by kernel_rfl) (by kernel_rfl) (fun _ _ _ h => h) (Or.inl ⟨by rfl, ?_⟩) hHeld ?_
  rotate_left
  · (intro W hSw; (try dsimp only at hSw); go_simp; all_goals (with_reducible rfl))
  simp only [List.getElem_toArray, List.getElem_cons_zero, List.getElem_cons_succ, Act.put, List.setIfInBounds_toArray, List.set_cons_zero, List.set_cons_succ]
  refine wpAnyH_done (by kernel_rfl) ?_ _
  refine NoPanic.normal ?_
  clear hHeld
  go_wp2_with fail
  go_ret
  exact ⟨rfl, B0⟩

theorem cmp3_sign {x y : Int} (h : Int.sign x ≠ Int.sign y) : cmp3 x y = if Int.sign x < Int.sign y then -1 else 1 := by
  rcases Int.lt_trichotomy x 0 with hx | hx | hx <;> rcases Int.lt_trichotomy y 0 with hy | hy | hy
  all_goals (first | (rw [Int.sign_eq_neg_one_of_neg hx] at h ⊢) | (rw [Int.sign_eq_one_of_pos hx] at h ⊢) | (subst hx; rw [Int.sign_zero] at h ⊢))
  all_goals (first | (rw [Int.sign_eq_neg_one_of_neg hy] at h ⊢) | (rw [Int.sign_eq_one_of_pos hy] at h ⊢) | (subst hy; rw [Int.sign_zero] at h ⊢))
  all_goals (first | exact absurd rfl h | (rw [if_pos (by decide)]; exact cmp3_lt (by omega)) | (rw [if_neg (by decide)]; exact cmp3_gt (by omega)))
theorem rlong4_any (s : Bool) (a : Option Addr) (l c : Nat) (zs : List Int) (w : World) (h : Ir w s a l c zs) (hl : l ≤ 40000000000000) :
    Calls Try.prog 37 #[.agg #[.bool s, .slice a l c]] w fun e w' => e = .returned (.bool (decide (4096 < (usedN zs : Int)))) ∧ Below w.heap.size w w' := by
  have B0 : Below w.heap.size w w := Below.refl _ _
  go_enter Try.func37, Try.ntmps37
  go_wp2_with fail
  refine ent1 w _ _ (Q := fun W => Calls Try.prog _ _ W _) ?_
  intro x1 hb hs_x1 V0
  replace h := Ir.after hb h
  replace B0 := step B0 hb
  clear hb hs_x1
  refine (rlong_any a l c zs x1 h.1 hl).mono ?_
  rintro e w' ⟨rfl, rfl⟩
  go_wp2_with fail
  go_ret
  exact ⟨rfl, B0⟩

/-- What an answer and its error say of the number X. -/
def Ag (X er : Int) (s : Bool) (a : Option Addr) (l c : Nat) (zs : List Int) : Prop := (er = 0 ∧ iv s zs = X ∧ (X.natAbs : Int) < pw 4096) ∨ (er = 3 ∧ s = false ∧ a = none ∧ l = 0 ∧ c = 0 ∧ zs = [] ∧ pw 4096 ≤ (X.natAbs : Int))
theorem wadd_any (s t : Bool) (a b : Option Addr) (la ca lb cb : Nat) (xs ys : List Int) (w : World) (hx : It w s a la ca xs) (hy : It w t b lb cb ys) :
    Calls Try.prog 6 #[.agg #[.bool s, .slice a la ca], .agg #[.bool t, .slice b lb cb]] w fun e w' => ∃ er s' a' l' c' zs, e = .returned (.tuple #[.agg #[.bool s', .slice a' l' c'], .int .i64 er]) ∧ It w' s' a' l' c' zs ∧ Hid (Ag (iv s xs + iv t ys) er s' a' l' c' zs) ∧ Below w.heap.size w w' := by
  by_cases h : ((iv s xs + iv t ys).natAbs : Int) < pw 4096
  · refine (wadd_ok s t a b la ca lb cb xs ys w hx hy h).mono ?_
    rintro e w' ⟨s', a', l', c', zs, rfl, h', e', hb⟩
    exact ⟨0, s', a', l', c', zs, rfl, h', Or.inl ⟨rfl, e', h⟩, hb⟩
  · refine (wadd_long s t a b la ca lb cb xs ys w hx hy (Int.not_lt.1 h)).mono ?_
    rintro e w' ⟨rfl, hb⟩
    exact ⟨3, false, none, 0, 0, [], rfl, It.nil _, Or.inr ⟨rfl, rfl, rfl, rfl, rfl, rfl, Int.not_lt.1 h⟩, hb⟩

theorem wsub_any (s t : Bool) (a b : Option Addr) (la ca lb cb : Nat) (xs ys : List Int) (w : World) (hx : It w s a la ca xs) (hy : It w t b lb cb ys) :
    Calls Try.prog 26 #[.agg #[.bool s, .slice a la ca], .agg #[.bool t, .slice b lb cb]] w fun e w' => ∃ er s' a' l' c' zs, e = .returned (.tuple #[.agg #[.bool s', .slice a' l' c'], .int .i64 er]) ∧ It w' s' a' l' c' zs ∧ Hid (Ag (iv s xs - iv t ys) er s' a' l' c' zs) ∧ Below w.heap.size w w' := by
  by_cases h : ((iv s xs - iv t ys).natAbs : Int) < pw 4096
  · refine (wsub_ok s t a b la ca lb cb xs ys w hx hy h).mono ?_
    rintro e w' ⟨s', a', l', c', zs, rfl, h', e', hb⟩
    exact ⟨0, s', a', l', c', zs, rfl, h', Or.inl ⟨rfl, e', h⟩, hb⟩
  · refine (wsub_long s t a b la ca lb cb xs ys w hx hy (Int.not_lt.1 h)).mono ?_
    rintro e w' ⟨rfl, hb⟩
    exact ⟨3, false, none, 0, 0, [], rfl, It.nil _, Or.inr ⟨rfl, rfl, rfl, rfl, rfl, rfl, Int.not_lt.1 h⟩, hb⟩

end Go.Proofs.Ytpfbcicjfnfpgaa
