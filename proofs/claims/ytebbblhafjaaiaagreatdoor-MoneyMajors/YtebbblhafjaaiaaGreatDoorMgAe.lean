/-
  whole.Add, Sub, Mul.
-/
import Derived.Test.YtebbblhafjaaiaaGreatDoorBsM
import Derived.Test.YtebbblhafjaaiaaGreatDoorBsN
import Derived.RangeFuncNested
import Derived.RangeFuncBound
import Derived.RangeFuncCalls
import Derived.RangeFuncLeaves
import Derived.Shelf.Abstract
import Derived.Shelf.RegionOpen
import Derived.WalkKit
import Derived.OwnWalkIn
import Derived.TacticsInMore
import Derived.LoopNIn
import Derived.LoopIn
namespace Go.Proofs.YtebbblhafjaaiaaGreatDoor
open Go.RowKit Go.Shelf
set_option linter.unusedVariables false

theorem st22 {W : World} {b d : Nat} {t : TypeId} {s1 s2 : Bool} {a1 a2 : Option Addr} {l1 l2 c1 c2 : Nat} (h : Va W b t #[.bool s1, .slice a1 l1 c1]) (g : Va W d t #[.bool s2, .slice a2 l2 c2]) (hne : b ≠ d) (x y u v : Value) {Q : World → Prop}
    (k : ∀ V, Va V b t #[x, y] → Va V d t #[u, v] → (∀ c t cs, c ≠ b → c ≠ d → Va W c t cs → Va V c t cs) → ((∀ s a l c zs, It W s a l c zs → It V s a l c zs) ∧ (∀ B v, B ≤ b → B ≤ d → Below B v W → Below B v V)) → Q V) :
    Q ((((W.setCell ⟨b, 0, none⟩ x).setCell ⟨b, 1, none⟩ y).setCell ⟨d, 0, none⟩ u).setCell ⟨d, 1, none⟩ v) :=
  k _ ((h.set2 x y).other2 hne u v) ((g.other2 hne.symm x y).set2 u v) (fun c t cs h1 h2 hv => (hv.other2 h1 x y).other2 h2 u v)
    ⟨fun s a l c zs i => (i.far h (noInt2 _ _ _ _) (far2 _ _ _ _)).far (g.other2 hne.symm x y) (noInt2 _ _ _ _) (far2 _ _ _ _), fun B v' h1 h2 hb => below_2 (below_2 hb h1 x y) h2 u v⟩
theorem iv_same {s : Bool} {xs ys zs : List Int} (e : num zs = num xs + num ys) : iv s zs = iv s xs + iv s ys := by
  cases s
  · simp only [iv_f]; exact e
  · simp only [iv_t]; omega
theorem iv_not {s : Bool} {xs ys zs : List Int} (e : num zs = num xs - num ys) : iv s zs = iv s xs + iv (!s) ys := by
  cases s
  · simp only [iv_f, Bool.not_false, iv_t]; omega
  · simp only [iv_f, Bool.not_true, iv_t]; omega
theorem iv_mul {s t : Bool} {xs ys zs : List Int} (e : num zs = num xs * num ys) : iv (s != t) zs = iv s xs * iv t ys := by
  cases s <;> cases t <;> simp [iv, e, Int.neg_mul, Int.mul_neg]
theorem abs_same {s : Bool} {xs ys : List Int} (h1 : 0 ≤ num xs) (h2 : 0 ≤ num ys) : ((iv s xs + iv s ys).natAbs : Int) = num xs + num ys := by
  cases s
  · simp only [iv_f]; omega
  · simp only [iv_t]; omega
theorem abs_mul {s t : Bool} {xs ys : List Int} (h1 : 0 ≤ num xs) (h2 : 0 ≤ num ys) : ((iv s xs * iv t ys).natAbs : Int) = num xs * num ys := by
  have h3 := Int.mul_nonneg h1 h2
  cases s <;> cases t <;> simp only [iv_t, iv_f, Int.neg_mul, Int.mul_neg, Int.neg_neg] <;> omega

theorem wadd_same_ok (s : Bool) (a b : Option Addr) (la ca lb cb : Nat) (xs ys : List Int) (w : World) (hx : It w s a la ca xs) (hy : It w s b lb cb ys) (hfit : Hid (num xs + num ys < pw 4096)) :
    Calls Tryz.prog 87 #[.agg #[.bool s, .slice a la ca], .agg #[.bool s, .slice b lb cb]] w fun e w' => ∃ s' a' l' c' zs, e = .returned (.tuple #[.agg #[.bool s', .slice a' l' c'], .int .i64 0]) ∧ It w' s' a' l' c' zs ∧ iv s' zs = iv s xs + iv s ys ∧ Below w.heap.size w w' := by
  have C : Hid (∀ W, Nt W a la ca xs → Nt W b lb cb ys → Calls Tryz.prog 133 #[.agg #[.slice a la ca], .agg #[.slice b lb cb]] W fun e w' => ∃ a' l' c' zs, e = .returned (.tuple #[.agg #[.slice a' l' c'], .int .i64 0]) ∧ Nt w' a' l' c' zs ∧ num zs = num xs + num ys ∧ Below W.heap.size W w') := fun W h1 h2 => nadd_ok a b la ca lb cb xs ys W h1 h2 hfit.out
  clear hfit
  have B0 : Below w.heap.size w w := Below.refl _ _
  cases s
  ·
    go_enter Tryz.func87, Tryz.ntmps87
    go_wp2_with fail
    refine ent3 w _ _ _ _ _ _ (Q := fun W => Calls Tryz.prog _ _ W _) ?_
    intro x1 hb hs_x1 V0 V1 V2
    replace hx := It.after hb hx
    replace hy := It.after hb hy
    replace B0 := step B0 hb
    clear hb hs_x1
    refine (C.out x1 hx.1 hy.1).mono ?_
    rintro e x2 ⟨a', l', c', zs, rfl, h', e', hb⟩
    replace V0 := Va.after hb V0
    replace V1 := Va.after hb V1
    replace V2 := Va.after hb V2
    replace hx := It.after hb hx
    replace hy := It.after hb hy
    replace B0 := step B0 hb
    clear hb
    have c_V0 := V0.c0
    have d_V0 := V0.c1
    have f_V0 := V0.frozen 0
    have g_V0 := V0.frozen 1
    have l_V0 := V0.lt
    have m_V0 := Nat.le_of_lt l_V0
    have c_V1 := V1.c0
    have d_V1 := V1.c1
    have f_V1 := V1.frozen 0
    have g_V1 := V1.frozen 1
    have l_V1 := V1.lt
    have m_V1 := Nat.le_of_lt l_V1
    have c_V2 := V2.c0
    have d_V2 := V2.c1
    have f_V2 := V2.frozen 0
    have g_V2 := V2.frozen 1
    have l_V2 := V2.lt
    have m_V2 := Nat.le_of_lt l_V2
    go_wp2_with fail
    refine ent1 x2 _ _ (Q := fun W => Calls Tryz.prog _ _ W _) ?_
    intro x3 hb hs_x3 V3
    replace V0 := Va.after hb V0
    replace V1 := Va.after hb V1
    replace V2 := Va.after hb V2
    replace h' := Nt.after hb h'
    replace hx := It.after hb hx
    replace hy := It.after hb hy
    replace B0 := step B0 hb
    clear hb hs_x3
    refine (wnew_any false a' l' c' zs x3 h').mono ?_
    rintro e x4 ⟨s', rfl, h2, e2, hb⟩
    replace V0 := Va.after hb V0
    replace V1 := Va.after hb V1
    replace V2 := Va.after hb V2
    replace V3 := Va.after hb V3
    replace h' := Nt.after hb h'
    replace hx := It.after hb hx
    replace hy := It.after hb hy
    replace B0 := step B0 hb
    clear hb
    clear c_V0 d_V0 f_V0 g_V0 l_V0 m_V0 c_V1 d_V1 f_V1 g_V1 l_V1 m_V1 c_V2 d_V2 f_V2 g_V2 l_V2 m_V2
    have c_V2 := V2.c0
    have d_V2 := V2.c1
    have f_V2 := V2.frozen 0
    have g_V2 := V2.frozen 1
    have l_V2 := V2.lt
    have m_V2 := Nat.le_of_lt l_V2
    go_wp2_with fail
    refine bodyPost_ret (results_wt rfl rfl (V2.set2 _ _)) rfl ?_
    refine ⟨s', a', l', c', zs, rfl, h2.far V2 (noInt2 _ _ _ _) (far2 _ _ _ _), ?_, below_2 B0 (by omega) _ _⟩
    rw [e2]
    exact iv_same e'
  ·
    go_enter Tryz.func87, Tryz.ntmps87
    go_wp2_with fail
    refine ent3 w _ _ _ _ _ _ (Q := fun W => Calls Tryz.prog _ _ W _) ?_
    intro x1 hb hs_x1 V0 V1 V2
    replace hx := It.after hb hx
    replace hy := It.after hb hy
    replace B0 := step B0 hb
    clear hb hs_x1
    refine (C.out x1 hx.1 hy.1).mono ?_
    rintro e x2 ⟨a', l', c', zs, rfl, h', e', hb⟩
    replace V0 := Va.after hb V0
    replace V1 := Va.after hb V1
    replace V2 := Va.after hb V2
    replace hx := It.after hb hx
    replace hy := It.after hb hy
    replace B0 := step B0 hb
    clear hb
    have c_V0 := V0.c0
    have d_V0 := V0.c1
    have f_V0 := V0.frozen 0
    have g_V0 := V0.frozen 1
    have l_V0 := V0.lt
    have m_V0 := Nat.le_of_lt l_V0
    have c_V1 := V1.c0
    have d_V1 := V1.c1
    have f_V1 := V1.frozen 0
    have g_V1 := V1.frozen 1
    have l_V1 := V1.lt
    have m_V1 := Nat.le_of_lt l_V1
    have c_V2 := V2.c0
    have d_V2 := V2.c1
    have f_V2 := V2.frozen 0
    have g_V2 := V2.frozen 1
    have l_V2 := V2.lt
    have m_V2 := Nat.le_of_lt l_V2
    go_wp2_with fail
    refine ent1 x2 _ _ (Q := fun W => Calls Tryz.prog _ _ W _) ?_
    intro x3 hb hs_x3 V3
    replace V0 := Va.after hb V0
    replace V1 := Va.after hb V1
    replace V2 := Va.after hb V2
    replace h' := Nt.after hb h'
    replace hx := It.after hb hx
    replace hy := It.after hb hy
    replace B0 := step B0 hb
    clear hb hs_x3
    refine (wnew_any true a' l' c' zs x3 h').mono ?_
    rintro e x4 ⟨s', rfl, h2, e2, hb⟩
    replace V0 := Va.after hb V0
    replace V1 := Va.after hb V1
    replace V2 := Va.after hb V2
    replace V3 := Va.after hb V3
    replace h' := Nt.after hb h'
    replace hx := It.after hb hx
    replace hy := It.after hb hy
    replace B0 := step B0 hb
    clear hb
    clear c_V0 d_V0 f_V0 g_V0 l_V0 m_V0 c_V1 d_V1 f_V1 g_V1 l_V1 m_V1 c_V2 d_V2 f_V2 g_V2 l_V2 m_V2
    have c_V2 := V2.c0
    have d_V2 := V2.c1
    have f_V2 := V2.frozen 0
    have g_V2 := V2.frozen 1
    have l_V2 := V2.lt
    have m_V2 := Nat.le_of_lt l_V2
    go_wp2_with fail
    refine bodyPost_ret (results_wt rfl rfl (V2.set2 _ _)) rfl ?_
    refine ⟨s', a', l', c', zs, rfl, h2.far V2 (noInt2 _ _ _ _) (far2 _ _ _ _), ?_, below_2 B0 (by omega) _ _⟩
    rw [e2]
    exact iv_same e'

theorem wadd_not_ge (s : Bool) (a b : Option Addr) (la ca lb cb : Nat) (xs ys : List Int) (w : World) (hx : It w s a la ca xs) (hy : It w (!s) b lb cb ys) (hle : num ys ≤ num xs) :
    Calls Tryz.prog 87 #[.agg #[.bool s, .slice a la ca], .agg #[.bool (!s), .slice b lb cb]] w fun e w' => ∃ s' a' l' c' zs, e = .returned (.tuple #[.agg #[.bool s', .slice a' l' c'], .int .i64 0]) ∧ It w' s' a' l' c' zs ∧ iv s' zs = iv s xs + iv (!s) ys ∧ Below w.heap.size w w' := by
  have hc : 0 ≤ cmp3 (num xs) (num ys) := by unfold cmp3; grind
  have B0 : Below w.heap.size w w := Below.refl _ _
  cases s
  ·
    go_enter Tryz.func87, Tryz.ntmps87
    go_wp2_with fail
    refine ent3 w _ _ _ _ _ _ (Q := fun W => Calls Tryz.prog _ _ W _) ?_
    intro x1 hb hs_x1 V0 V1 V2
    replace hx := It.after hb hx
    replace hy := It.after hb hy
    replace B0 := step B0 hb
    clear hb hs_x1
    refine (ncompare_any a b la ca lb cb xs ys x1 hx.1 hy.1).mono ?_
    rintro e x2 ⟨rfl, hb⟩
    replace V0 := Va.after hb V0
    replace V1 := Va.after hb V1
    replace V2 := Va.after hb V2
    replace hx := It.after hb hx
    replace hy := It.after hb hy
    replace B0 := step B0 hb
    clear hb
    obtain ⟨q, hq⟩ : ∃ q, cmp3 (num xs) (num ys) = q := ⟨_, rfl⟩
    rw [hq] at hc ⊢
    have c_V0 := V0.c0
    have d_V0 := V0.c1
    have f_V0 := V0.frozen 0
    have g_V0 := V0.frozen 1
    have l_V0 := V0.lt
    have m_V0 := Nat.le_of_lt l_V0
    have c_V1 := V1.c0
    have d_V1 := V1.c1
    have f_V1 := V1.frozen 0
    have g_V1 := V1.frozen 1
    have l_V1 := V1.lt
    have m_V1 := Nat.le_of_lt l_V1
    have c_V2 := V2.c0
    have d_V2 := V2.c1
    have f_V2 := V2.frozen 0
    have g_V2 := V2.frozen 1
    have l_V2 := V2.lt
    have m_V2 := Nat.le_of_lt l_V2
    go_wp2_with fail
    refine (nsub_ok a b la ca lb cb xs ys x2 hx.1 hy.1 hle).mono ?_
    rintro e x3 ⟨a', l', c', zs, rfl, h', e', hb⟩
    replace V0 := Va.after hb V0
    replace V1 := Va.after hb V1
    replace V2 := Va.after hb V2
    replace hx := It.after hb hx
    replace hy := It.after hb hy
    replace B0 := step B0 hb
    clear hb
    clear c_V0 d_V0 f_V0 g_V0 l_V0 m_V0 c_V1 d_V1 f_V1 g_V1 l_V1 m_V1 c_V2 d_V2 f_V2 g_V2 l_V2 m_V2
    have c_V0 := V0.c0
    have d_V0 := V0.c1
    have f_V0 := V0.frozen 0
    have g_V0 := V0.frozen 1
    have l_V0 := V0.lt
    have m_V0 := Nat.le_of_lt l_V0
    have c_V1 := V1.c0
    have d_V1 := V1.c1
    have f_V1 := V1.frozen 0
    have g_V1 := V1.frozen 1
    have l_V1 := V1.lt
    have m_V1 := Nat.le_of_lt l_V1
    have c_V2 := V2.c0
    have d_V2 := V2.c1
    have f_V2 := V2.frozen 0
    have g_V2 := V2.frozen 1
    have l_V2 := V2.lt
    have m_V2 := Nat.le_of_lt l_V2
    go_wp2_with fail
    refine ent1 x3 _ _ (Q := fun W => Calls Tryz.prog _ _ W _) ?_
    intro x4 hb hs_x4 V3
    replace V0 := Va.after hb V0
    replace V1 := Va.after hb V1
    replace V2 := Va.after hb V2
    replace h' := Nt.after hb h'
    replace hx := It.after hb hx
    replace hy := It.after hb hy
    replace B0 := step B0 hb
    clear hb hs_x4
    refine (wnew_any false a' l' c' zs x4 h').mono ?_
    rintro e x5 ⟨s', rfl, h2, e2, hb⟩
    replace V0 := Va.after hb V0
    replace V1 := Va.after hb V1
    replace V2 := Va.after hb V2
    replace V3 := Va.after hb V3
    replace h' := Nt.after hb h'
    replace hx := It.after hb hx
    replace hy := It.after hb hy
    replace B0 := step B0 hb
    clear hb
    clear c_V0 d_V0 f_V0 g_V0 l_V0 m_V0 c_V1 d_V1 f_V1 g_V1 l_V1 m_V1 c_V2 d_V2 f_V2 g_V2 l_V2 m_V2
    have c_V2 := V2.c0
    have d_V2 := V2.c1
    have f_V2 := V2.frozen 0
    have g_V2 := V2.frozen 1
    have l_V2 := V2.lt
    have m_V2 := Nat.le_of_lt l_V2
    go_wp2_with fail
    refine bodyPost_ret (results_wt rfl rfl (V2.set2 _ _)) rfl ?_
    refine ⟨s', a', l', c', zs, rfl, h2.far V2 (noInt2 _ _ _ _) (far2 _ _ _ _), ?_, below_2 B0 (by omega) _ _⟩
    rw [e2]
    exact iv_not e'
  ·
    go_enter Tryz.func87, Tryz.ntmps87
    go_wp2_with fail
    refine ent3 w _ _ _ _ _ _ (Q := fun W => Calls Tryz.prog _ _ W _) ?_
    intro x1 hb hs_x1 V0 V1 V2
    replace hx := It.after hb hx
    replace hy := It.after hb hy
    replace B0 := step B0 hb
    clear hb hs_x1
    refine (ncompare_any a b la ca lb cb xs ys x1 hx.1 hy.1).mono ?_
    rintro e x2 ⟨rfl, hb⟩
    replace V0 := Va.after hb V0
    replace V1 := Va.after hb V1
    replace V2 := Va.after hb V2
    replace hx := It.after hb hx
    replace hy := It.after hb hy
    replace B0 := step B0 hb
    clear hb
    obtain ⟨q, hq⟩ : ∃ q, cmp3 (num xs) (num ys) = q := ⟨_, rfl⟩
    rw [hq] at hc ⊢
    have c_V0 := V0.c0
    have d_V0 := V0.c1
    have f_V0 := V0.frozen 0
    have g_V0 := V0.frozen 1
    have l_V0 := V0.lt
    have m_V0 := Nat.le_of_lt l_V0
    have c_V1 := V1.c0
    have d_V1 := V1.c1
    have f_V1 := V1.frozen 0
    have g_V1 := V1.frozen 1
    have l_V1 := V1.lt
    have m_V1 := Nat.le_of_lt l_V1
    have c_V2 := V2.c0
    have d_V2 := V2.c1
    have f_V2 := V2.frozen 0
    have g_V2 := V2.frozen 1
    have l_V2 := V2.lt
    have m_V2 := Nat.le_of_lt l_V2
    go_wp2_with fail
    refine (nsub_ok a b la ca lb cb xs ys x2 hx.1 hy.1 hle).mono ?_
    rintro e x3 ⟨a', l', c', zs, rfl, h', e', hb⟩
    replace V0 := Va.after hb V0
    replace V1 := Va.after hb V1
    replace V2 := Va.after hb V2
    replace hx := It.after hb hx
    replace hy := It.after hb hy
    replace B0 := step B0 hb
    clear hb
    clear c_V0 d_V0 f_V0 g_V0 l_V0 m_V0 c_V1 d_V1 f_V1 g_V1 l_V1 m_V1 c_V2 d_V2 f_V2 g_V2 l_V2 m_V2
    have c_V0 := V0.c0
    have d_V0 := V0.c1
    have f_V0 := V0.frozen 0
    have g_V0 := V0.frozen 1
    have l_V0 := V0.lt
    have m_V0 := Nat.le_of_lt l_V0
    have c_V1 := V1.c0
    have d_V1 := V1.c1
    have f_V1 := V1.frozen 0
    have g_V1 := V1.frozen 1
    have l_V1 := V1.lt
    have m_V1 := Nat.le_of_lt l_V1
    have c_V2 := V2.c0
    have d_V2 := V2.c1
    have f_V2 := V2.frozen 0
    have g_V2 := V2.frozen 1
    have l_V2 := V2.lt
    have m_V2 := Nat.le_of_lt l_V2
    go_wp2_with fail
    refine ent1 x3 _ _ (Q := fun W => Calls Tryz.prog _ _ W _) ?_
    intro x4 hb hs_x4 V3
    replace V0 := Va.after hb V0
    replace V1 := Va.after hb V1
    replace V2 := Va.after hb V2
    replace h' := Nt.after hb h'
    replace hx := It.after hb hx
    replace hy := It.after hb hy
    replace B0 := step B0 hb
    clear hb hs_x4
    refine (wnew_any true a' l' c' zs x4 h').mono ?_
    rintro e x5 ⟨s', rfl, h2, e2, hb⟩
    replace V0 := Va.after hb V0
    replace V1 := Va.after hb V1
    replace V2 := Va.after hb V2
    replace V3 := Va.after hb V3
    replace h' := Nt.after hb h'
    replace hx := It.after hb hx
    replace hy := It.after hb hy
    replace B0 := step B0 hb
    clear hb
    clear c_V0 d_V0 f_V0 g_V0 l_V0 m_V0 c_V1 d_V1 f_V1 g_V1 l_V1 m_V1 c_V2 d_V2 f_V2 g_V2 l_V2 m_V2
    have c_V2 := V2.c0
    have d_V2 := V2.c1
    have f_V2 := V2.frozen 0
    have g_V2 := V2.frozen 1
    have l_V2 := V2.lt
    have m_V2 := Nat.le_of_lt l_V2
    go_wp2_with fail
    refine bodyPost_ret (results_wt rfl rfl (V2.set2 _ _)) rfl ?_
    refine ⟨s', a', l', c', zs, rfl, h2.far V2 (noInt2 _ _ _ _) (far2 _ _ _ _), ?_, below_2 B0 (by omega) _ _⟩
    rw [e2]
    exact iv_not e'

theorem wadd_not_lt (s : Bool) (a b : Option Addr) (la ca lb cb : Nat) (xs ys : List Int) (w : World) (hx : It w s a la ca xs) (hy : It w (!s) b lb cb ys) (hlt : num xs < num ys) :
    Calls Tryz.prog 87 #[.agg #[.bool s, .slice a la ca], .agg #[.bool (!s), .slice b lb cb]] w fun e w' => ∃ s' a' l' c' zs, e = .returned (.tuple #[.agg #[.bool s', .slice a' l' c'], .int .i64 0]) ∧ It w' s' a' l' c' zs ∧ iv s' zs = iv s xs + iv (!s) ys ∧ Below w.heap.size w w' := by
  have hc : cmp3 (num xs) (num ys) = -1 := cmp3_lt hlt
  have hle : num xs ≤ num ys := by omega
  have B0 : Below w.heap.size w w := Below.refl _ _
  cases s
  ·
    go_enter Tryz.func87, Tryz.ntmps87
    go_wp2_with fail
    refine ent3 w _ _ _ _ _ _ (Q := fun W => Calls Tryz.prog _ _ W _) ?_
    intro x1 hb hs_x1 V0 V1 V2
    replace hx := It.after hb hx
    replace hy := It.after hb hy
    replace B0 := step B0 hb
    clear hb hs_x1
    refine (ncompare_any a b la ca lb cb xs ys x1 hx.1 hy.1).mono ?_
    rintro e x2 ⟨rfl, hb⟩
    replace V0 := Va.after hb V0
    replace V1 := Va.after hb V1
    replace V2 := Va.after hb V2
    replace hx := It.after hb hx
    replace hy := It.after hb hy
    replace B0 := step B0 hb
    clear hb
    rw [hc]
    have c_V0 := V0.c0
    have d_V0 := V0.c1
    have f_V0 := V0.frozen 0
    have g_V0 := V0.frozen 1
    have l_V0 := V0.lt
    have m_V0 := Nat.le_of_lt l_V0
    have c_V1 := V1.c0
    have d_V1 := V1.c1
    have f_V1 := V1.frozen 0
    have g_V1 := V1.frozen 1
    have l_V1 := V1.lt
    have m_V1 := Nat.le_of_lt l_V1
    have c_V2 := V2.c0
    have d_V2 := V2.c1
    have f_V2 := V2.frozen 0
    have g_V2 := V2.frozen 1
    have l_V2 := V2.lt
    have m_V2 := Nat.le_of_lt l_V2
    go_wp2_with fail
    clear c_V0 d_V0 f_V0 g_V0 l_V0 m_V0 c_V1 d_V1 f_V1 g_V1 l_V1 m_V1 c_V2 d_V2 f_V2 g_V2 l_V2 m_V2
    refine st22 V0 V1 (by omega) (.bool true) (.slice b lb cb) (.bool false) (.slice a la ca) (Q := fun W => Calls Tryz.prog _ _ W _) ?_
    intro x3 V0' V1' oth far
    replace hx := far.1 _ _ _ _ _ hx
    replace hy := far.1 _ _ _ _ _ hy
    replace V2 := oth _ _ _ (by omega) (by omega) V2
    replace B0 := far.2 _ _ (by omega) (by omega) B0
    clear V0 V1 oth far
    refine (nsub_ok b a lb cb la ca ys xs x3 hy.1 hx.1 hle).mono ?_
    rintro e x4 ⟨a', l', c', zs, rfl, h', e', hb⟩
    replace V0' := Va.after hb V0'
    replace V1' := Va.after hb V1'
    replace V2 := Va.after hb V2
    replace hx := It.after hb hx
    replace hy := It.after hb hy
    replace B0 := step B0 hb
    clear hb
    have c_V0' := V0'.c0
    have d_V0' := V0'.c1
    have f_V0' := V0'.frozen 0
    have g_V0' := V0'.frozen 1
    have l_V0' := V0'.lt
    have m_V0' := Nat.le_of_lt l_V0'
    have c_V1' := V1'.c0
    have d_V1' := V1'.c1
    have f_V1' := V1'.frozen 0
    have g_V1' := V1'.frozen 1
    have l_V1' := V1'.lt
    have m_V1' := Nat.le_of_lt l_V1'
    have c_V2 := V2.c0
    have d_V2 := V2.c1
    have f_V2 := V2.frozen 0
    have g_V2 := V2.frozen 1
    have l_V2 := V2.lt
    have m_V2 := Nat.le_of_lt l_V2
    go_wp2_with fail
    refine ent1 x4 _ _ (Q := fun W => Calls Tryz.prog _ _ W _) ?_
    intro x5 hb hs_x5 V3
    replace V0' := Va.after hb V0'
    replace V1' := Va.after hb V1'
    replace V2 := Va.after hb V2
    replace h' := Nt.after hb h'
    replace hx := It.after hb hx
    replace hy := It.after hb hy
    replace B0 := step B0 hb
    clear hb hs_x5
    refine (wnew_any true a' l' c' zs x5 h').mono ?_
    rintro e x6 ⟨s', rfl, h2, e2, hb⟩
    replace V0' := Va.after hb V0'
    replace V1' := Va.after hb V1'
    replace V2 := Va.after hb V2
    replace V3 := Va.after hb V3
    replace h' := Nt.after hb h'
    replace hx := It.after hb hx
    replace hy := It.after hb hy
    replace B0 := step B0 hb
    clear hb
    clear c_V0' d_V0' f_V0' g_V0' l_V0' m_V0' c_V1' d_V1' f_V1' g_V1' l_V1' m_V1' c_V2 d_V2 f_V2 g_V2 l_V2 m_V2
    have c_V2 := V2.c0
    have d_V2 := V2.c1
    have f_V2 := V2.frozen 0
    have g_V2 := V2.frozen 1
    have l_V2 := V2.lt
    have m_V2 := Nat.le_of_lt l_V2
    go_wp2_with fail
    refine bodyPost_ret (results_wt rfl rfl (V2.set2 _ _)) rfl ?_
    refine ⟨s', a', l', c', zs, rfl, h2.far V2 (noInt2 _ _ _ _) (far2 _ _ _ _), ?_, below_2 B0 (by omega) _ _⟩
    rw [e2, iv_not e']
    show iv true ys + iv false xs = iv false xs + iv true ys
    exact Int.add_comm _ _
  ·
    go_enter Tryz.func87, Tryz.ntmps87
    go_wp2_with fail
    refine ent3 w _ _ _ _ _ _ (Q := fun W => Calls Tryz.prog _ _ W _) ?_
    intro x1 hb hs_x1 V0 V1 V2
    replace hx := It.after hb hx
    replace hy := It.after hb hy
    replace B0 := step B0 hb
    clear hb hs_x1
    refine (ncompare_any a b la ca lb cb xs ys x1 hx.1 hy.1).mono ?_
    rintro e x2 ⟨rfl, hb⟩
    replace V0 := Va.after hb V0
    replace V1 := Va.after hb V1
    replace V2 := Va.after hb V2
    replace hx := It.after hb hx
    replace hy := It.after hb hy
    replace B0 := step B0 hb
    clear hb
    rw [hc]
    have c_V0 := V0.c0
    have d_V0 := V0.c1
    have f_V0 := V0.frozen 0
    have g_V0 := V0.frozen 1
    have l_V0 := V0.lt
    have m_V0 := Nat.le_of_lt l_V0
    have c_V1 := V1.c0
    have d_V1 := V1.c1
    have f_V1 := V1.frozen 0
    have g_V1 := V1.frozen 1
    have l_V1 := V1.lt
    have m_V1 := Nat.le_of_lt l_V1
    have c_V2 := V2.c0
    have d_V2 := V2.c1
    have f_V2 := V2.frozen 0
    have g_V2 := V2.frozen 1
    have l_V2 := V2.lt
    have m_V2 := Nat.le_of_lt l_V2
    go_wp2_with fail
    clear c_V0 d_V0 f_V0 g_V0 l_V0 m_V0 c_V1 d_V1 f_V1 g_V1 l_V1 m_V1 c_V2 d_V2 f_V2 g_V2 l_V2 m_V2
    refine st22 V0 V1 (by omega) (.bool false) (.slice b lb cb) (.bool true) (.slice a la ca) (Q := fun W => Calls Tryz.prog _ _ W _) ?_
    intro x3 V0' V1' oth far
    replace hx := far.1 _ _ _ _ _ hx
    replace hy := far.1 _ _ _ _ _ hy
    replace V2 := oth _ _ _ (by omega) (by omega) V2
    replace B0 := far.2 _ _ (by omega) (by omega) B0
    clear V0 V1 oth far
    refine (nsub_ok b a lb cb la ca ys xs x3 hy.1 hx.1 hle).mono ?_
    rintro e x4 ⟨a', l', c', zs, rfl, h', e', hb⟩
    replace V0' := Va.after hb V0'
    replace V1' := Va.after hb V1'
    replace V2 := Va.after hb V2
    replace hx := It.after hb hx
    replace hy := It.after hb hy
    replace B0 := step B0 hb
    clear hb
    have c_V0' := V0'.c0
    have d_V0' := V0'.c1
    have f_V0' := V0'.frozen 0
    have g_V0' := V0'.frozen 1
    have l_V0' := V0'.lt
    have m_V0' := Nat.le_of_lt l_V0'
    have c_V1' := V1'.c0
    have d_V1' := V1'.c1
    have f_V1' := V1'.frozen 0
    have g_V1' := V1'.frozen 1
    have l_V1' := V1'.lt
    have m_V1' := Nat.le_of_lt l_V1'
    have c_V2 := V2.c0
    have d_V2 := V2.c1
    have f_V2 := V2.frozen 0
    have g_V2 := V2.frozen 1
    have l_V2 := V2.lt
    have m_V2 := Nat.le_of_lt l_V2
    go_wp2_with fail
    refine ent1 x4 _ _ (Q := fun W => Calls Tryz.prog _ _ W _) ?_
    intro x5 hb hs_x5 V3
    replace V0' := Va.after hb V0'
    replace V1' := Va.after hb V1'
    replace V2 := Va.after hb V2
    replace h' := Nt.after hb h'
    replace hx := It.after hb hx
    replace hy := It.after hb hy
    replace B0 := step B0 hb
    clear hb hs_x5
    refine (wnew_any false a' l' c' zs x5 h').mono ?_
    rintro e x6 ⟨s', rfl, h2, e2, hb⟩
    replace V0' := Va.after hb V0'
    replace V1' := Va.after hb V1'
    replace V2 := Va.after hb V2
    replace V3 := Va.after hb V3
    replace h' := Nt.after hb h'
    replace hx := It.after hb hx
    replace hy := It.after hb hy
    replace B0 := step B0 hb
    clear hb
    clear c_V0' d_V0' f_V0' g_V0' l_V0' m_V0' c_V1' d_V1' f_V1' g_V1' l_V1' m_V1' c_V2 d_V2 f_V2 g_V2 l_V2 m_V2
    have c_V2 := V2.c0
    have d_V2 := V2.c1
    have f_V2 := V2.frozen 0
    have g_V2 := V2.frozen 1
    have l_V2 := V2.lt
    have m_V2 := Nat.le_of_lt l_V2
    go_wp2_with fail
    refine bodyPost_ret (results_wt rfl rfl (V2.set2 _ _)) rfl ?_
    refine ⟨s', a', l', c', zs, rfl, h2.far V2 (noInt2 _ _ _ _) (far2 _ _ _ _), ?_, below_2 B0 (by omega) _ _⟩
    rw [e2, iv_not e']
    show iv false ys + iv true xs = iv true xs + iv false ys
    exact Int.add_comm _ _

/-- Add: the sum, where it fits. -/
theorem wadd_ok (s t : Bool) (a b : Option Addr) (la ca lb cb : Nat) (xs ys : List Int) (w : World) (hx : It w s a la ca xs) (hy : It w t b lb cb ys) (hfit : Hid (((iv s xs + iv t ys).natAbs : Int) < pw 4096)) :
    Calls Tryz.prog 87 #[.agg #[.bool s, .slice a la ca], .agg #[.bool t, .slice b lb cb]] w fun e w' => ∃ s' a' l' c' zs, e = .returned (.tuple #[.agg #[.bool s', .slice a' l' c'], .int .i64 0]) ∧ It w' s' a' l' c' zs ∧ iv s' zs = iv s xs + iv t ys ∧ Below w.heap.size w w' := by
  by_cases h : t = s
  · subst h
    exact wadd_same_ok t a b la ca lb cb xs ys w hx hy (by have := hfit.out; rw [abs_same hx.1.nonneg hy.1.nonneg] at this; exact this)
  · have e : t = !s := by cases s <;> cases t <;> simp_all
    subst e
    by_cases h1 : num xs < num ys
    · exact wadd_not_lt s a b la ca lb cb xs ys w hx hy h1
    · exact wadd_not_ge s a b la ca lb cb xs ys w hx hy (by omega)
theorem wmul_ok (s t : Bool) (a b : Option Addr) (la ca lb cb : Nat) (xs ys : List Int) (w : World) (hx : It w s a la ca xs) (hy : It w t b lb cb ys) (hfit : Hid (((iv s xs * iv t ys).natAbs : Int) < pw 4096)) :
    Calls Tryz.prog 122 #[.agg #[.bool s, .slice a la ca], .agg #[.bool t, .slice b lb cb]] w fun e w' => ∃ s' a' l' c' zs, e = .returned (.tuple #[.agg #[.bool s', .slice a' l' c'], .int .i64 0]) ∧ It w' s' a' l' c' zs ∧ iv s' zs = iv s xs * iv t ys ∧ Below w.heap.size w w' := by
  have C : Hid (∀ W, Nt W a la ca xs → Nt W b lb cb ys → Calls Tryz.prog 90 #[.agg #[.slice a la ca], .agg #[.slice b lb cb]] W fun e w' => ∃ a' l' c' zs, e = .returned (.tuple #[.agg #[.slice a' l' c'], .int .i64 0]) ∧ Nt w' a' l' c' zs ∧ num zs = num xs * num ys ∧ Below W.heap.size W w') := fun W h1 h2 => nmul_ok a b la ca lb cb xs ys W h1 h2 (by have := hfit.out; rw [abs_mul hx.1.nonneg hy.1.nonneg] at this; exact this)
  clear hfit
  have B0 : Below w.heap.size w w := Below.refl _ _
  go_enter Tryz.func122, Tryz.ntmps122
  go_wp2_with fail
  refine ent3 w _ _ _ _ _ _ (Q := fun W => Calls Tryz.prog _ _ W _) ?_
  intro x1 hb hs_x1 V0 V1 V2
  replace hx := It.after hb hx
  replace hy := It.after hb hy
  replace B0 := step B0 hb
  clear hb hs_x1
  refine (C.out x1 hx.1 hy.1).mono ?_
  rintro e x2 ⟨a', l', c', zs, rfl, h', e', hb⟩
  replace V0 := Va.after hb V0
  replace V1 := Va.after hb V1
  replace V2 := Va.after hb V2
  replace hx := It.after hb hx
  replace hy := It.after hb hy
  replace B0 := step B0 hb
  clear hb
  have c_V0 := V0.c0
  have d_V0 := V0.c1
  have f_V0 := V0.frozen 0
  have g_V0 := V0.frozen 1
  have l_V0 := V0.lt
  have m_V0 := Nat.le_of_lt l_V0
  have c_V1 := V1.c0
  have d_V1 := V1.c1
  have f_V1 := V1.frozen 0
  have g_V1 := V1.frozen 1
  have l_V1 := V1.lt
  have m_V1 := Nat.le_of_lt l_V1
  have c_V2 := V2.c0
  have d_V2 := V2.c1
  have f_V2 := V2.frozen 0
  have g_V2 := V2.frozen 1
  have l_V2 := V2.lt
  have m_V2 := Nat.le_of_lt l_V2
  go_wp2_with fail
  refine ent1 x2 _ _ (Q := fun W => Calls Tryz.prog _ _ W _) ?_
  intro x3 hb hs_x3 V3
  replace V0 := Va.after hb V0
  replace V1 := Va.after hb V1
  replace V2 := Va.after hb V2
  replace h' := Nt.after hb h'
  replace hx := It.after hb hx
  replace hy := It.after hb hy
  replace B0 := step B0 hb
  clear hb hs_x3
  refine (wnew_any _ a' l' c' zs x3 h').mono ?_
  rintro e x4 ⟨s', rfl, h2, e2, hb⟩
  replace V0 := Va.after hb V0
  replace V1 := Va.after hb V1
  replace V2 := Va.after hb V2
  replace V3 := Va.after hb V3
  replace h' := Nt.after hb h'
  replace hx := It.after hb hx
  replace hy := It.after hb hy
  replace B0 := step B0 hb
  clear hb
  clear c_V0 d_V0 f_V0 g_V0 l_V0 m_V0 c_V1 d_V1 f_V1 g_V1 l_V1 m_V1 c_V2 d_V2 f_V2 g_V2 l_V2 m_V2
  have c_V2 := V2.c0
  have d_V2 := V2.c1
  have f_V2 := V2.frozen 0
  have g_V2 := V2.frozen 1
  have l_V2 := V2.lt
  have m_V2 := Nat.le_of_lt l_V2
  go_wp2_with fail
  refine bodyPost_ret (results_wt rfl rfl (V2.set2 _ _)) rfl ?_
  refine ⟨s', a', l', c', zs, rfl, h2.far V2 (noInt2 _ _ _ _) (far2 _ _ _ _), ?_, below_2 B0 (by omega) _ _⟩
  rw [e2]
  exact iv_mul e'

end Go.Proofs.YtebbblhafjaaiaaGreatDoor
namespace Go.Proofs.YtebbblhafjaaiaaGreatDoor
open Go.RowKit Go.Shelf
set_option linter.unusedVariables false
attribute [local go_sem] Oper.semAt_some

/-- What has come when k rounds are over: len - 1, len - 2, .. -/
def down (len k : Nat) : List Nat := (List.range k).map (fun j => len - 1 - j)
theorem down_succ (len k : Nat) : down len (k + 1) = down len k ++ [len - 1 - k] := by simp [down, List.range_succ]
theorem down_length (len k : Nat) : (down len k).length = k := by simp [down]

/-- What a round keeps: what lay below n₀, and the list's box. -/
def Kq (n₀ Bs : Nat) (W W' : World) : Prop := Below n₀ W W' ∧ ∀ v, Boxed W Bs 129 v → Boxed W' Bs 129 v
theorem Kq.refl (n₀ Bs : Nat) (W : World) : Kq n₀ Bs W W := ⟨Below.refl _ _, fun _ h => h⟩
theorem kq_t {n₀ Bs : Nat} {A B C : World} (h : Kq n₀ Bs A B) (k : Kq n₀ Bs B C) : Kq n₀ Bs A C := ⟨h.1.trans k.1, fun v x => k.2 v (h.2 v x)⟩
theorem kq_b {n₀ Bs : Nat} {w : World} (hn : n₀ ≤ w.heap.size) (W : World) (l : Nat) (o o' : Obj) (hl : w.heap.size ≤ l) (h : W.heap[l]? = some o) (hc : o.isCells = false) (hw : o.isWalk = false) : Kq n₀ Bs W (W.putObj l o') := by
  refine ⟨belowK_b hn W l o o' hl h hc hw, fun v x => x.kept (grownBy_putObj' W l o') (fun e => ?_)⟩
  have e' : Bs = l := by simpa using e
  rw [← e', show W.heap[Bs]? = _ from x] at h
  cases h
  cases hc

set_option maxRecDepth 100000 in
set_option maxHeartbeats 2000000 in
theorem back1_in (F : Fence) (n : Nat) (hf : F.fn 210) (hro : F.round = none) (hn : 1 ≤ n) (l Bs n₀ b off len cap : Nat) (V : Nat → Value) (hlen : len ≤ 1000000) (hb : b < n₀) (J Jx : List Nat → World → Prop)
    (hY : ∀ pre (x : Nat) W, J pre W → pre.length < len → YieldAt F (n - 1) Tryz.prog l #[.int .i64 (x : Int), .agg #[V x]] W fun e W' =>
      (e = .returned (.bool true) ∧ J (pre ++ [x]) W' ∧ Kq n₀ Bs W W') ∨ (e = .returned (.bool false) ∧ Jx (pre ++ [x]) W'))
    (W : World) (hBs : Boxed W Bs 129 (.slice (some ⟨b, off, none⟩) len cap)) (hc : ∀ j, j < len → W.cell? ⟨b, off + j, none⟩ = some (V j)) (h0 : J [] W) :
    CallsIn F n Tryz.prog 210 #[.func (.yield l) #[] #[], .pointer (some ⟨Bs, 0, none⟩)] W fun e W' => (∃ v, e = .returned v) ∧
      ((∃ ys, ys = down len len ∧ J ys W') ∨ (∃ pre, (∃ k, k ≤ len ∧ pre = down len k) ∧ Jx pre W')) := by
  have hBc := hBs.cell
  refine callsIn_of_wp Tryz.func210 rfl hf ?_ hro
  simp only [Tryz.ntmps210, List.size_toArray, List.length_cons, List.length_nil, Nat.reduceAdd, Nat.reduceSub, Array.replicate_succ, Array.replicate_zero, List.push_toArray, List.append_toArray, List.nil_append, List.cons_append]
  gi_wp2
  gi_loopw [3] (fun i wr => ∃ m : Nat, m ≤ len ∧ i = .int .i64 ((m : Int) - 1) ∧ J (down len (len - m)) wr ∧ Kq n₀ Bs W wr)
    (fun i _ => ((intOf i) + 1).toNat)
  case atStart => exact ⟨len, Nat.le_refl _, by go_num, by simpa [down] using h0, Kq.refl _ _ _⟩
  case round =>
    obtain ⟨m, hm, rfl, hJs, hnx⟩ := hrel
    by_cases hlt : 0 < m
    · obtain ⟨p, rfl⟩ : ∃ p, m = p + 1 := ⟨m - 1, by omega⟩
      have ep : ((p + 1 : Nat) : Int) - 1 = p := by omega
      rw [ep]
      have hpl : p < len := by omega
      have hcx : wr.cell? ⟨b, off + p, none⟩ = some (V p) := (hnx.1.cell (p := ⟨b, off + p, none⟩) hb).trans (hc p hpl)
      have hBw := (hnx.2 _ hBs).cell
      have e1 : down len (len - p) = down len (len - (p + 1)) ++ [p] := by
        rw [show len - p = (len - (p + 1)) + 1 by omega, down_succ]
        congr 2
        omega
      obtain ⟨fn, tmps, assign, body, hy, hR⟩ := hY _ p wr hJs (by rw [down_length]; omega)
      gi_wp2
      refine hR.mono ?_
      rintro e W3 (⟨rfl, hJ3, hk3⟩ | ⟨rfl, hJx3⟩)
      · gi_wp2
        go_roundw
        case rel => exact ⟨p, by omega, by go_num, by rw [e1]; exact hJ3, kq_t hnx hk3⟩
        case measure => simp [intOf]
      · gi_wp2
        refine bodyPost_ret (results_none rfl _ _ _) rfl ?_
        exact ⟨⟨_, rfl⟩, .inr ⟨_, ⟨len - p, by omega, e1.symm⟩, hJx3⟩⟩
    · obtain rfl : m = 0 := by omega
      gi_wp2
      go_end0
      exact ⟨⟨_, rfl⟩, .inl ⟨_, rfl, by simpa using hJs⟩⟩

set_option maxHeartbeats 1000000 in
theorem back_in (F : Fence) (n : Nat) (hf : F.fn 172) (hro : F.round = none) (a : Option Addr) (len cap : Nat) (w : World) :
    CallsIn F n Tryz.prog 172 #[.slice a len cap] w fun e w' => e = .returned (.func (.func 210) #[] #[.pointer (some ⟨w.heap.size, 0, none⟩)]) ∧ w' = w.alloc (.cells #[.slice a len cap] 129) := by
  refine callsIn_of_wp Tryz.func172 rfl hf ?_ hro
  simp only [Tryz.ntmps172, List.size_toArray, List.length_cons, List.length_nil, Nat.reduceAdd, Nat.reduceSub, Array.replicate_succ, Array.replicate_zero, List.push_toArray, List.append_toArray, List.nil_append, List.cons_append]
  gi_wp2
  go_ret
  exact ⟨rfl, rfl⟩

/-- slices.Backward hands back a value that gives the indices from the last down, each with what lies there. -/
theorem back_stops (F : Fence) (n : Nat) (hf : F.fn 210) (hro : F.round = none) (hn : 1 ≤ n) (Bs n₀ b off len cap : Nat) (V : Nat → Value) (hlen : len ≤ 1000000) (w : World) (hBl : Bs < w.heap.size) (hn₀ : n₀ ≤ w.heap.size) (hb : b < n₀)
    (hBs : Boxed w Bs 129 (.slice (some ⟨b, off, none⟩) len cap)) (hc : ∀ j, j < len → w.cell? ⟨b, off + j, none⟩ = some (V j)) :
    SeqStopsK F n Tryz.prog 210 #[.pointer (some ⟨Bs, 0, none⟩)] (fun x : Nat => #[Value.int .i64 (x : Int), .agg #[V x]]) (Kq n₀ Bs) (fun ys => ys = down len len) (fun pre => ∃ k, k ≤ len ∧ pre = down len k) len w := fun l J Jx W hW _ _ hY h0 =>
  back1_in F n hf hro hn l Bs n₀ b off len cap V hlen hb J Jx hY W ((hW.block Bs hBl).trans hBs) (fun j hj => (hW.cell (p := ⟨b, off + j, none⟩) (Nat.lt_of_lt_of_le hb hn₀)).trans (hc j hj)) h0
end Go.Proofs.YtebbblhafjaaiaaGreatDoor
