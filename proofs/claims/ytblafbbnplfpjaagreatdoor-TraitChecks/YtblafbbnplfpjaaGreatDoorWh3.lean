/-
  whole.Add, Sub, Mul.
-/
import Derived.Test.YtblafbbnplfpjaaGreatDoorBsM
import Derived.Test.YtblafbbnplfpjaaGreatDoorBsN
namespace Go.Proofs.YtblafbbnplfpjaaGreatDoor
open Go.RowKit Go.Shelf
set_option linter.unusedVariables false

theorem st22 {W : World} {b d : Nat} {t : TypeId} {s1 s2 : Bool} {a1 a2 : Option Addr} {l1 l2 c1 c2 : Nat} (h : Va W b t #[.bool s1, .slice a1 l1 c1]) (g : Va W d t #[.bool s2, .slice a2 l2 c2]) (hne : b ≠ d) (x y u v : Value) {Q : World → Prop}
    (k : ∀ V, Va V b t #[x, y] → Va V d t #[u, v] → (∀ c t cs, c ≠ b → c ≠ d → Va W c t cs → Va V c t cs) → ((∀ s a l c zs, It W s a l c zs → It V s a l c zs) ∧ (∀ B v, B ≤ b → B ≤ d → Below B v W → Below B v V)) → Q V) :
    Q ((((W.setCell ⟨b, 0, none⟩ x).setCell ⟨b, 1, none⟩ y).setCell ⟨d, 0, none⟩ u).setCell ⟨d, 1, none⟩ v) :=
  k _ ((h.set2 x y).other2 hne u v) ((g.other2 hne.symm x y).set2 u v) (fun c t cs h1 h2 hv => (hv.other2 h1 x y).other2 h2 u v)
    ⟨fun s a l c zs i => (i.far h (noInt2 _ _ _ _) (far2 _ _ _ _)).far (g.other2 hne.symm x y) (noInt2 _ _ _ _) (far2 _ _ _ _), fun B v' h1 h2 hb => below_2 (below_2 hb h1 x y) h2 u v⟩
theorem iv_same {s : Bool} {xs ys zs : List Int} (e : num zs = num xs + num ys) : iv s zs = iv s xs + iv s ys := by
  cases s
  · simp only [iv_f]; exact e
  · simp only [iv_t]; omega
theorem iv_not {s : Bool} {xs ys zs : List Int} (e : num zs = num xs - num ys) : iv s zs = iv s xs + iv (!s) ys := by
  cases s
  · simp only [iv_f, Bool.not_false, iv_t]; omega
  · simp only [iv_f, Bool.not_true, iv_t]; omega
theorem iv_mul {s t : Bool} {xs ys zs : List Int} (e : num zs = num xs * num ys) : iv (s != t) zs = iv s xs * iv t ys := by
  cases s <;> cases t <;> simp [iv, e, Int.neg_mul, Int.mul_neg]
theorem abs_same {s : Bool} {xs ys : List Int} (h1 : 0 ≤ num xs) (h2 : 0 ≤ num ys) : ((iv s xs + iv s ys).natAbs : Int) = num xs + num ys := by
  cases s
  · simp only [iv_f]; omega
  · simp only [iv_t]; omega
theorem abs_mul {s t : Bool} {xs ys : List Int} (h1 : 0 ≤ num xs) (h2 : 0 ≤ num ys) : ((iv s xs * iv t ys).natAbs : Int) = num xs * num ys := by
  have h3 := Int.mul_nonneg h1 h2
  cases s <;> cases t <;> simp only [iv_t, iv_f, Int.neg_mul, Int.mul_neg, Int.neg_neg] <;> omega

theorem wmul_ok (s t : Bool) (a b : Option Addr) (la ca lb cb : Nat) (xs ys : List Int) (w : World) (hx : It w s a la ca xs) (hy : It w t b lb cb ys) (hfit : Hid (((iv s xs * iv t ys).natAbs : Int) < pw 4096)) :
    Calls Tryz.prog 100 #[.agg #[.bool s, .slice a la ca], .agg #[.bool t, .slice b lb cb]] w fun e w' => ∃ s' a' l' c' zs, e = .returned (.tuple #[.agg #[.bool s', .slice a' l' c'], .int .i64 0]) ∧ It w' s' a' l' c' zs ∧ iv s' zs = iv s xs * iv t ys ∧ Below w.heap.size w w' := by
  have C : Hid (∀ W, Nt W a la ca xs → Nt W b lb cb ys → Calls Tryz.prog 140 #[.agg #[.slice a la ca], .agg #[.slice b lb cb]] W fun e w' => ∃ a' l' c' zs, e = .returned (.tuple #[.agg #[.slice a' l' c'], .int .i64 0]) ∧ Nt w' a' l' c' zs ∧ num zs = num xs * num ys ∧ Below W.heap.size W w') := fun W h1 h2 => nmul_ok a b la ca lb cb xs ys W h1 h2 (by have := hfit.out; rw [abs_mul hx.1.nonneg hy.1.nonneg] at this; exact this)
  clear hfit
  have B0 : Below w.heap.size w w := Below.refl _ _
  go_enter Tryz.func100, Tryz.ntmps100
  go_wp2_with fail
  refine ent3 w _ _ _ _ _ _ (Q := fun W => Calls Tryz.prog _ _ W _) ?_
  intro x1 hb hs_x1 V0 V1 V2
  replace hx := It.after hb hx
  replace hy := It.after hb hy
  replace B0 := step B0 hb
  clear hb hs_x1
  refine (C.out x1 hx.1 hy.1).mono ?_
  rintro e x2 ⟨a', l', c', zs, rfl, h', e', hb⟩
  replace V0 := Va.after hb V0
  replace V1 := Va.after hb V1
  replace V2 := Va.after hb V2
  replace hx := It.after hb hx
  replace hy := It.after hb hy
  replace B0 := step B0 hb
  clear hb
  have c_V0 := V0.c0
  have d_V0 := V0.c1
  have f_V0 := V0.frozen 0
  have g_V0 := V0.frozen 1
  have l_V0 := V0.lt
  have m_V0 := Nat.le_of_lt l_V0
  have c_V1 := V1.c0
  have d_V1 := V1.c1
  have f_V1 := V1.frozen 0
  have g_V1 := V1.frozen 1
  have l_V1 := V1.lt
  have m_V1 := Nat.le_of_lt l_V1
  have c_V2 := V2.c0
  have d_V2 := V2.c1
  have f_V2 := V2.frozen 0
  have g_V2 := V2.frozen 1
  have l_V2 := V2.lt
  have m_V2 := Nat.le_of_lt l_V2
  go_wp2_with fail
  refine ent1 x2 _ _ (Q := fun W => Calls Tryz.prog _ _ W _) ?_
  intro x3 hb hs_x3 V3
  replace V0 := Va.after hb V0
  replace V1 := Va.after hb V1
  replace V2 := Va.after hb V2
  replace h' := Nt.after hb h'
  replace hx := It.after hb hx
  replace hy := It.after hb hy
  replace B0 := step B0 hb
  clear hb hs_x3
  refine (wnew_any _ a' l' c' zs x3 h').mono ?_
  rintro e x4 ⟨s', rfl, h2, e2, hb⟩
  replace V0 := Va.after hb V0
  replace V1 := Va.after hb V1
  replace V2 := Va.after hb V2
  replace V3 := Va.after hb V3
  replace h' := Nt.after hb h'
  replace hx := It.after hb hx
  replace hy := It.after hb hy
  replace B0 := step B0 hb
  clear hb
  clear c_V0 d_V0 f_V0 g_V0 l_V0 m_V0 c_V1 d_V1 f_V1 g_V1 l_V1 m_V1 c_V2 d_V2 f_V2 g_V2 l_V2 m_V2
  have c_V2 := V2.c0
  have d_V2 := V2.c1
  have f_V2 := V2.frozen 0
  have g_V2 := V2.frozen 1
  have l_V2 := V2.lt
  have m_V2 := Nat.le_of_lt l_V2
  go_wp2_with fail
  refine bodyPost_ret (results_wt rfl rfl (V2.set2 _ _)) rfl ?_
  refine ⟨s', a', l', c', zs, rfl, h2.far V2 (noInt2 _ _ _ _) (far2 _ _ _ _), ?_, below_2 B0 (by omega) _ _⟩
  rw [e2]
  exact iv_mul e'

theorem wmul_long (s t : Bool) (a b : Option Addr) (la ca lb cb : Nat) (xs ys : List Int) (w : World) (hx : It w s a la ca xs) (hy : It w t b lb cb ys) (hlong : Hid (pw 4096 ≤ ((iv s xs * iv t ys).natAbs : Int))) :
    Calls Tryz.prog 100 #[.agg #[.bool s, .slice a la ca], .agg #[.bool t, .slice b lb cb]] w fun e w' => e = .returned (.tuple #[.agg #[.bool false, .slice none 0 0], .int .i64 3]) ∧ Below w.heap.size w w' := by
  have C : Hid (∀ W, Nt W a la ca xs → Nt W b lb cb ys → Calls Tryz.prog 140 #[.agg #[.slice a la ca], .agg #[.slice b lb cb]] W fun e w' => e = .returned (.tuple #[.agg #[.slice none 0 0], .int .i64 3]) ∧ Below W.heap.size W w') := fun W h1 h2 => nmul_long a b la ca lb cb xs ys W h1 h2 (by have := hlong.out; rw [abs_mul hx.1.nonneg hy.1.nonneg] at this; exact this)
  clear hlong
  have B0 : Below w.heap.size w w := Below.refl _ _
  go_enter Tryz.func100, Tryz.ntmps100
  go_wp2_with fail
  refine ent3 w _ _ _ _ _ _ (Q := fun W => Calls Tryz.prog _ _ W _) ?_
  intro x1 hb hs_x1 V0 V1 V2
  replace hx := It.after hb hx
  replace hy := It.after hb hy
  replace B0 := step B0 hb
  clear hb hs_x1
  refine (C.out x1 hx.1 hy.1).mono ?_
  rintro e x2 ⟨rfl, hb⟩
  replace V0 := Va.after hb V0
  replace V1 := Va.after hb V1
  replace V2 := Va.after hb V2
  replace hx := It.after hb hx
  replace hy := It.after hb hy
  replace B0 := step B0 hb
  clear hb
  have c_V0 := V0.c0
  have d_V0 := V0.c1
  have f_V0 := V0.frozen 0
  have g_V0 := V0.frozen 1
  have l_V0 := V0.lt
  have m_V0 := Nat.le_of_lt l_V0
  have c_V1 := V1.c0
  have d_V1 := V1.c1
  have f_V1 := V1.frozen 0
  have g_V1 := V1.frozen 1
  have l_V1 := V1.lt
  have m_V1 := Nat.le_of_lt l_V1
  have c_V2 := V2.c0
  have d_V2 := V2.c1
  have f_V2 := V2.frozen 0
  have g_V2 := V2.frozen 1
  have l_V2 := V2.lt
  have m_V2 := Nat.le_of_lt l_V2
  go_wp2_with fail
  refine ent1 x2 _ _ (Q := fun W => Calls Tryz.prog _ _ W _) ?_
  intro x3 hb hs_x3 V3
  replace V0 := Va.after hb V0
  replace V1 := Va.after hb V1
  replace V2 := Va.after hb V2
  replace hx := It.after hb hx
  replace hy := It.after hb hy
  replace B0 := step B0 hb
  clear hb hs_x3
  refine (wnew_any _ none 0 0 [] x3 (Nt.nil _)).mono ?_
  rintro e x4 ⟨s', rfl, h2, e2, hb⟩
  replace V0 := Va.after hb V0
  replace V1 := Va.after hb V1
  replace V2 := Va.after hb V2
  replace V3 := Va.after hb V3
  replace hx := It.after hb hx
  replace hy := It.after hb hy
  replace B0 := step B0 hb
  clear hb
  have es : s' = false := by cases s' with | false => rfl | true => exact absurd rfl (h2.2 rfl)
  subst es
  clear c_V0 d_V0 f_V0 g_V0 l_V0 m_V0 c_V1 d_V1 f_V1 g_V1 l_V1 m_V1 c_V2 d_V2 f_V2 g_V2 l_V2 m_V2
  have c_V2 := V2.c0
  have d_V2 := V2.c1
  have f_V2 := V2.frozen 0
  have g_V2 := V2.frozen 1
  have l_V2 := V2.lt
  have m_V2 := Nat.le_of_lt l_V2
  go_wp2_with fail
  refine bodyPost_ret (results_wt rfl rfl (V2.set2 _ _)) rfl ?_
  exact ⟨rfl, below_2 B0 (by omega) _ _⟩

end Go.Proofs.YtblafbbnplfpjaaGreatDoor
