/-
  whole.Add, Sub, Mul.
-/
import Derived.Test.YtpfbcicjfnfpgaaBsM
import Derived.Test.YtpfbcicjfnfpgaaBsN
namespace Go.Proofs.Ytpfbcicjfnfpgaa
open Go.RowKit Go.Shelf
set_option linter.unusedVariables false

theorem st22 {W : World} {b d : Nat} {t : TypeId} {s1 s2 : Bool} {a1 a2 : Option Addr} {l1 l2 c1 c2 : Nat} (h : Va W b t #[.bool s1, .slice a1 l1 c1]) (g : Va W d t #[.bool s2, .slice a2 l2 c2]) (hne : b ≠ d) (x y u v : Value) {Q : World → Prop}
    (k : ∀ V, Va V b t #[x, y] → Va V d t #[u, v] → (∀ c t cs, c ≠ b → c ≠ d → Va W c t cs → Va V c t cs) → ((∀ s a l c zs, It W s a l c zs → It V s a l c zs) ∧ (∀ B v, B ≤ b → B ≤ d → Below B v W → Below B v V)) → Q V) :
    Q ((((W.setCell ⟨b, 0, none⟩ x).setCell ⟨b, 1, none⟩ y).setCell ⟨d, 0, none⟩ u).setCell ⟨d, 1, none⟩ v) :=
  k _ ((h.set2 x y).other2 hne u v) ((g.other2 hne.symm x y).set2 u v) (fun c t cs h1 h2 hv => (hv.other2 h1 x y).other2 h2 u v)
    ⟨fun s a l c zs i => (i.far h (noInt2 _ _ _ _) (far2 _ _ _ _)).far (g.other2 hne.symm x y) (noInt2 _ _ _ _) (far2 _ _ _ _), fun B v' h1 h2 hb => below_2 (below_2 hb h1 x y) h2 u v⟩
theorem iv_same {s : Bool} {xs ys zs : List Int} (e : num zs = num xs + num ys) : iv s zs = iv s xs + iv s ys := by
  cases s
  · simp only [iv_f]; exact e
  · simp only [iv_t]; omega
theorem iv_not {s : Bool} {xs ys zs : List Int} (e : num zs = num xs - num ys) : iv s zs = iv s xs + iv (!s) ys := by
  cases s
  · simp only [iv_f, Bool.not_false, iv_t]; omega
  · simp only [iv_f, Bool.not_true, iv_t]; omega
theorem iv_mul {s t : Bool} {xs ys zs : List Int} (e : num zs = num xs * num ys) : iv (s != t) zs = iv s xs * iv t ys := by
  cases s <;> cases t <;> simp [iv, e, Int.neg_mul, Int.mul_neg]
theorem abs_same {s : Bool} {xs ys : List Int} (h1 : 0 ≤ num xs) (h2 : 0 ≤ num ys) : ((iv s xs + iv s ys).natAbs : Int) = num xs + num ys := by
  cases s
  · simp only [iv_f]; omega
  · simp only [iv_t]; omega
theorem abs_mul {s t : Bool} {xs ys : List Int} (h1 : 0 ≤ num xs) (h2 : 0 ≤ num ys) : ((iv s xs * iv t ys).natAbs : Int) = num xs * num ys := by
  have h3 := Int.mul_nonneg h1 h2
  cases s <;> cases t <;> simp only [iv_t, iv_f, Int.neg_mul, Int.mul_neg, Int.neg_neg] <;> omega

theorem wadd_same_ok (s : Bool) (a b : Option Addr) (la ca lb cb : Nat) (xs ys : List Int) (w : World) (hx : It w s a la ca xs) (hy : It w s b lb cb ys) (hfit : Hid (num xs + num ys < pw 4096)) :
    Calls Try.prog 6 #[.agg #[.bool s, .slice a la ca], .agg #[.bool s, .slice b lb cb]] w fun e w' => ∃ s' a' l' c' zs, e = .returned (.tuple #[.agg #[.bool s', .slice a' l' c'], .int .i64 0]) ∧ It w' s' a' l' c' zs ∧ iv s' zs = iv s xs + iv s ys ∧ Below w.heap.size w w' := by
  have C : Hid (∀ W, Nt W a la ca xs → Nt W b lb cb ys → Calls Try.prog 20 #[.agg #[.slice a la ca], .agg #[.slice b lb cb]] W fun e w' => ∃ a' l' c' zs, e = .returned (.tuple #[.agg #[.slice a' l' c'], .int .i64 0]) ∧ Nt w' a' l' c' zs ∧ num zs = num xs + num ys ∧ Below W.heap.size W w') := fun W h1 h2 => nadd_ok a b la ca lb cb xs ys W h1 h2 hfit.out
  clear hfit
  have B0 : Below w.heap.size w w := Below.refl _ _
  cases s
  ·
    go_enter Try.func6, Try.ntmps6
    go_wp2_with fail
    refine ent3 w _ _ _ _ _ _ (Q := fun W => Calls Try.prog _ _ W _) ?_
    intro x1 hb hs_x1 V0 V1 V2
    replace hx := It.after hb hx
    replace hy := It.after hb hy
    replace B0 := step B0 hb
    clear hb hs_x1
    refine (C.out x1 hx.1 hy.1).mono ?_
    rintro e x2 ⟨a', l', c', zs, rfl, h', e', hb⟩
    replace V0 := Va.after hb V0
    replace V1 := Va.after hb V1
    replace V2 := Va.after hb V2
    replace hx := It.after hb hx
    replace hy := It.after hb hy
    replace B0 := step B0 hb
    clear hb
    have c_V0 := V0.c0
    have d_V0 := V0.c1
    have f_V0 := V0.frozen 0
    have g_V0 := V0.frozen 1
    have l_V0 := V0.lt
    have m_V0 := Nat.le_of_lt l_V0
    have c_V1 := V1.c0
    have d_V1 := V1.c1
    have f_V1 := V1.frozen 0
    have g_V1 := V1.frozen 1
    have l_V1 := V1.lt
    have m_V1 := Nat.le_of_lt l_V1
    have c_V2 := V2.c0
    have d_V2 := V2.c1
    have f_V2 := V2.frozen 0
    have g_V2 := V2.frozen 1
    have l_V2 := V2.lt
    have m_V2 := Nat.le_of_lt l_V2
    go_wp2_with fail
    refine ent1 x2 _ _ (Q := fun W => Calls Try.prog _ _ W _) ?_
    intro x3 hb hs_x3 V3
    replace V0 := Va.after hb V0
    replace V1 := Va.after hb V1
    replace V2 := Va.after hb V2
    replace h' := Nt.after hb h'
    replace hx := It.after hb hx
    replace hy := It.after hb hy
    replace B0 := step B0 hb
    clear hb hs_x3
    refine (wnew_any false a' l' c' zs x3 h').mono ?_
    rintro e x4 ⟨s', rfl, h2, e2, hb⟩
    replace V0 := Va.after hb V0
    replace V1 := Va.after hb V1
    replace V2 := Va.after hb V2
    replace V3 := Va.after hb V3
    replace h' := Nt.after hb h'
    replace hx := It.after hb hx
    replace hy := It.after hb hy
    replace B0 := step B0 hb
    clear hb
    clear c_V0 d_V0 f_V0 g_V0 l_V0 m_V0 c_V1 d_V1 f_V1 g_V1 l_V1 m_V1 c_V2 d_V2 f_V2 g_V2 l_V2 m_V2
    have c_V2 := V2.c0
    have d_V2 := V2.c1
    have f_V2 := V2.frozen 0
    have g_V2 := V2.frozen 1
    have l_V2 := V2.lt
    have m_V2 := Nat.le_of_lt l_V2
    go_wp2_with fail
    refine bodyPost_ret (results_wt rfl rfl (V2.set2 _ _)) rfl ?_
    refine ⟨s', a', l', c', zs, rfl, h2.far V2 (noInt2 _ _ _ _) (far2 _ _ _ _), ?_, below_2 B0 (by omega) _ _⟩
    rw [e2]
    exact iv_same e'
  ·
    go_enter Try.func6, Try.ntmps6
    go_wp2_with fail
    refine ent3 w _ _ _ _ _ _ (Q := fun W => Calls Try.prog _ _ W _) ?_
    intro x1 hb hs_x1 V0 V1 V2
    replace hx := It.after hb hx
    replace hy := It.after hb hy
    replace B0 := step B0 hb
    clear hb hs_x1
    refine (C.out x1 hx.1 hy.1).mono ?_
    rintro e x2 ⟨a', l', c', zs, rfl, h', e', hb⟩
    replace V0 := Va.after hb V0
    replace V1 := Va.after hb V1
    replace V2 := Va.after hb V2
    replace hx := It.after hb hx
    replace hy := It.after hb hy
    replace B0 := step B0 hb
    clear hb
    have c_V0 := V0.c0
    have d_V0 := V0.c1
    have f_V0 := V0.frozen 0
    have g_V0 := V0.frozen 1
    have l_V0 := V0.lt
    have m_V0 := Nat.le_of_lt l_V0
    have c_V1 := V1.c0
    have d_V1 := V1.c1
    have f_V1 := V1.frozen 0
    have g_V1 := V1.frozen 1
    have l_V1 := V1.lt
    have m_V1 := Nat.le_of_lt l_V1
    have c_V2 := V2.c0
    have d_V2 := V2.c1
    have f_V2 := V2.frozen 0
    have g_V2 := V2.frozen 1
    have l_V2 := V2.lt
    have m_V2 := Nat.le_of_lt l_V2
    go_wp2_with fail
    refine ent1 x2 _ _ (Q := fun W => Calls Try.prog _ _ W _) ?_
    intro x3 hb hs_x3 V3
    replace V0 := Va.after hb V0
    replace V1 := Va.after hb V1
    replace V2 := Va.after hb V2
    replace h' := Nt.after hb h'
    replace hx := It.after hb hx
    replace hy := It.after hb hy
    replace B0 := step B0 hb
    clear hb hs_x3
    refine (wnew_any true a' l' c' zs x3 h').mono ?_
    rintro e x4 ⟨s', rfl, h2, e2, hb⟩
    replace V0 := Va.after hb V0
    replace V1 := Va.after hb V1
    replace V2 := Va.after hb V2
    replace V3 := Va.after hb V3
    replace h' := Nt.after hb h'
    replace hx := It.after hb hx
    replace hy := It.after hb hy
    replace B0 := step B0 hb
    clear hb
    clear c_V0 d_V0 f_V0 g_V0 l_V0 m_V0 c_V1 d_V1 f_V1 g_V1 l_V1 m_V1 c_V2 d_V2 f_V2 g_V2 l_V2 m_V2
    have c_V2 := V2.c0
    have d_V2 := V2.c1
    have f_V2 := V2.frozen 0
    have g_V2 := V2.frozen 1
    have l_V2 := V2.lt
    have m_V2 := Nat.le_of_lt l_V2
    go_wp2_with fail
    refine bodyPost_ret (results_wt rfl rfl (V2.set2 _ _)) rfl ?_
    refine ⟨s', a', l', c', zs, rfl, h2.far V2 (noInt2 _ _ _ _) (far2 _ _ _ _), ?_, below_2 B0 (by omega) _ _⟩
    rw [e2]
    exact iv_same e'

theorem wadd_same_long (s : Bool) (a b : Option Addr) (la ca lb cb : Nat) (xs ys : List Int) (w : World) (hx : It w s a la ca xs) (hy : It w s b lb cb ys) (hlong : Hid (pw 4096 ≤ num xs + num ys)) :
    Calls Try.prog 6 #[.agg #[.bool s, .slice a la ca], .agg #[.bool s, .slice b lb cb]] w fun e w' => e = .returned (.tuple #[.agg #[.bool false, .slice none 0 0], .int .i64 3]) ∧ Below w.heap.size w w' := by
  have C : Hid (∀ W, Nt W a la ca xs → Nt W b lb cb ys → Calls Try.prog 20 #[.agg #[.slice a la ca], .agg #[.slice b lb cb]] W fun e w' => e = .returned (.tuple #[.agg #[.slice none 0 0], .int .i64 3]) ∧ Below W.heap.size W w') := fun W h1 h2 => nadd_long a b la ca lb cb xs ys W h1 h2 hlong.out
  clear hlong
  have B0 : Below w.heap.size w w := Below.refl _ _
  cases s
  ·
    go_enter Try.func6, Try.ntmps6
    go_wp2_with fail
    refine ent3 w _ _ _ _ _ _ (Q := fun W => Calls Try.prog _ _ W _) ?_
    intro x1 hb hs_x1 V0 V1 V2
    replace hx := It.after hb hx
    replace hy := It.after hb hy
    replace B0 := step B0 hb
    clear hb hs_x1
    refine (C.out x1 hx.1 hy.1).mono ?_
    rintro e x2 ⟨rfl, hb⟩
    replace V0 := Va.after hb V0
    replace V1 := Va.after hb V1
    replace V2 := Va.after hb V2
    replace hx := It.after hb hx
    replace hy := It.after hb hy
    replace B0 := step B0 hb
    clear hb
    have c_V0 := V0.c0
    have d_V0 := V0.c1
    have f_V0 := V0.frozen 0
    have g_V0 := V0.frozen 1
    have l_V0 := V0.lt
    have m_V0 := Nat.le_of_lt l_V0
    have c_V1 := V1.c0
    have d_V1 := V1.c1
    have f_V1 := V1.frozen 0
    have g_V1 := V1.frozen 1
    have l_V1 := V1.lt
    have m_V1 := Nat.le_of_lt l_V1
    have c_V2 := V2.c0
    have d_V2 := V2.c1
    have f_V2 := V2.frozen 0
    have g_V2 := V2.frozen 1
    have l_V2 := V2.lt
    have m_V2 := Nat.le_of_lt l_V2
    go_wp2_with fail
    refine ent1 x2 _ _ (Q := fun W => Calls Try.prog _ _ W _) ?_
    intro x3 hb hs_x3 V3
    replace V0 := Va.after hb V0
    replace V1 := Va.after hb V1
    replace V2 := Va.after hb V2
    replace hx := It.after hb hx
    replace hy := It.after hb hy
    replace B0 := step B0 hb
    clear hb hs_x3
    refine (wnew_any false none 0 0 [] x3 (Nt.nil _)).mono ?_
    rintro e x4 ⟨s', rfl, h2, e2, hb⟩
    replace V0 := Va.after hb V0
    replace V1 := Va.after hb V1
    replace V2 := Va.after hb V2
    replace V3 := Va.after hb V3
    replace hx := It.after hb hx
    replace hy := It.after hb hy
    replace B0 := step B0 hb
    clear hb
    have es : s' = false := by cases s' with | false => rfl | true => exact absurd rfl (h2.2 rfl)
    subst es
    clear c_V0 d_V0 f_V0 g_V0 l_V0 m_V0 c_V1 d_V1 f_V1 g_V1 l_V1 m_V1 c_V2 d_V2 f_V2 g_V2 l_V2 m_V2
    have c_V2 := V2.c0
    have d_V2 := V2.c1
    have f_V2 := V2.frozen 0
    have g_V2 := V2.frozen 1
    have l_V2 := V2.lt
    have m_V2 := Nat.le_of_lt l_V2
    go_wp2_with fail
    refine bodyPost_ret (results_wt rfl rfl (V2.set2 _ _)) rfl ?_
    exact ⟨rfl, below_2 B0 (by omega) _ _⟩
  ·
    go_enter Try.func6, Try.ntmps6
    go_wp2_with fail
    refine ent3 w _ _ _ _ _ _ (Q := fun W => Calls Try.prog _ _ W _) ?_
    intro x1 hb hs_x1 V0 V1 V2
    replace hx := It.after hb hx
    replace hy := It.after hb hy
    replace B0 := step B0 hb
    clear hb hs_x1
    refine (C.out x1 hx.1 hy.1).mono ?_
    rintro e x2 ⟨rfl, hb⟩
    replace V0 := Va.after hb V0
    replace V1 := Va.after hb V1
    replace V2 := Va.after hb V2
    replace hx := It.after hb hx
    replace hy := It.after hb hy
    replace B0 := step B0 hb
    clear hb
    have c_V0 := V0.c0
    have d_V0 := V0.c1
    have f_V0 := V0.frozen 0
    have g_V0 := V0.frozen 1
    have l_V0 := V0.lt
    have m_V0 := Nat.le_of_lt l_V0
    have c_V1 := V1.c0
    have d_V1 := V1.c1
    have f_V1 := V1.frozen 0
    have g_V1 := V1.frozen 1
    have l_V1 := V1.lt
    have m_V1 := Nat.le_of_lt l_V1
    have c_V2 := V2.c0
    have d_V2 := V2.c1
    have f_V2 := V2.frozen 0
    have g_V2 := V2.frozen 1
    have l_V2 := V2.lt
    have m_V2 := Nat.le_of_lt l_V2
    go_wp2_with fail
    refine ent1 x2 _ _ (Q := fun W => Calls Try.prog _ _ W _) ?_
    intro x3 hb hs_x3 V3
    replace V0 := Va.after hb V0
    replace V1 := Va.after hb V1
    replace V2 := Va.after hb V2
    replace hx := It.after hb hx
    replace hy := It.after hb hy
    replace B0 := step B0 hb
    clear hb hs_x3
    refine (wnew_any true none 0 0 [] x3 (Nt.nil _)).mono ?_
    rintro e x4 ⟨s', rfl, h2, e2, hb⟩
    replace V0 := Va.after hb V0
    replace V1 := Va.after hb V1
    replace V2 := Va.after hb V2
    replace V3 := Va.after hb V3
    replace hx := It.after hb hx
    replace hy := It.after hb hy
    replace B0 := step B0 hb
    clear hb
    have es : s' = false := by cases s' with | false => rfl | true => exact absurd rfl (h2.2 rfl)
    subst es
    clear c_V0 d_V0 f_V0 g_V0 l_V0 m_V0 c_V1 d_V1 f_V1 g_V1 l_V1 m_V1 c_V2 d_V2 f_V2 g_V2 l_V2 m_V2
    have c_V2 := V2.c0
    have d_V2 := V2.c1
    have f_V2 := V2.frozen 0
    have g_V2 := V2.frozen 1
    have l_V2 := V2.lt
    have m_V2 := Nat.le_of_lt l_V2
    go_wp2_with fail
    refine bodyPost_ret (results_wt rfl rfl (V2.set2 _ _)) rfl ?_
    exact ⟨rfl, below_2 B0 (by omega) _ _⟩

theorem wadd_not_ge (s : Bool) (a b : Option Addr) (la ca lb cb : Nat) (xs ys : List Int) (w : World) (hx : It w s a la ca xs) (hy : It w (!s) b lb cb ys) (hle : num ys ≤ num xs) :
    Calls Try.prog 6 #[.agg #[.bool s, .slice a la ca], .agg #[.bool (!s), .slice b lb cb]] w fun e w' => ∃ s' a' l' c' zs, e = .returned (.tuple #[.agg #[.bool s', .slice a' l' c'], .int .i64 0]) ∧ It w' s' a' l' c' zs ∧ iv s' zs = iv s xs + iv (!s) ys ∧ Below w.heap.size w w' := by
  have hc : 0 ≤ cmp3 (num xs) (num ys) := by unfold cmp3; grind
  have B0 : Below w.heap.size w w := Below.refl _ _
  cases s
  ·
    go_enter Try.func6, Try.ntmps6
    go_wp2_with fail
    refine ent3 w _ _ _ _ _ _ (Q := fun W => Calls Try.prog _ _ W _) ?_
    intro x1 hb hs_x1 V0 V1 V2
    replace hx := It.after hb hx
    replace hy := It.after hb hy
    replace B0 := step B0 hb
    clear hb hs_x1
    refine (ncompare_any a b la ca lb cb xs ys x1 hx.1 hy.1).mono ?_
    rintro e x2 ⟨rfl, hb⟩
    replace V0 := Va.after hb V0
    replace V1 := Va.after hb V1
    replace V2 := Va.after hb V2
    replace hx := It.after hb hx
    replace hy := It.after hb hy
    replace B0 := step B0 hb
    clear hb
    obtain ⟨q, hq⟩ : ∃ q, cmp3 (num xs) (num ys) = q := ⟨_, rfl⟩
    rw [hq] at hc ⊢
    have c_V0 := V0.c0
    have d_V0 := V0.c1
    have f_V0 := V0.frozen 0
    have g_V0 := V0.frozen 1
    have l_V0 := V0.lt
    have m_V0 := Nat.le_of_lt l_V0
    have c_V1 := V1.c0
    have d_V1 := V1.c1
    have f_V1 := V1.frozen 0
    have g_V1 := V1.frozen 1
    have l_V1 := V1.lt
    have m_V1 := Nat.le_of_lt l_V1
    have c_V2 := V2.c0
    have d_V2 := V2.c1
    have f_V2 := V2.frozen 0
    have g_V2 := V2.frozen 1
    have l_V2 := V2.lt
    have m_V2 := Nat.le_of_lt l_V2
    go_wp2_with fail
    refine (nsub_ok a b la ca lb cb xs ys x2 hx.1 hy.1 hle).mono ?_
    rintro e x3 ⟨a', l', c', zs, rfl, h', e', hb⟩
    replace V0 := Va.after hb V0
    replace V1 := Va.after hb V1
    replace V2 := Va.after hb V2
    replace hx := It.after hb hx
    replace hy := It.after hb hy
    replace B0 := step B0 hb
    clear hb
    clear c_V0 d_V0 f_V0 g_V0 l_V0 m_V0 c_V1 d_V1 f_V1 g_V1 l_V1 m_V1 c_V2 d_V2 f_V2 g_V2 l_V2 m_V2
    have c_V0 := V0.c0
    have d_V0 := V0.c1
    have f_V0 := V0.frozen 0
    have g_V0 := V0.frozen 1
    have l_V0 := V0.lt
    have m_V0 := Nat.le_of_lt l_V0
    have c_V1 := V1.c0
    have d_V1 := V1.c1
    have f_V1 := V1.frozen 0
    have g_V1 := V1.frozen 1
    have l_V1 := V1.lt
    have m_V1 := Nat.le_of_lt l_V1
    have c_V2 := V2.c0
    have d_V2 := V2.c1
    have f_V2 := V2.frozen 0
    have g_V2 := V2.frozen 1
    have l_V2 := V2.lt
    have m_V2 := Nat.le_of_lt l_V2
    go_wp2_with fail
    refine ent1 x3 _ _ (Q := fun W => Calls Try.prog _ _ W _) ?_
    intro x4 hb hs_x4 V3
    replace V0 := Va.after hb V0
    replace V1 := Va.after hb V1
    replace V2 := Va.after hb V2
    replace h' := Nt.after hb h'
    replace hx := It.after hb hx
    replace hy := It.after hb hy
    replace B0 := step B0 hb
    clear hb hs_x4
    refine (wnew_any false a' l' c' zs x4 h').mono ?_
    rintro e x5 ⟨s', rfl, h2, e2, hb⟩
    replace V0 := Va.after hb V0
    replace V1 := Va.after hb V1
    replace V2 := Va.after hb V2
    replace V3 := Va.after hb V3
    replace h' := Nt.after hb h'
    replace hx := It.after hb hx
    replace hy := It.after hb hy
    replace B0 := step B0 hb
    clear hb
    clear c_V0 d_V0 f_V0 g_V0 l_V0 m_V0 c_V1 d_V1 f_V1 g_V1 l_V1 m_V1 c_V2 d_V2 f_V2 g_V2 l_V2 m_V2
    have c_V2 := V2.c0
    have d_V2 := V2.c1
    have f_V2 := V2.frozen 0
    have g_V2 := V2.frozen 1
    have l_V2 := V2.lt
    have m_V2 := Nat.le_of_lt l_V2
    go_wp2_with fail
    refine bodyPost_ret (results_wt rfl rfl (V2.set2 _ _)) rfl ?_
    refine ⟨s', a', l', c', zs, rfl, h2.far V2 (noInt2 _ _ _ _) (far2 _ _ _ _), ?_, below_2 B0 (by omega) _ _⟩
    rw [e2]
    exact iv_not e'
  ·
    go_enter Try.func6, Try.ntmps6
    go_wp2_with fail
    refine ent3 w _ _ _ _ _ _ (Q := fun W => Calls Try.prog _ _ W _) ?_
    intro x1 hb hs_x1 V0 V1 V2
    replace hx := It.after hb hx
    replace hy := It.after hb hy
    replace B0 := step B0 hb
    clear hb hs_x1
    refine (ncompare_any a b la ca lb cb xs ys x1 hx.1 hy.1).mono ?_
    rintro e x2 ⟨rfl, hb⟩
    replace V0 := Va.after hb V0
    replace V1 := Va.after hb V1
    replace V2 := Va.after hb V2
    replace hx := It.after hb hx
    replace hy := It.after hb hy
    replace B0 := step B0 hb
    clear hb
    obtain ⟨q, hq⟩ : ∃ q, cmp3 (num xs) (num ys) = q := ⟨_, rfl⟩
    rw [hq] at hc ⊢
    have c_V0 := V0.c0
    have d_V0 := V0.c1
    have f_V0 := V0.frozen 0
    have g_V0 := V0.frozen 1
    have l_V0 := V0.lt
    have m_V0 := Nat.le_of_lt l_V0
    have c_V1 := V1.c0
    have d_V1 := V1.c1
    have f_V1 := V1.frozen 0
    have g_V1 := V1.frozen 1
    have l_V1 := V1.lt
    have m_V1 := Nat.le_of_lt l_V1
    have c_V2 := V2.c0
    have d_V2 := V2.c1
    have f_V2 := V2.frozen 0
    have g_V2 := V2.frozen 1
    have l_V2 := V2.lt
    have m_V2 := Nat.le_of_lt l_V2
    go_wp2_with fail
    refine (nsub_ok a b la ca lb cb xs ys x2 hx.1 hy.1 hle).mono ?_
    rintro e x3 ⟨a', l', c', zs, rfl, h', e', hb⟩
    replace V0 := Va.after hb V0
    replace V1 := Va.after hb V1
    replace V2 := Va.after hb V2
    replace hx := It.after hb hx
    replace hy := It.after hb hy
    replace B0 := step B0 hb
    clear hb
    clear c_V0 d_V0 f_V0 g_V0 l_V0 m_V0 c_V1 d_V1 f_V1 g_V1 l_V1 m_V1 c_V2 d_V2 f_V2 g_V2 l_V2 m_V2
    have c_V0 := V0.c0
    have d_V0 := V0.c1
    have f_V0 := V0.frozen 0
    have g_V0 := V0.frozen 1
    have l_V0 := V0.lt
    have m_V0 := Nat.le_of_lt l_V0
    have c_V1 := V1.c0
    have d_V1 := V1.c1
    have f_V1 := V1.frozen 0
    have g_V1 := V1.frozen 1
    have l_V1 := V1.lt
    have m_V1 := Nat.le_of_lt l_V1
    have c_V2 := V2.c0
    have d_V2 := V2.c1
    have f_V2 := V2.frozen 0
    have g_V2 := V2.frozen 1
    have l_V2 := V2.lt
    have m_V2 := Nat.le_of_lt l_V2
    go_wp2_with fail
    refine ent1 x3 _ _ (Q := fun W => Calls Try.prog _ _ W _) ?_
    intro x4 hb hs_x4 V3
    replace V0 := Va.after hb V0
    replace V1 := Va.after hb V1
    replace V2 := Va.after hb V2
    replace h' := Nt.after hb h'
    replace hx := It.after hb hx
    replace hy := It.after hb hy
    replace B0 := step B0 hb
    clear hb hs_x4
    refine (wnew_any true a' l' c' zs x4 h').mono ?_
    rintro e x5 ⟨s', rfl, h2, e2, hb⟩
    replace V0 := Va.after hb V0
    replace V1 := Va.after hb V1
    replace V2 := Va.after hb V2
    replace V3 := Va.after hb V3
    replace h' := Nt.after hb h'
    replace hx := It.after hb hx
    replace hy := It.after hb hy
    replace B0 := step B0 hb
    clear hb
    clear c_V0 d_V0 f_V0 g_V0 l_V0 m_V0 c_V1 d_V1 f_V1 g_V1 l_V1 m_V1 c_V2 d_V2 f_V2 g_V2 l_V2 m_V2
    have c_V2 := V2.c0
    have d_V2 := V2.c1
    have f_V2 := V2.frozen 0
    have g_V2 := V2.frozen 1
    have l_V2 := V2.lt
    have m_V2 := Nat.le_of_lt l_V2
    go_wp2_with fail
    refine bodyPost_ret (results_wt rfl rfl (V2.set2 _ _)) rfl ?_
    refine ⟨s', a', l', c', zs, rfl, h2.far V2 (noInt2 _ _ _ _) (far2 _ _ _ _), ?_, below_2 B0 (by omega) _ _⟩
    rw [e2]
    exact iv_not e'

theorem wadd_not_lt (s : Bool) (a b : Option Addr) (la ca lb cb : Nat) (xs ys : List Int) (w : World) (hx : It w s a la ca xs) (hy : It w (!s) b lb cb ys) (hlt : num xs < num ys) :
    Calls Try.prog 6 #[.agg #[.bool s, .slice a la ca], .agg #[.bool (!s), .slice b lb cb]] w fun e w' => ∃ s' a' l' c' zs, e = .returned (.tuple #[.agg #[.bool s', .slice a' l' c'], .int .i64 0]) ∧ It w' s' a' l' c' zs ∧ iv s' zs = iv s xs + iv (!s) ys ∧ Below w.heap.size w w' := by
  have hc : cmp3 (num xs) (num ys) = -1 := cmp3_lt hlt
  have hle : num xs ≤ num ys := by omega
  have B0 : Below w.heap.size w w := Below.refl _ _
  cases s
  ·
    go_enter Try.func6, Try.ntmps6
    go_wp2_with fail
    refine ent3 w _ _ _ _ _ _ (Q := fun W => Calls Try.prog _ _ W _) ?_
    intro x1 hb hs_x1 V0 V1 V2
    replace hx := It.after hb hx
    replace hy := It.after hb hy
    replace B0 := step B0 hb
    clear hb hs_x1
    refine (ncompare_any a b la ca lb cb xs ys x1 hx.1 hy.1).mono ?_
    rintro e x2 ⟨rfl, hb⟩
    replace V0 := Va.after hb V0
    replace V1 := Va.after hb V1
    replace V2 := Va.after hb V2
    replace hx := It.after hb hx
    replace hy := It.after hb hy
    replace B0 := step B0 hb
    clear hb
    rw [hc]
    have c_V0 := V0.c0
    have d_V0 := V0.c1
    have f_V0 := V0.frozen 0
    have g_V0 := V0.frozen 1
    have l_V0 := V0.lt
    have m_V0 := Nat.le_of_lt l_V0
    have c_V1 := V1.c0
    have d_V1 := V1.c1
    have f_V1 := V1.frozen 0
    have g_V1 := V1.frozen 1
    have l_V1 := V1.lt
    have m_V1 := Nat.le_of_lt l_V1
    have c_V2 := V2.c0
    have d_V2 := V2.c1
    have f_V2 := V2.frozen 0
    have g_V2 := V2.frozen 1
    have l_V2 := V2.lt
    have m_V2 := Nat.le_of_lt l_V2
    go_wp2_with fail
    clear c_V0 d_V0 f_V0 g_V0 l_V0 m_V0 c_V1 d_V1 f_V1 g_V1 l_V1 m_V1 c_V2 d_V2 f_V2 g_V2 l_V2 m_V2
    refine st22 V0 V1 (by omega) (.bool true) (.slice b lb cb) (.bool false) (.slice a la ca) (Q := fun W => Calls Try.prog _ _ W _) ?_
    intro x3 V0' V1' oth far
    replace hx := far.1 _ _ _ _ _ hx
    replace hy := far.1 _ _ _ _ _ hy
    replace V2 := oth _ _ _ (by omega) (by omega) V2
    replace B0 := far.2 _ _ (by omega) (by omega) B0
    clear V0 V1 oth far
    refine (nsub_ok b a lb cb la ca ys xs x3 hy.1 hx.1 hle).mono ?_
    rintro e x4 ⟨a', l', c', zs, rfl, h', e', hb⟩
    replace V0' := Va.after hb V0'
    replace V1' := Va.after hb V1'
    replace V2 := Va.after hb V2
    replace hx := It.after hb hx
    replace hy := It.after hb hy
    replace B0 := step B0 hb
    clear hb
    have c_V0' := V0'.c0
    have d_V0' := V0'.c1
    have f_V0' := V0'.frozen 0
    have g_V0' := V0'.frozen 1
    have l_V0' := V0'.lt
    have m_V0' := Nat.le_of_lt l_V0'
    have c_V1' := V1'.c0
    have d_V1' := V1'.c1
    have f_V1' := V1'.frozen 0
    have g_V1' := V1'.frozen 1
    have l_V1' := V1'.lt
    have m_V1' := Nat.le_of_lt l_V1'
    have c_V2 := V2.c0
    have d_V2 := V2.c1
    have f_V2 := V2.frozen 0
    have g_V2 := V2.frozen 1
    have l_V2 := V2.lt
    have m_V2 := Nat.le_of_lt l_V2
    go_wp2_with fail
    refine ent1 x4 _ _ (Q := fun W => Calls Try.prog _ _ W _) ?_
    intro x5 hb hs_x5 V3
    replace V0' := Va.after hb V0'
    replace V1' := Va.after hb V1'
    replace V2 := Va.after hb V2
    replace h' := Nt.after hb h'
    replace hx := It.after hb hx
    replace hy := It.after hb hy
    replace B0 := step B0 hb
    clear hb hs_x5
    refine (wnew_any true a' l' c' zs x5 h').mono ?_
    rintro e x6 ⟨s', rfl, h2, e2, hb⟩
    replace V0' := Va.after hb V0'
    replace V1' := Va.after hb V1'
    replace V2 := Va.after hb V2
    replace V3 := Va.after hb V3
    replace h' := Nt.after hb h'
    replace hx := It.after hb hx
    replace hy := It.after hb hy
    replace B0 := step B0 hb
    clear hb
    clear c_V0' d_V0' f_V0' g_V0' l_V0' m_V0' c_V1' d_V1' f_V1' g_V1' l_V1' m_V1' c_V2 d_V2 f_V2 g_V2 l_V2 m_V2
    have c_V2 := V2.c0
    have d_V2 := V2.c1
    have f_V2 := V2.frozen 0
    have g_V2 := V2.frozen 1
    have l_V2 := V2.lt
    have m_V2 := Nat.le_of_lt l_V2
    go_wp2_with fail
    refine bodyPost_ret (results_wt rfl rfl (V2.set2 _ _)) rfl ?_
    refine ⟨s', a', l', c', zs, rfl, h2.far V2 (noInt2 _ _ _ _) (far2 _ _ _ _), ?_, below_2 B0 (by omega) _ _⟩
    rw [e2, iv_not e']
    show iv true ys + iv false xs = iv false xs + iv true ys
    exact Int.add_comm _ _
  ·
    go_enter Try.func6, Try.ntmps6
    go_wp2_with fail
    refine ent3 w _ _ _ _ _ _ (Q := fun W => Calls Try.prog _ _ W _) ?_
    intro x1 hb hs_x1 V0 V1 V2
    replace hx := It.after hb hx
    replace hy := It.after hb hy
    replace B0 := step B0 hb
    clear hb hs_x1
    refine (ncompare_any a b la ca lb cb xs ys x1 hx.1 hy.1).mono ?_
    rintro e x2 ⟨rfl, hb⟩
    replace V0 := Va.after hb V0
    replace V1 := Va.after hb V1
    replace V2 := Va.after hb V2
    replace hx := It.after hb hx
    replace hy := It.after hb hy
    replace B0 := step B0 hb
    clear hb
    rw [hc]
    have c_V0 := V0.c0
    have d_V0 := V0.c1
    have f_V0 := V0.frozen 0
    have g_V0 := V0.frozen 1
    have l_V0 := V0.lt
    have m_V0 := Nat.le_of_lt l_V0
    have c_V1 := V1.c0
    have d_V1 := V1.c1
    have f_V1 := V1.frozen 0
    have g_V1 := V1.frozen 1
    have l_V1 := V1.lt
    have m_V1 := Nat.le_of_lt l_V1
    have c_V2 := V2.c0
    have d_V2 := V2.c1
    have f_V2 := V2.frozen 0
    have g_V2 := V2.frozen 1
    have l_V2 := V2.lt
    have m_V2 := Nat.le_of_lt l_V2
    go_wp2_with fail
    clear c_V0 d_V0 f_V0 g_V0 l_V0 m_V0 c_V1 d_V1 f_V1 g_V1 l_V1 m_V1 c_V2 d_V2 f_V2 g_V2 l_V2 m_V2
    refine st22 V0 V1 (by omega) (.bool false) (.slice b lb cb) (.bool true) (.slice a la ca) (Q := fun W => Calls Try.prog _ _ W _) ?_
    intro x3 V0' V1' oth far
    replace hx := far.1 _ _ _ _ _ hx
    replace hy := far.1 _ _ _ _ _ hy
    replace V2 := oth _ _ _ (by omega) (by omega) V2
    replace B0 := far.2 _ _ (by omega) (by omega) B0
    clear V0 V1 oth far
    refine (nsub_ok b a lb cb la ca ys xs x3 hy.1 hx.1 hle).mono ?_
    rintro e x4 ⟨a', l', c', zs, rfl, h', e', hb⟩
    replace V0' := Va.after hb V0'
    replace V1' := Va.after hb V1'
    replace V2 := Va.after hb V2
    replace hx := It.after hb hx
    replace hy := It.after hb hy
    replace B0 := step B0 hb
    clear hb
    have c_V0' := V0'.c0
    have d_V0' := V0'.c1
    have f_V0' := V0'.frozen 0
    have g_V0' := V0'.frozen 1
    have l_V0' := V0'.lt
    have m_V0' := Nat.le_of_lt l_V0'
    have c_V1' := V1'.c0
    have d_V1' := V1'.c1
    have f_V1' := V1'.frozen 0
    have g_V1' := V1'.frozen 1
    have l_V1' := V1'.lt
    have m_V1' := Nat.le_of_lt l_V1'
    have c_V2 := V2.c0
    have d_V2 := V2.c1
    have f_V2 := V2.frozen 0
    have g_V2 := V2.frozen 1
    have l_V2 := V2.lt
    have m_V2 := Nat.le_of_lt l_V2
    go_wp2_with fail
    refine ent1 x4 _ _ (Q := fun W => Calls Try.prog _ _ W _) ?_
    intro x5 hb hs_x5 V3
    replace V0' := Va.after hb V0'
    replace V1' := Va.after hb V1'
    replace V2 := Va.after hb V2
    replace h' := Nt.after hb h'
    replace hx := It.after hb hx
    replace hy := It.after hb hy
    replace B0 := step B0 hb
    clear hb hs_x5
    refine (wnew_any false a' l' c' zs x5 h').mono ?_
    rintro e x6 ⟨s', rfl, h2, e2, hb⟩
    replace V0' := Va.after hb V0'
    replace V1' := Va.after hb V1'
    replace V2 := Va.after hb V2
    replace V3 := Va.after hb V3
    replace h' := Nt.after hb h'
    replace hx := It.after hb hx
    replace hy := It.after hb hy
    replace B0 := step B0 hb
    clear hb
    clear c_V0' d_V0' f_V0' g_V0' l_V0' m_V0' c_V1' d_V1' f_V1' g_V1' l_V1' m_V1' c_V2 d_V2 f_V2 g_V2 l_V2 m_V2
    have c_V2 := V2.c0
    have d_V2 := V2.c1
    have f_V2 := V2.frozen 0
    have g_V2 := V2.frozen 1
    have l_V2 := V2.lt
    have m_V2 := Nat.le_of_lt l_V2
    go_wp2_with fail
    refine bodyPost_ret (results_wt rfl rfl (V2.set2 _ _)) rfl ?_
    refine ⟨s', a', l', c', zs, rfl, h2.far V2 (noInt2 _ _ _ _) (far2 _ _ _ _), ?_, below_2 B0 (by omega) _ _⟩
    rw [e2, iv_not e']
    show iv false ys + iv true xs = iv true xs + iv false ys
    exact Int.add_comm _ _

/-- Add: the sum, where it fits. -/
theorem wadd_ok (s t : Bool) (a b : Option Addr) (la ca lb cb : Nat) (xs ys : List Int) (w : World) (hx : It w s a la ca xs) (hy : It w t b lb cb ys) (hfit : Hid (((iv s xs + iv t ys).natAbs : Int) < pw 4096)) :
    Calls Try.prog 6 #[.agg #[.bool s, .slice a la ca], .agg #[.bool t, .slice b lb cb]] w fun e w' => ∃ s' a' l' c' zs, e = .returned (.tuple #[.agg #[.bool s', .slice a' l' c'], .int .i64 0]) ∧ It w' s' a' l' c' zs ∧ iv s' zs = iv s xs + iv t ys ∧ Below w.heap.size w w' := by
  by_cases h : t = s
  · subst h
    exact wadd_same_ok t a b la ca lb cb xs ys w hx hy (by have := hfit.out; rw [abs_same hx.1.nonneg hy.1.nonneg] at this; exact this)
  · have e : t = !s := by cases s <;> cases t <;> simp_all
    subst e
    by_cases h1 : num xs < num ys
    · exact wadd_not_lt s a b la ca lb cb xs ys w hx hy h1
    · exact wadd_not_ge s a b la ca lb cb xs ys w hx hy (by omega)
theorem wadd_long (s t : Bool) (a b : Option Addr) (la ca lb cb : Nat) (xs ys : List Int) (w : World) (hx : It w s a la ca xs) (hy : It w t b lb cb ys) (hlong : Hid (pw 4096 ≤ ((iv s xs + iv t ys).natAbs : Int))) :
    Calls Try.prog 6 #[.agg #[.bool s, .slice a la ca], .agg #[.bool t, .slice b lb cb]] w fun e w' => e = .returned (.tuple #[.agg #[.bool false, .slice none 0 0], .int .i64 3]) ∧ Below w.heap.size w w' := by
  by_cases h : t = s
  · subst h
    exact wadd_same_long t a b la ca lb cb xs ys w hx hy (by have := hlong.out; rw [abs_same hx.1.nonneg hy.1.nonneg] at this; exact this)
  · exfalso
    have e : t = !s := by cases s <;> cases t <;> simp_all
    subst e
    have l1 := hx.1.lt
    have l2 := hy.1.lt
    have p1 := hx.1.nonneg
    have p2 := hy.1.nonneg
    have h0 := hlong.out
    generalize pw 4096 = P at *
    cases s
    · simp only [Bool.not_false, iv_t, iv_f] at h0; omega
    · simp only [Bool.not_true, iv_t, iv_f] at h0; omega

theorem wsub_ok (s t : Bool) (a b : Option Addr) (la ca lb cb : Nat) (xs ys : List Int) (w : World) (hx : It w s a la ca xs) (hy : It w t b lb cb ys) (hfit : Hid (((iv s xs - iv t ys).natAbs : Int) < pw 4096)) :
    Calls Try.prog 26 #[.agg #[.bool s, .slice a la ca], .agg #[.bool t, .slice b lb cb]] w fun e w' => ∃ s' a' l' c' zs, e = .returned (.tuple #[.agg #[.bool s', .slice a' l' c'], .int .i64 0]) ∧ It w' s' a' l' c' zs ∧ iv s' zs = iv s xs - iv t ys ∧ Below w.heap.size w w' := by
  have B0 : Below w.heap.size w w := Below.refl _ _
  go_enter Try.func26, Try.ntmps26
  go_wp2_with fail
  refine ent3 w _ _ _ _ _ _ (Q := fun W => Code.wp Try.prog _ _ _ W) ?_
  intro x1 hb hs_x1 V0 V1 V2
  replace hx := It.after hb hx
  replace hy := It.after hb hy
  replace B0 := step B0 hb
  clear hb hs_x1
  refine wp_region_noPanic ?_
  replace V0 : Va x1.drew _ _ _ := V0
  replace V1 : Va x1.drew _ _ _ := V1
  replace V2 : Va x1.drew _ _ _ := V2
  replace hx : It x1.drew _ _ _ _ _ := hx
  replace hy : It x1.drew _ _ _ _ _ := hy
  replace B0 := Below.drew B0
  refine wp_region_held_drew (S := (fun W => W.cell? ⟨w.heap.size, 0, none⟩ = some (.bool s) ∧ W.cell? ⟨w.heap.size, 1, none⟩ = some (.slice a la ca) ∧ W.cell? ⟨w.heap.size + 1, 0, none⟩ = some (.bool t) ∧ W.cell? ⟨w.heap.size + 1, 1, none⟩ = some (.slice b lb cb))) (by kernel_rfl) ⟨V0.c0, V0.c1, V1.c0, V1.c1⟩ (fun hHeld => ?_)
  obtain ⟨x2, hxd⟩ : ∃ xd, xd = x1.drew := ⟨_, rfl⟩
  rw [← hxd] at V0 V1 V2 hx hy B0 hHeld ⊢
  clear hxd
  refine wpAnyH_take (i := 0) (v := ?_) rfl (by kernel_rfl) (by kernel_rfl) (by kernel_rfl) (fun _ _ _ h => h) (Or.inl ⟨by rfl, ?_⟩) hHeld ?_
  rotate_left
  · (intro W hSw; (try dsimp only at hSw); go_simp; all_goals (with_reducible rfl))
  simp only [List.getElem_toArray, List.getElem_cons_zero, Act.put, List.setIfInBounds_toArray, List.set_cons_zero, List.set_cons_succ]
  refine wpAnyH_take (i := 1) (v := ?_) rfl (by kernel_rfl) (by kernel_rfl) (by kernel_rfl) (fun _ _ _ h => h) (Or.inl ⟨by rfl, ?_⟩) hHeld ?_
  rotate_left
  · (intro W hSw; (try dsimp only at hSw); go_simp; all_goals (with_reducible rfl))
  simp only [List.getElem_toArray, List.getElem_cons_zero, List.getElem_cons_succ, Act.put, List.setIfInBounds_toArray, List.set_cons_zero, List.set_cons_succ]
  refine wpAnyH_ready (rs := [2]) (by kernel_rfl) (by simp) ?_
  refine AllReadyH.cons rfl (fun K hK => ?_) AllReadyH.nil
  simp only [List.getElem_toArray, List.getElem_cons_zero, List.getElem_cons_succ]
  go_simp
  refine (wneg_any t b lb cb ys _ hy).mono ?_
  rintro e x3 ⟨t', rfl, hy', et, hb⟩
  replace V0 := Va.after hb V0
  replace V1 := Va.after hb V1
  replace V2 := Va.after hb V2
  replace hx := It.after hb hx
  replace hy := It.after hb hy
  replace B0 := step B0 hb
  clear hb
  have HF : Hid (((iv s xs + iv t' ys).natAbs : Int) < pw 4096) := by show _; rw [et, ← Int.sub_eq_add_neg]; exact hfit.out
  try go_wp2_with fail
  refine hK.out _ _ ⟨V0.c0, V0.c1, V1.c0, V1.c1⟩ (fun hHeld => ?_)
  clear hK K
  refine wpAnyH_ready (rs := [3]) (by kernel_rfl) (by simp) ?_
  refine AllReadyH.cons rfl (fun K hK => ?_) AllReadyH.nil
  simp only [List.getElem_toArray, List.getElem_cons_zero, List.getElem_cons_succ]
  go_simp
  refine (wadd_ok s t' a b la ca lb cb xs ys _ hx hy' HF).mono ?_
  rintro e x4 ⟨s', a', l', c', zs, rfl, h', e', hb⟩
  replace V0 := Va.after hb V0
  replace V1 := Va.after hb V1
  replace V2 := Va.after hb V2
  replace hx := It.after hb hx
  replace hy := It.after hb hy
  replace hy' := It.after hb hy'
  replace B0 := step B0 hb
  clear hb
  try go_wp2_with fail
  refine hK.out _ _ ⟨V0.c0, V0.c1, V1.c0, V1.c1⟩ (fun hHeld => ?_)
  clear hK K
  refine wpAnyH_take (i := 4) (v := ?_) rfl (by kernel_rfl) (by kernel_rfl) (by kernel_rfl) (fun _ _ _ h => h) (Or.inl ⟨by rfl, ?_⟩) hHeld ?_
  rotate_left
  · (intro W hSw; (try dsimp only at hSw); go_simp; all_goals (with_reducible rfl))
  simp only [List.getElem_toArray, List.getElem_cons_zero, List.getElem_cons_succ, Act.put, List.setIfInBounds_toArray, List.set_cons_zero, List.set_cons_succ]
  refine wpAnyH_take (i := 5) (v := ?_) rfl (by kernel_rfl) (by kernel_rfl) (by kernel_rfl) (fun _ _ _ h => h) (Or.inl ⟨by rfl, ?_⟩) hHeld ?_
  rotate_left
  · (intro W hSw; (try dsimp only at hSw); go_simp; all_goals (with_reducible rfl))
  simp only [List.getElem_toArray, List.getElem_cons_zero, List.getElem_cons_succ, Act.put, List.setIfInBounds_toArray, List.set_cons_zero, List.set_cons_succ]
  have c_V2 := V2.c0
  have d_V2 := V2.c1
  have f_V2 := V2.frozen 0
  have g_V2 := V2.frozen 1
  have l_V2 := V2.lt
  have m_V2 := Nat.le_of_lt l_V2
  refine wpAnyH_ready (rs := [6]) (by kernel_rfl) (by simp) ?_
  refine AllReadyH.cons rfl (fun K hK => ?_) AllReadyH.nil
  simp only [List.getElem_toArray, List.getElem_cons_zero, List.getElem_cons_succ]
  go_simp
  clear c_V2 d_V2 f_V2 g_V2 l_V2 m_V2
  refine st2 V2 (.bool s') (.slice a' l' c') (Q := fun W => K _ W) ?_
  intro x5 V' oth far
  replace V0 := oth _ _ _ (by first | omega | assumption) V0
  replace V1 := oth _ _ _ (by first | omega | assumption) V1
  replace hx := hx.far V2 (noInt2 _ _ _ _) far.1
  replace hy := hy.far V2 (noInt2 _ _ _ _) far.1
  replace hy' := hy'.far V2 (noInt2 _ _ _ _) far.1
  replace h' := h'.far V2 (noInt2 _ _ _ _) far.1
  replace B0 := far.2 _ _ (by first | omega | (simp; omega)) B0
  replace V2 := V'
  clear oth far
  refine hK.out _ _ ⟨V0.c0, V0.c1, V1.c0, V1.c1⟩ (fun hHeld => ?_)
  clear hK K
  refine wpAnyH_take (i := 7) (v := ?_) rfl (by kernel_rfl) (by kernel_rfl) (by kernel_rfl) (fun _ _ _ h => h) (Or.inl ⟨by rfl, ?_⟩) hHeld ?_
  rotate_left
  · (intro W hSw; (try dsimp only at hSw); go_simp; all_goals (with_reducible rfl))
  simp only [List.getElem_toArray, List.getElem_cons_zero, List.getElem_cons_succ, Act.put, List.setIfInBounds_toArray, List.set_cons_zero, List.set_cons_succ]
  refine wpAnyH_done (by kernel_rfl) ?_ _
  refine NoPanic.normal ?_
  clear hHeld
  go_wp2_with fail
  refine bodyPost_ret (results_wt rfl rfl V2) rfl ?_
  exact ⟨s', a', l', c', zs, rfl, h', by rw [e', et, ← Int.sub_eq_add_neg], B0⟩

theorem wsub_long (s t : Bool) (a b : Option Addr) (la ca lb cb : Nat) (xs ys : List Int) (w : World) (hx : It w s a la ca xs) (hy : It w t b lb cb ys) (hlong : Hid (pw 4096 ≤ ((iv s xs - iv t ys).natAbs : Int))) :
    Calls Try.prog 26 #[.agg #[.bool s, .slice a la ca], .agg #[.bool t, .slice b lb cb]] w fun e w' => e = .returned (.tuple #[.agg #[.bool false, .slice none 0 0], .int .i64 3]) ∧ Below w.heap.size w w' := by
  have B0 : Below w.heap.size w w := Below.refl _ _
  go_enter Try.func26, Try.ntmps26
  go_wp2_with fail
  refine ent3 w _ _ _ _ _ _ (Q := fun W => Code.wp Try.prog _ _ _ W) ?_
  intro x1 hb hs_x1 V0 V1 V2
  replace hx := It.after hb hx
  replace hy := It.after hb hy
  replace B0 := step B0 hb
  clear hb hs_x1
  refine wp_region_noPanic ?_
  replace V0 : Va x1.drew _ _ _ := V0
  replace V1 : Va x1.drew _ _ _ := V1
  replace V2 : Va x1.drew _ _ _ := V2
  replace hx : It x1.drew _ _ _ _ _ := hx
  replace hy : It x1.drew _ _ _ _ _ := hy
  replace B0 := Below.drew B0
  refine wp_region_held_drew (S := (fun W => W.cell? ⟨w.heap.size, 0, none⟩ = some (.bool s) ∧ W.cell? ⟨w.heap.size, 1, none⟩ = some (.slice a la ca) ∧ W.cell? ⟨w.heap.size + 1, 0, none⟩ = some (.bool t) ∧ W.cell? ⟨w.heap.size + 1, 1, none⟩ = some (.slice b lb cb))) (by kernel_rfl) ⟨V0.c0, V0.c1, V1.c0, V1.c1⟩ (fun hHeld => ?_)
  obtain ⟨x2, hxd⟩ : ∃ xd, xd = x1.drew := ⟨_, rfl⟩
  rw [← hxd] at V0 V1 V2 hx hy B0 hHeld ⊢
  clear hxd
  refine wpAnyH_take (i := 0) (v := ?_) rfl (by kernel_rfl) (by kernel_rfl) (by kernel_rfl) (fun _ _ _ h => h) (Or.inl ⟨by rfl, ?_⟩) hHeld ?_
  rotate_left
  · (intro W hSw; (try dsimp only at hSw); go_simp; all_goals (with_reducible rfl))
  simp only [List.getElem_toArray, List.getElem_cons_zero, Act.put, List.setIfInBounds_toArray, List.set_cons_zero, List.set_cons_succ]
  refine wpAnyH_take (i := 1) (v := ?_) rfl (by kernel_rfl) (by kernel_rfl) (by kernel_rfl) (fun _ _ _ h => h) (Or.inl ⟨by rfl, ?_⟩) hHeld ?_
  rotate_left
  · (intro W hSw; (try dsimp only at hSw); go_simp; all_goals (with_reducible rfl))
  simp only [List.getElem_toArray, List.getElem_cons_zero, List.getElem_cons_succ, Act.put, List.setIfInBounds_toArray, List.set_cons_zero, List.set_cons_succ]
  refine wpAnyH_ready (rs := [2]) (by kernel_rfl) (by simp) ?_
  refine AllReadyH.cons rfl (fun K hK => ?_) AllReadyH.nil
  simp only [List.getElem_toArray, List.getElem_cons_zero, List.getElem_cons_succ]
  go_simp
  refine (wneg_any t b lb cb ys _ hy).mono ?_
  rintro e x3 ⟨t', rfl, hy', et, hb⟩
  replace V0 := Va.after hb V0
  replace V1 := Va.after hb V1
  replace V2 := Va.after hb V2
  replace hx := It.after hb hx
  replace hy := It.after hb hy
  replace B0 := step B0 hb
  clear hb
  have HF : Hid (pw 4096 ≤ ((iv s xs + iv t' ys).natAbs : Int)) := by show _; rw [et, ← Int.sub_eq_add_neg]; exact hlong.out
  try go_wp2_with fail
  refine hK.out _ _ ⟨V0.c0, V0.c1, V1.c0, V1.c1⟩ (fun hHeld => ?_)
  clear hK K
  refine wpAnyH_ready (rs := [3]) (by kernel_rfl) (by simp) ?_
  refine AllReadyH.cons rfl (fun K hK => ?_) AllReadyH.nil
  simp only [List.getElem_toArray, List.getElem_cons_zero, List.getElem_cons_succ]
  go_simp
  refine (wadd_long s t' a b la ca lb cb xs ys _ hx hy' HF).mono ?_
  rintro e x4 ⟨rfl, hb⟩
  replace V0 := Va.after hb V0
  replace V1 := Va.after hb V1
  replace V2 := Va.after hb V2
  replace hx := It.after hb hx
  replace hy := It.after hb hy
  replace hy' := It.after hb hy'
  replace B0 := step B0 hb
  clear hb
  try go_wp2_with fail
  refine hK.out _ _ ⟨V0.c0, V0.c1, V1.c0, V1.c1⟩ (fun hHeld => ?_)
  clear hK K
  refine wpAnyH_take (i := 4) (v := ?_) rfl (by kernel_rfl) (by kernel_rfl) (by kernel_rfl) (fun _ _ _ h => h) (Or.inl ⟨by rfl, ?_⟩) hHeld ?_
  rotate_left
  · (intro W hSw; (try dsimp only at hSw); go_simp; all_goals (with_reducible rfl))
  simp only [List.getElem_toArray, List.getElem_cons_zero, List.getElem_cons_succ, Act.put, List.setIfInBounds_toArray, List.set_cons_zero, List.set_cons_succ]
  refine wpAnyH_take (i := 5) (v := ?_) rfl (by kernel_rfl) (by kernel_rfl) (by kernel_rfl) (fun _ _ _ h => h) (Or.inl ⟨by rfl, ?_⟩) hHeld ?_
  rotate_left
  · (intro W hSw; (try dsimp only at hSw); go_simp; all_goals (with_reducible rfl))
  simp only [List.getElem_toArray, List.getElem_cons_zero, List.getElem_cons_succ, Act.put, List.setIfInBounds_toArray, List.set_cons_zero, List.set_cons_succ]
  have c_V2 := V2.c0
  have d_V2 := V2.c1
  have f_V2 := V2.frozen 0
  have g_V2 := V2.frozen 1
  have l_V2 := V2.lt
  have m_V2 := Nat.le_of_lt l_V2
  refine wpAnyH_ready (rs := [6]) (by kernel_rfl) (by simp) ?_
  refine AllReadyH.cons rfl (fun K hK => ?_) AllReadyH.nil
  simp only [List.getElem_toArray, List.getElem_cons_zero, List.getElem_cons_succ]
  go_simp
  clear c_V2 d_V2 f_V2 g_V2 l_V2 m_V2
  refine st2 V2 (.bool false) (.slice none 0 0) (Q := fun W => K _ W) ?_
  intro x5 V' oth far
  replace V0 := oth _ _ _ (by first | omega | assumption) V0
  replace V1 := oth _ _ _ (by first | omega | assumption) V1
  replace hx := hx.far V2 (noInt2 _ _ _ _) far.1
  replace hy := hy.far V2 (noInt2 _ _ _ _) far.1
  replace hy' := hy'.far V2 (noInt2 _ _ _ _) far.1
  replace B0 := far.2 _ _ (by first | omega | (simp; omega)) B0
  replace V2 := V'
  clear oth far
  refine hK.out _ _ ⟨V0.c0, V0.c1, V1.c0, V1.c1⟩ (fun hHeld => ?_)
  clear hK K
  refine wpAnyH_take (i := 7) (v := ?_) rfl (by kernel_rfl) (by kernel_rfl) (by kernel_rfl) (fun _ _ _ h => h) (Or.inl ⟨by rfl, ?_⟩) hHeld ?_
  rotate_left
  · (intro W hSw; (try dsimp only at hSw); go_simp; all_goals (with_reducible rfl))
  simp only [List.getElem_toArray, List.getElem_cons_zero, List.getElem_cons_succ, Act.put, List.setIfInBounds_toArray, List.set_cons_zero, List.set_cons_succ]
  refine wpAnyH_done (by kernel_rfl) ?_ _
  refine NoPanic.normal ?_
  clear hHeld
  go_wp2_with fail
  refine bodyPost_ret (results_wt rfl rfl V2) rfl ?_
  exact ⟨rfl, B0⟩
end Go.Proofs.Ytpfbcicjfnfpgaa
