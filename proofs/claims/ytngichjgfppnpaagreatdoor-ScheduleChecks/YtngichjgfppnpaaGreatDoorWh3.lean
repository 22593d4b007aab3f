import Derived.Test.YtngichjgfppnpaaGreatDoorMgAe
import Derived.Test.YtngichjgfppnpaaGreatDoorMgAf
namespace Go.Proofs.YtngichjgfppnpaaGreatDoor
open Go.RowKit Go.Shelf
set_option linter.unusedVariables false

theorem st22 {W : World} {b d : Nat} {t : TypeId} {s1 s2 : Bool} {a1 a2 : Option Addr} {l1 l2 c1 c2 : Nat} (h : Va W b t #[.bool s1, .slice a1 l1 c1]) (g : Va W d t #[.bool s2, .slice a2 l2 c2]) (hne : b ≠ d) (x y u v : Value) {Q : World → Prop}
    (k : ∀ V, Va V b t #[x, y] → Va V d t #[u, v] → (∀ c t cs, c ≠ b → c ≠ d → Va W c t cs → Va V c t cs) → ((∀ s a l c zs, It W s a l c zs → It V s a l c zs) ∧ (∀ B v, B ≤ b → B ≤ d → Below B v W → Below B v V)) → Q V) :
    Q ((((W.setCell ⟨b, 0, none⟩ x).setCell ⟨b, 1, none⟩ y).setCell ⟨d, 0, none⟩ u).setCell ⟨d, 1, none⟩ v) :=
  k _ ((h.set2 x y).other2 hne u v) ((g.other2 hne.symm x y).set2 u v) (fun c t cs h1 h2 hv => (hv.other2 h1 x y).other2 h2 u v)
    ⟨fun s a l c zs i => (i.far h (noInt2 _ _ _ _) (far2 _ _ _ _)).far (g.other2 hne.symm x y) (noInt2 _ _ _ _) (far2 _ _ _ _), fun B v' h1 h2 hb => below_2 (below_2 hb h1 x y) h2 u v⟩
theorem iv_same {s : Bool} {xs ys zs : List Int} (e : num zs = num xs + num ys) : iv s zs = iv s xs + iv s ys := by
  cases s
  · simp only [iv_f]; exact e
  · simp only [iv_t]; omega
theorem iv_not {s : Bool} {xs ys zs : List Int} (e : num zs = num xs - num ys) : iv s zs = iv s xs + iv (!s) ys := by
  cases s
  · simp only [iv_f, Bool.not_false, iv_t]; omega
  · simp only [iv_f, Bool.not_true, iv_t]; omega
theorem iv_mul {s t : Bool} {xs ys zs : List Int} (e : num zs = num xs * num ys) : iv (s != t) zs = iv s xs * iv t ys := by
  cases s <;> cases t <;> simp [iv, e, Int.neg_mul, Int.mul_neg]
theorem abs_same {s : Bool} {xs ys : List Int} (h1 : 0 ≤ num xs) (h2 : 0 ≤ num ys) : ((iv s xs + iv s ys).natAbs : Int) = num xs + num ys := by
  cases s
  · simp only [iv_f]; omega
  · simp only [iv_t]; omega
theorem abs_mul {s t : Bool} {xs ys : List Int} (h1 : 0 ≤ num xs) (h2 : 0 ≤ num ys) : ((iv s xs * iv t ys).natAbs : Int) = num xs * num ys := by
  have h3 := Int.mul_nonneg h1 h2
  cases s <;> cases t <;> simp only [iv_t, iv_f, Int.neg_mul, Int.mul_neg, Int.neg_neg] <;> omega

theorem wadd_same_ok (s : Bool) (a b : Option Addr) (la ca lb cb : Nat) (xs ys : List Int) (w : World) (hx : It w s a la ca xs) (hy : It w s b lb cb ys) (hfit : Hid (num xs + num ys < pw 4096)) :
    Calls Tryz.prog 93 #[.agg #[.bool s, .slice a la ca], .agg #[.bool s, .slice b lb cb]] w fun e w' => ∃ s' a' l' c' zs, e = .returned (.tuple #[.agg #[.bool s', .slice a' l' c'], .int .i64 0]) ∧ It w' s' a' l' c' zs ∧ iv s' zs = iv s xs + iv s ys ∧ Below w.heap.size w w' := by
  have C : Hid (∀ W, Nt W a la ca xs → Nt W b lb cb ys → Calls Tryz.prog 111 #[.agg #[.slice a la ca], .agg #[.slice b lb cb]] W fun e w' => ∃ a' l' c' zs, e = .returned (.tuple #[.agg #[.slice a' l' c'], .int .i64 0]) ∧ Nt w' a' l' c' zs ∧ num zs = num xs + num ys ∧ Below W.heap.size W w') := fun W h1 h2 => nadd_ok a b la ca lb cb xs ys W h1 h2 hfit.out
  clear hfit
  have B0 : Below w.heap.size w w := Below.refl _ _
  cases s
  ·
    go_enter Tryz.func93, Tryz.ntmps93
    go_wp2_with fail
    refine ent3 w _ _ _ _ _ _ (Q := fun W => Calls Tryz.prog _ _ W _) ?_
    intro x1 hb hs_x1 V0 V1 V2
    replace hx := It.after hb hx
    replace hy := It.after hb hy
    replace B0 := step B0 hb
    clear hb hs_x1
    refine (C.out x1 hx.1 hy.1).mono ?_
    rintro e x2 ⟨a', l', c', zs, rfl, h', e', hb⟩
    replace V0 := V0.a hb
    replace V1 := V1.a hb
    replace V2 := V2.a hb
    replace hx := It.after hb hx
    replace hy := It.after hb hy
    replace B0 := step B0 hb
    clear hb
    have c_V0 := V0.c0
    have d_V0 := V0.c1
    have f_V0 := V0.frozen 0
    have g_V0 := V0.frozen 1
    have l_V0 := V0.lt
    have m_V0 := Nat.le_of_lt l_V0
    have c_V1 := V1.c0
    have d_V1 := V1.c1
    have f_V1 := V1.frozen 0
    have g_V1 := V1.frozen 1
    have l_V1 := V1.lt
    have m_V1 := Nat.le_of_lt l_V1
    have c_V2 := V2.c0
    have d_V2 := V2.c1
    have f_V2 := V2.frozen 0
    have g_V2 := V2.frozen 1
    have l_V2 := V2.lt
    have m_V2 := Nat.le_of_lt l_V2
    go_wp2_with fail
    refine ent1 x2 _ _ (Q := fun W => Calls Tryz.prog _ _ W _) ?_
    intro x3 hb hs_x3 V3
    replace V0 := V0.a hb
    replace V1 := V1.a hb
    replace V2 := V2.a hb
    replace h' := Nt.after hb h'
    replace hx := It.after hb hx
    replace hy := It.after hb hy
    replace B0 := step B0 hb
    clear hb hs_x3
    refine (wnew_any false a' l' c' zs x3 h').mono ?_
    rintro e x4 ⟨s', rfl, h2, e2, hb⟩
    replace V0 := V0.a hb
    replace V1 := V1.a hb
    replace V2 := V2.a hb
    replace V3 := V3.a hb
    replace h' := Nt.after hb h'
    replace hx := It.after hb hx
    replace hy := It.after hb hy
    replace B0 := step B0 hb
    clear hb
    clear c_V0 d_V0 f_V0 g_V0 l_V0 m_V0 c_V1 d_V1 f_V1 g_V1 l_V1 m_V1 c_V2 d_V2 f_V2 g_V2 l_V2 m_V2
    have c_V2 := V2.c0
    have d_V2 := V2.c1
    have f_V2 := V2.frozen 0
    have g_V2 := V2.frozen 1
    have l_V2 := V2.lt
    have m_V2 := Nat.le_of_lt l_V2
    go_wp2_with fail
    refine bodyPost_ret (results_wt rfl rfl (V2.set2 _ _)) rfl ?_
    refine ⟨s', a', l', c', zs, rfl, h2.far V2 (noInt2 _ _ _ _) (far2 _ _ _ _), ?_, below_2 B0 (by omega) _ _⟩
    rw [e2]
    exact iv_same e'
  ·
    go_enter Tryz.func93, Tryz.ntmps93
    go_wp2_with fail
    refine ent3 w _ _ _ _ _ _ (Q := fun W => Calls Tryz.prog _ _ W _) ?_
    intro x1 hb hs_x1 V0 V1 V2
    replace hx := It.after hb hx
    replace hy := It.after hb hy
    replace B0 := step B0 hb
    clear hb hs_x1
    refine (C.out x1 hx.1 hy.1).mono ?_
    rintro e x2 ⟨a', l', c', zs, rfl, h', e', hb⟩
    replace V0 := V0.a hb
    replace V1 := V1.a hb
    replace V2 := V2.a hb
    replace hx := It.after hb hx
    replace hy := It.after hb hy
    replace B0 := step B0 hb
    clear hb
    have c_V0 := V0.c0
    have d_V0 := V0.c1
    have f_V0 := V0.frozen 0
    have g_V0 := V0.frozen 1
    have l_V0 := V0.lt
    have m_V0 := Nat.le_of_lt l_V0
    have c_V1 := V1.c0
    have d_V1 := V1.c1
    have f_V1 := V1.frozen 0
    have g_V1 := V1.frozen 1
    have l_V1 := V1.lt
    have m_V1 := Nat.le_of_lt l_V1
    have c_V2 := V2.c0
    have d_V2 := V2.c1
    have f_V2 := V2.frozen 0
    have g_V2 := V2.frozen 1
    have l_V2 := V2.lt
    have m_V2 := Nat.le_of_lt l_V2
    go_wp2_with fail
    refine ent1 x2 _ _ (Q := fun W => Calls Tryz.prog _ _ W _) ?_
    intro x3 hb hs_x3 V3
    replace V0 := V0.a hb
    replace V1 := V1.a hb
    replace V2 := V2.a hb
    replace h' := Nt.after hb h'
    replace hx := It.after hb hx
    replace hy := It.after hb hy
    replace B0 := step B0 hb
    clear hb hs_x3
    refine (wnew_any true a' l' c' zs x3 h').mono ?_
    rintro e x4 ⟨s', rfl, h2, e2, hb⟩
    replace V0 := V0.a hb
    replace V1 := V1.a hb
    replace V2 := V2.a hb
    replace V3 := V3.a hb
    replace h' := Nt.after hb h'
    replace hx := It.after hb hx
    replace hy := It.after hb hy
    replace B0 := step B0 hb
    clear hb
    clear c_V0 d_V0 f_V0 g_V0 l_V0 m_V0 c_V1 d_V1 f_V1 g_V1 l_V1 m_V1 c_V2 d_V2 f_V2 g_V2 l_V2 m_V2
    have c_V2 := V2.c0
    have d_V2 := V2.c1
    have f_V2 := V2.frozen 0
    have g_V2 := V2.frozen 1
    have l_V2 := V2.lt
    have m_V2 := Nat.le_of_lt l_V2
    go_wp2_with fail
    refine bodyPost_ret (results_wt rfl rfl (V2.set2 _ _)) rfl ?_
    refine ⟨s', a', l', c', zs, rfl, h2.far V2 (noInt2 _ _ _ _) (far2 _ _ _ _), ?_, below_2 B0 (by omega) _ _⟩
    rw [e2]
    exact iv_same e'

theorem wadd_not_ge (s : Bool) (a b : Option Addr) (la ca lb cb : Nat) (xs ys : List Int) (w : World) (hx : It w s a la ca xs) (hy : It w (!s) b lb cb ys) (hle : num ys ≤ num xs) :
    Calls Tryz.prog 93 #[.agg #[.bool s, .slice a la ca], .agg #[.bool (!s), .slice b lb cb]] w fun e w' => ∃ s' a' l' c' zs, e = .returned (.tuple #[.agg #[.bool s', .slice a' l' c'], .int .i64 0]) ∧ It w' s' a' l' c' zs ∧ iv s' zs = iv s xs + iv (!s) ys ∧ Below w.heap.size w w' := by
  have hc : 0 ≤ cmp3 (num xs) (num ys) := by unfold cmp3; grind
  have B0 : Below w.heap.size w w := Below.refl _ _
  cases s
  ·
    go_enter Tryz.func93, Tryz.ntmps93
    go_wp2_with fail
    refine ent3 w _ _ _ _ _ _ (Q := fun W => Calls Tryz.prog _ _ W _) ?_
    intro x1 hb hs_x1 V0 V1 V2
    replace hx := It.after hb hx
    replace hy := It.after hb hy
    replace B0 := step B0 hb
    clear hb hs_x1
    refine (ncompare_any a b la ca lb cb xs ys x1 hx.1 hy.1).mono ?_
    rintro e x2 ⟨rfl, hb⟩
    replace V0 := V0.a hb
    replace V1 := V1.a hb
    replace V2 := V2.a hb
    replace hx := It.after hb hx
    replace hy := It.after hb hy
    replace B0 := step B0 hb
    clear hb
    obtain ⟨q, hq⟩ : ∃ q, cmp3 (num xs) (num ys) = q := ⟨_, rfl⟩
    rw [hq] at hc ⊢
    have c_V0 := V0.c0
    have d_V0 := V0.c1
    have f_V0 := V0.frozen 0
    have g_V0 := V0.frozen 1
    have l_V0 := V0.lt
    have m_V0 := Nat.le_of_lt l_V0
    have c_V1 := V1.c0
    have d_V1 := V1.c1
    have f_V1 := V1.frozen 0
    have g_V1 := V1.frozen 1
    have l_V1 := V1.lt
    have m_V1 := Nat.le_of_lt l_V1
    have c_V2 := V2.c0
    have d_V2 := V2.c1
    have f_V2 := V2.frozen 0
    have g_V2 := V2.frozen 1
    have l_V2 := V2.lt
    have m_V2 := Nat.le_of_lt l_V2
    go_wp2_with fail
    refine (nsub_ok a b la ca lb cb xs ys x2 hx.1 hy.1 hle).mono ?_
    rintro e x3 ⟨a', l', c', zs, rfl, h', e', hb⟩
    replace V0 := V0.a hb
    replace V1 := V1.a hb
    replace V2 := V2.a hb
    replace hx := It.after hb hx
    replace hy := It.after hb hy
    replace B0 := step B0 hb
    clear hb
    clear c_V0 d_V0 f_V0 g_V0 l_V0 m_V0 c_V1 d_V1 f_V1 g_V1 l_V1 m_V1 c_V2 d_V2 f_V2 g_V2 l_V2 m_V2
    have c_V0 := V0.c0
    have d_V0 := V0.c1
    have f_V0 := V0.frozen 0
    have g_V0 := V0.frozen 1
    have l_V0 := V0.lt
    have m_V0 := Nat.le_of_lt l_V0
    have c_V1 := V1.c0
    have d_V1 := V1.c1
    have f_V1 := V1.frozen 0
    have g_V1 := V1.frozen 1
    have l_V1 := V1.lt
    have m_V1 := Nat.le_of_lt l_V1
    have c_V2 := V2.c0
    have d_V2 := V2.c1
    have f_V2 := V2.frozen 0
    have g_V2 := V2.frozen 1
    have l_V2 := V2.lt
    have m_V2 := Nat.le_of_lt l_V2
    go_wp2_with fail
    refine ent1 x3 _ _ (Q := fun W => Calls Tryz.prog _ _ W _) ?_
    intro x4 hb hs_x4 V3
    replace V0 := V0.a hb
    replace V1 := V1.a hb
    replace V2 := V2.a hb
    replace h' := Nt.after hb h'
    replace hx := It.after hb hx
    replace hy := It.after hb hy
    replace B0 := step B0 hb
    clear hb hs_x4
    refine (wnew_any false a' l' c' zs x4 h').mono ?_
    rintro e x5 ⟨s', rfl, h2, e2, hb⟩
    replace V0 := V0.a hb
    replace V1 := V1.a hb
    replace V2 := V2.a hb
    replace V3 := V3.a hb
    replace h' := Nt.after hb h'
    replace hx := It.after hb hx
    replace hy := It.after hb hy
    replace B0 := step B0 hb
    clear hb
    clear c_V0 d_V0 f_V0 g_V0 l_V0 m_V0 c_V1 d_V1 f_V1 g_V1 l_V1 m_V1 c_V2 d_V2 f_V2 g_V2 l_V2 m_V2
    have c_V2 := V2.c0
    have d_V2 := V2.c1
    have f_V2 := V2.frozen 0
    have g_V2 := V2.frozen 1
    have l_V2 := V2.lt
    have m_V2 := Nat.le_of_lt l_V2
    go_wp2_with fail
    refine bodyPost_ret (results_wt rfl rfl (V2.set2 _ _)) rfl ?_
    refine ⟨s', a', l', c', zs, rfl, h2.far V2 (noInt2 _ _ _ _) (far2 _ _ _ _), ?_, below_2 B0 (by omega) _ _⟩
    rw [e2]
    exact iv_not e'
  ·
    go_enter Tryz.func93, Tryz.ntmps93
    go_wp2_with fail
    refine ent3 w _ _ _ _ _ _ (Q := fun W => Calls Tryz.prog _ _ W _) ?_
    intro x1 hb hs_x1 V0 V1 V2
    replace hx := It.after hb hx
    replace hy := It.after hb hy
    replace B0 := step B0 hb
    clear hb hs_x1
    refine (ncompare_any a b la ca lb cb xs ys x1 hx.1 hy.1).mono ?_
    rintro e x2 ⟨rfl, hb⟩
    replace V0 := V0.a hb
    replace V1 := V1.a hb
    replace V2 := V2.a hb
    replace hx := It.after hb hx
    replace hy := It.after hb hy
    replace B0 := step B0 hb
    clear hb
    obtain ⟨q, hq⟩ : ∃ q, cmp3 (num xs) (num ys) = q := ⟨_, rfl⟩
    rw [hq] at hc ⊢
    have c_V0 := V0.c0
    have d_V0 := V0.c1
    have f_V0 := V0.frozen 0
    have g_V0 := V0.frozen 1
    have l_V0 := V0.lt
    have m_V0 := Nat.le_of_lt l_V0
    have c_V1 := V1.c0
    have d_V1 := V1.c1
    have f_V1 := V1.frozen 0
    have g_V1 := V1.frozen 1
    have l_V1 := V1.lt
    have m_V1 := Nat.le_of_lt l_V1
    have c_V2 := V2.c0
    have d_V2 := V2.c1
    have f_V2 := V2.frozen 0
    have g_V2 := V2.frozen 1
    have l_V2 := V2.lt
    have m_V2 := Nat.le_of_lt l_V2
    go_wp2_with fail
    refine (nsub_ok a b la ca lb cb xs ys x2 hx.1 hy.1 hle).mono ?_
    rintro e x3 ⟨a', l', c', zs, rfl, h', e', hb⟩
    replace V0 := V0.a hb
    replace V1 := V1.a hb
    replace V2 := V2.a hb
    replace hx := It.after hb hx
    replace hy := It.after hb hy
    replace B0 := step B0 hb
    clear hb
    clear c_V0 d_V0 f_V0 g_V0 l_V0 m_V0 c_V1 d_V1 f_V1 g_V1 l_V1 m_V1 c_V2 d_V2 f_V2 g_V2 l_V2 m_V2
    have c_V0 := V0.c0
    have d_V0 := V0.c1
    have f_V0 := V0.frozen 0
    have g_V0 := V0.frozen 1
    have l_V0 := V0.lt
    have m_V0 := Nat.le_of_lt l_V0
    have c_V1 := V1.c0
    have d_V1 := V1.c1
    have f_V1 := V1.frozen 0
    have g_V1 := V1.frozen 1
    have l_V1 := V1.lt
    have m_V1 := Nat.le_of_lt l_V1
    have c_V2 := V2.c0
    have d_V2 := V2.c1
    have f_V2 := V2.frozen 0
    have g_V2 := V2.frozen 1
    have l_V2 := V2.lt
    have m_V2 := Nat.le_of_lt l_V2
    go_wp2_with fail
    refine ent1 x3 _ _ (Q := fun W => Calls Tryz.prog _ _ W _) ?_
    intro x4 hb hs_x4 V3
    replace V0 := V0.a hb
    replace V1 := V1.a hb
    replace V2 := V2.a hb
    replace h' := Nt.after hb h'
    replace hx := It.after hb hx
    replace hy := It.after hb hy
    replace B0 := step B0 hb
    clear hb hs_x4
    refine (wnew_any true a' l' c' zs x4 h').mono ?_
    rintro e x5 ⟨s', rfl, h2, e2, hb⟩
    replace V0 := V0.a hb
    replace V1 := V1.a hb
    replace V2 := V2.a hb
    replace V3 := V3.a hb
    replace h' := Nt.after hb h'
    replace hx := It.after hb hx
    replace hy := It.after hb hy
    replace B0 := step B0 hb
    clear hb
    clear c_V0 d_V0 f_V0 g_V0 l_V0 m_V0 c_V1 d_V1 f_V1 g_V1 l_V1 m_V1 c_V2 d_V2 f_V2 g_V2 l_V2 m_V2
    have c_V2 := V2.c0
    have d_V2 := V2.c1
    have f_V2 := V2.frozen 0
    have g_V2 := V2.frozen 1
    have l_V2 := V2.lt
    have m_V2 := Nat.le_of_lt l_V2
    go_wp2_with fail
    refine bodyPost_ret (results_wt rfl rfl (V2.set2 _ _)) rfl ?_
    refine ⟨s', a', l', c', zs, rfl, h2.far V2 (noInt2 _ _ _ _) (far2 _ _ _ _), ?_, below_2 B0 (by omega) _ _⟩
    rw [e2]
    exact iv_not e'

theorem wadd_not_lt (s : Bool) (a b : Option Addr) (la ca lb cb : Nat) (xs ys : List Int) (w : World) (hx : It w s a la ca xs) (hy : It w (!s) b lb cb ys) (hlt : num xs < num ys) :
    Calls Tryz.prog 93 #[.agg #[.bool s, .slice a la ca], .agg #[.bool (!s), .slice b lb cb]] w fun e w' => ∃ s' a' l' c' zs, e = .returned (.tuple #[.agg #[.bool s', .slice a' l' c'], .int .i64 0]) ∧ It w' s' a' l' c' zs ∧ iv s' zs = iv s xs + iv (!s) ys ∧ Below w.heap.size w w' := by
  have hc : cmp3 (num xs) (num ys) = -1 := cmp3_lt hlt
  have hle : num xs ≤ num ys := by omega
  have B0 : Below w.heap.size w w := Below.refl _ _
  cases s
  ·
    go_enter Tryz.func93, Tryz.ntmps93
    go_wp2_with fail
    refine ent3 w _ _ _ _ _ _ (Q := fun W => Calls Tryz.prog _ _ W _) ?_
    intro x1 hb hs_x1 V0 V1 V2
    replace hx := It.after hb hx
    replace hy := It.after hb hy
    replace B0 := step B0 hb
    clear hb hs_x1
    refine (ncompare_any a b la ca lb cb xs ys x1 hx.1 hy.1).mono ?_
    rintro e x2 ⟨rfl, hb⟩
    replace V0 := V0.a hb
    replace V1 := V1.a hb
    replace V2 := V2.a hb
    replace hx := It.after hb hx
    replace hy := It.after hb hy
    replace B0 := step B0 hb
    clear hb
    rw [hc]
    have c_V0 := V0.c0
    have d_V0 := V0.c1
    have f_V0 := V0.frozen 0
    have g_V0 := V0.frozen 1
    have l_V0 := V0.lt
    have m_V0 := Nat.le_of_lt l_V0
    have c_V1 := V1.c0
    have d_V1 := V1.c1
    have f_V1 := V1.frozen 0
    have g_V1 := V1.frozen 1
    have l_V1 := V1.lt
    have m_V1 := Nat.le_of_lt l_V1
    have c_V2 := V2.c0
    have d_V2 := V2.c1
    have f_V2 := V2.frozen 0
    have g_V2 := V2.frozen 1
    have l_V2 := V2.lt
    have m_V2 := Nat.le_of_lt l_V2
    go_wp2_with fail
    clear c_V0 d_V0 f_V0 g_V0 l_V0 m_V0 c_V1 d_V1 f_V1 g_V1 l_V1 m_V1 c_V2 d_V2 f_V2 g_V2 l_V2 m_V2
    refine st22 V0 V1 (by omega) (.bool true) (.slice b lb cb) (.bool false) (.slice a la ca) (Q := fun W => Calls Tryz.prog _ _ W _) ?_
    intro x3 V0' V1' oth far
    replace hx := far.1 _ _ _ _ _ hx
    replace hy := far.1 _ _ _ _ _ hy
    replace V2 := oth _ _ _ (by omega) (by omega) V2
    replace B0 := far.2 _ _ (by omega) (by omega) B0
    clear V0 V1 oth far
    refine (nsub_ok b a lb cb la ca ys xs x3 hy.1 hx.1 hle).mono ?_
    rintro e x4 ⟨a', l', c', zs, rfl, h', e', hb⟩
    replace V0' := Va.after hb V0'
    replace V1' := Va.after hb V1'
    replace V2 := V2.a hb
    replace hx := It.after hb hx
    replace hy := It.after hb hy
    replace B0 := step B0 hb
    clear hb
    have c_V0' := V0'.c0
    have d_V0' := V0'.c1
    have f_V0' := V0'.frozen 0
    have g_V0' := V0'.frozen 1
    have l_V0' := V0'.lt
    have m_V0' := Nat.le_of_lt l_V0'
    have c_V1' := V1'.c0
    have d_V1' := V1'.c1
    have f_V1' := V1'.frozen 0
    have g_V1' := V1'.frozen 1
    have l_V1' := V1'.lt
    have m_V1' := Nat.le_of_lt l_V1'
    have c_V2 := V2.c0
    have d_V2 := V2.c1
    have f_V2 := V2.frozen 0
    have g_V2 := V2.frozen 1
    have l_V2 := V2.lt
    have m_V2 := Nat.le_of_lt l_V2
    go_wp2_with fail
    refine ent1 x4 _ _ (Q := fun W => Calls Tryz.prog _ _ W _) ?_
    intro x5 hb hs_x5 V3
    replace V0' := Va.after hb V0'
    replace V1' := Va.after hb V1'
    replace V2 := V2.a hb
    replace h' := Nt.after hb h'
    replace hx := It.after hb hx
    replace hy := It.after hb hy
    replace B0 := step B0 hb
    clear hb hs_x5
    refine (wnew_any true a' l' c' zs x5 h').mono ?_
    rintro e x6 ⟨s', rfl, h2, e2, hb⟩
    replace V0' := Va.after hb V0'
    replace V1' := Va.after hb V1'
    replace V2 := V2.a hb
    replace V3 := V3.a hb
    replace h' := Nt.after hb h'
    replace hx := It.after hb hx
    replace hy := It.after hb hy
    replace B0 := step B0 hb
    clear hb
    clear c_V0' d_V0' f_V0' g_V0' l_V0' m_V0' c_V1' d_V1' f_V1' g_V1' l_V1' m_V1' c_V2 d_V2 f_V2 g_V2 l_V2 m_V2
    have c_V2 := V2.c0
    have d_V2 := V2.c1
    have f_V2 := V2.frozen 0
    have g_V2 := V2.frozen 1
    have l_V2 := V2.lt
    have m_V2 := Nat.le_of_lt l_V2
    go_wp2_with fail
    refine bodyPost_ret (results_wt rfl rfl (V2.set2 _ _)) rfl ?_
    refine ⟨s', a', l', c', zs, rfl, h2.far V2 (noInt2 _ _ _ _) (far2 _ _ _ _), ?_, below_2 B0 (by omega) _ _⟩
    rw [e2, iv_not e']
    show iv true ys + iv false xs = iv false xs + iv true ys
    exact Int.add_comm _ _
  ·
    go_enter Tryz.func93, Tryz.ntmps93
    go_wp2_with fail
    refine ent3 w _ _ _ _ _ _ (Q := fun W => Calls Tryz.prog _ _ W _) ?_
    intro x1 hb hs_x1 V0 V1 V2
    replace hx := It.after hb hx
    replace hy := It.after hb hy
    replace B0 := step B0 hb
    clear hb hs_x1
    refine (ncompare_any a b la ca lb cb xs ys x1 hx.1 hy.1).mono ?_
    rintro e x2 ⟨rfl, hb⟩
    replace V0 := V0.a hb
    replace V1 := V1.a hb
    replace V2 := V2.a hb
    replace hx := It.after hb hx
    replace hy := It.after hb hy
    replace B0 := step B0 hb
    clear hb
    rw [hc]
    have c_V0 := V0.c0
    have d_V0 := V0.c1
    have f_V0 := V0.frozen 0
    have g_V0 := V0.frozen 1
    have l_V0 := V0.lt
    have m_V0 := Nat.le_of_lt l_V0
    have c_V1 := V1.c0
    have d_V1 := V1.c1
    have f_V1 := V1.frozen 0
    have g_V1 := V1.frozen 1
    have l_V1 := V1.lt
    have m_V1 := Nat.le_of_lt l_V1
    have c_V2 := V2.c0
    have d_V2 := V2.c1
    have f_V2 := V2.frozen 0
    have g_V2 := V2.frozen 1
    have l_V2 := V2.lt
    have m_V2 := Nat.le_of_lt l_V2
    go_wp2_with fail
    clear c_V0 d_V0 f_V0 g_V0 l_V0 m_V0 c_V1 d_V1 f_V1 g_V1 l_V1 m_V1 c_V2 d_V2 f_V2 g_V2 l_V2 m_V2
    refine st22 V0 V1 (by omega) (.bool false) (.slice b lb cb) (.bool true) (.slice a la ca) (Q := fun W => Calls Tryz.prog _ _ W _) ?_
    intro x3 V0' V1' oth far
    replace hx := far.1 _ _ _ _ _ hx
    replace hy := far.1 _ _ _ _ _ hy
    replace V2 := oth _ _ _ (by omega) (by omega) V2
    replace B0 := far.2 _ _ (by omega) (by omega) B0
    clear V0 V1 oth far
    refine (nsub_ok b a lb cb la ca ys xs x3 hy.1 hx.1 hle).mono ?_
    rintro e x4 ⟨a', l', c', zs, rfl, h', e', hb⟩
    replace V0' := Va.after hb V0'
    replace V1' := Va.after hb V1'
    replace V2 := V2.a hb
    replace hx := It.after hb hx
    replace hy := It.after hb hy
    replace B0 := step B0 hb
    clear hb
    have c_V0' := V0'.c0
    have d_V0' := V0'.c1
    have f_V0' := V0'.frozen 0
    have g_V0' := V0'.frozen 1
    have l_V0' := V0'.lt
    have m_V0' := Nat.le_of_lt l_V0'
    have c_V1' := V1'.c0
    have d_V1' := V1'.c1
    have f_V1' := V1'.frozen 0
    have g_V1' := V1'.frozen 1
    have l_V1' := V1'.lt
    have m_V1' := Nat.le_of_lt l_V1'
    have c_V2 := V2.c0
    have d_V2 := V2.c1
    have f_V2 := V2.frozen 0
    have g_V2 := V2.frozen 1
    have l_V2 := V2.lt
    have m_V2 := Nat.le_of_lt l_V2
    go_wp2_with fail
    refine ent1 x4 _ _ (Q := fun W => Calls Tryz.prog _ _ W _) ?_
    intro x5 hb hs_x5 V3
    replace V0' := Va.after hb V0'
    replace V1' := Va.after hb V1'
    replace V2 := V2.a hb
    replace h' := Nt.after hb h'
    replace hx := It.after hb hx
    replace hy := It.after hb hy
    replace B0 := step B0 hb
    clear hb hs_x5
    refine (wnew_any false a' l' c' zs x5 h').mono ?_
    rintro e x6 ⟨s', rfl, h2, e2, hb⟩
    replace V0' := Va.after hb V0'
    replace V1' := Va.after hb V1'
    replace V2 := V2.a hb
    replace V3 := V3.a hb
    replace h' := Nt.after hb h'
    replace hx := It.after hb hx
    replace hy := It.after hb hy
    replace B0 := step B0 hb
    clear hb
    clear c_V0' d_V0' f_V0' g_V0' l_V0' m_V0' c_V1' d_V1' f_V1' g_V1' l_V1' m_V1' c_V2 d_V2 f_V2 g_V2 l_V2 m_V2
    have c_V2 := V2.c0
    have d_V2 := V2.c1
    have f_V2 := V2.frozen 0
    have g_V2 := V2.frozen 1
    have l_V2 := V2.lt
    have m_V2 := Nat.le_of_lt l_V2
    go_wp2_with fail
    refine bodyPost_ret (results_wt rfl rfl (V2.set2 _ _)) rfl ?_
    refine ⟨s', a', l', c', zs, rfl, h2.far V2 (noInt2 _ _ _ _) (far2 _ _ _ _), ?_, below_2 B0 (by omega) _ _⟩
    rw [e2, iv_not e']
    show iv false ys + iv true xs = iv true xs + iv false ys
    exact Int.add_comm _ _

theorem wadd_ok (s t : Bool) (a b : Option Addr) (la ca lb cb : Nat) (xs ys : List Int) (w : World) (hx : It w s a la ca xs) (hy : It w t b lb cb ys) (hfit : Hid (((iv s xs + iv t ys).natAbs : Int) < pw 4096)) :
    Calls Tryz.prog 93 #[.agg #[.bool s, .slice a la ca], .agg #[.bool t, .slice b lb cb]] w fun e w' => ∃ s' a' l' c' zs, e = .returned (.tuple #[.agg #[.bool s', .slice a' l' c'], .int .i64 0]) ∧ It w' s' a' l' c' zs ∧ iv s' zs = iv s xs + iv t ys ∧ Below w.heap.size w w' := by
  by_cases h : t = s
  · subst h
    exact wadd_same_ok t a b la ca lb cb xs ys w hx hy (by have := hfit.out; rw [abs_same hx.1.nonneg hy.1.nonneg] at this; exact this)
  · have e : t = !s := by cases s <;> cases t <;> simp_all
    subst e
    by_cases h1 : num xs < num ys
    · exact wadd_not_lt s a b la ca lb cb xs ys w hx hy h1
    · exact wadd_not_ge s a b la ca lb cb xs ys w hx hy (by omega)
theorem wmul_ok (s t : Bool) (a b : Option Addr) (la ca lb cb : Nat) (xs ys : List Int) (w : World) (hx : It w s a la ca xs) (hy : It w t b lb cb ys) (hfit : Hid (((iv s xs * iv t ys).natAbs : Int) < pw 4096)) :
    Calls Tryz.prog 79 #[.agg #[.bool s, .slice a la ca], .agg #[.bool t, .slice b lb cb]] w fun e w' => ∃ s' a' l' c' zs, e = .returned (.tuple #[.agg #[.bool s', .slice a' l' c'], .int .i64 0]) ∧ It w' s' a' l' c' zs ∧ iv s' zs = iv s xs * iv t ys ∧ Below w.heap.size w w' := by
  have C : Hid (∀ W, Nt W a la ca xs → Nt W b lb cb ys → Calls Tryz.prog 80 #[.agg #[.slice a la ca], .agg #[.slice b lb cb]] W fun e w' => ∃ a' l' c' zs, e = .returned (.tuple #[.agg #[.slice a' l' c'], .int .i64 0]) ∧ Nt w' a' l' c' zs ∧ num zs = num xs * num ys ∧ Below W.heap.size W w') := fun W h1 h2 => nmul_ok a b la ca lb cb xs ys W h1 h2 (by have := hfit.out; rw [abs_mul hx.1.nonneg hy.1.nonneg] at this; exact this)
  clear hfit
  have B0 : Below w.heap.size w w := Below.refl _ _
  go_enter Tryz.func79, Tryz.ntmps79
  go_wp2_with fail
  refine ent3 w _ _ _ _ _ _ (Q := fun W => Calls Tryz.prog _ _ W _) ?_
  intro x1 hb hs_x1 V0 V1 V2
  replace hx := It.after hb hx
  replace hy := It.after hb hy
  replace B0 := step B0 hb
  clear hb hs_x1
  refine (C.out x1 hx.1 hy.1).mono ?_
  rintro e x2 ⟨a', l', c', zs, rfl, h', e', hb⟩
  replace V0 := V0.a hb
  replace V1 := V1.a hb
  replace V2 := V2.a hb
  replace hx := It.after hb hx
  replace hy := It.after hb hy
  replace B0 := step B0 hb
  clear hb
  have c_V0 := V0.c0
  have d_V0 := V0.c1
  have f_V0 := V0.frozen 0
  have g_V0 := V0.frozen 1
  have l_V0 := V0.lt
  have m_V0 := Nat.le_of_lt l_V0
  have c_V1 := V1.c0
  have d_V1 := V1.c1
  have f_V1 := V1.frozen 0
  have g_V1 := V1.frozen 1
  have l_V1 := V1.lt
  have m_V1 := Nat.le_of_lt l_V1
  have c_V2 := V2.c0
  have d_V2 := V2.c1
  have f_V2 := V2.frozen 0
  have g_V2 := V2.frozen 1
  have l_V2 := V2.lt
  have m_V2 := Nat.le_of_lt l_V2
  go_wp2_with fail
  refine ent1 x2 _ _ (Q := fun W => Calls Tryz.prog _ _ W _) ?_
  intro x3 hb hs_x3 V3
  replace V0 := V0.a hb
  replace V1 := V1.a hb
  replace V2 := V2.a hb
  replace h' := Nt.after hb h'
  replace hx := It.after hb hx
  replace hy := It.after hb hy
  replace B0 := step B0 hb
  clear hb hs_x3
  refine (wnew_any _ a' l' c' zs x3 h').mono ?_
  rintro e x4 ⟨s', rfl, h2, e2, hb⟩
  replace V0 := V0.a hb
  replace V1 := V1.a hb
  replace V2 := V2.a hb
  replace V3 := V3.a hb
  replace h' := Nt.after hb h'
  replace hx := It.after hb hx
  replace hy := It.after hb hy
  replace B0 := step B0 hb
  clear hb
  clear c_V0 d_V0 f_V0 g_V0 l_V0 m_V0 c_V1 d_V1 f_V1 g_V1 l_V1 m_V1 c_V2 d_V2 f_V2 g_V2 l_V2 m_V2
  have c_V2 := V2.c0
  have d_V2 := V2.c1
  have f_V2 := V2.frozen 0
  have g_V2 := V2.frozen 1
  have l_V2 := V2.lt
  have m_V2 := Nat.le_of_lt l_V2
  go_wp2_with fail
  refine bodyPost_ret (results_wt rfl rfl (V2.set2 _ _)) rfl ?_
  refine ⟨s', a', l', c', zs, rfl, h2.far V2 (noInt2 _ _ _ _) (far2 _ _ _ _), ?_, below_2 B0 (by omega) _ _⟩
  rw [e2]
  exact iv_mul e'

end Go.Proofs.YtngichjgfppnpaaGreatDoor
