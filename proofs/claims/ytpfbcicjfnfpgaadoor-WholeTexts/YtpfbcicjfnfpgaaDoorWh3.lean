/-
  whole.Add, Sub, Mul.
-/
import Derived.Test.YtpfbcicjfnfpgaaDoorBsM
import Derived.Test.YtpfbcicjfnfpgaaDoorBsN
namespace Go.Proofs.YtpfbcicjfnfpgaaDoor
open Go.RowKit Go.Shelf
set_option linter.unusedVariables false

theorem st22 {W : World} {b d : Nat} {t : TypeId} {s1 s2 : Bool} {a1 a2 : Option Addr} {l1 l2 c1 c2 : Nat} (h : Va W b t #[.bool s1, .slice a1 l1 c1]) (g : Va W d t #[.bool s2, .slice a2 l2 c2]) (hne : b ≠ d) (x y u v : Value) {Q : World → Prop}
    (k : ∀ V, Va V b t #[x, y] → Va V d t #[u, v] → (∀ c t cs, c ≠ b → c ≠ d → Va W c t cs → Va V c t cs) → ((∀ s a l c zs, It W s a l c zs → It V s a l c zs) ∧ (∀ B v, B ≤ b → B ≤ d → Below B v W → Below B v V)) → Q V) :
    Q ((((W.setCell ⟨b, 0, none⟩ x).setCell ⟨b, 1, none⟩ y).setCell ⟨d, 0, none⟩ u).setCell ⟨d, 1, none⟩ v) :=
  k _ ((h.set2 x y).other2 hne u v) ((g.other2 hne.symm x y).set2 u v) (fun c t cs h1 h2 hv => (hv.other2 h1 x y).other2 h2 u v)
    ⟨fun s a l c zs i => (i.far h (noInt2 _ _ _ _) (far2 _ _ _ _)).far (g.other2 hne.symm x y) (noInt2 _ _ _ _) (far2 _ _ _ _), fun B v' h1 h2 hb => below_2 (below_2 hb h1 x y) h2 u v⟩
theorem iv_same {s : Bool} {xs ys zs : List Int} (e : num zs = num xs + num ys) : iv s zs = iv s xs + iv s ys := by
  cases s
  · simp only [iv_f]; exact e
  · simp only [iv_t]; omega
theorem iv_not {s : Bool} {xs ys zs : List Int} (e : num zs = num xs - num ys) : iv s zs = iv s xs + iv (!s) ys := by
  cases s
  · simp only [iv_f, Bool.not_false, iv_t]; omega
  · simp only [iv_f, Bool.not_true, iv_t]; omega
theorem iv_mul {s t : Bool} {xs ys zs : List Int} (e : num zs = num xs * num ys) : iv (s != t) zs = iv s xs * iv t ys := by
  cases s <;> cases t <;> simp [iv, e, Int.neg_mul, Int.mul_neg]
theorem abs_same {s : Bool} {xs ys : List Int} (h1 : 0 ≤ num xs) (h2 : 0 ≤ num ys) : ((iv s xs + iv s ys).natAbs : Int) = num xs + num ys := by
  cases s
  · simp only [iv_f]; omega
  · simp only [iv_t]; omega
theorem abs_mul {s t : Bool} {xs ys : List Int} (h1 : 0 ≤ num xs) (h2 : 0 ≤ num ys) : ((iv s xs * iv t ys).natAbs : Int) = num xs * num ys := by
  have h3 := Int.mul_nonneg h1 h2
  cases s <;> cases t <;> simp only [iv_t, iv_f, Int.neg_mul, Int.mul_neg, Int.neg_neg] <;> omega

end Go.Proofs.YtpfbcicjfnfpgaaDoor
