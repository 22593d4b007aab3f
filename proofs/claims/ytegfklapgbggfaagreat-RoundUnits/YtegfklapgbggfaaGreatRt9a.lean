/-
  The document's Check; may, tiny, fine of the statements of layer 5.
-/
import Derived.Test.YtegfklapgbggfaaGreatRt8
namespace Go.Proofs.YtegfklapgbggfaaGreat
open Go.RowKit Go.Shelf
set_option linter.unusedVariables false

/-- A ratio is normal. -/
def Norm (s : Bool) (zs ys : List Int) : Prop := usedN zs = zs.length ∧ usedN ys = ys.length ∧ ys.length ≠ 0 ∧ ¬ (s = true ∧ zs.length = 0) ∧ Int.gcd (num zs) (num ys) = 1
/-- A ratio that is handed in. -/
def Ri (w : World) (a : Option Addr) (l c : Nat) (zs : List Int) (b : Option Addr) (m d : Nat) (ys : List Int) : Prop := Sl w a l zs ∧ Sl w b m ys ∧ l ≤ c ∧ m ≤ d
theorem Ri.after {w w' : World} (hb : Below w.heap.size w w') {a : Option Addr} {l c : Nat} {zs : List Int} {b : Option Addr} {m d : Nat} {ys : List Int} (h : Ri w a l c zs b m d ys) : Ri w' a l c zs b m d ys := ⟨h.1.below hb (Nat.le_refl _), h.2.1.below hb (Nat.le_refl _), h.2.2⟩
theorem Ri.drw {w : World} {a : Option Addr} {l c : Nat} {zs : List Int} {b : Option Addr} {m d : Nat} {ys : List Int} (h : Ri w a l c zs b m d ys) : Ri w.drew a l c zs b m d ys := h
theorem Ri.far {w : World} {a : Option Addr} {l c : Nat} {zs : List Int} {b : Option Addr} {m d : Nat} {ys : List Int} (h : Ri w a l c zs b m d ys) {b' : Nat} {t : TypeId} {cs : Array Value} (V : Va w b' t cs) (hn : NoInt cs) {w' : World} (k : ∀ c, c ≠ b' → w'.heap[c]? = w.heap[c]?) : Ri w' a l c zs b m d ys := ⟨h.1.far V hn k, h.2.1.far V hn k, h.2.2⟩
theorem used_last {zs : List Int} {k : Nat} (h : zs.length = k + 1) : (usedN zs = k + 1) ↔ zs.getD k 0 ≠ 0 := by
  constructor
  · intro e
    have := usedN_top zs (by omega)
    rw [e] at this
    exact this
  · intro e
    exact usedN_eq (by omega) (fun i h1 h2 => by omega) (Or.inr (by simpa using e))
/-- A normal ratio is a number. -/
theorem norm_rat {s : Bool} {zs ys : List Int} (hz : Limbs zs) (hy : Limbs ys) (h : Norm s zs ys) : ∃ v : Rat, iv s zs = v.num ∧ num ys = v.den ∧ (s = true → num zs ≠ 0) := by
  have z0 := num_nonneg hz
  have y0 := num_nonneg hy
  have y1 : num ys ≠ 0 := fun e => h.2.2.1 (by rw [← h.2.1]; exact (num_eq_zero hy).1 e)
  have c : (iv s zs).natAbs.gcd (num ys).toNat = 1 := by
    have e1 : (iv s zs).natAbs = (num zs).natAbs := by cases s <;> simp only [iv_t, iv_f] <;> omega
    have e2 : (num ys).toNat = (num ys).natAbs := by omega
    rw [e1, e2]
    exact h.2.2.2.2
  refine ⟨⟨iv s zs, (num ys).toNat, by omega, c⟩, rfl, by show num ys = ((num ys).toNat : Int); omega, fun e1 e2 => h.2.2.2.1 ⟨e1, by rw [← h.1]; exact (num_eq_zero hz).1 e2⟩⟩

theorem one5 (w : World) :
    Calls Tryz.prog 100 #[] w fun e w' => ∃ g, e = .returned (.slice (some ⟨g, 0, none⟩) 1 1) ∧ Sl w' (some ⟨g, 0, none⟩) 1 [1] ∧ Below w.heap.size w w' := by
  go_enter Tryz.func100, Tryz.ntmps100
  go_wp2_with fail
  go_ret
  exact ⟨w.heap.size, rfl, sl_one w 1 ⟨by omega, by omega⟩, (Below.refl _ _).alloc (Nat.le_refl _) _⟩

/-- What Check answers. -/
def Chk (s : Bool) (l m : Nat) (zs ys : List Int) (er : Int) : Prop := (er = 3 ∧ (1024 < l ∨ 1024 < m)) ∨ (er = 50 ∧ l ≤ 1024 ∧ m ≤ 1024 ∧ ¬ Norm s zs ys) ∨ (er = 0 ∧ l ≤ 1024 ∧ m ≤ 1024 ∧ Norm s zs ys)
end Go.Proofs.YtegfklapgbggfaaGreat
