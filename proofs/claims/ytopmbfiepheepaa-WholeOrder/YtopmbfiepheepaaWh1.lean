/-
  Variables of two cells; whole numbers as values: a sign and a number of layer nat.
-/
import Derived.Test.YtopmbfiepheepaaVals
import Derived.Test.YtopmbfiepheepaaHeld
namespace Go.Proofs.Ytopmbfiepheepaa
open Go.RowKit Go.Shelf
set_option linter.unusedVariables false

theorem Va.c0 {w : World} {b : Nat} {t : TypeId} {x y : Value} (h : Va w b t #[x, y]) : w.cell? ⟨b, 0, none⟩ = some x := by rw [h.cellAt 0]; rfl
theorem Va.c1 {w : World} {b : Nat} {t : TypeId} {x y : Value} (h : Va w b t #[x, y]) : w.cell? ⟨b, 1, none⟩ = some y := by rw [h.cellAt 1]; rfl
theorem Va.set2 {w : World} {b : Nat} {t : TypeId} {x y : Value} (h : Va w b t #[x, y]) (x' y' : Value) : Va ((w.setCell ⟨b, 0, none⟩ x').setCell ⟨b, 1, none⟩ y') b t #[x', y'] := by
  unfold Va at *
  simp only [World.setCell]
  rw [Array.getElem?_modify, if_pos rfl, Array.getElem?_modify, if_pos rfl, h]
  simp
theorem Va.other2 {w : World} {b c : Nat} {t : TypeId} {cs : Array Value} (h : Va w b t cs) (hne : b ≠ c) (x' y' : Value) : Va ((w.setCell ⟨c, 0, none⟩ x').setCell ⟨c, 1, none⟩ y') b t cs :=
  (h.other (p := ⟨c, 0, none⟩) hne x').other (p := ⟨c, 1, none⟩) hne y'
theorem below_2 {B : Nat} {a w : World} (h : Below B a w) {c : Nat} (hc : B ≤ c) (x y : Value) : Below B a ((w.setCell ⟨c, 0, none⟩ x).setCell ⟨c, 1, none⟩ y) :=
  (h.setCell (p := ⟨c, 0, none⟩) hc x).setCell (p := ⟨c, 1, none⟩) hc y

/-- No cell of a variable is a limb. -/
def NoInt (cs : Array Value) : Prop := ∀ (i : Nat) (z : Int), cs[i]? ≠ some (.int .u64 z)
theorem noInt2 (s : Bool) (a : Option Addr) (l c : Nat) : NoInt #[.bool s, .slice a l c] := by
  intro i z h
  rcases i with _ | _ | i <;> simp at h
theorem noInt1 (a : Option Addr) (l c : Nat) : NoInt #[.slice a l c] := by
  intro i z h
  rcases i with _ | i <;> simp at h
theorem Sl.far {w : World} {a : Option Addr} {len : Nat} {zs : List Int} (h : Sl w a len zs) {b : Nat} {t : TypeId} {cs : Array Value} (V : Va w b t cs) (hn : NoInt cs) {w' : World} (k : ∀ c, c ≠ b → w'.heap[c]? = w.heap[c]?) : Sl w' a len zs := by
  obtain ⟨h1, h2, h3⟩ := h
  refine ⟨h1, h2, fun h0 => ?_⟩
  obtain ⟨bb, off, rfl, hc⟩ := h3 h0
  refine ⟨bb, off, rfl, fun i hi => ?_⟩
  have hne : bb ≠ b := by
    rintro rfl
    have e := hc 0 h0
    rw [V.cellAt] at e
    exact hn _ _ e
  rw [← hc i hi]
  exact World.cell?_of_block (w := w) (k bb hne)
theorem Nt.far {w : World} {a : Option Addr} {len cap : Nat} {zs : List Int} (h : Nt w a len cap zs) {b : Nat} {t : TypeId} {cs : Array Value} (V : Va w b t cs) (hn : NoInt cs) {w' : World} (k : ∀ c, c ≠ b → w'.heap[c]? = w.heap[c]?) : Nt w' a len cap zs := ⟨h.1.far V hn k, h.2⟩
theorem far2 (w : World) (b : Nat) (x y : Value) : ∀ c, c ≠ b → ((w.setCell ⟨b, 0, none⟩ x).setCell ⟨b, 1, none⟩ y).heap[c]? = w.heap[c]? := fun c hc => (Below.heap_setCell _ ⟨b, 1, none⟩ _ _ hc).trans (Below.heap_setCell _ ⟨b, 0, none⟩ _ _ hc)

/-- A store of two cells, all told. -/
theorem st2 {W : World} {b : Nat} {t : TypeId} {x y : Value} (h : Va W b t #[x, y]) (x' y' : Value) {Q : World → Prop}
    (k : ∀ V, Va V b t #[x', y'] → (∀ c t cs, c ≠ b → Va W c t cs → Va V c t cs) → ((∀ c, c ≠ b → V.heap[c]? = W.heap[c]?) ∧ (∀ B v, B ≤ b → Below B v W → Below B v V)) → Q V) : Q ((W.setCell ⟨b, 0, none⟩ x').setCell ⟨b, 1, none⟩ y') :=
  k _ (h.set2 x' y') (fun c t cs hc hv => hv.other2 hc x' y') ⟨far2 W b x' y', fun B v hB hb => below_2 hb hB x' y'⟩

theorem results_w {fn : Func} {i b : Nat} {x y : Value} {tmps : Array Value} {w : World} (h : fn.results = #[.cell i 27]) (hi : tmps.getD i undef = .pointer (some ⟨b, 0, none⟩)) (hv : Va w b 27 #[x, y]) :
    (results fn tmps).run Try.prog w = .ok (.agg #[x, y]) w := by
  have c := hv.c0; have d := hv.c1
  rw [Array.getD_eq_getD_getElem?] at hi
  simp [results, h, hi, c, d, go_sem]
theorem results_wt {fn : Func} {i j b : Nat} {x y : Value} {tmps : Array Value} {w : World} (h : fn.results = #[.cell i 27, .tmp j]) (hi : tmps.getD i undef = .pointer (some ⟨b, 0, none⟩)) (hv : Va w b 27 #[x, y]) :
    (results fn tmps).run Try.prog w = .ok (.tuple #[.agg #[x, y], tmps.getD j undef]) w := by
  have c := hv.c0; have d := hv.c1
  rw [Array.getD_eq_getD_getElem?] at hi
  simp [results, h, hi, c, d, go_sem]
theorem results_wwt {fn : Func} {i j k b c : Nat} {x y u v : Value} {tmps : Array Value} {w : World} (h : fn.results = #[.cell i 27, .cell j 27, .tmp k]) (hi : tmps.getD i undef = .pointer (some ⟨b, 0, none⟩)) (hv : Va w b 27 #[x, y])
    (hj : tmps.getD j undef = .pointer (some ⟨c, 0, none⟩)) (hu : Va w c 27 #[u, v]) :
    (results fn tmps).run Try.prog w = .ok (.tuple #[.agg #[x, y], .agg #[u, v], tmps.getD k undef]) w := by
  have c0 := hv.c0; have c1 := hv.c1; have d0 := hu.c0; have d1 := hu.c1
  rw [Array.getD_eq_getD_getElem?] at hi hj
  simp [results, h, hi, hj, c0, c1, d0, d1, go_sem]

/-- A whole number that can be read: 0 has no sign. -/
def It (w : World) (s : Bool) (a : Option Addr) (l c : Nat) (zs : List Int) : Prop := Nt w a l c zs ∧ (s = true → num zs ≠ 0)
/-- What it is. -/
def iv (s : Bool) (zs : List Int) : Int := if s then - num zs else num zs
theorem It.after {w w' : World} (b : Below w.heap.size w w') {s : Bool} {a : Option Addr} {l c : Nat} {zs : List Int} (h : It w s a l c zs) : It w' s a l c zs := ⟨Nt.after b h.1, h.2⟩
theorem It.far {w : World} {s : Bool} {a : Option Addr} {l c : Nat} {zs : List Int} (h : It w s a l c zs) {b : Nat} {t : TypeId} {cs : Array Value} (V : Va w b t cs) (hn : NoInt cs) {w' : World} (k : ∀ c, c ≠ b → w'.heap[c]? = w.heap[c]?) : It w' s a l c zs := ⟨h.1.far V hn k, h.2⟩
theorem It.nil (w : World) : It w false none 0 0 [] := ⟨Nt.nil w, fun h => by cases h⟩
theorem iv_nil : iv false [] = 0 := rfl
theorem iv_t (zs : List Int) : iv true zs = - num zs := rfl
theorem iv_f (zs : List Int) : iv false zs = num zs := rfl
/-- The sign is told by what it is. -/
theorem It.sign {w : World} {s : Bool} {a : Option Addr} {l c : Nat} {zs : List Int} (h : It w s a l c zs) : s = decide (iv s zs < 0) := by
  have h0 := h.1.nonneg
  cases s
  · rw [iv_f]; symm; simpa using h0
  · have := h.2 rfl
    rw [iv_t]; symm; simp; omega
theorem It.abs {w : World} {s : Bool} {a : Option Addr} {l c : Nat} {zs : List Int} (h : It w s a l c zs) : num zs = (iv s zs).natAbs := by
  have h0 := h.1.nonneg
  cases s
  · rw [iv_f]; omega
  · rw [iv_t]; omega
theorem It.lt {w : World} {s : Bool} {a : Option Addr} {l c : Nat} {zs : List Int} (h : It w s a l c zs) : (iv s zs).natAbs < pw 4096 := by rw [← h.abs]; exact h.1.lt
end Go.Proofs.Ytopmbfiepheepaa
