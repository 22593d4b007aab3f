/-
  The head of WholeLaws: the list of the three numbers.
-/
import Derived.Test.YtbadjonlhijoaaaWh5g
import Derived.Test.YtbadjonlhijoaaaGrowW
namespace Go.Proofs.Ytbadjonlhijoaaa
open Go.RowKit Go.Shelf
set_option linter.unusedVariables false

/-- A number of the list stays where the list grows. -/
theorem It.grow {w w' : World} {B : Nat} {v : Value} {ps : List W4} {s : Bool} {g l c : Nat} {zs : List Int} (h : It w s (some ⟨g, 0, none⟩) l c zs) (hg : Grw w B v ps) (hv : ps = [] → v = .slice none 0 0) (far : ∀ k, k < w.heap.size → some k ≠ v.ownBlock → w'.heap[k]? = w.heap[k]?) : It w' s (some ⟨g, 0, none⟩) l c zs := by
  obtain ⟨⟨⟨h1, h2, h3⟩, h4⟩, h5⟩ := h
  refine ⟨⟨⟨h1, h2, fun h0 => ?_⟩, h4⟩, h5⟩
  obtain ⟨bb, off, e, hc⟩ := h3 h0
  cases e
  have hc0 := hc 0 h0
  have hlt : g < w.heap.size := by
    rcases Nat.lt_or_ge g w.heap.size with h' | h'
    · exact h'
    · simp [World.cell?, Array.getElem?_eq_none h'] at hc0
  refine ⟨_, _, rfl, fun i hi => (World.cell?_of_block (w := w) (far g hlt ?_)).trans (hc i hi)⟩
  intro eo
  rcases ps with _ | ⟨p, ps⟩
  · rw [hv rfl] at eo; cases eo
  · obtain ⟨k, cap, rfl, -, -, -, hce⟩ := hg.lies (by simp)
    have e2 : g = k := Option.some.inj eo
    have h7 := hce 0 (.bool p.1) (by simp [flat])
    rw [← e2] at h7
    rw [show (0 : Nat) + 0 = 0 from rfl] at hc0
    rw [h7] at hc0
    cases hc0
/-- What is held of a number of the list: few limbs. -/
def Few (w : World) (p : W4) (x : Int) : Prop := ∃ g zs, p.2.1 = some ⟨g, 0, none⟩ ∧ It w p.1 p.2.1 p.2.2.1 p.2.2.2 zs ∧ iv p.1 zs = x ∧ (x.natAbs : Int) < pw 1000
theorem Few.after {w w' : World} {p : W4} {x : Int} (h : Few w p x) (hb : Below w.heap.size w w') : Few w' p x := by
  obtain ⟨g, zs, h1, h2, h3, h4⟩ := h
  exact ⟨g, zs, h1, It.after hb h2, h3, h4⟩
theorem Few.grow {w w' : World} {p : W4} {x : Int} (h : Few w p x) {B : Nat} {v : Value} {ps : List W4} (hg : Grw w B v ps) (hv : ps = [] → v = .slice none 0 0) (far : ∀ k, k < w.heap.size → some k ≠ v.ownBlock → w'.heap[k]? = w.heap[k]?) : Few w' p x := by
  obtain ⟨g, zs, h1, h2, h3, h4⟩ := h
  rw [h1] at h2
  exact ⟨g, zs, h1, by rw [h1]; exact h2.grow hg hv far, h3, h4⟩
theorem few_lt {w : World} {s : Bool} {a : Option Addr} {l c : Nat} {zs : List Int} (h : It w s a l c zs) {zz : List Int} {t : Bool} (hL : Limbs zz) (e : iv s zs = iv t zz) (hl : zz.length ≤ 1000) : ((iv s zs).natAbs : Int) < pw 1000 := by
  rw [e]
  have h1 := lt_of_used hL (n := 1000) (Nat.le_trans (usedN_le zz) hl)
  have h2 := num_nonneg hL
  cases t
  · rw [iv_f]; generalize pw 1000 = P at *; omega
  · rw [iv_t]; generalize pw 1000 = P at *; omega
/-- The three numbers as they were handed in. -/
structure In3 where
  s : Nat → Bool
  a : Nat → Option Addr
  l : Nat → Nat
  c : Nat → Nat
  z : Nat → List Int
def Ok3 (w : World) (T : In3) : Prop := ∀ i, Sl w (T.a i) (T.l i) (T.z i) ∧ T.l i ≤ T.c i ∧ (T.a i = none → T.l i = 0 ∧ T.c i = 0)
/-- The literal of the three. -/
def Lit3 (W : World) (b : Nat) (T : In3) : Prop := ∀ i, i < 3 → W.cell? ⟨b, i * 2, none⟩ = some (.bool (T.s i)) ∧ W.cell? ⟨b, i * 2 + 1, none⟩ = some (.slice (T.a i) (T.l i) (T.c i))
/-- What stands between two rounds. -/
def Rn3 (w X : World) (b : Nat) (T : In3) (v : Value) (ps : List W4) (wr : World) : Prop :=
  Below w.heap.size w wr ∧ Below X.heap.size X wr ∧ Grw wr X.heap.size v ps ∧ (ps = [] → v = .slice none 0 0) ∧ (∀ j p, ps[j]? = some p → Few wr p (iv (T.s j) ((T.z j).take 1000)))
theorem rn_step {w X wr Wm w3 : World} {b : Nat} {T : In3} {v v3 : Value} {ps : List W4} {i : Nat} {s' : Bool} {g' l' c' : Nat} {zs' : List Int} (hwX : w.heap.size ≤ X.heap.size) (hR : Rn3 w X b T v ps wr) (hpl : ps.length = i) (hb : Below wr.heap.size wr Wm) (hI : It Wm s' (some ⟨g', 0, none⟩) l' c' zs')
    (ev : iv s' zs' = iv (T.s i) ((T.z i).take 1000)) (hlt : ((iv s' zs').natAbs : Int) < pw 1000) (hG : Grw w3 X.heap.size v3 (ps ++ [(s', some ⟨g', 0, none⟩, l', c')])) (hb3 : Below X.heap.size Wm w3) (far : ∀ k, k < Wm.heap.size → some k ≠ v.ownBlock → w3.heap[k]? = Wm.heap[k]?) : Rn3 w X b T v3 (ps ++ [(s', some ⟨g', 0, none⟩, l', c')]) w3 := by
  obtain ⟨r1, r2, r3, r4, r5⟩ := hR
  have hG0 : Grw Wm X.heap.size v ps := r3.after hb
  have x1 : Below X.heap.size X Wm := r2.trans (hb.mono r2.size)
  refine ⟨(r1.trans (hb.mono r1.size)).trans (hb3.mono hwX), x1.trans hb3, hG, fun h => by simp at h, fun j p hp => ?_⟩
  rcases Nat.lt_or_ge j ps.length with h' | h'
  · rw [List.getElem?_append_left h'] at hp
    exact ((r5 j p hp).after hb).grow hG0 r4 far
  · rw [List.getElem?_append_right h'] at hp
    have hj : j - ps.length = 0 := by
      rcases Nat.eq_zero_or_pos (j - ps.length) with q | q
      · exact q
      · rw [List.getElem?_eq_none (by simp; omega)] at hp; cases hp
    rw [hj] at hp
    simp at hp
    subst hp
    have ej : j = i := by omega
    subst ej
    exact Few.grow ⟨g', zs', rfl, hI, ev, by rw [← ev]; exact hlt⟩ hG0 r4 far
theorem tri_c0 (w : World) (A B : Obj) (t : TypeId) (x y : Value) : (((w.alloc A).alloc B).alloc (.cells #[x, y] t)).cell? ⟨w.heap.size + 1 + 1, 0, none⟩ = some x := by
  have h := (Va.new ((w.alloc A).alloc B) t #[x, y]).c0
  simp only [World.alloc, Array.size_push] at h ⊢
  exact h
theorem tri_c1 (w : World) (A B : Obj) (t : TypeId) (x y : Value) : (((w.alloc A).alloc B).alloc (.cells #[x, y] t)).cell? ⟨w.heap.size + 1 + 1, 1, none⟩ = some y := by
  have h := (Va.new ((w.alloc A).alloc B) t #[x, y]).c1
  simp only [World.alloc, Array.size_push] at h ⊢
  exact h
theorem tri_b (w : World) (A B C : Obj) : Below w.heap.size w (((w.alloc A).alloc B).alloc C) := (((Below.refl _ _).alloc (Nat.le_refl _) _).alloc (by simp) _).alloc (by simp; omega) _
end Go.Proofs.Ytbadjonlhijoaaa
