/-
  addedUp: the number of few digits to a base, from the highest on.
-/
import Derived.Test.YtpfbcicjfnfpgaaDoorBackw
import Derived.Test.YtpfbcicjfnfpgaaDoorBsN
namespace Go.Proofs.YtpfbcicjfnfpgaaDoor
open Go.RowKit Go.Shelf
set_option linter.unusedVariables false
attribute [local go_sem] Oper.semAt_some

/-- A digit: a number of layer nat. -/
abbrev Dg := Option Addr × Nat × Nat × List Int
def dv (d : Dg) : Value := .slice d.1 d.2.1 d.2.2.1
/-- What the digits that have come say, to the base B. -/
def dsum (B : Int) (D : Nat → Dg) (pre : List Nat) : Int := pre.foldl (fun s i => s * B + num (D i).2.2.2) 0
theorem dsum_snoc (B : Int) (D : Nat → Dg) (pre : List Nat) (x : Nat) : dsum B D (pre ++ [x]) = dsum B D pre * B + num (D x).2.2.2 := by simp [dsum]
theorem keeps_below {W W' : World} (h : Below W.heap.size W W') : KeepsOthers W W' := ⟨h.size, fun k o hk _ => (h.block k (Array.getElem?_eq_some_iff.1 hk).1).trans hk⟩
theorem sl_kept {W W' : World} {row : Option Nat} {a : Option Addr} {l : Nat} {zs : List Int} (h : Sl W a l zs) (hg : W.grownBy W' row) (hr : ∀ r, row = some r → ∃ o : Obj, W.heap[r]? = some o ∧ o.isCells = false) : Sl W' a l zs := by
  obtain ⟨h1, h2, h3⟩ := h
  refine ⟨h1, h2, fun h0 => ?_⟩
  obtain ⟨b, off, rfl, hc⟩ := h3 h0
  exact ⟨b, off, rfl, fun i hi => cell_kept (hc i hi) hg hr⟩
/-- What stands between two rounds. -/
def AdI (w : World) (B : Int) (D : Nat → Dg) (bv : Value) (pre : List Nat) (W : World) : Prop :=
  (∃ a l c zs, Boxed W (w.heap.size + 1 + 1 + 1) 26 (.slice a l c) ∧ Nt W a l c zs ∧ num zs = dsum B D pre) ∧ Boxed W w.heap.size 26 bv ∧ Boxed W (w.heap.size + 1) 26 (.slice none 0 0) ∧ Boxed W (w.heap.size + 1 + 1) 35 (.int .i64 0) ∧ Below w.heap.size w W ∧ w.heap.size + 5 ≤ W.heap.size
/-- What stands where a round has left. -/
def AdX (w : World) (B : Int) (D : Nat → Dg) (pre : List Nat) (W : World) : Prop :=
  Boxed W (w.heap.size + 1) 26 (.slice none 0 0) ∧ Boxed W (w.heap.size + 1 + 1) 35 (.int .i64 3) ∧ pw 4096 ≤ dsum B D pre ∧ Below w.heap.size w W
theorem adI_own (w : World) (B : Int) (D : Nat → Dg) (bv : Value) (n : Nat) (hn : w.heap.size ≤ n) : OwnFrom n (AdI w B D bv) := by
  intro s W W' row hs hg hr
  obtain ⟨⟨a, l, c, zs, h1, h2, h3⟩, h4, h5, h6, h7, h8⟩ := hs
  have k : ∀ {b : Nat} {t : TypeId} {v : Value}, Boxed W b t v → Boxed W' b t v := fun {b t v} x => boxed_own b t (fun (_ : Unit) => v) () W W' row x hg (fun r e => (hr r e).2)
  exact ⟨⟨a, l, c, zs, k h1, ⟨sl_kept h2.1 hg (fun r e => (hr r e).2), h2.2⟩, h3⟩, k h4, k h5, k h6, ownFrom_below (β := Unit) (Nat.le_refl _) hn () W W' row h7 hg hr, Nat.le_trans h8 hg.size⟩
theorem adX_own (w : World) (B : Int) (D : Nat → Dg) (n : Nat) (hn : w.heap.size ≤ n) : OwnFrom n (AdX w B D) := by
  intro s W W' row hs hg hr
  obtain ⟨h1, h2, h3, h4⟩ := hs
  have k : ∀ {b : Nat} {t : TypeId} {v : Value}, Boxed W b t v → Boxed W' b t v := fun {b t v} x => boxed_own b t (fun (_ : Unit) => v) () W W' row x hg (fun r e => (hr r e).2)
  exact ⟨k h1, k h2, h3, ownFrom_below (β := Unit) (Nat.le_refl _) hn () W W' row h4 hg hr⟩

/-- A store into one variable: all that a round that goes on owes. -/
theorem ad_go {w W W2 : World} {B : Int} {D : Nat → Dg} {bv : Value} {pre : List Nat} {x : Nat} {a : Option Addr} {l c : Nat} {zs : List Int} {n : Nat} (hI : AdI w B D bv pre W) (hb : Below W.heap.size W W2) (h : Nt W2 a l c zs) (e : num zs = dsum B D (pre ++ [x])) :
    KeepsFrom n W (W2.setCell ⟨w.heap.size + 1 + 1 + 1, 0, none⟩ (.slice a l c)) ∧ Kq w.heap.size (w.heap.size + 1 + 1 + 1 + 1) W (W2.setCell ⟨w.heap.size + 1 + 1 + 1, 0, none⟩ (.slice a l c)) ∧ AdI w B D bv (pre ++ [x]) (W2.setCell ⟨w.heap.size + 1 + 1 + 1, 0, none⟩ (.slice a l c)) := by
  obtain ⟨⟨a0, l0, c0, z0, h1, h2, h3⟩, h4, h5, h6, h7, hn⟩ := hI
  have hsz := hb.size
  have k : ∀ {b : Nat} {t : TypeId} {v : Value}, Boxed W b t v → Boxed W2 b t v := fun {b t v} x => (hb.block b x.lt).trans x
  have v3 : Va W2 (w.heap.size + 1 + 1 + 1) 26 #[.slice a0 l0 c0] := k h1
  refine ⟨((keeps_below hb).trans (KeepsOthers.setCell _ _ _)).from _, ⟨(hb.mono (by omega)).setCell (p := ⟨w.heap.size + 1 + 1 + 1, 0, none⟩) (show w.heap.size ≤ w.heap.size + 1 + 1 + 1 by omega) _, fun v q => (k q).other (by omega) _⟩, ⟨a, l, c, zs, v3.set _, h.far v3 (noInt1 _ _ _) (fun c hc => Below.heap_setCell _ _ _ _ hc), e⟩, (k h4).other (by omega) _, (k h5).other (by omega) _, (k h6).other (by omega) _, (h7.trans (hb.mono (by omega))).setCell (p := ⟨w.heap.size + 1 + 1 + 1, 0, none⟩) (show w.heap.size ≤ w.heap.size + 1 + 1 + 1 by omega) _, by rw [size_set]; omega⟩
/-- What a round that leaves owes. -/
theorem ad_leave {w W W2 : World} {B : Int} {D : Nat → Dg} {pre : List Nat} {x : Nat} {n : Nat} {c0 : Code} (hk : KeepsOthers W W2) (v1 : Va W2 (w.heap.size + 1) 26 #[.slice none 0 0]) (v2 : Va W2 (w.heap.size + 1 + 1) 35 #[.int .i64 0]) (hb : Below w.heap.size w W2) (e : pw 4096 ≤ dsum B D (pre ++ [x])) :
    KeepsFrom n W ((W2.setCell ⟨w.heap.size + 1, 0, none⟩ (.slice none 0 0)).setCell ⟨w.heap.size + 1 + 1, 0, none⟩ (.int .i64 3)) ∧ c0 = c0 ∧ AdX w B D (pre ++ [x]) ((W2.setCell ⟨w.heap.size + 1, 0, none⟩ (.slice none 0 0)).setCell ⟨w.heap.size + 1 + 1, 0, none⟩ (.int .i64 3)) :=
  ⟨((hk.trans (KeepsOthers.setCell _ _ _)).trans (KeepsOthers.setCell _ _ _)).from _, rfl, (v1.set _).other (p := ⟨w.heap.size + 1 + 1, 0, none⟩) (show w.heap.size + 1 ≠ w.heap.size + 1 + 1 by omega) _, (v2.other (p := ⟨w.heap.size + 1, 0, none⟩) (show w.heap.size + 1 + 1 ≠ w.heap.size + 1 by omega) _).set _, e,
    (hb.setCell (p := ⟨w.heap.size + 1, 0, none⟩) (show w.heap.size ≤ w.heap.size + 1 by omega) _).setCell (p := ⟨w.heap.size + 1 + 1, 0, none⟩) (show w.heap.size ≤ w.heap.size + 1 + 1 by omega) _⟩
theorem results_ne {fn : Func} {i j b c : Nat} {v u : Value} {tmps : Array Value} {w : World} (h : fn.results = #[.cell i 26, .cell j 35]) (hi : tmps.getD i undef = .pointer (some ⟨b, 0, none⟩)) (hv : Va w b 26 #[v])
    (hj : tmps.getD j undef = .pointer (some ⟨c, 0, none⟩)) (hu : Va w c 35 #[u]) :
    (results fn tmps).run Tryd.prog w = .ok (.tuple #[.agg #[v], u]) w := by
  have c := hv.cell; have d := hu.cell
  rw [Array.getD_eq_getD_getElem?] at hi hj
  simp [results, h, hi, hj, c, d, go_sem]

theorem dsum_nonneg {w : World} {B : Int} {D : Nat → Dg} (hB : 1 ≤ B) (hD : ∀ j, 0 ≤ num (D j).2.2.2) (pre : List Nat) : 0 ≤ dsum B D pre := by
  unfold dsum
  suffices h : ∀ (l : List Nat) (s : Int), 0 ≤ s → 0 ≤ l.foldl (fun s i => s * B + num (D i).2.2.2) s from h pre 0 (Int.le_refl _)
  intro l
  induction l with
  | nil => intro s hs; exact hs
  | cons x l ih =>
    intro s hs
    have := Int.mul_nonneg hs (show 0 ≤ B by omega)
    have := hD x
    exact ih (s * B + num (D x).2.2.2) (by omega)
theorem dsum_mono {w : World} {B : Int} {D : Nat → Dg} (hB : 1 ≤ B) (hD : ∀ j, 0 ≤ num (D j).2.2.2) (pre suf : List Nat) : dsum B D pre ≤ dsum B D (pre ++ suf) := by
  have h : ∀ (l : List Nat) (s : Int), 0 ≤ s → s ≤ l.foldl (fun s i => s * B + num (D i).2.2.2) s := by
    intro l
    induction l with
    | nil => intro s hs; exact Int.le_refl _
    | cons x l ih =>
      intro s hs
      have h1 : s * 1 ≤ s * B := Int.mul_le_mul_of_nonneg_left hB hs
      have h2 := hD x
      exact Int.le_trans (show s ≤ s * B + num (D x).2.2.2 by omega) (ih (s * B + num (D x).2.2.2) (by omega))
  unfold dsum
  rw [List.foldl_append]
  exact h suf _ (dsum_nonneg (w := w) hB hD pre)
theorem down_prefix {len k : Nat} (h : k ≤ len) : ∃ suf, down len len = down len k ++ suf := by
  refine ⟨((List.range (len - k)).map (fun j => k + j)).map (fun j => len - 1 - j), ?_⟩
  unfold down
  rw [← List.map_append, ← List.range_add, show k + (len - k) = len by omega]
theorem putV {W : World} {b D : Nat} {t : TypeId} {v : Value} {o : Obj} (h : Va W b t #[v]) (hK : W.heap[D]? = some o) (ho : o.isCells = false) {o' : Obj} : Va (W.putObj D o') b t #[v] :=
  Boxed.kept (B := b) h (grownBy_putObj' W D o') (fun e => by
    have e' : b = D := by simpa using e
    rw [← e', show W.heap[b]? = _ from h] at hK
    cases hK
    cases ho)
theorem noIntE {z : Int} : NoInt #[.int .i64 z] := by
  intro i y h
  rcases i with _ | i <;> simp at h
/-- What is answered, and its error. -/
def AdR (V er : Int) (a : Option Addr) (l c : Nat) (zs : List Int) : Prop := (er = 0 ∧ num zs = V ∧ V < pw 4096) ∨ (er = 3 ∧ a = none ∧ l = 0 ∧ c = 0 ∧ zs = [] ∧ pw 4096 ≤ V)

end Go.Proofs.YtpfbcicjfnfpgaaDoor
