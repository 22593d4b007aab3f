/-
  The document's Sort: rows of those that need a node, made beside counts of what each needs.
-/
import Derived.Test.YtonhooaboieapaaRcA
import Derived.Test.YtonhooaboieapaaOrS
namespace Go.Proofs.Ytonhooaboieapaa
open Go.RowKit Go.Shelf
set_option linter.unusedVariables false
set_option linter.unusedSimpArgs false

theorem below_set {B : Nat} {w w' : World} (h : Below B w w') (p : Addr) (u : Value) : Below B (w.setCell p u) (w'.setCell p u) := by
  obtain ⟨h1, h2, h3, h4, h5⟩ := h
  refine ⟨h1, h2, h3, by simpa using h4, fun k hk => ?_⟩
  simp only [World.setCell, Array.getElem?_modify]
  rw [h5 k hk]
theorem below_drw1 {B : Nat} {w X : World} (h : Below B w X) : Below B w X.drew := h.trans ⟨rfl, rfl, rfl, Nat.le_refl _, fun _ _ => rfl⟩
theorem Dg.rebase {n : Nat} {w wr : World} {f : Nat → Value} {N : Nat → List Nat} (h : Dg n w wr f N) {p : Addr} (hp : p.block < w.heap.size) (u : Value) : Dg n (w.setCell p u) (wr.setCell p u) f N := by
  have hs : (w.setCell p u).heap.size = w.heap.size := by simp
  refine ⟨?_, fun x hx => ?_, h.apart, ?_⟩
  · rw [hs]; exact h.blk.kept (heap_setCell_other wr p w.heap.size u (by omega))
  · rw [hs]
    refine (h.kids x hx).far (fun e => ?_) u
    have := (h.kids x hx).block _ e
    omega
  · rw [hs]; exact below_set h.below p u
/-- The arcs, turned round. -/
def swp (xs : List Pr) : List Pr := xs.map (fun q => (q.2, q.1))
theorem swp_take (xs : List Pr) (k : Nat) : swp (xs.take k) = (swp xs).take k := by simp [swp, List.map_take]
theorem swp_snoc (xs : List Pr) (x y : Nat) : swp (xs ++ [((x : Int), (y : Int))]) = swp xs ++ [((y : Int), (x : Int))] := by simp [swp]
theorem swp_length (xs : List Pr) : (swp xs).length = xs.length := by simp [swp]
theorem nlf_count {n : Nat} {xs : List Pr} (h : xs.all (okA n) = true) (p x : Nat) : (nlf xs p).count x = xs.countP (fun q => decide (q.1 = (p : Int) ∧ q.2 = (x : Int))) := by
  unfold nlf
  rw [List.count_eq_countP, List.countP_map, List.countP_filter]
  refine List.countP_congr (fun q hq => ?_)
  have := okA_iff.1 (List.all_eq_true.1 h q hq)
  simp only [Function.comp, Bool.and_eq_true, beq_iff_eq, decide_eq_true_eq]
  omega
theorem swp_ok {n : Int} {xs : List Pr} (h : xs.all (okA n) = true) : (swp xs).all (okA n) = true := by
  rw [List.all_eq_true] at h ⊢
  intro q hq
  obtain ⟨r, hr, rfl⟩ := List.mem_map.1 hq
  have := okA_iff.1 (h r hr)
  exact okA_iff.2 ⟨this.2, this.1⟩
/-- Who needs a node: as often as it does. -/
theorem swp_tn {n : Nat} {xs : List Pr} (h : xs.all (okA n) = true) : Tn (nlf xs) n (nlf (swp xs)) := by
  intro x p
  have e : (nlf (swp xs) x).count p = (nlf xs p).count x := by
    rw [nlf_count h, nlf_count (swp_ok h)]
    unfold swp
    rw [List.countP_map]
    refine List.countP_congr (fun q hq => ?_)
    simp only [Function.comp, decide_eq_true_eq]
    omega
  rw [e]
  split
  · rfl
  · rename_i hp
    refine List.count_eq_zero.2 (fun hm => ?_)
    exact hp (nlf_ok h p x hm).1
/-- Counts of what each needs. -/
def lnf (xs : List Pr) (p : Nat) : Nat := (nlf xs p).length
theorem lnf_snoc (xs : List Pr) (x y : Nat) : lnf (xs ++ [((x : Int), (y : Int))]) = upf (lnf xs) x (lnf xs x + 1) := by
  funext p
  unfold lnf
  rw [nlf_snoc]
  by_cases e : p = x
  · rw [e, upf_self, upf_self, List.length_append]; rfl
  · rw [upf_ne _ _ e, upf_ne _ _ e]
/-- What the document's Sort holds: the rows of who needs each, and what each still waits for. -/
def Rsd (T : Nat → List Nat) (n : Nat) (w : World) (g s3 : Nat) (wz : World) (wt : Nat → Nat) : Prop :=
  ∃ (Wb Wc : World) (f : Nat → Value), Wb.heap.size = g ∧ Wc.heap.size = s3 ∧ Below w.heap.size w Wb ∧ Fn n Wb w.heap.size wt ∧ Dg n Wb Wc f T ∧ Below s3 Wc wz
theorem Rsd.rows {T : Nat → List Nat} {n : Nat} {w : World} {g s3 : Nat} {wz : World} {wt : Nat → Nat} (h : Rsd T n w g s3 wz wt) : Rw n wz g T := by
  obtain ⟨Wb, Wc, f, rfl, rfl, hb, hf, hd, hz⟩ := h
  exact Rw.after hz hd.rows
theorem Rsd.waits {T : Nat → List Nat} {n : Nat} {w : World} {g s3 : Nat} {wz : World} {wt : Nat → Nat} (h : Rsd T n w g s3 wz wt) : Fn n wz w.heap.size wt := by
  obtain ⟨Wb, Wc, f, rfl, rfl, hb, hf, hd, hz⟩ := h
  exact Fv.after hz (Fv.after hd.below hf)
theorem Rsd.below {T : Nat → List Nat} {n : Nat} {w : World} {g s3 : Nat} {wz : World} {wt : Nat → Nat} (h : Rsd T n w g s3 wz wt) : Below w.heap.size w wz := by
  obtain ⟨Wb, Wc, f, rfl, rfl, hb, hf, hd, hz⟩ := h
  have h1 := hb.size
  have h2 := hd.size
  exact hb.trans ((hd.below.mono h1).trans (hz.mono (by omega)))
theorem Rsd.lt {T : Nat → List Nat} {n : Nat} {w : World} {g s3 : Nat} {wz : World} {wt : Nat → Nat} (h : Rsd T n w g s3 wz wt) : w.heap.size < g ∧ g < s3 ∧ s3 ≤ wz.heap.size := by
  obtain ⟨Wb, Wc, f, rfl, rfl, hb, hf, hd, hz⟩ := h
  have h1 := hf.lt
  have h2 := hd.size
  have h3 := hz.size
  exact ⟨h1, by omega, h3⟩
theorem Rsd.after {T : Nat → List Nat} {n : Nat} {w : World} {g s3 : Nat} {wz w' : World} {wt : Nat → Nat} (h : Rsd T n w g s3 wz wt) (hb : Below s3 wz w') : Rsd T n w g s3 w' wt := by
  obtain ⟨Wb, Wc, f, h1, h2, h3, h4, h5, h6⟩ := h
  exact ⟨Wb, Wc, f, h1, h2, h3, h4, h5, h6.trans hb⟩
theorem Rsd.set {T : Nat → List Nat} {n : Nat} {w : World} {g s3 : Nat} {wz : World} {wt : Nat → Nat} (h : Rsd T n w g s3 wz wt) (p x : Nat) : Rsd T n w g s3 (wz.setCell ⟨w.heap.size, p, none⟩ (.int .i64 (x : Int))) (upf wt p x) := by
  have hlt := h.lt
  obtain ⟨Wb, Wc, f, h1, h2, h3, h4, h5, h6⟩ := h
  refine ⟨Wb.setCell ⟨w.heap.size, p, none⟩ (.int .i64 (x : Int)), Wc.setCell ⟨w.heap.size, p, none⟩ (.int .i64 (x : Int)), f, by simpa using h1, by simpa using h2, h3.setCell (p := ⟨w.heap.size, p, none⟩) (Nat.le_refl _) _, Fn.set h4 p x, h5.rebase (p := ⟨w.heap.size, p, none⟩) (by show w.heap.size < _; omega) _, below_set h6 _ _⟩
end Go.Proofs.Ytonhooaboieapaa
