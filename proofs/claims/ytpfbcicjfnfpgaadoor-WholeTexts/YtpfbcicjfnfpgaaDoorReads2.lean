/-
  read: the walk.
-/
import Derived.Test.YtpfbcicjfnfpgaaDoorReads
import Derived.Laws.RangeAny
namespace Go.Proofs.YtpfbcicjfnfpgaaDoor
open Go.RowKit Go.Shelf
set_option linter.unusedVariables false

/-- What pieces say, the highest first. -/
def pval (B : Int) (ds : List Dg) : Int := ds.foldl (fun s d => s * B + num d.2.2.2) 0
theorem pval_snoc (B : Int) (ds : List Dg) (d : Dg) : pval B (ds ++ [d]) = pval B ds * B + num d.2.2.2 := by simp [pval]
/-- What read answers of a text of digits: pieces, the lowest first. -/
def ReadR (w : World) (g : Nat) (ds : List Dg) (bn sz n : Nat) (V : Nat) : Prop :=
  g < w.heap.size ∧ (∀ i d, ds[i]? = some d → w.cell? ⟨g, i, none⟩ = some (dv d)) ∧ (∀ d ∈ ds, Nt w d.1 d.2.1 d.2.2.1 d.2.2.2) ∧ pval ((bn : Int) ^ sz) ds.reverse = V ∧ (ds ≠ [] → (ds.length - 1) * sz + 1 ≤ n) ∧ ∀ d, ds[ds.length - 1]? = some d → num d.2.2.2 ≠ 0
/-- The first of the pieces is not 0. -/
def Top (ds : List Dg) : Prop := ∀ d, ds[0]? = some d → num d.2.2.2 ≠ 0
def ReadI (s : ByteArray) (bn sz pos : Nat) (pc : Int) (ds : List Dg) : Prop :=
  ∃ pn P : Nat, pc = pn ∧ pval ((bn : Int) ^ sz) ds = P ∧ RI bn sz s.size (s.size - pos) pn ds.length P (tv bn (s.data.toList.take pos)) ∧ Dig bn (s.data.toList.take pos) ∧ pn < 18446744073709551616 ∧ Top ds
theorem take_snoc (s : ByteArray) (k : Nat) (h : k < s.size) : s.data.toList.take (k + 1) = s.data.toList.take k ++ [s[k]] := by
  rw [List.take_succ_eq_append_getElem (by simpa using h)]; rfl

abbrev d0 : Dg := (none, 0, 0, [])
theorem Dr.rsl {W : World} {B g len cap : Nat} {ds : List Dg} (h : Dr W B (.slice (some ⟨g, 0, none⟩) len cap) ds) (hl : len = ds.length) : Rsl W g len (fun i => .slice (ds.getD i d0).1 (ds.getD i d0).2.1 (ds.getD i d0).2.2.1) := by
  obtain ⟨h1, h2 | ⟨g', cap', cur, e, hBg, hh, hc, hm, hs, ht⟩⟩ := h.1
  · cases h2.1
  · cases e
    refine ⟨⟨cur, 26, hh, by omega⟩, fun i hi => ?_⟩
    have hx : (ds.map dv)[i]? = some (dv (ds.getD i d0)) := by
      rw [List.getElem?_map, List.getD_eq_getElem?_getD, List.getElem?_eq_getElem (by omega)]; rfl
    rw [← ht, Nat.mul_one, List.getElem?_take_of_lt (by rw [List.length_map]; omega)] at hx
    have hx' : cur[i]? = some (dv (ds.getD i d0)) := by simpa using hx
    simp only [World.cell?, hh]
    exact hx'
theorem read_end {W W2 : World} {B g len cap : Nat} {ds : List Dg} {s : ByteArray} {bn sz : Nat} {pc : Int} (h : Dr W B (.slice (some ⟨g, 0, none⟩) len cap) ds) (hl : len = ds.length)
    (hR : Rsl W2 g len (fun i => .slice (ds.getD (len - 1 - i) d0).1 (ds.getD (len - 1 - i) d0).2.1 (ds.getD (len - 1 - i) d0).2.2.1)) (hO : Only g W W2) (hI : ReadI s bn sz s.size pc ds) :
    Dig bn s.data.toList ∧ ReadR W2 g ds.reverse bn sz s.size (tv bn s.data.toList) := by
  obtain ⟨pn, P, -, hP, hri, hdg, -, htp⟩ := hI
  have ht : s.data.toList.take s.size = s.data.toList := List.take_of_length_le (by rw [← Go.Lib.size_eq s]; exact Nat.le_refl _)
  rw [ht] at hri hdg
  rw [Nat.sub_self] at hri
  obtain ⟨hV, -, hcnt⟩ := hri.last
  refine ⟨hdg, hR.1.lt, fun i d hd => ?_, fun d hd => ?_, by rw [List.reverse_reverse, hP, hV], fun hne => ?_, fun d hd => ?_⟩
  · have hi : i < ds.length := by
      have := (List.getElem?_eq_some_iff.1 hd).1
      simpa using this
    rw [List.getElem?_reverse hi] at hd
    rw [hR.2 i (by omega)]
    have e : ds.getD (len - 1 - i) d0 = d := by rw [List.getD_eq_getElem?_getD, hl, hd]; rfl
    show some (Value.slice (ds.getD (len - 1 - i) d0).1 (ds.getD (len - 1 - i) d0).2.1 (ds.getD (len - 1 - i) d0).2.2.1) = some (dv d)
    rw [e]; rfl
  · have hm : d ∈ ds := List.mem_reverse.1 hd
    refine ((h.2 d hm).at (W' := W2) fun g' e => hO.oth g' ?_).1
    intro e'
    exact h.ne hm e (by rw [e']; rfl)
  · have : ds ≠ [] := fun e => hne (by rw [e]; rfl)
    rw [List.length_reverse]
    exact hcnt (by simpa using this)
  · have hi := (List.getElem?_eq_some_iff.1 hd).1
    rw [List.length_reverse] at hi hd
    rw [List.getElem?_reverse hi, show ds.length - 1 - (ds.length - 1) = 0 by omega] at hd
    exact htp d hd

theorem Dr.ne_iter {W : World} {B g len cap k : Nat} {ds : List Dg} {s : ByteArray} {p : Nat} (h : Dr W B (.slice (some ⟨g, 0, none⟩) len cap) ds) (hk : W.heap[k]? = some (.stringIter s p)) : g ≠ k := by
  obtain ⟨h1, h2 | ⟨g', cap', cur, e, hBg, hh, hc, hm, hs, ht⟩⟩ := h.1
  · cases h2.1
  · cases e
    intro e
    rw [e, hk] at hh
    cases hh
theorem pos_of {W : World} {k : Nat} {s : ByteArray} {p : Nat} (h : W.heap[k]? = some (.stringIter s p)) : W.iterPos k = p := by simp [World.iterPos, h]
theorem readI_on {s : ByteArray} {bn sz pos pn P x R : Nat} {ds : List Dg} (hlt : pos < s.size) (hb2 : 2 ≤ bn) (hs2 : 2 ≤ sz) (hx : wv s[pos] = x) (hxb : x < bn) (hP : pval ((bn : Int) ^ sz) ds = P) (hdg : Dig bn (s.data.toList.take pos))
    (hri : RI bn sz s.size (s.size - pos) pn ds.length P (tv bn (s.data.toList.take pos))) (hR : R = (s.size - pos - 1) % sz) (h0 : 0 < R) {y : Int} (hy : y = ((pn * bn + x : Nat) : Int)) (h64 : pn * bn + x < 18446744073709551616) (htp : Top ds) : ReadI s bn sz (pos + 1) y ds := by
  refine ⟨pn * bn + x, P, hy, hP, ?_, ?_, h64, htp⟩
  · rw [take_snoc s pos hlt, tv_snoc, hx]
    exact (hri.on hb2 (by omega) hs2 hxb (by omega)).1
  · rw [take_snoc s pos hlt]
    exact hdg.append (fun c hc => by obtain rfl : c = s[pos] := by simpa using hc
                                     rw [hx]; exact hxb)
theorem readI_piece {s : ByteArray} {bn sz pos pn P x R : Nat} {ds : List Dg} {d : Dg} (hlt : pos < s.size) (hb2 : 2 ≤ bn) (hs2 : 2 ≤ sz) (hx : wv s[pos] = x) (hxb : x < bn) (hP : pval ((bn : Int) ^ sz) ds = P) (hdg : Dig bn (s.data.toList.take pos))
    (hri : RI bn sz s.size (s.size - pos) pn ds.length P (tv bn (s.data.toList.take pos))) (hR : R = (s.size - pos - 1) % sz) (h0 : ¬ 0 < R) {y : Int} (hy : y = ((pn * bn + x : Nat) : Int)) (hd : num d.2.2.2 = y) (htp : Top ds) (hnz : 0 < y ∨ 0 < ds.length) : ReadI s bn sz (pos + 1) 0 (ds ++ [d]) := by
  refine ⟨0, P * bn ^ sz + (pn * bn + x), rfl, ?_, ?_, ?_, by omega, fun d' hd' => ?_⟩
  · rw [pval_snoc, hP, hd, hy]; simp
  · rw [take_snoc s pos hlt, tv_snoc, hx, List.length_append, List.length_singleton]
    exact (hri.piece hb2 (by omega) (by omega) hs2 hxb (by omega)).1
  · rw [take_snoc s pos hlt]
    exact hdg.append (fun c hc => by obtain rfl : c = s[pos] := by simpa using hc
                                     rw [hx]; exact hxb)
  · rcases Nat.eq_zero_or_pos ds.length with h0 | h0
    · obtain rfl : ds = [] := List.eq_nil_of_length_eq_zero h0
      cases hd'
      rw [hd]; have := hnz.resolve_right (by simp); omega
    · rw [List.getElem?_append_left h0] at hd'
      exact htp d' hd'
theorem readI_none {s : ByteArray} {bn sz pos pn P x R : Nat} {ds : List Dg} (hlt : pos < s.size) (hb2 : 2 ≤ bn) (hs2 : 2 ≤ sz) (hx : wv s[pos] = x) (hxb : x < bn) (hP : pval ((bn : Int) ^ sz) ds = P) (hdg : Dig bn (s.data.toList.take pos))
    (hri : RI bn sz s.size (s.size - pos) pn ds.length P (tv bn (s.data.toList.take pos))) (hR : R = (s.size - pos - 1) % sz) (h0 : ¬ 0 < R) {y : Int} (hy : y = ((pn * bn + x : Nat) : Int)) (hy0 : y = 0) (hl : ds.length = 0) : ReadI s bn sz (pos + 1) 0 ds := by
  obtain rfl : ds = [] := List.eq_nil_of_length_eq_zero hl
  refine ⟨0, 0, rfl, rfl, ?_, ?_, by omega, fun d h => by simp at h⟩
  · rw [take_snoc s pos hlt, tv_snoc, hx]
    exact (hri.piece hb2 (by omega) (by omega) hs2 hxb (by omega)).2.2 rfl (by omega)
  · rw [take_snoc s pos hlt]
    exact hdg.append (fun c hc => by obtain rfl : c = s[pos] := by simpa using hc
                                     rw [hx]; exact hxb)

end Go.Proofs.YtpfbcicjfnfpgaaDoor
