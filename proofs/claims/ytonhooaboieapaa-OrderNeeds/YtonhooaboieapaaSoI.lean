/-
  order: slices.Sort of a list of ints that grows.
-/
import Derived.Test.YtonhooaboieapaaOdB
import Derived.Test.YtonhooaboieapaaShelf
namespace Go.Proofs.Ytonhooaboieapaa
open Go.RowKit Go.Shelf Go.Sort
set_option linter.unusedVariables false

theorem holds_of_geI {w : World} {B g n cap : Nat} {zs : List Int} (h : Ge elI w B (.slice (some ⟨g, 0, none⟩) n cap) zs) : Holds (Value.int .i64) w g 0 zs.toArray := by
  intro j hj
  have hj' : j < zs.length := by simpa using hj
  have hn : n = zs.length := by
    obtain ⟨a', cap', e, -, -, -⟩ := h.shape
    simp only [Value.slice.injEq] at e
    exact e.2.1
  refine ⟨?_, h.frozen _⟩
  obtain ⟨b, off, e, hc⟩ := h.toLe.2 (by omega)
  cases e
  have := hc j (.int .i64 zs[j]) (by rw [rowI, List.getElem?_map, List.getElem?_eq_getElem hj']; rfl)
  rw [this]
  simp [hj']
theorem li_of_holdsI {w : World} {g : Nat} {zs : List Int} (h : Holds (Value.int .i64) w g 0 zs.toArray) : Li w (some ⟨g, 0, none⟩) zs.length zs := by
  refine ⟨rfl, fun h0 => ⟨g, 0, rfl, fun i hi => ?_⟩⟩
  have h1 := (h i (by simpa using hi)).1
  rw [h1]
  simp [hi]
theorem gr_putI {w : World} {g n : Nat} {os : Array Obj} (d : Array Int) : w.grownBy (grow (putRow (Value.int .i64) (Sort.ahead w n) g 0 d) os) (some g) := by
  refine ⟨rfl, rfl, rfl, by simp, fun k hk hne => ?_⟩
  rw [heap_grow_old _ _ (by simpa using hk)]
  have : g ≠ k := fun e => hne (by rw [e])
  simp [putRow, mapBlock, Sort.ahead, Array.getElem?_modify, this]
/-- A list of ints in memory of its own, put in order. -/
theorem sort_intI {w : World} {B g cap : Nat} {L : List Int} (h : Ge elI w B (.slice (some ⟨g, 0, none⟩) L.length cap) L) (hl : L.length ≤ 1000000) :
    Calls Try.prog 33 #[.slice (some ⟨g, 0, none⟩) L.length cap] w fun e w' => (e = .returned (.tuple #[]) ∧ ∃ s : List Int, s.Perm L ∧ s.Pairwise (· ≤ ·) ∧ Li w' (some ⟨g, 0, none⟩) L.length s) ∧ w.grownBy w' (some g) := by
  have hgl : g < w.heap.size := h.lt g rfl
  have hH := holds_of_geI h
  have C1 := Try.slices_Sort_int g 0 cap L w hH hgl (by omega)
  have hML : (L.mergeSort fun x y => decide (x ≤ y)).length = L.length := by rw [List.length_mergeSort]
  refine C1.mono ?_
  rintro e w' ⟨rfl, n, os, hw⟩
  have H2 : Holds (Value.int .i64) w' g 0 (L.mergeSort fun x y => decide (x ≤ y)).toArray := by
    rw [hw]
    exact holds_grow _ _ _ _ _ _ (by simpa using hgl) (holds_putRow _ (Sort.ahead w n) g 0 L.toArray _ hH (by simp [hML]))
  refine ⟨⟨rfl, L.mergeSort (fun x y => decide (x ≤ y)), List.mergeSort_perm _ _, ?_, ?_⟩, by rw [hw]; exact gr_putI _⟩
  · have := List.pairwise_mergeSort (le := fun x y : Int => decide (x ≤ y)) (fun a b c => by simp; omega) (fun a b => by simp; omega) L
    exact this.imp (fun h => by simpa using h)
  · have := li_of_holdsI H2
    rwa [hML] at this
theorem sorted_nat {s : List Int} {L : List Nat} (hp : s.Perm (ints L)) (hs : s.Pairwise (· ≤ ·)) (hn : L.Nodup) : ∃ l : List Nat, s = ints l ∧ l.Perm L ∧ l.Pairwise (· < ·) := by
  have h1 : ∀ z ∈ s, ((z.toNat : Nat) : Int) = z := fun z hz => by
    have h2 := hp.mem_iff.1 hz
    simp only [ints, List.mem_map] at h2
    obtain ⟨x, -, rfl⟩ := h2
    simp
  have h3 : (s.map Int.toNat).Perm L := by
    have h4 := hp.map Int.toNat
    have h5 : (ints L).map Int.toNat = L := by
      simp [ints, List.map_map, Function.comp_def]
    rwa [h5] at h4
  refine ⟨s.map Int.toNat, ?_, h3, ?_⟩
  · simp only [ints, List.map_map]
    have h6 : s.map ((fun n : Nat => (n : Int)) ∘ Int.toNat) = s.map id := List.map_congr_left (fun z hz => h1 z hz)
    simpa using h6.symm
  · have h7 : (s.map Int.toNat).Pairwise (· ≤ ·) := List.pairwise_map.2 (hs.imp (fun h => by omega))
    have h8 : (s.map Int.toNat).Nodup := h3.nodup_iff.2 hn
    exact (h7.and h8).imp (fun h => by have := h.1; have := h.2; omega)
end Go.Proofs.Ytonhooaboieapaa
