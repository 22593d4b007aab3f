/-
  A list of arcs that was lent is written over.
-/
import Derived.Test.YtonhooaboieapaaLeA
namespace Go.Proofs.Ytonhooaboieapaa
open Go.RowKit Go.Shelf
set_option linter.unusedVariables false
set_option linter.unusedSimpArgs false

theorem row_at2 {w : World} {g : Nat} {qs : List Pr} (h : Va w g 38 (rowS qs).toArray) (i : Nat) (hi : i < qs.length) : w.cell? ⟨g, i * 2, none⟩ = some (.int .i64 (qs.getD i (0, 0)).1) ∧ w.cell? ⟨g, i * 2 + 1, none⟩ = some (.int .i64 (qs.getD i (0, 0)).2) := by
  rw [h.cellAt, h.cellAt]
  exact ⟨by simpa using rowS_get0 qs i hi, by simpa using rowS_get1 qs i hi⟩
theorem rowS_set0 : ∀ (ps : List Pr) (i : Nat) (u : Int), i < ps.length → (rowS ps).set (i * 2) (.int .i64 u) = rowS (ps.set i (u, (ps.getD i (0, 0)).2))
  | [], i, u, h => by simp at h
  | p :: ps, 0, u, _ => rfl
  | p :: ps, i + 1, u, h => by
    have := rowS_set0 ps i u (by simpa using h)
    rw [show (i + 1) * 2 = i * 2 + 1 + 1 by omega]
    simpa [rowS] using this
theorem Va.setG {w : World} {b : Nat} {t : TypeId} {l : List Value} (h : Va w b t l.toArray) (i : Nat) (v : Value) : Va (w.setCell ⟨b, i, none⟩ v) b t (l.set i v).toArray := by
  unfold Va at *
  simp only [World.setCell]
  rw [Array.getElem?_modify, if_pos rfl, h]
  simp
/-- A arc of a row is put anew. -/
theorem row_put {w : World} {g : Nat} {qs : List Pr} (h : Va w g 38 (rowS qs).toArray) (i : Nat) (hi : i < qs.length) (x y : Int) : ∃ rs : List Pr, rs.length = qs.length ∧ Va ((w.setCell ⟨g, i * 2, none⟩ (.int .i64 x)).setCell ⟨g, i * 2 + 1, none⟩ (.int .i64 y)) g 38 (rowS rs).toArray := by
  have h1 := h.setG (i * 2) (.int .i64 x)
  rw [rowS_set0 qs i x hi] at h1
  have h2 := h1.setG (i * 2 + 1) (.int .i64 y)
  rw [rowS_set1 _ i y (by simpa using hi)] at h2
  exact ⟨_, by simp, h2⟩
set_option maxRecDepth 20000 in
set_option maxHeartbeats 2000000 in
theorem overS_any (la g : Nat) (qs : List Pr) (w : World) (ho : Va w g 38 (rowS qs).toArray) (hq : qs.length = la + 12) (hl : la ≤ 9000000000000) :
    Calls Try.prog 12 #[.slice (some ⟨g, 0, none⟩) la (la + 12)] w fun e w' => e = .returned (.tuple #[]) ∧ Below g w w' ∧ ∀ k, k < w.heap.size → k ≠ g → w'.heap[k]? = w.heap[k]? := by
  have HO : Hid (Va w g 38 (rowS qs).toArray) := ho
  clear ho
  go_enter Try.func12, Try.ntmps12
  go_wp2_with fail
  go_loopw [3] (fun ii wr => ∃ k : Nat, k ≤ la + 12 ∧ ii = .int .i64 k ∧ Hid (∃ rs : List Pr, rs.length = la + 12 ∧ Va wr g 38 (rowS rs).toArray) ∧ Hid (Below g w wr) ∧ Hid (∀ k, k < w.heap.size → k ≠ g → wr.heap[k]? = w.heap[k]?)) (fun ii _ => la + 12 - (intOf ii).toNat)
  case atStart => exact ⟨0, by omega, rfl, ⟨qs, hq, HO.out⟩, Below.refl _ _, fun _ _ _ => rfl⟩
  case round =>
    clear HO
    obtain ⟨k, hk, rfl, HR, HB, HK⟩ := hrel
    by_cases hlt : k < la + 12
    · obtain ⟨rs, hrl, hv⟩ := HR.out
      have hki : (k : Int) < (la : Int) + 12 := by omega
      have mk := mkarc2 k wr
      go_wp2_with fail
      refine mk.mono ?_
      rintro e w3 ⟨x, rfl, hb3⟩
      have V3 := hv.after hb3
      obtain ⟨d0, d1⟩ := row_at2 V3 k (by omega)
      have f0 := V3.frozen (k * 2)
      have f1 := V3.frozen (k * 2 + 1)
      have HNR : Hid (∃ rs' : List Pr, rs'.length = la + 12 ∧ Va ((w3.setCell ⟨g, k * 2, none⟩ (.int .i64 x)).setCell ⟨g, k * 2 + 1, none⟩ (.int .i64 0)) g 38 (rowS rs').toArray) := by
        obtain ⟨rs', h1, h2⟩ := row_put V3 k (by omega) x 0
        exact ⟨rs', by omega, h2⟩
      have HNB : Hid (Below g w ((w3.setCell ⟨g, k * 2, none⟩ (.int .i64 x)).setCell ⟨g, k * 2 + 1, none⟩ (.int .i64 0))) := ((HB.out.trans (hb3.mono (Nat.le_of_lt hv.lt))).setCell (p := ⟨g, k * 2, none⟩) (Nat.le_refl _) _).setCell (p := ⟨g, k * 2 + 1, none⟩) (Nat.le_refl _) _
      have HNK : Hid (∀ j, j < w.heap.size → j ≠ g → ((w3.setCell ⟨g, k * 2, none⟩ (.int .i64 x)).setCell ⟨g, k * 2 + 1, none⟩ (.int .i64 0)).heap[j]? = w.heap[j]?) := by
        intro j hj hne
        have hs := HB.out.size
        rw [heap_setCell_other _ _ j _ (by show j ≠ g; exact hne), heap_setCell_other _ _ j _ (by show j ≠ g; exact hne), hb3.block j (by omega)]
        exact HK.out j hj hne
      generalize (rs.getD k (0, 0)).1 = y0 at *
      generalize (rs.getD k (0, 0)).2 = y1 at *
      clear hb3 V3 hv HR HB HK mk
      go_wp2_with fail
      go_roundw
      case rel => exact ⟨k + 1, by omega, by go_num, HNR.out, HNB.out, HNK.out⟩
      case measure => simp [intOf]; omega
    · go_wp2_with fail
      go_end0
      exact ⟨rfl, HB.out, HK.out⟩
end Go.Proofs.Ytonhooaboieapaa
