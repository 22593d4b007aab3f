/-
  Lists that grow in memory of the call's own.
-/
import Derived.Test.YtogabmggdcefaabGreatBsA
import Derived.Test.YtogabmggdcefaabGreatLists
import Derived.Deep.RegionLaw
import Derived.Deep.AppendLies
namespace Go.Proofs.YtogabmggdcefaabGreat
open Go.RowKit Go.Shelf

/-- A list that grows in memory of the call's own. -/
def Gr (w : World) (B : Nat) (v : Value) (cs : List Int) : Prop := w.ownsRow B 22 1 v cs.length (row cs)

theorem Gr.sl {w : World} {B : Nat} {v : Value} {cs : List Int} (h : Gr w B v cs) (hL : Limbs cs) : ∃ a cap, v = .slice a cs.length cap ∧ cs.length ≤ cap ∧ Sl w a cs.length cs := by
  obtain ⟨h1, h2 | ⟨g, cap, cur, rfl, hB, hh, hc, hm, hs, ht⟩⟩ := h
  · obtain ⟨rfl, h0⟩ := h2
    refine ⟨none, 0, by rw [h0], by omega, rfl, hL, fun h => ?_⟩
    omega
  · refine ⟨_, cap, rfl, hc, rfl, hL, fun _ => ⟨g, 0, rfl, fun i hi => ?_⟩⟩
    have hr := row_getElem? cs i hi
    rw [← ht, Nat.mul_one, List.getElem?_take_of_lt hi] at hr
    rw [Nat.zero_add]
    simp only [World.cell?, hh]
    simpa using hr
theorem Gr.nil (w : World) (B : Nat) : Gr w B (.slice none 0 0) [] := ⟨rfl, .inl ⟨rfl, rfl⟩⟩
theorem Gr.block {w : World} {B : Nat} {v : Value} {cs : List Int} (h : Gr w B v cs) : ∀ k, v.ownBlock = some k → B ≤ k := by
  obtain ⟨h1, h2 | ⟨g, cap, cur, rfl, hB, hh, hc, hm, hs, ht⟩⟩ := h
  · obtain ⟨rfl, h0⟩ := h2
    intro k hk; cases hk
  · intro k hk; cases hk; exact hB
theorem row_append (a b : List Int) : row (a ++ b) = row a ++ row b := by simp [row]
theorem info8 : (Tryz.prog.info? 22).map (fun i => (i.zero, i.size, i.bytes)) = some (some (.int .u64 0), 1, 8) := by kernel_rfl

/-- append, at a plain statement. -/
theorem row_one (cs : List Int) : ∀ v ∈ row cs, v.oneCell' = true := by
  intro v hv
  simp only [row, List.mem_map] at hv
  obtain ⟨x, -, rfl⟩ := hv
  rfl
theorem src_row {W : World} {b o la n : Nat} {xs : List Int} (ha : Sl W (some ⟨b, o, none⟩) la xs) (hn : n ≤ la) : ∀ j v, (row (xs.take n))[j]? = some v → W.cell? ((⟨b, o, none⟩ : Addr).add j) = some v := by
  intro j v hj
  have hj' : j < (row (xs.take n)).length := by
    rcases Nat.lt_or_ge j (row (xs.take n)).length with h' | h'
    · exact h'
    · rw [List.getElem?_eq_none h'] at hj; cases hj
  rw [row_length, List.length_take] at hj'
  have hz := ha.1
  rw [row_getElem? _ _ (by rw [List.length_take]; omega), getD_take_lt _ _ _ (by omega)] at hj
  cases hj
  obtain ⟨b', o', e, hc⟩ := ha.2.2 (by omega)
  cases e
  rw [addr_add]
  exact hc j (by omega)
end Go.Proofs.YtogabmggdcefaabGreat
