/-
  Lists that grow in memory of the call's own.
-/
import Derived.Test.YtblafbbnplfpjaaGreatDoorBsA
import Derived.Test.YtblafbbnplfpjaaGreatDoorLists
import Derived.Deep.RegionLaw
import Derived.Deep.AppendLies
namespace Go.Proofs.YtblafbbnplfpjaaGreatDoor
open Go.RowKit Go.Shelf

theorem ret_sl {a : Option Addr} {k m c : Nat} (h : k = m) : Ending.returned (.slice a k c) = .returned (.slice a m c) := by rw [h]

/-- A list that grows in memory of the call's own. -/
def Gr (w : World) (B : Nat) (v : Value) (cs : List Int) : Prop := w.ownsRow B 124 1 v cs.length (row cs)

theorem Gr.sl {w : World} {B : Nat} {v : Value} {cs : List Int} (h : Gr w B v cs) (hL : Limbs cs) : ∃ a cap, v = .slice a cs.length cap ∧ cs.length ≤ cap ∧ Sl w a cs.length cs := by
  obtain ⟨h1, h2 | ⟨g, cap, cur, rfl, hB, hh, hc, hm, hs, ht⟩⟩ := h
  · obtain ⟨rfl, h0⟩ := h2
    refine ⟨none, 0, by rw [h0], by omega, rfl, hL, fun h => ?_⟩
    omega
  · refine ⟨_, cap, rfl, hc, rfl, hL, fun _ => ⟨g, 0, rfl, fun i hi => ?_⟩⟩
    have hr := row_getElem? cs i hi
    rw [← ht, Nat.mul_one, List.getElem?_take_of_lt hi] at hr
    rw [Nat.zero_add]
    simp only [World.cell?, hh]
    simpa using hr
theorem Gr.nil (w : World) (B : Nat) : Gr w B (.slice none 0 0) [] := ⟨rfl, .inl ⟨rfl, rfl⟩⟩
theorem Gr.block {w : World} {B : Nat} {v : Value} {cs : List Int} (h : Gr w B v cs) : ∀ k, v.ownBlock = some k → B ≤ k := by
  obtain ⟨h1, h2 | ⟨g, cap, cur, rfl, hB, hh, hc, hm, hs, ht⟩⟩ := h
  · obtain ⟨rfl, h0⟩ := h2
    intro k hk; cases hk
  · intro k hk; cases hk; exact hB
theorem row_append (a b : List Int) : row (a ++ b) = row a ++ row b := by simp [row]
theorem info8 : (Tryz.prog.info? 124).map (fun i => (i.zero, i.size, i.bytes)) = some (some (.int .u64 0), 1, 8) := by kernel_rfl

/-- append, one step of a region that draws its order. -/
theorem step_app {ops : Array Oper} {o : Oper} {a : Act} {w : World} {K : Act → World → Prop} {Q : Exit → Act → World → Prop} {E : Prop} (hgd : o.guard = none) (s x : Operand)
    (ho : o.op = .call { callee := .builtin .append, args := #[s, x], argTypes := #[60, 60] })
    (B : Nat) (v : Value) (cs : List Int) (hs : a.eval s = v) (hg : Gr w B v cs) (g m c : Nat) (news : List Int) (hx : a.eval x = .slice (some ⟨g, 0, none⟩) m c) (hl : news.length = m) (hn : Own w g news)
    (hb : cs.length + m ≤ 17592186044416) (hB : B ≤ w.heap.size)
    (h : ∀ v' w', Gr w' B v' (cs ++ news) → Below B w w' → K (a.put o.dst v') w') : if Region.wanted o (yielded ops a.tmps) = true then Oper.wp Tryz.prog o a w K Q else E := by
  have hw : Region.wanted o (yielded ops a.tmps) = true := by simp [Region.wanted, hgd]
  rw [if_pos hw]
  obtain ⟨i0, hi, hz0, hz1, hz2⟩ := info_parts info8
  refine wp_append_own w s x _ ho B 124 i0 (.int .u64 0) 1 8 Tryz.underlying60 hi hz0 hz1 hz2 rfl (by decide) v cs.length (row cs) hs hg ⟨g, 0, none⟩ m c (row news) hx (by rw [row_length, hl, Nat.mul_one]) ?_ ?_ (by unfold maxLen; omega) (by omega) hB ?_
  · intro j u hu
    have hj : j < news.length := by
      rcases Nat.lt_or_ge j (row news).length with h' | h'
      · rw [row_length] at h'; exact h'
      · rw [List.getElem?_eq_none h'] at hu; cases hu
    rw [row_getElem? _ _ hj] at hu
    cases hu
    rw [addr_add, Nat.zero_add]
    exact hn.cell j hj
  · intro v hv
    simp only [row, List.mem_map] at hv
    obtain ⟨x, -, rfl⟩ := hv
    rfl
  · intro v' w' h2 h3 _
    refine h v' w' ?_ ((Below.refl B w).grown h3 hB hg.block)
    unfold Gr
    rw [List.length_append, hl, row_append]
    exact h2
/-- append, at a plain statement. -/
theorem row_one (cs : List Int) : ∀ v ∈ row cs, v.oneCell' = true := by
  intro v hv
  simp only [row, List.mem_map] at hv
  obtain ⟨x, -, rfl⟩ := hv
  rfl
theorem src_row {W : World} {b o la n : Nat} {xs : List Int} (ha : Sl W (some ⟨b, o, none⟩) la xs) (hn : n ≤ la) : ∀ j v, (row (xs.take n))[j]? = some v → W.cell? ((⟨b, o, none⟩ : Addr).add j) = some v := by
  intro j v hj
  have hj' : j < (row (xs.take n)).length := by
    rcases Nat.lt_or_ge j (row (xs.take n)).length with h' | h'
    · exact h'
    · rw [List.getElem?_eq_none h'] at hj; cases hj
  rw [row_length, List.length_take] at hj'
  have hz := ha.1
  rw [row_getElem? _ _ (by rw [List.length_take]; omega), getD_take_lt _ _ _ (by omega)] at hj
  cases hj
  obtain ⟨b', o', e, hc⟩ := ha.2.2 (by omega)
  cases e
  rw [addr_add]
  exact hc j (by omega)
theorem gr_of_own {w : World} {B g : Nat} {cs : List Int} (h : Own w g cs) (hB : B ≤ g) (hl : cs.length ≤ 9223372036854775807) : Gr w B (.slice (some ⟨g, 0, none⟩) cs.length cs.length) cs := by
  refine ⟨by rw [row_length, Nat.mul_one], .inr ⟨g, cs.length, (row cs).toArray, rfl, hB, h, Nat.le_refl _, by unfold maxLen; omega, by simp [row_length], ?_⟩⟩
  rw [Nat.mul_one]
  exact List.take_of_length_le (by rw [row_length]; exact Nat.le_refl _)
/-- append of a list that is read elsewhere, at a plain statement. -/
theorem wpList_app_sl {ops : Array Oper} {rest : List Oper} {o : Oper} {a : Act} {w : World} {Q : Exit → Act → World → Prop} (hgd : o.guard = none) (s x : Operand)
    (ho : o.op = .call { callee := .builtin .append, args := #[s, x], argTypes := #[60, 60] })
    (B : Nat) (v : Value) (cs : List Int) (hs : a.eval s = v) (hg : Gr w B v cs) (b off m c : Nat) (news : List Int) (hx : a.eval x = .slice (some ⟨b, off, none⟩) m c) (hn : Sl w (some ⟨b, off, none⟩) m news)
    (hb : cs.length + m ≤ 17592186044416) (hB : B ≤ w.heap.size)
    (h : ∀ v' w', Hid (Gr w' B v' (cs ++ news)) → Below B w w' → wpList Tryz.prog ops Q rest (a.put o.dst v') w') : wpList Tryz.prog ops Q (o :: rest) a w := by
  obtain ⟨i0, hi, hz0, hz1, hz2⟩ := info_parts info8
  refine wpList_append_own w hgd s x _ ho B 124 i0 (.int .u64 0) 1 8 Tryz.underlying60 hi hz0 hz1 hz2 rfl (by decide) v cs.length (row cs) hs hg ⟨b, off, none⟩ m c (row news) hx (by rw [row_length, hn.1, Nat.mul_one]) ?_ (row_one _) (by unfold maxLen; omega) (by omega) hB ?_
  · intro j u hu
    have e : news.take m = news := List.take_of_length_le (by rw [hn.1]; exact Nat.le_refl _)
    rw [← e] at hu
    exact src_row hn (Nat.le_refl _) j u hu
  · intro v' w' h2 h3 _
    refine h v' w' ?_ ((Below.refl B w).grown h3 hB hg.block)
    show Gr w' B v' (cs ++ news)
    unfold Gr
    rw [List.length_append, hn.1, row_append]
    exact h2

end Go.Proofs.YtblafbbnplfpjaaGreatDoor
