/-
  Lists of int64s that grow in memory of the call's own.
-/
import Derived.Test.YtigimdcaakfckaaGreatDoorMy9
import Derived.Test.YtigimdcaakfckaaGreatDoorGrow
import Derived.Laws.MakeOwn
namespace Go.Proofs.YtigimdcaakfckaaGreatDoor
open Go.RowKit Go.Shelf
set_option linter.unusedVariables false

def rowI (cs : List Int) : List Value := cs.map (Value.int .i64)
theorem rowI_length (cs : List Int) : (rowI cs).length = cs.length := by simp [rowI]
theorem rowI_get (cs : List Int) (i : Nat) (h : i < cs.length) : (rowI cs)[i]? = some (.int .i64 (cs.getD i 0)) := by
  simp [rowI, List.getD_eq_getElem?_getD, h]
theorem rowI_append (a b : List Int) : rowI (a ++ b) = rowI a ++ rowI b := by simp [rowI]
theorem rowI_one (cs : List Int) : ∀ v ∈ rowI cs, v.oneCell' = true := by
  intro v hv
  simp only [rowI, List.mem_map] at hv
  obtain ⟨x, -, rfl⟩ := hv
  rfl
def GrI (w : World) (B : Nat) (v : Value) (cs : List Int) : Prop := w.ownsRow B 2 1 v cs.length (rowI cs)
theorem GrI.li {w : World} {B : Nat} {v : Value} {cs : List Int} (h : GrI w B v cs) (hL : ∀ z ∈ cs, b64 z) : ∃ a cap, v = .slice a cs.length cap ∧ cs.length ≤ cap ∧ Li w a cs.length cs ∧ ((a = none ∧ cs.length = 0 ∧ cap = 0) ∨ ∃ g, a = some ⟨g, 0, none⟩) := by
  obtain ⟨h1, h2 | ⟨g, cap, cur, rfl, hB, hh, hc, hm, hs, ht⟩⟩ := h
  · obtain ⟨rfl, h0⟩ := h2
    refine ⟨none, 0, by rw [h0], by omega, ⟨rfl, hL, fun h => ?_⟩, .inl ⟨rfl, h0, rfl⟩⟩
    omega
  · refine ⟨_, cap, rfl, hc, ⟨rfl, hL, fun _ => ⟨g, 0, rfl, fun i hi => ?_⟩⟩, .inr ⟨g, rfl⟩⟩
    have hr := rowI_get cs i hi
    rw [← ht, Nat.mul_one, List.getElem?_take_of_lt hi] at hr
    rw [Nat.zero_add]
    simp only [World.cell?, hh]
    simpa using hr
theorem GrI.block {w : World} {B : Nat} {v : Value} {cs : List Int} (h : GrI w B v cs) : ∀ k, v.ownBlock = some k → B ≤ k := by
  obtain ⟨h1, h2 | ⟨g, cap, cur, rfl, hB, hh, hc, hm, hs, ht⟩⟩ := h
  · obtain ⟨rfl, h0⟩ := h2
    intro k hk; cases hk
  · intro k hk; cases hk; exact hB
theorem GrI.after {w w' : World} (hb : Below w.heap.size w w') {B : Nat} {v : Value} {cs : List Int} (h : GrI w B v cs) : GrI w' B v cs := by
  obtain ⟨h1, h2 | ⟨g, cap, cur, e, hB, hh, hc, hm, hs, ht⟩⟩ := h
  · exact ⟨h1, .inl h2⟩
  · refine ⟨h1, .inr ⟨g, cap, cur, e, hB, ?_, hc, hm, hs, ht⟩⟩
    rw [hb.block g (Array.getElem?_eq_some_iff.1 hh).1]; exact hh
theorem Li.after {w w' : World} (hb : Below w.heap.size w w') {a : Option Addr} {len : Nat} {zs : List Int} (h : Li w a len zs) : Li w' a len zs := by
  refine ⟨h.1, h.2.1, fun h0 => ?_⟩
  obtain ⟨b, off, e, hc⟩ := h.2.2 h0
  refine ⟨b, off, e, fun i hi => ?_⟩
  have h1 := hc i hi
  have hlt : b < w.heap.size := by
    rcases Nat.lt_or_ge b w.heap.size with h' | h'
    · exact h'
    · simp [World.cell?, Array.getElem?_eq_none h'] at h1
  exact (hb.cell (p := ⟨b, off + i, none⟩) hlt).trans h1
theorem Li.take {w : World} {a : Option Addr} {len : Nat} {zs : List Int} (h : Li w a len zs) {m : Nat} (hm : m ≤ len) : Li w a m (zs.take m) := by
  refine ⟨by rw [List.length_take, h.1]; omega, fun z hz => h.2.1 z (List.mem_of_mem_take hz), fun h0 => ?_⟩
  obtain ⟨b, off, e, hc⟩ := h.2.2 (by omega)
  refine ⟨b, off, e, fun i hi => ?_⟩
  rw [hc i (by omega), List.getD_eq_getElem?_getD, List.getD_eq_getElem?_getD, List.getElem?_take_of_lt hi]
theorem Li.drop {w : World} {b off len : Nat} {zs : List Int} (h : Li w (some ⟨b, off, none⟩) len zs) {m : Nat} (hm : m ≤ len) : Li w (some ⟨b, off + m, none⟩) (len - m) (zs.drop m) := by
  refine ⟨by rw [List.length_drop, h.1], fun z hz => h.2.1 z (List.mem_of_mem_drop hz), fun h0 => ?_⟩
  obtain ⟨b', off', e, hc⟩ := h.2.2 (by omega)
  cases e
  refine ⟨b, off + m, rfl, fun i hi => ?_⟩
  rw [Nat.add_assoc, hc (m + i) (by omega), List.getD_eq_getElem?_getD, List.getD_eq_getElem?_getD, List.getElem?_drop]
theorem info8I : (Tryz.prog.info? 2).map (fun i => (i.zero, i.size, i.bytes)) = some (some (.int .i64 0), 1, 8) := by kernel_rfl
theorem make_I (n : Nat) (hn : n ≤ 20000000000000) (w : World) : ∃ w', (Instr.makeSlice 22 (.int .i64 0) (.int .i64 (n : Int))).run Tryz.prog w = .ok (.slice (some ⟨w.heap.size, 0, none⟩) 0 n) w' ∧ GrI w' w.heap.size (.slice (some ⟨w.heap.size, 0, none⟩) 0 n) [] ∧ Below w.heap.size w w' := by
  obtain ⟨i0, hi, hz0, hz1, hz2⟩ := info_parts info8I
  obtain ⟨w1, hmk, hrow, hgr⟩ := run_make_own (P := Tryz.prog) w w.heap.size 22 2 i0 (.int .i64 0) 1 Tryz.underlying22 hi hz0 hz1 .i64 .i64 n (by rw [hz2]; omega) (by unfold maxLen; omega) (Nat.le_refl _)
  exact ⟨w1, hmk, hrow, (Below.refl _ _).grown hgr (Nat.le_refl _) (fun k hk => by cases hk)⟩
/-- append of a list that is read elsewhere. -/
theorem wpList_appI {ops : Array Oper} {rest : List Oper} {o : Oper} {a : Act} {w : World} {Q : Exit → Act → World → Prop} (hgd : o.guard = none) (s x : Operand)
    (ho : o.op = .call { callee := .builtin .append, args := #[s, x], argTypes := #[22, 22] })
    (B : Nat) (v : Value) (cs : List Int) (hs : a.eval s = v) (hg : GrI w B v cs) (ad : Addr) (m c : Nat) (news : List Int) (hx : a.eval x = .slice (some ad) m c) (hn : Li w (some ad) m news)
    (hb : cs.length + m ≤ 17592186044416) (hB : B ≤ w.heap.size)
    (h : ∀ v' w', Hid (GrI w' B v' (cs ++ news)) → Below B w w' → wpList Tryz.prog ops Q rest (a.put o.dst v') w') : wpList Tryz.prog ops Q (o :: rest) a w := by
  obtain ⟨i0, hi, hz0, hz1, hz2⟩ := info_parts info8I
  refine wpList_append_own w hgd s x _ ho B 2 i0 (.int .i64 0) 1 8 Tryz.underlying22 hi hz0 hz1 hz2 rfl (by decide) v cs.length (rowI cs) hs hg ad m c (rowI news) hx (by rw [rowI_length, hn.1, Nat.mul_one]) ?_ (rowI_one _) (by unfold maxLen; omega) (by omega) hB ?_
  · intro j u hu
    have hj : j < news.length := by
      rcases Nat.lt_or_ge j (rowI news).length with h' | h'
      · rw [rowI_length] at h'; exact h'
      · rw [List.getElem?_eq_none h'] at hu; cases hu
    rw [rowI_get _ _ hj] at hu
    cases hu
    obtain ⟨b', o', e, hc⟩ := hn.2.2 (by rw [← hn.1]; omega)
    cases e
    rw [addr_add]
    exact hc j (by rw [← hn.1]; exact hj)
  · intro v' w' h2 h3 _
    refine h v' w' ?_ ((Below.refl B w).grown h3 hB hg.block)
    show GrI w' B v' (cs ++ news)
    unfold GrI
    rw [List.length_append, hn.1, rowI_append]
    exact h2
theorem grI_empty (w : World) : GrI (w.alloc (.cells #[] 2)) w.heap.size (.slice (some ⟨w.heap.size, 0, none⟩) 0 0) [] :=
  ⟨rfl, .inr ⟨w.heap.size, 0, #[], rfl, Nat.le_refl _, Va.new w _ _, Nat.le_refl _, by unfold maxLen; omega, by simp, rfl⟩⟩
end Go.Proofs.YtigimdcaakfckaaGreatDoor
