/-
  exchange: a table's map in memory: pairs and what stands at them.
-/
import Derived.Test.YtmhfoeooccppfaaGreatEx6
import Derived.DeepKeys4
import Derived.Maps.Views
import Derived.Maps.OwnSet
namespace Go.Proofs.YtmhfoeooccppfaaGreat
open Go.RowKit Go.Shelf
set_option linter.unusedVariables false
set_option maxRecDepth 20000

abbrev Pa := List UInt8 × List UInt8
/-- A pair as a value. -/
abbrev pv (k : Pa) : Value := .agg #[sv k.1, sv k.2]
/-- How what stands there reads: as itself. -/
def hdR (v : Value) : Option (DataW Value × List MemPlace) := some (.held v, [])
theorem laidOut : laidOutB Tryz.prog = true := by kernel_rfl
theorem lawP : Maps.Keyed Tryz.prog 71 := Maps.Keyed.of_law (deep_law_laid laidOut (m := 2) (by omega) (of_decide_eq_true (by kernel_rfl)) (by kernel_rfl) (by rw [Tryz.underlying71]))
/-- What a pair reads as. -/
def klP (k : Pa) : Lit := .string (keyBytes [.string k.1, .string k.2])
/-- Texts that are short. -/
def Sho (k : Pa) : Prop := k.1.length ≤ 1000 ∧ k.2.length ≤ 1000
theorem undP : ∃ f0 f1 : Field, Tryz.prog.underlying 71 = some (.struct #[f0, f1]) ∧ f0.name ≠ "_" ∧ f1.name ≠ "_" ∧ f0.type = 9 ∧ f1.type = 9 ∧ f0.offset = 0 ∧ f1.offset = 1 :=
  ⟨_, _, Tryz.underlying71, by decide, by decide, rfl, rfl, rfl, rfl⟩
theorem types_two : ∃ n, Tryz.prog.types.size + 1 = n + 2 := by
  have : 1 ≤ Tryz.prog.types.size := of_decide_eq_true (by kernel_rfl)
  exact ⟨Tryz.prog.types.size - 1, by omega⟩
theorem keyP (k : Pa) (h : Sho k) : keyOf Tryz.prog 71 (pv k) = some (klP k) := by
  obtain ⟨f0, f1, hu, n0, n1, t0, t1, o0, o1⟩ := undP
  have hc : Tryz.prog.cellsOf 71 = 2 := by kernel_rfl
  have hs : Tryz.prog.cellsOf 9 = 1 := by kernel_rfl
  have hk : Tryz.prog.keyType 71 = true := by kernel_rfl
  have us : Tryz.prog.underlying 9 = some .string := by kernel_rfl
  have ht : ∃ n, Tryz.prog.types.size + 1 = n + 2 := types_two
  obtain ⟨n, hn⟩ := ht
  have h1 : k.1.length ≤ maxLen := by unfold maxLen; have := h.1; omega
  have h2 : k.2.length ≤ maxLen := by unfold maxLen; have := h.2; omega
  have l1 : Tryz.prog.keyLits (n + 1) 9 [sv k.1] = some [.string k.1] := by simp [Program.keyLits, us, h1, ByteArray.size]
  have l2 : Tryz.prog.keyLits (n + 1) 9 [sv k.2] = some [.string k.2] := by simp [Program.keyLits, us, h2, ByteArray.size]
  have hl : Tryz.prog.keyLits (n + 2) 71 [sv k.1, sv k.2] = some [.string k.1, .string k.2] := by
    rw [Program.keyLits.eq_def]
    simp only [hu]
    simp [hc, n0, n1, t0, t1, o0, o1, hs, l1, l2]
  unfold keyOf
  rw [hu]
  simp only [hk, Value.formed, hu, hc, hn]
  simp [Value.cells, hl, klP]
theorem klP_inj {k k' : Pa} (h : Sho k) (h' : Sho k') (e : klP k = klP k') : k = k' := by
  have := lawP.inj (keyP k h) (e ▸ keyP k' h')
  simp only [Value.agg.injEq, Array.mk.injEq, List.cons.injEq, Value.string.injEq, ByteArray.mk.injEq] at this
  obtain ⟨h1, h2, -⟩ := this
  exact Prod.ext h1 h2
theorem klP_key (k : Pa) (h : Sho k) : WideAt.IsKeyLit (klP k) := lawP.key (keyP k h)
/-- A value that reads as a key is a pair. -/
theorem keyP_inv {v : Value} {l : Lit} (h : keyOf Tryz.prog 71 v = some l) : ∃ k : Pa, v = pv k := by
  obtain ⟨f0, f1, hu, n0, n1, t0, t1, o0, o1⟩ := undP
  have hc : Tryz.prog.cellsOf 71 = 2 := by kernel_rfl
  have hs : Tryz.prog.cellsOf 9 = 1 := by kernel_rfl
  have us : Tryz.prog.underlying 9 = some .string := by kernel_rfl
  have ht : ∃ n, Tryz.prog.types.size + 1 = n + 2 := types_two
  obtain ⟨n, hn⟩ := ht
  have key1 : ∀ u l, Tryz.prog.keyLits (n + 1) 9 [u] = some l → ∃ s : List UInt8, u = sv s := fun u l hu' => by
    rw [Program.keyLits.eq_def] at hu'
    simp only [us] at hu'
    cases u <;> simp at hu'
    rename_i s
    exact ⟨s.data.toList, by simp⟩
  unfold keyOf at h
  rw [hu] at h
  simp only [hn] at h
  split at h
  · rename_i hf
    rw [Bool.and_eq_true] at hf
    have hf := hf.2
    cases v with
    | agg cs =>
      simp only [Value.formed, hu, hc] at hf
      obtain ⟨l⟩ := cs
      match l, hf with
      | [a, b], _ =>
        rw [Option.map_eq_some_iff] at h
        obtain ⟨ls, hls, -⟩ := h
        rw [Program.keyLits.eq_def] at hls
        simp only [hu] at hls
        simp [Value.cells, hc, n0, n1, t0, t1, o0, o1, hs] at hls
        cases e1 : Tryz.prog.keyLits (n + 1) 9 [a] with
        | none => simp [e1] at hls
        | some x =>
          cases e2 : Tryz.prog.keyLits (n + 1) 9 [b] with
          | none => simp [e1, e2] at hls
          | some y =>
            obtain ⟨s, rfl⟩ := key1 _ _ e1
            obtain ⟨t, rfl⟩ := key1 _ _ e2
            exact ⟨(s, t), rfl⟩
    | _ => simp [Value.formed, hu] at hf
  · cases h
end Go.Proofs.YtmhfoeooccppfaaGreat
