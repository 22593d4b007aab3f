/-
  Rows of bytes that grow in memory of the call's own.
-/
import Derived.Test.YtpfbcicjfnfpgaaDoorGrow
import Derived.Laws.MakeOwn
import Derived.Laws.IdiomStrings
namespace Go.Proofs.YtpfbcicjfnfpgaaDoor
open Go.RowKit Go.Shelf
set_option linter.unusedVariables false

def rowU (cs : List UInt8) : List Value := cs.map (fun c => Value.int .u8 (c.toNat : Int))
theorem rowU_length (cs : List UInt8) : (rowU cs).length = cs.length := by simp [rowU]
theorem rowU_append (a b : List UInt8) : rowU (a ++ b) = rowU a ++ rowU b := by simp [rowU]
theorem rowU_one (cs : List UInt8) : ∀ v ∈ rowU cs, v.oneCell' = true := by
  intro v hv
  simp only [rowU, List.mem_map] at hv
  obtain ⟨x, -, rfl⟩ := hv
  rfl
def GrU (w : World) (B : Nat) (v : Value) (cs : List UInt8) : Prop := w.ownsRow B 5 1 v cs.length (rowU cs)
theorem GrU.nil (w : World) (B : Nat) : GrU w B (.slice none 0 0) [] := ⟨rfl, .inl ⟨rfl, rfl⟩⟩
theorem GrU.alloc {w : World} {B : Nat} {v : Value} {cs : List UInt8} (h : GrU w B v cs) (o : Obj) : GrU (w.alloc o) B v cs := World.ownsRow.alloc h o
theorem GrU.block {w : World} {B : Nat} {v : Value} {cs : List UInt8} (h : GrU w B v cs) : ∀ k, v.ownBlock = some k → B ≤ k := by
  obtain ⟨h1, h2 | ⟨g, cap, cur, rfl, hB, hh, hc, hm, hs, ht⟩⟩ := h
  · obtain ⟨rfl, h0⟩ := h2
    intro k hk; cases hk
  · intro k hk; cases hk; exact hB
theorem info1U : (Tryd.prog.info? 5).map (fun i => (i.zero, i.size, i.bytes)) = some (some (.int .u8 0), 1, 1) := by kernel_rfl
/-- append of one byte. -/
theorem wpList_appU {ops : Array Oper} {rest : List Oper} {o : Oper} {a : Act} {w : World} {Q : Exit → Act → World → Prop} (hgd : o.guard = none) (s x : Operand)
    (ho : o.op = .call { callee := .builtin .append, args := #[s, x], argTypes := #[45, 45] })
    (B : Nat) (v : Value) (cs : List UInt8) (hs : a.eval s = v) (hg : GrU w B v cs) (g : Nat) (c : UInt8) (hx : a.eval x = .slice (some ⟨g, 0, none⟩) 1 1) (hn : w.cell? ⟨g, 0, none⟩ = some (.int .u8 (c.toNat : Int)))
    (hb : cs.length + 1 ≤ 17592186044416) (hB : B ≤ w.heap.size)
    (h : ∀ v' w', Hid (GrU w' B v' (cs ++ [c])) → Below B w w' → wpList Tryd.prog ops Q rest (a.put o.dst v') w') : wpList Tryd.prog ops Q (o :: rest) a w := by
  obtain ⟨i0, hi, hz0, hz1, hz2⟩ := info_parts info1U
  refine wpList_append_own w hgd s x _ ho B 5 i0 (.int .u8 0) 1 1 Tryd.underlying45 hi hz0 hz1 hz2 rfl (by decide) v cs.length (rowU cs) hs hg ⟨g, 0, none⟩ 1 1 (rowU [c]) hx rfl ?_ (rowU_one _) (by unfold maxLen; omega) (by omega) hB ?_
  · intro j u hu
    have hj : j = 0 := by
      rcases Nat.lt_or_ge j (rowU [c]).length with h' | h'
      · rw [rowU_length] at h'; simpa using h'
      · rw [List.getElem?_eq_none h'] at hu; cases hu
    subst hj
    cases hu
    rw [addr_add]
    exact hn
  · intro v' w' h2 h3 _
    refine h v' w' ?_ ((Below.refl B w).grown h3 hB hg.block)
    show GrU w' B v' (cs ++ [c])
    unfold GrU
    rw [List.length_append, rowU_append]
    exact h2
theorem GrU.conv {w : World} {B : Nat} {v : Value} {cs : List UInt8} (h : GrU w B v cs) (h0 : cs ≠ []) : (convert 45 9 v).run Tryd.prog w = .ok (.string ⟨cs.toArray⟩) w := by
  obtain ⟨h1, h2 | ⟨g, cap, cur, rfl, hB, hh, hc, hm, hs, ht⟩⟩ := h
  · exact absurd (List.eq_nil_of_length_eq_zero h2.2) h0
  · refine run_convert_bytes_back (P := Tryd.prog) w 45 9 5 ⟨g, 0, none⟩ cap cs Tryd.underlying45 Tryd.underlying5 Tryd.underlying9 (fun j hj => ?_)
    have hr : (rowU cs)[j]? = some (.int .u8 ((cs[j]).toNat : Int)) := by simp [rowU, hj]
    rw [← ht, Nat.mul_one, List.getElem?_take_of_lt hj] at hr
    rw [addr_add, Nat.zero_add]
    simp only [World.cell?, hh]
    simpa using hr
end Go.Proofs.YtpfbcicjfnfpgaaDoor
