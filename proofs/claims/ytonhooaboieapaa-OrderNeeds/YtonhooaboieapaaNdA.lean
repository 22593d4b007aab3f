/-
  append of one int to a list of any length that may be handed in.
-/
import Derived.Test.YtonhooaboieapaaNdP
import Derived.Test.YtonhooaboieapaaLnI
namespace Go.Proofs.Ytonhooaboieapaa
open Go.RowKit Go.Shelf
set_option linter.unusedVariables false
set_option linter.unusedSimpArgs false

theorem next_one (c : Nat) (hc : c ≤ 20000000000000) : Builtin.nextslicecap (c + 1) c * 8 ≤ 281474976710656 := by
  unfold Builtin.nextslicecap
  split
  · omega
  · split
    · omega
    · have e1 : Builtin.growBy (c + 1) 4 c = if c ≥ c + 1 then c else Builtin.growBy (c + 1) 3 (c + (c + 768) / 4) := rfl
      have e2 : Builtin.growBy (c + 1) 3 (c + (c + 768) / 4) = if c + (c + 768) / 4 ≥ c + 1 then c + (c + 768) / 4 else Builtin.growBy (c + 1) 2 (c + (c + 768) / 4 + (c + (c + 768) / 4 + 768) / 4) := rfl
      rw [e1, if_neg (by omega), e2, if_pos (by omega)]
      omega
theorem run_appI1 (w : World) (ty : TypeId) (B : Nat) (v : Value) (xs : List Int) (hg : Ge elI w B v xs) (b off c : Nat) (x : Int) (hy : Le elI w (.some ⟨b, off, none⟩) 1 [x]) (hb : xs.length + 1 ≤ 20000000000000) (hB : B ≤ w.heap.size) :
    ∃ v' w', (Builtin.append_ #[elI.tl, elI.tl] ty #[v, .slice (.some ⟨b, off, none⟩) 1 c]).run Try.prog w = .ok v' w' ∧ Ge elI w' B v' (xs ++ [x]) ∧ w.grownBy w' v.ownBlock := by
  obtain ⟨i, hi, hz, hz1, hz2⟩ := info_parts elI.inf
  have hl : (rowE elI [x]).length = 1 * i.size := by rw [hz1]; rfl
  rcases Nat.lt_or_ge xs.length 1000000 with hsm | hbig
  · obtain ⟨v', w', hr, k2, k3, -⟩ := run_appE (E := elI) w ty B v xs hg b off 1 c [x] hy (by omega) hB
    exact ⟨v', w', hr, k2, k3⟩
  · obtain ⟨h1, h2⟩ := hg
    rcases h2 with ⟨-, h0⟩ | ⟨g, cap, cur, rfl, hbg, hh, hnc, hcm, hcs, htake⟩
    · omega
    · have hl1 : elI.s = 1 := rfl
      have hall : rowE elI (xs ++ [x]) = rowE elI xs ++ rowE elI [x] := rowE_append elI _ _
      have hrl : (rowE elI xs).length = xs.length := by rw [rowE_length, hl1, Nat.mul_one]
      have hrn : (rowE elI [x]).length = 1 := rfl
      by_cases hroom : xs.length + 1 ≤ cap
      · have hr := run_append_room (P := Try.prog) w elI.tl ty elI.te i elI.und hi g xs.length cap cur hh ⟨b, off, none⟩ 1 c (rowE elI [x]) hl hy.news (rowE_one elI _) hroom (by rw [hrn, hz1, hcs, hl1]; omega)
        refine ⟨_, _, hr, ⟨?_, .inr ⟨g, cap, _, ?_, hbg, setRow_heap w g cur _ elI.te _ hh, ?_, hcm, ?_, ?_⟩⟩, ⟨rfl, rfl, rfl, by simp, fun k hk hne => setRow_other w g k _ (fun e => hne (by simp [Value.ownBlock, e]))⟩⟩
        · rw [rowE_length]
        · rw [List.length_append]; rfl
        · rw [List.length_append]; exact hroom
        · simp only [List.size_toArray, List.length_append, List.length_take, List.length_drop, Array.length_toList, hrn, hz1, hcs, hl1]
          omega
        · rw [hall, List.length_append, hl1, hz1, hl1, Nat.mul_one, Nat.mul_one]
          rw [hl1, Nat.mul_one] at htake
          rw [htake]
          have e : xs.length + [x].length = (rowE elI xs ++ rowE elI [x]).length := by rw [List.length_append, hrl, hrn]; rfl
          rw [e]
          exact List.take_left
      · obtain rfl : cap = xs.length := by omega
        have holds : ∀ j u, (rowE elI xs)[j]? = some u → w.cell? ((⟨g, 0, none⟩ : Addr).add j) = some u := World.ownsRow.cells (g := g) ⟨h1, .inr ⟨g, xs.length, cur, rfl, hbg, hh, hnc, hcm, hcs, htake⟩⟩ rfl
        have hr := run_append_grow (P := Try.prog) w elI.tl ty elI.te i elI.z elI.und hi hz ⟨g, 0, none⟩ xs.length xs.length (rowE elI xs) (by rw [hrl, hz1, hl1, Nat.mul_one]) holds ⟨b, off, none⟩ 1 c (rowE elI [x]) hl hy.news (by omega) (by omega) (by rw [hz2]; exact next_one _ (by omega))
        have hge := grownCap_ge w (xs.length + 1) xs.length elI.te
        have hle := grownCap_le_maxLen w (xs.length + 1) xs.length elI.te (by unfold maxLen; omega)
        refine ⟨_, _, hr, ⟨?_, .inr ⟨w.heap.size, grownCap w (xs.length + 1) xs.length elI.te, _, ?_, hB, heap_alloc_new w.drew _, ?_, hle, ?_, ?_⟩⟩, ⟨rfl, rfl, rfl, by simp, fun k hk _ => heap_alloc_old w.drew _ hk⟩⟩
        · rw [rowE_length]
        · rw [List.length_append]; rfl
        · rw [List.length_append]; exact hge
        · have hzz : elI.z.cells.size = 1 := elI.zs
          simp only [Array.size_append, List.size_toArray, size_zeroCells, hzz, hrl, hrn, hl1]
          omega
        · rw [hall, List.length_append, hl1, Nat.mul_one]
          simp only [Array.toList_append, List.append_assoc]
          rw [← List.append_assoc]
          have e : xs.length + [x].length = (rowE elI xs ++ rowE elI [x]).length := by rw [List.length_append, hrl, hrn]; rfl
          rw [e]
          exact List.take_left
theorem wpList_appI1 {ops : Array Oper} {rest : List Oper} {o : Oper} {a : Act} {w : World} {Q : Exit → Act → World → Prop} (hgd : o.guard = none) (s x : Operand) (t : TypeId)
    (ho : o.op = .call { callee := .builtin .append, args := #[s, x], argTypes := #[t, t] }) (ht : t = elI.tl)
    (B : Nat) (v : Value) (xs : List Int) (hs : a.eval s = v) (hg : Ge elI w B v xs) (b off c : Nat) (y : Int) (hx : a.eval x = .slice (.some ⟨b, off, none⟩) 1 c) (hy : Le elI w (.some ⟨b, off, none⟩) 1 [y])
    (hb : xs.length + 1 ≤ 20000000000000) (hB : B ≤ w.heap.size)
    (h : ∀ v' w', Ge elI w' B v' (xs ++ [y]) → w.grownBy w' v.ownBlock → wpList Try.prog ops Q rest (a.put o.dst v') w') : wpList Try.prog ops Q (o :: rest) a w := by
  subst ht
  refine wpList_plain hgd fun K hK => ?_
  obtain ⟨v', w', hr, k2, k3⟩ := run_appI1 w o.type B v xs hg b off c y hy hb hB
  unfold Oper.wp execOp
  simp only [ho, resolve, invoke, builtin, Sem.run_bind, Sem.run_pure, Result.andThen_ok, List.map_toArray, List.map_cons, List.map_nil, hs, hx, hr]
  exact hK _ _ (h v' w' k2 k3)
/-- A list that is handed in, onto an empty one of the call's own. -/
theorem run_appI0 (w : World) (ty : TypeId) (B g : Nat) (af : Option Addr) (lf cf : Nat) (fr : List Int) (hV : Va w g 3 #[]) (hBg : B ≤ g) (hF : Li w af lf fr) (hnf : af = none → cf = 0) (hl : lf ≤ 17592186043904) (hB : B ≤ w.heap.size) :
    ∃ v' w', (Builtin.append_ #[elI.tl, elI.tl] ty #[.slice (some ⟨g, 0, none⟩) 0 0, .slice af lf cf]).run Try.prog w = .ok v' w' ∧ Ge elI w' B v' fr ∧ w.grownBy w' (some g) := by
  obtain ⟨i, hi, hz, hz1, hz2⟩ := info_parts elI.inf
  have hG : Ge elI w B (.slice (some ⟨g, 0, none⟩) 0 0) [] := Ge.of (E := elI) hV hBg rfl rfl (by decide)
  cases af with
  | none =>
    have h0 : lf = 0 := by
      rcases Nat.eq_zero_or_pos lf with h' | h'
      · exact h'
      · obtain ⟨b, off, e, -⟩ := hF.2 h'; cases e
    subst h0
    obtain rfl : fr = [] := List.length_eq_zero_iff.1 hF.1
    obtain rfl := hnf rfl
    refine ⟨.slice (some ⟨g, 0, none⟩) 0 0, w, ?_, hG, ⟨rfl, rfl, rfl, Nat.le_refl _, fun _ _ _ => rfl⟩⟩
    simp [Builtin.append_, run_underlying elI.und, sizeOf, typeInfo, hi, Builtin.lenOf, Builtin.firstCells, loadCells, loadCellsFrom, storeCells]
  | some ad =>
    have hnews : ∀ j u, (rowE elI fr)[j]? = some u → w.cell? (ad.add j) = some u := fun j u hj => by
      have hj' : j < fr.length := by
        rcases Nat.lt_or_ge j (rowE elI fr).length with h' | h'
        · rwa [rowI_len] at h'
        · rw [List.getElem?_eq_none h'] at hj; cases hj
      obtain ⟨b, o, e, hc⟩ := hF.le.2 (by have := hF.1; omega)
      cases e
      rw [Addr.add_lit]
      exact hc j u hj
    obtain ⟨v', w', hr, k2, k3, -⟩ := run_append_own_at (P := Try.prog) (w := w) B elI.tl ty elI.te i elI.z elI.s elI.by8 elI.und hi hz hz1 hz2 elI.zs elI.pos (.slice (some ⟨g, 0, none⟩) 0 0) 0 [] hG ad lf cf (rowE elI fr) (by rw [rowI_len, hF.1]; exact (Nat.mul_one _).symm) hnews (rowE_one elI _) (by unfold maxLen; omega) (by show (0 + lf) * 8 ≤ _; omega) hB
    refine ⟨v', w', hr, ?_, k3⟩
    show World.ownsRow _ _ _ _ _ _ _
    rw [Nat.zero_add, List.nil_append] at k2
    rw [hF.1]
    exact k2
theorem wpList_appI0 {ops : Array Oper} {rest : List Oper} {o : Oper} {a : Act} {w : World} {Q : Exit → Act → World → Prop} (hgd : o.guard = none) (s x : Operand) (t : TypeId)
    (ho : o.op = .call { callee := .builtin .append, args := #[s, x], argTypes := #[t, t] }) (ht : t = elI.tl)
    (B g : Nat) (af : Option Addr) (lf cf : Nat) (fr : List Int) (hs : a.eval s = .slice (some ⟨g, 0, none⟩) 0 0) (hV : Va w g 3 #[]) (hBg : B ≤ g) (hx : a.eval x = .slice af lf cf) (hF : Li w af lf fr) (hnf : af = none → cf = 0) (hl : lf ≤ 17592186043904) (hB : B ≤ w.heap.size)
    (h : ∀ v' w', Ge elI w' B v' fr → w.grownBy w' (some g) → wpList Try.prog ops Q rest (a.put o.dst v') w') : wpList Try.prog ops Q (o :: rest) a w := by
  subst ht
  refine wpList_plain hgd fun K hK => ?_
  obtain ⟨v', w', hr, k2, k3⟩ := run_appI0 w o.type B g af lf cf fr hV hBg hF hnf hl hB
  unfold Oper.wp execOp
  simp only [ho, resolve, invoke, builtin, Sem.run_bind, Sem.run_pure, Result.andThen_ok, List.map_toArray, List.map_cons, List.map_nil, hs, hx, hr]
  exact hK _ _ (h v' w' k2 k3)
end Go.Proofs.Ytonhooaboieapaa
