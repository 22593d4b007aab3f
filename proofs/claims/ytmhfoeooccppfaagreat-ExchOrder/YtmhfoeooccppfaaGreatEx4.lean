/-
  exchange: slices.Insert of one quote, slices.Clone of a pair's quotes.
-/
import Derived.Test.YtmhfoeooccppfaaGreatEx3
import Derived.Shelf.Spec.SlicesInsertGrow
import Derived.Lib.SmallJoins
namespace Go.Proofs.YtmhfoeooccppfaaGreat
open Go.RowKit Go.Shelf
set_option linter.unusedVariables false
set_option maxRecDepth 20000

/-- copy of elements of s cells into a row that is known whole. -/
theorem run_copy_rowK {P : Program} (w : World) (dT sT ty elem : TypeId) (s g o dLen dCap : Nat) (a : Addr) (sLen sCap : Nat) (cur : Array Value) (t : TypeId) (cs : List Value)
    (hu : P.underlying dT = some (.slice elem)) (hs : (P.info? elem).map (·.size) = some s)
    (hg : w.heap[g]? = some (.cells cur t (0, 0))) (hn : Nat.min sLen dLen * s = cs.length)
    (hsrc : ∀ j v, cs[j]? = some v → w.cell? (a.add j) = some v) (hfit : o + cs.length ≤ cur.size) (h1 : ∀ v ∈ cs, v.oneCell' = true) :
    (Builtin.copy_ #[dT, sT] ty #[.slice (some ⟨g, o, none⟩) dLen dCap, .slice (some a) sLen sCap]).run P w =
      .ok (goInt (Nat.min sLen dLen)) (w.setRow g (cur.toList.take o ++ cs ++ cur.toList.drop (o + cs.length)).toArray) := by
  have hl := run_loadCells_list (P := P) w a cs hsrc
  have hst := run_storeCells_at P g o t cs 0 cur w hg (by simpa using hfit) h1
  cases hq : P.info? elem with
  | none => simp [hq] at hs
  | some i =>
    have hi : i.size = s := by simpa [hq] using hs
    simp [Builtin.copy_, run_underlying hu, Builtin.lenOf, Builtin.firstCells, sizeOf, typeInfo, hq, hi, hn, hl, hst]
theorem sizeQ : (Tryz.prog.info? 76).map (·.size) = some 2 := by kernel_rfl
/-- A row that is put anew: a list in its front part. -/
theorem Ge.row {w : World} {B g n cap : Nat} {xs : List (Int × Nat)} {cur : Array Value} (hh : w.heap[g]? = some (.cells cur 76 (0, 0))) (hB : B ≤ g) (hl : xs.length = n) (hc : n ≤ cap) (hm : cap ≤ maxLen) (hs : cur.size = cap * 2) (ht : cur.toList.take (n * 2) = rowE elQ xs) : Ge elQ w B (.slice (some ⟨g, 0, none⟩) n cap) xs := by
  subst hl
  exact ⟨rowE_length elQ xs, .inr ⟨g, cap, cur, rfl, hB, hh, hc, hm, hs, ht⟩⟩
theorem rowE_take (xs : List (Int × Nat)) (i : Nat) : rowE elQ (xs.take i) = (rowE elQ xs).take (i * 2) := by
  rcases Nat.lt_or_ge i xs.length with h | h
  · have e : rowE elQ xs = rowE elQ (xs.take i) ++ rowE elQ (xs.drop i) := by rw [← rowE_append, List.take_append_drop]
    have hl : (rowE elQ (xs.take i)).length = i * 2 := by rw [rowE_length, List.length_take, Nat.min_eq_left (by omega)]; rfl
    rw [e, ← hl, List.take_left']
    rfl
  · rw [List.take_of_length_le h, List.take_of_length_le]
    rw [rowE_length]
    exact Nat.mul_le_mul_right 2 h
theorem rowE_drop (xs : List (Int × Nat)) (i : Nat) (h : i ≤ xs.length) : rowE elQ (xs.drop i) = (rowE elQ xs).drop (i * 2) := by
  have e : rowE elQ xs = rowE elQ (xs.take i) ++ rowE elQ (xs.drop i) := by rw [← rowE_append, List.take_append_drop]
  have hl : (rowE elQ (xs.take i)).length = i * 2 := by rw [rowE_length, List.length_take, Nat.min_eq_left h]; rfl
  rw [e, ← hl, List.drop_left']
  rfl
theorem rowE_ins (xs : List (Int × Nat)) (i : Nat) (x : Int × Nat) : rowE elQ (xs.take i ++ x :: xs.drop i) = rowE elQ (xs.take i) ++ (elQ.enc x ++ rowE elQ (xs.drop i)) := by
  rw [rowE_append, rowE_cons]
theorem grown_row {w w' : World} (g : Nat) (hs : w'.heap.size = w.heap.size) (h1 : w'.os = w.os) (h2 : w'.tape = w.tape) (h3 : w'.output = w.output) (hb : ∀ k, k ≠ g → w'.heap[k]? = w.heap[k]?) : w.grownBy w' (some g) :=
  ⟨h1, h2, h3, by rw [hs]; exact Nat.le_refl _, fun k _ hne => hb k (fun e => hne (by rw [e]))⟩
/-- No limb among these cells. -/
def NU (cs : List Value) : Prop := ∀ u ∈ cs, ∀ z : Int, u ≠ .int .u64 z
theorem NU.app {a b : List Value} (h : NU a) (g : NU b) : NU (a ++ b) := fun u hu => by
  rcases List.mem_append.1 hu with hu | hu
  · exact h u hu
  · exact g u hu
theorem NU.take {a : List Value} (h : NU a) (n : Nat) : NU (a.take n) := fun u hu => h u (List.mem_of_mem_take hu)
theorem NU.drop {a : List Value} (h : NU a) (n : Nat) : NU (a.drop n) := fun u hu => h u (List.mem_of_mem_drop hu)
theorem nu_enc (x : Int × Nat) : NU (elQ.enc x) := fun u hu z e => by
  simp [elQ] at hu
  rcases hu with h | h <;> (rw [h] at e; cases e)
theorem nu_row (xs : List (Int × Nat)) : NU (rowE elQ xs) := fun u hu => by
  simp only [rowE, List.mem_flatMap] at hu
  obtain ⟨x, -, hx⟩ := hu
  exact nu_enc x u hx
theorem nu_zero (n : Nat) : NU (Builtin.zeroCells (Value.agg #[.int .i64 0, .float .f64 0]).cells n).toList := fun u hu z e => by
  simp only [Builtin.zeroCells, Array.toList_map, List.mem_map] at hu
  obtain ⟨i, -, hi⟩ := hu
  have hs : (Value.agg #[.int .i64 0, .float .f64 0]).cells = #[.int .i64 0, .float .f64 0] := rfl
  rw [hs] at hi
  have h2 : i % 2 = 0 ∨ i % 2 = 1 := by omega
  have h3 : (#[.int .i64 0, .float .f64 0] : Array Value)[i % (#[.int .i64 0, .float .f64 0] : Array Value).size]! = u := hi
  rw [show (#[.int .i64 0, .float .f64 0] : Array Value).size = 2 from rfl] at h3
  rcases h2 with h2 | h2 <;> (rw [h2] at h3; rw [← h3] at e; cases e)
/-- A row of one's own without a limb. -/
def NoU (w : World) (v : Value) : Prop := ∀ g, v.ownBlock = some g → ∀ i z, w.cell? ⟨g, i, none⟩ ≠ some (.int .u64 z)
theorem NoU.nil (w : World) : NoU w (.slice none 0 0) := fun g hg => by cases hg
theorem NoU.of {w : World} {v : Value} {g : Nat} {cur : Array Value} {t : TypeId} (hv : v.ownBlock = some g) (hh : w.heap[g]? = some (.cells cur t (0, 0))) (h : NU cur.toList) : NoU w v := fun g' hg' i z e => by
  rw [hv] at hg'
  cases hg'
  simp only [World.cell?, hh] at e
  exact h _ (Array.mem_toList_iff.2 (Array.mem_of_getElem? (by simpa using e))) z rfl
theorem NoU.nu {w : World} {v : Value} {g : Nat} {cur : Array Value} {t : TypeId} (h : NoU w v) (hv : v.ownBlock = some g) (hh : w.heap[g]? = some (.cells cur t (0, 0))) : NU cur.toList := fun u hu z e => by
  obtain ⟨i, hi, e2⟩ := List.mem_iff_getElem.1 hu
  refine h g hv i z ?_
  simp only [World.cell?, hh]
  rw [← e]
  have hi' : i < cur.size := by simpa using hi
  have : cur[i]? = some u := by rw [Array.getElem?_eq_getElem hi', ← e2]; simp
  simpa using this
theorem NoU.kept {w w' : World} {v : Value} (h : NoU w v) (hk : ∀ k, v.ownBlock = some k → w'.heap[k]? = w.heap[k]?) : NoU w' v := fun g hg i z e => h g hg i z (by
  simp only [World.cell?, hk g hg] at e
  simpa only [World.cell?] using e)
theorem run_appU (w : World) (ty : TypeId) (B : Nat) (v : Value) (xs : List (Int × Nat)) (hg : Ge elQ w B v xs) (hU : NoU w v) (b off m c : Nat) (ys : List (Int × Nat)) (hy : Le elQ w (.some ⟨b, off, none⟩) m ys) (hm : 0 < m) (hb : xs.length + m ≤ 1000000000000) (hB : B ≤ w.heap.size) :
    ∃ v' w', (Builtin.append_ #[elQ.tl, elQ.tl] ty #[v, .slice (.some ⟨b, off, none⟩) m c]).run Tryz.prog w = .ok v' w' ∧ Ge elQ w' B v' (xs ++ ys) ∧ w.grownBy w' v.ownBlock ∧ (v'.ownBlock = v.ownBlock ∨ v'.ownBlock = some w.heap.size) ∧ NoU w' v' := by
  obtain ⟨v', w', hr, k2, k3, k5⟩ := run_appE (E := elQ) w ty B v xs hg b off m c ys hy hb hB
  refine ⟨v', w', hr, k2, k3, k5, ?_⟩
  obtain ⟨i0, hi, hz0, hz1, hz2⟩ := info_parts infoQ
  have hly : (rowE elQ ys).length = m * i0.size := by rw [rowE_length, hy.1, hz1]; rfl
  have hnx := hg.1
  obtain ⟨h1, h2 | ⟨g, cap, cur, rfl, hBg, hh, hc, hmx, hs, ht⟩⟩ := hg
  · obtain ⟨rfl, h0⟩ := h2
    have e := run_append_nil (P := Tryz.prog) w elQ.tl ty elQ.te i0 _ elQ.und hi hz0 ⟨b, off, none⟩ m c (rowE elQ ys) hly hy.news hm (by omega) (by rw [hz2]; omega)
    rw [hr] at e
    injection e with e1 e2
    subst e1; subst e2
    refine NoU.of rfl (heap_alloc_new w.drew _) ?_
    rw [Array.toList_append]
    exact (nu_row ys).app (nu_zero _)
  · have hlx : (rowE elQ xs).length = xs.length * i0.size := by rw [rowE_length, hz1]; rfl
    have hcur := hU.nu rfl hh
    by_cases hroom : xs.length + m ≤ cap
    · have e := run_append_room (P := Tryz.prog) w elQ.tl ty elQ.te i0 elQ.und hi g xs.length cap cur hh ⟨b, off, none⟩ m c (rowE elQ ys) hly hy.news (rowE_one elQ _) hroom (by rw [hly, hz1, hs]; show _ ≤ cap * 2; omega)
      rw [hr] at e
      injection e with e1 e2
      subst e1; subst e2
      refine NoU.of rfl (setRow_heap w g cur _ _ _ hh) ?_
      exact ((hcur.take _).app (nu_row ys)).app (hcur.drop _)
    · have holds : ∀ j u, (rowE elQ xs)[j]? = some u → w.cell? ((⟨g, 0, none⟩ : Addr).add j) = some u := World.ownsRow.cells (g := g) ⟨h1, .inr ⟨g, cap, cur, rfl, hBg, hh, hc, hmx, hs, ht⟩⟩ rfl
      have e := run_append_grow (P := Tryz.prog) w elQ.tl ty elQ.te i0 _ elQ.und hi hz0 ⟨g, 0, none⟩ xs.length cap (rowE elQ xs) hlx holds ⟨b, off, none⟩ m c (rowE elQ ys) hly hy.news (by omega) (by omega) (growslice_fits (by omega) (by rw [hz2]; omega))
      rw [hr] at e
      injection e with e1 e2
      subst e1; subst e2
      refine NoU.of rfl (heap_alloc_new w.drew _) ?_
      rw [Array.toList_append, Array.toList_append]
      exact ((nu_row xs).app (nu_row ys)).app (nu_zero _)
theorem wpList_appU {ops : Array Oper} {rest : List Oper} {o : Oper} {a : Act} {w : World} {Q : Exit → Act → World → Prop} (hgd : o.guard = none) (s x : Operand) (t : TypeId)
    (ho : o.op = .call { callee := .builtin .append, args := #[s, x], argTypes := #[t, t] }) (ht : t = elQ.tl)
    (B : Nat) (v : Value) (xs : List (Int × Nat)) (hs : a.eval s = v) (hg : Ge elQ w B v xs) (hU : NoU w v) (b off m c : Nat) (ys : List (Int × Nat)) (hx : a.eval x = .slice (.some ⟨b, off, none⟩) m c) (hy : Le elQ w (.some ⟨b, off, none⟩) m ys) (hm : 0 < m)
    (hb : xs.length + m ≤ 1000000000000) (hB : B ≤ w.heap.size)
    (h : ∀ v' w', Ge elQ w' B v' (xs ++ ys) → w.grownBy w' v.ownBlock → (v'.ownBlock = v.ownBlock ∨ v'.ownBlock = some w.heap.size) → NoU w' v' → wpList Tryz.prog ops Q rest (a.put o.dst v') w') : wpList Tryz.prog ops Q (o :: rest) a w := by
  subst ht
  refine wpList_plain hgd fun K hK => ?_
  obtain ⟨v', w', hr, k2, k3, k5, k6⟩ := run_appU w o.type B v xs hg hU b off m c ys hy hm hb hB
  unfold Oper.wp execOp
  simp only [ho, resolve, invoke, builtin, Sem.run_bind, Sem.run_pure, Result.andThen_ok, List.map_toArray, List.map_cons, List.map_nil, hs, hx, hr]
  exact hK _ _ (h v' w' k2 k3 k5 k6)
end Go.Proofs.YtmhfoeooccppfaaGreat
