/-
  MoneyTexts (P9.3): of any currency and units the program's Text is the document's, or the same error. For every input; under the condition that the listed variables (the powers of ten of strconv and of money, among others) hold what the program's text lays.
-/
import Derived.Test.YtigimdcaakfckaaGreatDoorWtP
import Derived.Test.YtigimdcaakfckaaGreatDoorDecT
import Derived.Test.YtigimdcaakfckaaGreatDoorGrow
import Derived.Laws.MakeOwn
import Derived.Laws.IdiomStrings
import Derived.Test.YtigimdcaakfckaaGreatDoorMy3
import Derived.Test.YtigimdcaakfckaaGreatDoorWo9
import Derived.Test.YtigimdcaakfckaaGreatDoorMyQ
import Derived.Test.YtigimdcaakfckaaGreatDoorAw9
import Derived.Test.YtigimdcaakfckaaGreatDoorCards
import Derived.Test.YtigimdcaakfckaaGreatDoorTie
import Derived.Lay
import Derived.LaidLaws
import Derived.MakeChecks
import Derived.SevenTiedAt
import Derived.WalkKit
import Derived.Test.YtigimdcaakfckaaGreatDoorLaidM
import Derived.ProofKit
import Derived.OpenShut
import Derived.ShutString
import Derived.ChangeOld
import Derived.SizedLaws
import Derived.Lib.SmallJoins
namespace Go.Proofs.YtigimdcaakfckaaGreatDoor
set_option linter.unusedVariables false

/-- A digit's byte. -/
def bd (z : Int) : UInt8 := UInt8.ofNat (48 + z.toNat)
theorem bd_nat {z : Int} (h : 0 ≤ z ∧ z < 10) : ((bd z).toNat : Int) = 48 + z := by
  unfold bd
  rw [UInt8.toNat_ofNat']
  omega
theorem bd_wv {z : Int} (h : 0 ≤ z ∧ z < 10) : (wv (bd z) : Int) = z := by
  have := bd_nat h
  unfold wv
  rw [if_pos (by omega)]
  omega
def tB (os : List Int) : List UInt8 := (os.map bd).reverse
theorem tB_len (os : List Int) : (tB os).length = os.length := by simp [tB]
theorem tB_tv : ∀ {os : List Int}, D10 os → (tv 10 (tB os) : Int) = lv os
  | [], _ => rfl
  | z :: r, h => by
    have ih := tB_tv (os := r) (fun y hy => h y (by simp [hy]))
    have hz := bd_wv (h z (by simp))
    have e : tB (z :: r) = tB r ++ [bd z] := by simp [tB]
    rw [e, tv_snoc, lv]
    omega
theorem tB_dig {os : List Int} (h : D10 os) : Dig 10 (tB os) := by
  intro c hc
  simp only [tB, List.mem_reverse, List.mem_map] at hc
  obtain ⟨z, hz, rfl⟩ := hc
  have := bd_wv (h z hz)
  have := h z hz
  omega
theorem tB_get {os : List Int} {j : Nat} (hj : j < os.length) : (tB os)[os.length - 1 - j]? = some (bd (os.getD j 0)) := by
  unfold tB
  rw [List.getElem?_reverse (by simp; omega)]
  simp only [List.length_map]
  rw [show os.length - 1 - (os.length - 1 - j) = j by omega, List.getElem?_map, List.getElem?_eq_getElem hj, List.getD_eq_getElem?_getD, List.getElem?_eq_getElem hj]
  rfl
theorem tB_tx {os : List Int} (h : D10 os) (ne : os ≠ []) (ht : os = [0] ∨ Tp9 os) {n : Nat} (hn : lv os = n) : Tx 10 (tB os) n := by
  refine ⟨by simpa [tB] using ne, tB_dig h, by have := tB_tv h; omega, fun h0 => ?_⟩
  rcases ht with rfl | ht
  · rfl
  · exfalso
    have hl : 0 < os.length := List.length_pos_iff.2 ne
    have := tB_get (os := os) (j := os.length - 1) (by omega)
    rw [show os.length - 1 - (os.length - 1) = 0 by omega, ← List.head?_eq_getElem?, h0] at this
    have hb : (48 : UInt8) = bd (os.getD (os.length - 1) 0) := Option.some.inj this
    have h1 := bd_nat (h.getD (os.length - 1))
    rw [← hb] at h1
    have : ((48 : UInt8).toNat : Int) = 48 := rfl
    exact ht.2 (by omega)
theorem tB_pad (os : List Int) (D : Nat) : tB (os ++ List.replicate (D + 1 - os.length) 0) = padL D (tB os) := by
  unfold tB padL
  rw [List.map_append, List.reverse_append, List.map_replicate, List.reverse_replicate, List.length_reverse, List.length_map]
  rfl
/-- What is written ahead of place k. -/
def Pk (T : List UInt8) (D k : Nat) : List UInt8 := if 0 < D ∧ k ≤ D then T.take (T.length - D) ++ 46 :: (T.drop (T.length - D)).take (D - k) else T.take (T.length - k)
theorem pk_start {T : List UInt8} {D : Nat} (h : D < T.length) : Pk T D T.length = [] := by
  unfold Pk; rw [if_neg (by omega), Nat.sub_self, List.take_zero]
theorem pk_end {T : List UInt8} {D : Nat} (h : D < T.length) : Pk T D 0 = ptL D T := by
  unfold Pk ptL
  by_cases h0 : D = 0
  · rw [if_neg (by omega), if_pos h0, Nat.sub_zero, List.take_length]
  · rw [if_pos (by omega), if_neg h0, Nat.sub_zero, List.take_of_length_le (l := T.drop (T.length - D)) (by rw [List.length_drop]; omega)]
theorem pk_plain {T : List UInt8} {D j : Nat} {c : UInt8} (h : D < T.length) (hj : j < T.length) (hc : T[T.length - 1 - j]? = some c) (hn : ¬ (j = D ∧ 0 < j)) : Pk T D (j + 1) ++ [c] = Pk T D j := by
  unfold Pk
  by_cases h0 : 0 < D ∧ j < D
  · rw [if_pos (by omega), if_pos (by omega), List.append_assoc, List.cons_append, show D - j = (D - (j + 1)) + 1 by omega, List.take_add_one, List.getElem?_drop, show T.length - D + (D - (j + 1)) = T.length - 1 - j by omega, hc]
    rfl
  · rw [if_neg (by omega), if_neg (by omega), show T.length - j = (T.length - (j + 1)) + 1 by omega, List.take_add_one, show T.length - (j + 1) = T.length - 1 - j by omega, hc]
    rfl
theorem pk_point {T : List UInt8} {D : Nat} {c : UInt8} (h : D < T.length) (hD : 0 < D) (hc : T[T.length - 1 - D]? = some c) : Pk T D (D + 1) ++ [c] ++ [46] = Pk T D D := by
  unfold Pk
  rw [if_neg (by omega), if_pos ⟨hD, Nat.le_refl _⟩, Nat.sub_self, List.take_zero, show T.length - D = (T.length - (D + 1)) + 1 by omega, List.take_add_one, show T.length - (D + 1) = T.length - 1 - D by omega, hc]
  rfl
end Go.Proofs.YtigimdcaakfckaaGreatDoor
namespace Go.Proofs.YtigimdcaakfckaaGreatDoor
open Go.RowKit Go.Shelf
set_option linter.unusedVariables false

def rowU (cs : List UInt8) : List Value := cs.map (fun c => Value.int .u8 (c.toNat : Int))
theorem rowU_length (cs : List UInt8) : (rowU cs).length = cs.length := by simp [rowU]
theorem rowU_append (a b : List UInt8) : rowU (a ++ b) = rowU a ++ rowU b := by simp [rowU]
theorem rowU_one (cs : List UInt8) : ∀ v ∈ rowU cs, v.oneCell' = true := by
  intro v hv
  simp only [rowU, List.mem_map] at hv
  obtain ⟨x, -, rfl⟩ := hv
  rfl
def GrU (w : World) (B : Nat) (v : Value) (cs : List UInt8) : Prop := w.ownsRow B 5 1 v cs.length (rowU cs)
theorem GrU.nil (w : World) (B : Nat) : GrU w B (.slice none 0 0) [] := ⟨rfl, .inl ⟨rfl, rfl⟩⟩
theorem GrU.alloc {w : World} {B : Nat} {v : Value} {cs : List UInt8} (h : GrU w B v cs) (o : Obj) : GrU (w.alloc o) B v cs := World.ownsRow.alloc h o
theorem GrU.block {w : World} {B : Nat} {v : Value} {cs : List UInt8} (h : GrU w B v cs) : ∀ k, v.ownBlock = some k → B ≤ k := by
  obtain ⟨h1, h2 | ⟨g, cap, cur, rfl, hB, hh, hc, hm, hs, ht⟩⟩ := h
  · obtain ⟨rfl, h0⟩ := h2
    intro k hk; cases hk
  · intro k hk; cases hk; exact hB
theorem info1U : (Tryz.prog.info? 5).map (fun i => (i.zero, i.size, i.bytes)) = some (some (.int .u8 0), 1, 1) := by kernel_rfl
/-- append of one byte. -/
theorem wpList_appU {ops : Array Oper} {rest : List Oper} {o : Oper} {a : Act} {w : World} {Q : Exit → Act → World → Prop} (hgd : o.guard = none) (s x : Operand)
    (ho : o.op = .call { callee := .builtin .append, args := #[s, x], argTypes := #[81, 81] })
    (B : Nat) (v : Value) (cs : List UInt8) (hs : a.eval s = v) (hg : GrU w B v cs) (g : Nat) (c : UInt8) (hx : a.eval x = .slice (some ⟨g, 0, none⟩) 1 1) (hn : w.cell? ⟨g, 0, none⟩ = some (.int .u8 (c.toNat : Int)))
    (hb : cs.length + 1 ≤ 17592186044416) (hB : B ≤ w.heap.size)
    (h : ∀ v' w', Hid (GrU w' B v' (cs ++ [c])) → Below B w w' → wpList Tryz.prog ops Q rest (a.put o.dst v') w') : wpList Tryz.prog ops Q (o :: rest) a w := by
  obtain ⟨i0, hi, hz0, hz1, hz2⟩ := info_parts info1U
  refine wpList_append_own w hgd s x _ ho B 5 i0 (.int .u8 0) 1 1 Tryz.underlying81 hi hz0 hz1 hz2 rfl (by decide) v cs.length (rowU cs) hs hg ⟨g, 0, none⟩ 1 1 (rowU [c]) hx rfl ?_ (rowU_one _) (by unfold maxLen; omega) (by omega) hB ?_
  · intro j u hu
    have hj : j = 0 := by
      rcases Nat.lt_or_ge j (rowU [c]).length with h' | h'
      · rw [rowU_length] at h'; simpa using h'
      · rw [List.getElem?_eq_none h'] at hu; cases hu
    subst hj
    cases hu
    rw [addr_add]
    exact hn
  · intro v' w' h2 h3 _
    refine h v' w' ?_ ((Below.refl B w).grown h3 hB hg.block)
    show GrU w' B v' (cs ++ [c])
    unfold GrU
    rw [List.length_append, rowU_append]
    exact h2
theorem GrU.conv {w : World} {B : Nat} {v : Value} {cs : List UInt8} (h : GrU w B v cs) (h0 : cs ≠ []) : (convert 81 9 v).run Tryz.prog w = .ok (.string ⟨cs.toArray⟩) w := by
  obtain ⟨h1, h2 | ⟨g, cap, cur, rfl, hB, hh, hc, hm, hs, ht⟩⟩ := h
  · exact absurd (List.eq_nil_of_length_eq_zero h2.2) h0
  · refine run_convert_bytes_back (P := Tryz.prog) w 81 9 5 ⟨g, 0, none⟩ cap cs Tryz.underlying81 Tryz.underlying5 Tryz.underlying9 (fun j hj => ?_)
    have hr : (rowU cs)[j]? = some (.int .u8 ((cs[j]).toNat : Int)) := by simp [rowU, hj]
    rw [← ht, Nat.mul_one, List.getElem?_take_of_lt hj] at hr
    rw [addr_add, Nat.zero_add]
    simp only [World.cell?, hh]
    simpa using hr
end Go.Proofs.YtigimdcaakfckaaGreatDoor
namespace Go.Proofs.YtigimdcaakfckaaGreatDoor
open Go.RowKit Go.Shelf
set_option linter.unusedVariables false

theorem rpower9 (n : Nat) (hn : n ≤ 4) (w : World) : Calls Tryz.prog 114 #[.int .i64 n] w fun e w' => e = .returned (.int .u64 ((10 ^ n : Nat) : Int)) ∧ w' = w := by
  obtain rfl | rfl | rfl | rfl | rfl : n = 0 ∨ n = 1 ∨ n = 2 ∨ n = 3 ∨ n = 4 := by omega
  · go_enter Tryz.func114, Tryz.ntmps114
    go_wp2_with fail
    refine wp_loop_rounds 1 ?_
    rw [rounds_succ]
    go_wp2_with fail
    go_ret
    exact ⟨rfl, rfl⟩
  · go_enter Tryz.func114, Tryz.ntmps114
    go_wp2_with fail
    refine wp_loop_rounds 2 ?_
    rw [rounds_succ]
    go_wp2_with fail
    rw [rounds_succ]
    go_wp2_with fail
    go_ret
    exact ⟨rfl, rfl⟩
  · go_enter Tryz.func114, Tryz.ntmps114
    go_wp2_with fail
    refine wp_loop_rounds 3 ?_
    rw [rounds_succ]
    go_wp2_with fail
    rw [rounds_succ]
    go_wp2_with fail
    rw [rounds_succ]
    go_wp2_with fail
    go_ret
    exact ⟨rfl, rfl⟩
  · go_enter Tryz.func114, Tryz.ntmps114
    go_wp2_with fail
    refine wp_loop_rounds 4 ?_
    rw [rounds_succ]
    go_wp2_with fail
    rw [rounds_succ]
    go_wp2_with fail
    rw [rounds_succ]
    go_wp2_with fail
    rw [rounds_succ]
    go_wp2_with fail
    go_ret
    exact ⟨rfl, rfl⟩
  · go_enter Tryz.func114, Tryz.ntmps114
    go_wp2_with fail
    refine wp_loop_rounds 5 ?_
    rw [rounds_succ]
    go_wp2_with fail
    rw [rounds_succ]
    go_wp2_with fail
    rw [rounds_succ]
    go_wp2_with fail
    rw [rounds_succ]
    go_wp2_with fail
    rw [rounds_succ]
    go_wp2_with fail
    go_ret
    exact ⟨rfl, rfl⟩
theorem rmost9 (p far : Int) (neg wr : Bool) (w : World) : Calls Tryz.prog 113 #[.agg #[.int .i64 p, .int .u64 far, .bool neg, .bool wr]] w fun e w' => e = .returned (.int .u64 (mostU neg : Int)) ∧ Below w.heap.size w w' := by
  cases neg
  · go_enter Tryz.func113, Tryz.ntmps113
    go_wp2_with fail
    go_ret
    exact ⟨rfl, (Below.refl _ _).alloc (Nat.le_refl _) _⟩
  · go_enter Tryz.func113, Tryz.ntmps113
    go_wp2_with fail
    go_ret
    exact ⟨rfl, (Below.refl _ _).alloc (Nat.le_refl _) _⟩
theorem drop_nil {p : UInt8 → Bool} : ∀ {l : List UInt8}, l.dropWhile p = [] → ∀ c ∈ l, p c = true
  | [], _, c, hc => by cases hc
  | x :: l, h, c, hc => by
    rw [List.dropWhile_cons] at h
    split at h
    next hx =>
      rcases List.mem_cons.1 hc with rfl | h'
      · exact hx
      · exact drop_nil h c h'
    next => cases h
set_option maxHeartbeats 2000000 in
theorem rcheck9_ok (nm : List UInt8) (D : Int) (h : Cur nm D) (w : World) : Calls Tryz.prog 27 #[.agg #[.string ⟨nm.toArray⟩, .int .i64 D]] w fun e w' => e = .returned (.int .i64 0) ∧ Below w.heap.size w w' := by
  obtain ⟨h1, h2, h3, h4⟩ := h
  obtain ⟨x, y, z, rfl⟩ : ∃ x y z, nm = [x, y, z] := by
    match nm, h1 with
    | [x, y, z], _ => exact ⟨x, y, z, rfl⟩
  have hc : ∀ c ∈ [x, y, z], 65 ≤ c.toNat ∧ c.toNat ≤ 90 := by
    intro c hc
    have := drop_nil h2 c hc
    simpa [isCap] using this
  have hx := hc x (by simp)
  have hy := hc y (by simp)
  have hz := hc z (by simp)
  have gx : (ByteArray.mk #[x, y, z])[0]'(show 0 < 3 by decide) = x := rfl
  have gy : (ByteArray.mk #[x, y, z])[1]'(show 1 < 3 by decide) = y := rfl
  have gz : (ByteArray.mk #[x, y, z])[2]'(show 2 < 3 by decide) = z := rfl
  have x1 : ¬ ((x.toNat : Int) < 65) := by omega
  have x2 : ¬ ((90 : Int) < x.toNat) := by omega
  have y1 : ¬ ((y.toNat : Int) < 65) := by omega
  have y2 : ¬ ((90 : Int) < y.toNat) := by omega
  have z1 : ¬ ((z.toNat : Int) < 65) := by omega
  have z2 : ¬ ((90 : Int) < z.toNat) := by omega
  clear hc h2 h1 hx hy hz
  go_enter Tryz.func27, Tryz.ntmps27
  go_wp2_with fail
  refine wp_loop_rounds 4 ?_
  rw [rounds_succ]
  go_wp2_with fail
  rw [rounds_succ]
  go_wp2_with fail
  rw [rounds_succ]
  go_wp2_with fail
  rw [rounds_succ]
  go_wp2_with fail
  go_ret
  exact ⟨rfl, (Below.refl _ _).alloc (Nat.le_refl _) _⟩
set_option maxHeartbeats 4000000 in
theorem rcheck9_no (nm : List UInt8) (D : Int) (h : ¬ Cur nm D) (w : World) : Calls Tryz.prog 27 #[.agg #[.string ⟨nm.toArray⟩, .int .i64 D]] w fun e w' => e = .returned (.int .i64 90) ∧ Below w.heap.size w w' := by
  by_cases h1 : nm.length = 3
  · have h1' : (nm.length : Int) = 3 := by omega
    by_cases h34 : 0 ≤ D ∧ D ≤ 4
    · have h2 : ¬ nm.dropWhile isCap = [] := fun h2 => h ⟨h1, h2, h34⟩
      obtain ⟨x, y, z, rfl⟩ : ∃ x y z, nm = [x, y, z] := by
        match nm, h1 with
        | [x, y, z], _ => exact ⟨x, y, z, rfl⟩
      obtain ⟨h3, h4⟩ := h34
      have gx : (ByteArray.mk #[x, y, z])[0]'(show 0 < 3 by decide) = x := rfl
      have gy : (ByteArray.mk #[x, y, z])[1]'(show 1 < 3 by decide) = y := rfl
      have gz : (ByteArray.mk #[x, y, z])[2]'(show 2 < 3 by decide) = z := rfl
      by_cases hx : 65 ≤ x.toNat ∧ x.toNat ≤ 90
      · have x1 : ¬ ((x.toNat : Int) < 65) := by omega
        have x2 : ¬ ((90 : Int) < x.toNat) := by omega
        by_cases hy : 65 ≤ y.toNat ∧ y.toNat ≤ 90
        · have y1 : ¬ ((y.toNat : Int) < 65) := by omega
          have y2 : ¬ ((90 : Int) < y.toNat) := by omega
          have hz : ¬ (65 ≤ z.toNat ∧ z.toNat ≤ 90) := fun hz => h2 (by simp [List.dropWhile, isCap, hx, hy, hz])
          clear h2 h hx hy
          rcases (by omega : z.toNat < 65 ∨ 90 < z.toNat) with hz1 | hz1
          · have z1 : (z.toNat : Int) < 65 := by omega
            go_enter Tryz.func27, Tryz.ntmps27
            go_wp2_with fail
            refine wp_loop_rounds 3 ?_
            rw [rounds_succ]
            go_wp2_with fail
            rw [rounds_succ]
            go_wp2_with fail
            rw [rounds_succ]
            go_wp2_with fail
            go_ret
            exact ⟨rfl, (Below.refl _ _).alloc (Nat.le_refl _) _⟩
          · have z1 : ¬ (z.toNat : Int) < 65 := by omega
            have z2 : (90 : Int) < z.toNat := by omega
            go_enter Tryz.func27, Tryz.ntmps27
            go_wp2_with fail
            refine wp_loop_rounds 3 ?_
            rw [rounds_succ]
            go_wp2_with fail
            rw [rounds_succ]
            go_wp2_with fail
            rw [rounds_succ]
            go_wp2_with fail
            go_ret
            exact ⟨rfl, (Below.refl _ _).alloc (Nat.le_refl _) _⟩
        · clear h2 h hx
          rcases (by omega : y.toNat < 65 ∨ 90 < y.toNat) with hz1 | hz1
          · have z1 : (y.toNat : Int) < 65 := by omega
            go_enter Tryz.func27, Tryz.ntmps27
            go_wp2_with fail
            refine wp_loop_rounds 2 ?_
            rw [rounds_succ]
            go_wp2_with fail
            rw [rounds_succ]
            go_wp2_with fail
            go_ret
            exact ⟨rfl, (Below.refl _ _).alloc (Nat.le_refl _) _⟩
          · have z1 : ¬ (y.toNat : Int) < 65 := by omega
            have z2 : (90 : Int) < y.toNat := by omega
            go_enter Tryz.func27, Tryz.ntmps27
            go_wp2_with fail
            refine wp_loop_rounds 2 ?_
            rw [rounds_succ]
            go_wp2_with fail
            rw [rounds_succ]
            go_wp2_with fail
            go_ret
            exact ⟨rfl, (Below.refl _ _).alloc (Nat.le_refl _) _⟩
      · clear h2 h
        rcases (by omega : x.toNat < 65 ∨ 90 < x.toNat) with hz1 | hz1
        · have z1 : (x.toNat : Int) < 65 := by omega
          go_enter Tryz.func27, Tryz.ntmps27
          go_wp2_with fail
          refine wp_loop_rounds 1 ?_
          rw [rounds_succ]
          go_wp2_with fail
          go_ret
          exact ⟨rfl, (Below.refl _ _).alloc (Nat.le_refl _) _⟩
        · have z1 : ¬ (x.toNat : Int) < 65 := by omega
          have z2 : (90 : Int) < x.toNat := by omega
          go_enter Tryz.func27, Tryz.ntmps27
          go_wp2_with fail
          refine wp_loop_rounds 1 ?_
          rw [rounds_succ]
          go_wp2_with fail
          go_ret
          exact ⟨rfl, (Below.refl _ _).alloc (Nat.le_refl _) _⟩
    · have hb : (!(decide (D < 0)) && !(decide (4 < D))) = false := by simp; omega
      by_cases h3 : D < 0
      · go_enter Tryz.func27, Tryz.ntmps27
        go_wp2_with fail
        go_ret
        exact ⟨rfl, (Below.refl _ _).alloc (Nat.le_refl _) _⟩
      · have h4 : 4 < D := by omega
        go_enter Tryz.func27, Tryz.ntmps27
        go_wp2_with fail
        go_ret
        exact ⟨rfl, (Below.refl _ _).alloc (Nat.le_refl _) _⟩
  · have h1' : ¬ (nm.length : Int) = 3 := by omega
    have h1b : ((nm.length : Int) == 3) = false := by simpa using h1'
    go_enter Tryz.func27, Tryz.ntmps27
    go_wp2_with fail
    go_ret
    exact ⟨rfl, (Below.refl _ _).alloc (Nat.le_refl _) _⟩
end Go.Proofs.YtigimdcaakfckaaGreatDoor
namespace Go.Proofs.YtigimdcaakfckaaGreatDoor
open Go.RowKit Go.Shelf
set_option linter.unusedVariables false

theorem pk_len (T : List UInt8) (D k : Nat) : (Pk T D k).length ≤ T.length + 1 := by
  unfold Pk
  split
  · simp; omega
  · simp; omega
theorem pt_ne {T : List UInt8} {D : Nat} (sg : List UInt8) (h : D < T.length) : sg ++ ptL D T ≠ [] := by
  intro e
  have := congrArg List.length e
  have hp : 0 < (ptL D T).length := by
    unfold ptL
    split
    · omega
    · simp only [List.length_append, List.length_take, List.length_cons, List.length_drop]; omega
  rw [List.length_append, List.length_nil] at this
  omega
theorem GrU.shape9 {w : World} {B : Nat} {v : Value} {cs : List UInt8} (h : GrU w B v cs) (h0 : cs ≠ []) : ∃ g cap, v = .slice (some ⟨g, 0, none⟩) cs.length cap := by
  obtain ⟨h1, h2 | ⟨g, cap, cur, rfl, hB, hh, hc, hm, hs, ht⟩⟩ := h
  · exact absurd (List.eq_nil_of_length_eq_zero h2.2) h0
  · exact ⟨g, cap, rfl⟩
theorem ba_three (a b : List UInt8) : (ByteArray.mk a.toArray ++ ByteArray.mk #[32]) ++ ByteArray.mk b.toArray = ByteArray.mk (a ++ 32 :: b).toArray := by
  apply ByteArray.ext
  simp
theorem rsize9 (u : Int) (h1 : -9223372036854775808 ≤ u) (h2 : u ≤ 9223372036854775807) (w : World) : Calls Tryz.prog 50 #[.int .i64 u] w fun e w' => e = .returned (.int .u64 (u.natAbs : Int)) ∧ w' = w := by
  by_cases h0 : u < 0
  · have e1 : IntKind.u64.wrap u = u + 18446744073709551616 := by rw [IntKind.wrap_u64]; omega
    have e2 : IntKind.u64.wrap (-(u + 18446744073709551616)) = (u.natAbs : Int) := by rw [IntKind.wrap_u64]; omega
    go_enter Tryz.func50, Tryz.ntmps50
    go_wp2_with fail
    go_ret
    exact ⟨by first | rfl | simp [e1, e2], rfl⟩
  · have e1 : IntKind.u64.wrap u = u := by rw [IntKind.wrap_u64]; omega
    have e2 : (u.natAbs : Int) = u := by omega
    rw [e2]
    go_enter Tryz.func50, Tryz.ntmps50
    go_wp2_with fail
    go_ret
    exact ⟨by first | rfl | simp [e1], rfl⟩
set_option maxRecDepth 20000 in
set_option maxHeartbeats 2000000 in
theorem rtxt_no (nm : List UInt8) (D : Int) (u : Int) (w : World) (hC : ¬ Cur nm D) :
    Calls Tryz.prog 34 #[.agg #[.string ⟨nm.toArray⟩, .int .i64 D], .int .i64 u] w fun e w' => e = .returned (.tuple #[.string ⟨#[]⟩, .int .i64 90]) ∧ Below w.heap.size w w' := by
  go_enter Tryz.func34, Tryz.ntmps34
  go_wp2_with fail
  refine ent1 w _ _ (Q := fun W => Calls Tryz.prog _ _ W _) ?_
  intro x0 hb0 hs0 V0
  refine (rcheck9_no nm D hC _).mono ?_
  rintro e x1 ⟨rfl, hb⟩
  have B1 := step hb0 hb
  clear hb hb0 V0 hs0
  go_wp2_with fail
  go_ret2
  exact ⟨rfl, B1⟩
set_option maxRecDepth 20000 in
set_option maxHeartbeats 4000000 in
theorem rtxt9 (nm : List UInt8) (D : Nat) (u : Int) (w : World) (hC : Cur nm D) (h1 : -9223372036854775808 ≤ u) (h2 : u ≤ 9223372036854775807) :
    Calls Tryz.prog 34 #[.agg #[.string ⟨nm.toArray⟩, .int .i64 D], .int .i64 u] w fun e w' => ∃ t, e = .returned (.tuple #[.string ⟨(amt D nm t u).toArray⟩, .int .i64 0]) ∧ Tx 10 t u.natAbs ∧ Below w.heap.size w w' := by
  have hD : D ≤ 4 := by have := hC.2.2.2; omega
  have HNL : Hid (nm.length = 3) := hC.1
  go_enter Tryz.func34, Tryz.ntmps34
  go_wp2_with fail
  refine ent1 w _ _ (Q := fun W => Calls Tryz.prog _ _ W _) ?_
  intro x0 B0 hs0 V0
  refine (rcheck9_ok nm D hC _).mono ?_
  rintro e x1 ⟨rfl, hb⟩
  replace V0 := Va.after hb V0
  replace B0 := step B0 hb
  clear hb hs0 hC
  go_wp2_with fail
  refine (rsize9 u h1 h2 _).mono ?_
  rintro e x1' ⟨rfl, hw⟩
  rw [hw]
  clear hw
  go_wp2_with fail
  refine (rsmall_any _ ⟨by omega, by omega⟩ _).mono ?_
  rintro e x2 ⟨a2, m2, c2, zs, rfl, hc2, hm2, hs2, hu2, hn2, hb⟩
  replace V0 := Va.after hb V0
  replace B0 := step B0 hb
  clear hb
  go_wp2_with fail
  refine (worths9 a2 m2 c2 zs _ hs2 (by omega) (by rw [hn2]; omega) (by rw [hn2]; omega)).mono ?_
  rintro e x3 ⟨v3, os, rfl, hG, hne, hdig, hlv, hle, htop, hb⟩
  have V3 : Va x3 _ _ _ := Va.after hb V0
  have B3 := step B0 hb
  have hX : x2.heap.size ≤ x3.heap.size := hb.size
  have HG0 : Hid (Gr x3 x2.heap.size v3 (os ++ List.replicate 0 0)) := by rw [List.replicate_zero, List.append_nil]; exact hG
  rw [hn2] at hlv
  have HTX : Hid (Tx 10 (tB os) u.natAbs) := tB_tx hdig hne htop hlv
  have hpos : 0 < os.length := List.length_pos_iff.2 hne
  have wlt : w.heap.size < x2.heap.size := V0.lt
  clear hb V0 B0 hG hs2 hn2 hu2 htop hlv hc2 hm2
  obtain ⟨B2, hB2⟩ : ∃ B2, x2.heap.size = B2 := ⟨_, rfl⟩
  rw [hB2] at HG0 hX wlt
  clear hB2
  go_wp2_with fail
  go_loopw [6] (fun wv wr => ∃ j : Nat, j ≤ D + 1 - os.length ∧ Hid (Gr wr B2 wv (os ++ List.replicate j 0)) ∧ Va wr w.heap.size 47 #[.string ⟨nm.toArray⟩, .int .i64 D] ∧ Below w.heap.size w wr ∧ B2 ≤ wr.heap.size) (fun wv _ => 40 - slen9 wv)
  case atStart => exact ⟨0, by omega, HG0, V3, B3, hX⟩
  case round =>
    obtain ⟨j, hj, HG, V, hB, hsz⟩ := hrel
    clear HG0 V3 B3 hX
    have hdig2 : D10 (os ++ List.replicate j 0) := by
      intro z hz
      rcases List.mem_append.1 hz with h | h
      · exact hdig z h
      · rw [(List.mem_replicate.1 h).2]; exact ⟨by decide, by decide⟩
    have hlen : (os ++ List.replicate j 0).length = os.length + j := by simp
    have hl9 := HG.out.len9
    obtain ⟨a6, c6, hv6, hc6, hs6⟩ := HG.out.sl hdig2.limbs
    rw [hlen] at hv6 hc6 hs6 hl9
    subst hv6
    have d0 := V.c0
    have d1 := V.c1
    have lt0 := V.lt
    by_cases hgo : os.length + j ≤ D
    · have hgi : ((os.length + j : Nat) : Int) ≤ D := by omega
      have HC : Hid (Sl (wr.alloc (.cells #[.int .u64 0] 77)) (some ⟨wr.heap.size, 0, none⟩) 1 [0]) := Own.sl (cs := [0]) (heap_alloc_new _ _) (fun z hz => by rw [List.mem_singleton.1 hz]; exact ⟨by decide, by decide⟩)
      have HGa : Hid (Gr (wr.alloc (.cells #[.int .u64 0] 77)) B2 (.slice a6 (os.length + j) c6) (os ++ List.replicate j 0)) := HG.out.alloc _
      have hszA : B2 ≤ (wr.alloc (.cells #[.int .u64 0] 77)).heap.size := by simp; omega
      go_wp2_with (at_builtin; refine wpList_app_sl rfl (.tmp 21) (.tmp 22) rfl B2 _ (os ++ List.replicate j 0) rfl HGa.out wr.heap.size 0 1 1 [0] rfl HC.out (by omega) hszA ?_; intro v1 w1 HG1 hb1)
      have hBA := hB.alloc hB.size (.cells #[.int .u64 0] 77)
      have V1 : Va w1 w.heap.size 47 #[.string ⟨nm.toArray⟩, .int .i64 D] := (V.old _).below hb1 wlt
      have hB1 : Below w.heap.size w w1 := hBA.trans (hb1.mono (by omega))
      have hsz1 : B2 ≤ w1.heap.size := Nat.le_trans hszA hb1.size
      have HG2 : Hid (Gr w1 B2 v1 (os ++ List.replicate (j + 1) 0)) := by
        have := HG1.out
        rw [List.append_assoc, ← List.replicate_succ'] at this
        exact this
      have hl2 := HG2.out.len9
      rw [List.length_append, List.length_replicate] at hl2
      clear HC HGa hb1 hBA HG HG1
      go_wp2_with fail
      go_roundw
      case rel => exact ⟨j + 1, by omega, HG2, V1, hB1, hsz1⟩
      case measure => omega
    · have hgi : ¬ ((os.length + j : Nat) : Int) ≤ D := by omega
      have hje : j = D + 1 - os.length := by omega
      have hT : tB (os ++ List.replicate j 0) = padL D (tB os) := by rw [hje]; exact tB_pad os D
      have hTl : (padL D (tB os)).length = os.length + j := by rw [← hT, tB_len, hlen]
      have hTg : ∀ i, i < os.length + j → (padL D (tB os))[os.length + j - 1 - i]? = some (bd ((os ++ List.replicate j 0).getD i 0)) := by
        intro i hi
        rw [← hT]
        have := tB_get (os := os ++ List.replicate j 0) (j := i) (by omega)
        rwa [hlen] at this
      obtain ⟨L, hL⟩ : ∃ L, os.length + j = L := ⟨_, rfl⟩
      obtain ⟨ws, hws⟩ : ∃ ws, os ++ List.replicate j 0 = ws := ⟨_, rfl⟩
      obtain ⟨T, hTT⟩ : ∃ T, padL D (tB os) = T := ⟨_, rfl⟩
      have HA : Hid (∀ t, t = tB os → textL (decide (u < 0)) D t = sgL (decide (u < 0)) (ptL D T)) := by
        rintro t rfl; unfold textL; rw [hTT]
      rw [hTT, hws, hL] at hTg
      rw [hTT, hL] at hTl
      rw [hws] at hdig2
      rw [hws, hL] at hs6
      rw [hL] at hgi hgo hc6 ⊢
      have hL40 : L ≤ 40 := by omega
      have HTG : Hid (∀ i, i < L → T[L - 1 - i]? = some (bd (ws.getD i 0))) := hTg
      have HTL : Hid (T.length = L) := hTl
      have HS6 : Hid (Sl wr a6 L ws) := hs6
      have HDIG : Hid (D10 ws) := hdig2
      have hLD : D < L := by omega
      obtain ⟨x4, hx4⟩ : ∃ x, wr = x := ⟨_, rfl⟩
      rw [hx4] at HS6 V hB hsz d0 d1 lt0 ⊢
      clear hx4 hTg hTl hs6 hdig2 hje hT hTT hws hL hl9 HG hlen hj hdig hle hne hpos hgo
      by_cases hneg : u < 0
      · have lt00 := lt0
        have c45 : (x4.alloc (.cells #[.int .u8 45] 5)).cell? ⟨x4.heap.size, 0, none⟩ = some (.int .u8 (((45 : UInt8)).toNat : Int)) := (Va.new x4 5 #[.int .u8 45]).cell
        have HN : Hid (GrU (x4.alloc (.cells #[.int .u8 45] 5)) x4.heap.size (.slice none 0 0) []) := GrU.nil _ _
        have hsA : x4.heap.size ≤ (x4.alloc (.cells #[.int .u8 45] 5)).heap.size := by simp
        go_wp2_with (at_builtin; refine wpList_appU rfl (.tmp 26) (.tmp 27) rfl x4.heap.size _ [] rfl HN.out x4.heap.size 45 rfl c45 (by simp) hsA ?_; intro v1 x5 HG1 hb1)
        have hbX : Below x4.heap.size x4 x5 := ((Below.refl _ _).alloc (Nat.le_refl _) _).trans hb1
        have HU0 : Hid (GrU x5 x4.heap.size v1 ([45] ++ Pk T D L)) := by rw [← HTL.out, pk_start (by rw [HTL.out]; exact hLD), List.append_nil]; exact HG1
        clear c45 HN hsA hb1 HG1
        go_wp2_with fail
        go_loopw [7, 8] (fun bv ii wr => ∃ k : Nat, k ≤ L ∧ ii = .int .i64 ((k : Int) - 1) ∧ Hid (GrU wr x4.heap.size bv ([45] ++ Pk T D k)) ∧ Below x4.heap.size x4 wr) (fun _ ii _ => (intOf ii + 1).toNat)
        case atStart => exact ⟨L, Nat.le_refl _, rfl, HU0, hbX⟩
        case round =>
          obtain ⟨k, hk, rfl, HU, hbl⟩ := hrel
          clear HU0 hbX d0 d1 lt0
          have V2 := V.below hbl lt00
          have d0 := V2.c0
          have d1 := V2.c1
          have lt0 := V2.lt
          by_cases hk0 : k = 0
          · subst hk0
            have hne : [45] ++ Pk T D 0 ≠ [] := by rw [pk_end (by rw [HTL.out]; exact hLD)]; exact pt_ne _ (by rw [HTL.out]; exact hLD)
            have hcv := HU.out.conv hne
            obtain ⟨g7, c7, hv7⟩ := HU.out.shape9 hne
            have HEQ : Hid (sgL (decide (u < 0)) (ptL D T) = [45] ++ Pk T D 0) := by show _ = _; rw [pk_end (by rw [HTL.out]; exact hLD)]; simp [sgL, hneg]
            obtain ⟨bs, hbs⟩ : ∃ bs, [45] ++ Pk T D 0 = bs := ⟨_, rfl⟩
            have HBL : bs.length ≤ 100 := by rw [← hbs]; have := pk_len T D 0; have := HTL.out; simp; omega
            have hl1 : ¬ 9223372036854775807 < bs.length + 1 := by omega
            have hl2 : ¬ 9223372036854775807 < bs.length + 1 + nm.length := by have := HNL.out; omega
            rw [hbs] at hcv HEQ hv7
            subst hv7
            clear hbs hne HU
            go_wp2_with fail
            go_ret2
            refine ⟨tB os, ?_, HTX.out, hB.trans (hbl.mono (Nat.le_of_lt lt00))⟩
            have := HA.out _ rfl
            unfold amt
            rw [this, HEQ.out, ← ba_three]
            rfl
          · obtain ⟨j, rfl⟩ : ∃ j, k = j + 1 := ⟨k - 1, by omega⟩
            obtain ⟨b6, o6, rfl, hc⟩ := (HS6.out.below hbl (Nat.le_refl _)).2.2 (by omega)
            have hcx := hc j (by omega)
            have hz := HDIG.out.getD j
            have htg := HTG.out j (by omega)
            obtain ⟨z, hzz⟩ : ∃ z, ws.getD j 0 = z := ⟨_, rfl⟩
            rw [hzz] at hcx hz htg
            obtain ⟨z1, z2⟩ := hz
            have hbd := bd_nat (z := z) ⟨z1, z2⟩
            have HC1 : Hid ((wr.alloc (.cells #[.int .u8 (48 + z)] 5)).cell? ⟨wr.heap.size, 0, none⟩ = some (.int .u8 ((bd z).toNat : Int))) := by show _ = _; rw [hbd]; exact (Va.new wr 5 #[.int .u8 (48 + z)]).cell
            have HUa : Hid (GrU (wr.alloc (.cells #[.int .u8 (48 + z)] 5)) x4.heap.size u7 ([45] ++ Pk T D (j + 1))) := HU.out.alloc _
            have hsA : x4.heap.size ≤ (wr.alloc (.cells #[.int .u8 (48 + z)] 5)).heap.size := by have := hbl.size; simp; omega
            have hpl : ([45] ++ Pk T D (j + 1)).length + 2 ≤ 17592186044416 := by have := pk_len T D (j + 1); simp; have := HTL.out; omega
            have jn : (j : Int) < L := by omega
            rw [show (((j + 1 : Nat) : Int) - 1) = (j : Int) by omega]
            clear hc hzz hbd hk0 HU
            have HHT : Hid (T[L - 1 - j]? = some (bd z)) := htg
            clear htg
            by_cases hjD : j = D ∧ 0 < j
            · obtain ⟨hjD, hj0⟩ := hjD
              have HPP : Hid ([45] ++ Pk T D (j + 1) ++ [bd z] ++ [46] = [45] ++ Pk T D j) := by
                show _ = _
                subst hjD
                have := pk_point (T := T) (D := j) (c := bd z) (by rw [HTL.out]; exact hLD) hj0 (by rw [HTL.out]; exact HHT.out)
                rw [← this]; simp
              have g1 : ((j : Int) == (D : Int)) = true := by simp; omega
              have g2 : (0 : Int) < j := by omega
              clear hjD
              go_wp2_with (at_builtin; first | (refine wpList_appU rfl (.tmp 36) (.tmp 43) rfl x4.heap.size _ _ rfl HUa.out wr.heap.size (bd z) rfl HC1.out (by omega) hsA ?_; intro v2 w2 HG2 hb2; have hbm : Below x4.heap.size x4 w2 := (hbl.alloc hbl.size _).trans hb2; have e0 := (V.below hbm lt00).c0; have e1 := (V.below hbm lt00).c1; have lt3 := (V.below hbm lt00).lt) | (have c46 : (w2.alloc (.cells #[.int .u8 46] 5)).cell? ⟨w2.heap.size, 0, none⟩ = some (.int .u8 (((46 : UInt8)).toNat : Int)) := (Va.new w2 5 #[.int .u8 46]).cell; have hsB : x4.heap.size ≤ (w2.alloc (.cells #[.int .u8 46] 5)).heap.size := (by have := hbm.size; simp; omega); refine wpList_appU rfl (.tmp 53) (.tmp 54) rfl x4.heap.size _ _ rfl (HG2.out.alloc _) w2.heap.size 46 rfl c46 (by rw [List.length_append]; simp only [List.length_singleton]; omega) hsB ?_; intro v4 w4 HG4 hb4))
              have hbn : Below x4.heap.size x4 w4 := (hbm.alloc hbm.size _).trans hb4
              rw [HPP.out] at HG4
              clear hb4
              go_wp2_with fail
              go_roundw
              case rel => exact ⟨j, by omega, by simp, HG4, hbn⟩
              case measure => simp [intOf]
            · have HPP : Hid ([45] ++ Pk T D (j + 1) ++ [bd z] = [45] ++ Pk T D j) := by
                show _ = _
                have := pk_plain (T := T) (D := D) (j := j) (c := bd z) (by rw [HTL.out]; exact hLD) (by rw [HTL.out]; omega) (by rw [HTL.out]; exact HHT.out) hjD
                rw [← this]; simp
              by_cases hj1 : j = D
              · have g1 : ((j : Int) == (D : Int)) = true := by simp; omega
                have g2 : ¬ (0 : Int) < j := by omega
                clear hj1 hjD
                go_wp2_with (at_builtin; refine wpList_appU rfl (.tmp 36) (.tmp 43) rfl x4.heap.size _ _ rfl HUa.out wr.heap.size (bd z) rfl HC1.out (by omega) hsA ?_; intro v2 w2 HG2 hb2; have hbm : Below x4.heap.size x4 w2 := (hbl.alloc hbl.size _).trans hb2; have e0 := (V.below hbm lt00).c0; have e1 := (V.below hbm lt00).c1; have lt3 := (V.below hbm lt00).lt)
                rw [HPP.out] at HG2
                go_wp2_with fail
                go_roundw
                case rel => exact ⟨j, by omega, by simp, HG2, hbm⟩
                case measure => simp [intOf]
              · have g1 : ((j : Int) == (D : Int)) = false := by simp; omega
                clear hj1 hjD
                go_wp2_with (at_builtin; refine wpList_appU rfl (.tmp 36) (.tmp 43) rfl x4.heap.size _ _ rfl HUa.out wr.heap.size (bd z) rfl HC1.out (by omega) hsA ?_; intro v2 w2 HG2 hb2; have hbm : Below x4.heap.size x4 w2 := (hbl.alloc hbl.size _).trans hb2; have e0 := (V.below hbm lt00).c0; have e1 := (V.below hbm lt00).c1; have lt3 := (V.below hbm lt00).lt)
                rw [HPP.out] at HG2
                go_wp2_with fail
                go_roundw
                case rel => exact ⟨j, by omega, by simp, HG2, hbm⟩
                case measure => simp [intOf]
      · have lt00 := lt0
        have hbX : Below x4.heap.size x4 x4 := Below.refl _ _
        have HU0 : Hid (GrU x4 x4.heap.size (.slice none 0 0) ([] ++ Pk T D L)) := by rw [← HTL.out, pk_start (by rw [HTL.out]; exact hLD), List.append_nil]; exact GrU.nil _ _
        go_wp2_with fail
        go_loopw [7, 8] (fun bv ii wr => ∃ k : Nat, k ≤ L ∧ ii = .int .i64 ((k : Int) - 1) ∧ Hid (GrU wr x4.heap.size bv ([] ++ Pk T D k)) ∧ Below x4.heap.size x4 wr) (fun _ ii _ => (intOf ii + 1).toNat)
        case atStart => exact ⟨L, Nat.le_refl _, rfl, HU0, hbX⟩
        case round =>
          obtain ⟨k, hk, rfl, HU, hbl⟩ := hrel
          clear HU0 hbX d0 d1 lt0
          have V2 := V.below hbl lt00
          have d0 := V2.c0
          have d1 := V2.c1
          have lt0 := V2.lt
          by_cases hk0 : k = 0
          · subst hk0
            have hne : [] ++ Pk T D 0 ≠ [] := by rw [pk_end (by rw [HTL.out]; exact hLD)]; exact pt_ne _ (by rw [HTL.out]; exact hLD)
            have hcv := HU.out.conv hne
            obtain ⟨g7, c7, hv7⟩ := HU.out.shape9 hne
            have HEQ : Hid (sgL (decide (u < 0)) (ptL D T) = [] ++ Pk T D 0) := by show _ = _; rw [pk_end (by rw [HTL.out]; exact hLD)]; simp [sgL, hneg]
            obtain ⟨bs, hbs⟩ : ∃ bs, [] ++ Pk T D 0 = bs := ⟨_, rfl⟩
            have HBL : bs.length ≤ 100 := by rw [← hbs]; have := pk_len T D 0; have := HTL.out; simp; omega
            have hl1 : ¬ 9223372036854775807 < bs.length + 1 := by omega
            have hl2 : ¬ 9223372036854775807 < bs.length + 1 + nm.length := by have := HNL.out; omega
            rw [hbs] at hcv HEQ hv7
            subst hv7
            clear hbs hne HU
            go_wp2_with fail
            go_ret2
            refine ⟨tB os, ?_, HTX.out, hB.trans (hbl.mono (Nat.le_of_lt lt00))⟩
            have := HA.out _ rfl
            unfold amt
            rw [this, HEQ.out, ← ba_three]
            rfl
          · obtain ⟨j, rfl⟩ : ∃ j, k = j + 1 := ⟨k - 1, by omega⟩
            obtain ⟨b6, o6, rfl, hc⟩ := (HS6.out.below hbl (Nat.le_refl _)).2.2 (by omega)
            have hcx := hc j (by omega)
            have hz := HDIG.out.getD j
            have htg := HTG.out j (by omega)
            obtain ⟨z, hzz⟩ : ∃ z, ws.getD j 0 = z := ⟨_, rfl⟩
            rw [hzz] at hcx hz htg
            obtain ⟨z1, z2⟩ := hz
            have hbd := bd_nat (z := z) ⟨z1, z2⟩
            have HC1 : Hid ((wr.alloc (.cells #[.int .u8 (48 + z)] 5)).cell? ⟨wr.heap.size, 0, none⟩ = some (.int .u8 ((bd z).toNat : Int))) := by show _ = _; rw [hbd]; exact (Va.new wr 5 #[.int .u8 (48 + z)]).cell
            have HUa : Hid (GrU (wr.alloc (.cells #[.int .u8 (48 + z)] 5)) x4.heap.size u7 ([] ++ Pk T D (j + 1))) := HU.out.alloc _
            have hsA : x4.heap.size ≤ (wr.alloc (.cells #[.int .u8 (48 + z)] 5)).heap.size := by have := hbl.size; simp; omega
            have hpl : ([] ++ Pk T D (j + 1)).length + 2 ≤ 17592186044416 := by have := pk_len T D (j + 1); simp; have := HTL.out; omega
            have jn : (j : Int) < L := by omega
            rw [show (((j + 1 : Nat) : Int) - 1) = (j : Int) by omega]
            clear hc hzz hbd hk0 HU
            have HHT : Hid (T[L - 1 - j]? = some (bd z)) := htg
            clear htg
            by_cases hjD : j = D ∧ 0 < j
            · obtain ⟨hjD, hj0⟩ := hjD
              have HPP : Hid ([] ++ Pk T D (j + 1) ++ [bd z] ++ [46] = [] ++ Pk T D j) := by
                show _ = _
                subst hjD
                have := pk_point (T := T) (D := j) (c := bd z) (by rw [HTL.out]; exact hLD) hj0 (by rw [HTL.out]; exact HHT.out)
                rw [← this]; simp
              have g1 : ((j : Int) == (D : Int)) = true := by simp; omega
              have g2 : (0 : Int) < j := by omega
              clear hjD
              go_wp2_with (at_builtin; first | (refine wpList_appU rfl (.tmp 36) (.tmp 43) rfl x4.heap.size _ _ rfl HUa.out wr.heap.size (bd z) rfl HC1.out (by omega) hsA ?_; intro v2 w2 HG2 hb2; have hbm : Below x4.heap.size x4 w2 := (hbl.alloc hbl.size _).trans hb2; have e0 := (V.below hbm lt00).c0; have e1 := (V.below hbm lt00).c1; have lt3 := (V.below hbm lt00).lt) | (have c46 : (w2.alloc (.cells #[.int .u8 46] 5)).cell? ⟨w2.heap.size, 0, none⟩ = some (.int .u8 (((46 : UInt8)).toNat : Int)) := (Va.new w2 5 #[.int .u8 46]).cell; have hsB : x4.heap.size ≤ (w2.alloc (.cells #[.int .u8 46] 5)).heap.size := (by have := hbm.size; simp; omega); refine wpList_appU rfl (.tmp 53) (.tmp 54) rfl x4.heap.size _ _ rfl (HG2.out.alloc _) w2.heap.size 46 rfl c46 (by rw [List.length_append]; simp only [List.length_singleton]; omega) hsB ?_; intro v4 w4 HG4 hb4))
              have hbn : Below x4.heap.size x4 w4 := (hbm.alloc hbm.size _).trans hb4
              rw [HPP.out] at HG4
              clear hb4
              go_wp2_with fail
              go_roundw
              case rel => exact ⟨j, by omega, by simp, HG4, hbn⟩
              case measure => simp [intOf]
            · have HPP : Hid ([] ++ Pk T D (j + 1) ++ [bd z] = [] ++ Pk T D j) := by
                show _ = _
                have := pk_plain (T := T) (D := D) (j := j) (c := bd z) (by rw [HTL.out]; exact hLD) (by rw [HTL.out]; omega) (by rw [HTL.out]; exact HHT.out) hjD
                rw [← this]; simp
              by_cases hj1 : j = D
              · have g1 : ((j : Int) == (D : Int)) = true := by simp; omega
                have g2 : ¬ (0 : Int) < j := by omega
                clear hj1 hjD
                go_wp2_with (at_builtin; refine wpList_appU rfl (.tmp 36) (.tmp 43) rfl x4.heap.size _ _ rfl HUa.out wr.heap.size (bd z) rfl HC1.out (by omega) hsA ?_; intro v2 w2 HG2 hb2; have hbm : Below x4.heap.size x4 w2 := (hbl.alloc hbl.size _).trans hb2; have e0 := (V.below hbm lt00).c0; have e1 := (V.below hbm lt00).c1; have lt3 := (V.below hbm lt00).lt)
                rw [HPP.out] at HG2
                go_wp2_with fail
                go_roundw
                case rel => exact ⟨j, by omega, by simp, HG2, hbm⟩
                case measure => simp [intOf]
              · have g1 : ((j : Int) == (D : Int)) = false := by simp; omega
                clear hj1 hjD
                go_wp2_with (at_builtin; refine wpList_appU rfl (.tmp 36) (.tmp 43) rfl x4.heap.size _ _ rfl HUa.out wr.heap.size (bd z) rfl HC1.out (by omega) hsA ?_; intro v2 w2 HG2 hb2; have hbm : Below x4.heap.size x4 w2 := (hbl.alloc hbl.size _).trans hb2; have e0 := (V.below hbm lt00).c0; have e1 := (V.below hbm lt00).c1; have lt3 := (V.below hbm lt00).lt)
                rw [HPP.out] at HG2
                go_wp2_with fail
                go_roundw
                case rel => exact ⟨j, by omega, by simp, HG2, hbm⟩
                case measure => simp [intOf]
end Go.Proofs.YtigimdcaakfckaaGreatDoor
namespace Go.Proofs.YtigimdcaakfckaaGreatDoor
open Go.RowKit Go.Shelf
set_option linter.unusedVariables false

set_option maxHeartbeats 2000000 in
theorem texts_walk (nm : List UInt8) (D0 : Int) (u : Int) (w : World) (h1 : -9223372036854775808 ≤ u) (h2 : u ≤ 9223372036854775807) (hP : Pt w) (hT : Tm w) :
    Calls Tryz.prog 6 #[.agg #[.string ⟨nm.toArray⟩, .int .i64 D0], .int .i64 u] w fun e w' => e = .returned (.bool true) ∧ Below w.heap.size w w' := by
  have HP : Hid (Pt w) := hP
  have HT : Hid (Tm w) := hT
  clear hP hT
  by_cases hC : Cur nm D0
  · obtain ⟨D, rfl⟩ : ∃ D : Nat, D0 = D := ⟨D0.toNat, by have := hC.2.2.1; omega⟩
    have B0 : Below w.heap.size w w := Below.refl _ _
    go_enter Tryz.func6, Tryz.ntmps6
    go_wp2_with fail
    refine ent1 w _ _ (Q := fun W => Calls Tryz.prog _ _ W _) ?_
    intro x1 hb hs_x1 V0
    replace B0 := step B0 hb
    clear hb hs_x1
    refine (rtxt9 nm D u _ hC h1 h2).mono ?_
    rintro e x2 ⟨t, rfl, ht, hb⟩
    replace V0 := Va.after hb V0
    replace B0 := step B0 hb
    clear hb
    have c_V0 := V0.c0
    have f0_V0 := V0.frozen 0
    have d_V0 := V0.c1
    have f1_V0 := V0.frozen 1
    have l_V0 := V0.lt
    have m_V0 := Nat.le_of_lt l_V0
    go_wp2_with fail
    refine (text9 nm D u _ hC h1 h2 (HP.out.to B0)).mono ?_
    rintro e x3 ⟨t2, rfl, ht2, hb⟩
    replace V0 := Va.after hb V0
    replace B0 := step B0 hb
    clear hb
    have e2 : t2 = t := ht2.unique (by omega) (by omega) ht
    subst e2
    clear ht ht2
    clear c_V0 f0_V0 d_V0 f1_V0 l_V0 m_V0
    have c_V0 := V0.c0
    have f0_V0 := V0.frozen 0
    have d_V0 := V0.c1
    have f1_V0 := V0.frozen 1
    have l_V0 := V0.lt
    have m_V0 := Nat.le_of_lt l_V0
    go_wp2_with fail
    refine (awake9 _ (HP.out.to B0) (HT.out.to B0)).mono ?_
    rintro e x4 ⟨rfl, hb⟩
    replace V0 := Va.after hb V0
    replace B0 := step B0 hb
    clear hb
    clear c_V0 f0_V0 d_V0 f1_V0 l_V0 m_V0
    go_wp2_with fail
    go_ret
    exact ⟨by simp, B0⟩
  · skip
    have B0 : Below w.heap.size w w := Below.refl _ _
    go_enter Tryz.func6, Tryz.ntmps6
    go_wp2_with fail
    refine ent1 w _ _ (Q := fun W => Calls Tryz.prog _ _ W _) ?_
    intro x1 hb hs_x1 V0
    replace B0 := step B0 hb
    clear hb hs_x1
    refine (rtxt_no nm D0 u _ hC).mono ?_
    rintro e x2 ⟨rfl, hb⟩
    replace V0 := Va.after hb V0
    replace B0 := step B0 hb
    clear hb
    have c_V0 := V0.c0
    have f0_V0 := V0.frozen 0
    have d_V0 := V0.c1
    have f1_V0 := V0.frozen 1
    have l_V0 := V0.lt
    have m_V0 := Nat.le_of_lt l_V0
    go_wp2_with fail
    refine (text9_no nm D0 u _ hC).mono ?_
    rintro e x3 ⟨rfl, hb⟩
    replace V0 := Va.after hb V0
    replace B0 := step B0 hb
    clear hb
    clear c_V0 f0_V0 d_V0 f1_V0 l_V0 m_V0
    have c_V0 := V0.c0
    have f0_V0 := V0.frozen 0
    have d_V0 := V0.c1
    have f1_V0 := V0.frozen 1
    have l_V0 := V0.lt
    have m_V0 := Nat.le_of_lt l_V0
    go_wp2_with fail
    refine (awake9 _ (HP.out.to B0) (HT.out.to B0)).mono ?_
    rintro e x4 ⟨rfl, hb⟩
    replace V0 := Va.after hb V0
    replace B0 := step B0 hb
    clear hb
    clear c_V0 f0_V0 d_V0 f1_V0 l_V0 m_V0
    go_wp2_with fail
    go_ret
    exact ⟨by simp, B0⟩
end Go.Proofs.YtigimdcaakfckaaGreatDoor
namespace Go.Proofs.YtigimdcaakfckaaGreatDoor
set_option linter.unusedVariables false
theorem moneyTexts_walk0 (s0 : ByteArray) (q0 u : Int) (w : World) (wq : (Lit.int .i64 q0).wf = true) (wu : (Lit.int .i64 u).wf = true) (hP : Pt w) (hT : Tm w) :
    Calls Tryz.prog 6 #[.agg #[.string s0, .int .i64 q0], .int .i64 u] w fun e w' => e = .returned (.bool true) ∧ Go.RowKit.Below w.heap.size w w' := by
  have h := texts_walk s0.data.toList q0 u w (b64_of_wf wu).1 (b64_of_wf wu).2 hP hT
  rw [ba_eta] at h
  exact h
end Go.Proofs.YtigimdcaakfckaaGreatDoor
namespace Go.Proofs.YtigimdcaakfckaaGreatDoor.moneyTexts
open Go.ChangeShapes Go.WideShapes Go.ChangeAt Go.RowKit
set_option linter.unusedVariables false

theorem own : ownKnob Tryz.prog.godebug = none := by kernel_rfl
theorem laidOut : laidOutB Tryz.prog = true := by kernel_rfl
theorem bytes8 : Tryz.prog.bytesOf 77 = 8 := by kernel_rfl

set_option maxRecDepth 100000 in
theorem contract (H : Type) (enc : TypeId × Value → H) (W : World) (base : Nat) (args : Array Value) (ds gs : List (DataW H)) (before : List MemPlace)
    (hval : ∀ (j : Nat) t v, Tryz.f6.params[j]? = some t → args[j]? = some v → Value.okWide Tryz.prog W .any base t v)
    (hW : DataW.Whole enc Tryz.prog Tryz.f6.params.toList Rows.moneyTextsSpec.vars false W args.toList ds gs before) (hsz : (DataW.weightsEach Tryz.prog (Tryz.f6.params.toList ++ Rows.moneyTextsSpec.plain.varTypes Tryz.prog) (ds ++ gs)).all (· ≤ reachBytes) = true) (hL0 : laidMetH Tryz.prog Rows.moneyTextsRow.laid W) :
    Calls Tryz.prog 6 args W fun e W' => ∃ v, e = .returned v ∧ Rows.moneyTextsSpec.post enc Tryz.prog Tryz.f6 false true false false W args v W' := by
  rw [MakeChecks.laidMetH_plain _ _ _ (by kernel_rfl)] at hL0
  have tb0 := by first | exact ptOf hL0 | exact ptOf hL0.tail | exact ptOf hL0.tail.tail | exact ptOf hL0.tail.tail.tail | exact ptOf hL0.tail.tail.tail.tail | exact ptOf hL0.tail.tail.tail.tail.tail | exact ptOf hL0.tail.tail.tail.tail.tail.tail | exact ptOf hL0.tail.tail.tail.tail.tail.tail.tail
  have tb1 := by first | exact tmOf hL0 | exact tmOf hL0.tail | exact tmOf hL0.tail.tail | exact tmOf hL0.tail.tail.tail | exact tmOf hL0.tail.tail.tail.tail | exact tmOf hL0.tail.tail.tail.tail.tail | exact tmOf hL0.tail.tail.tail.tail.tail.tail | exact tmOf hL0.tail.tail.tail.tail.tail.tail.tail
  have hW' := hW
  obtain ⟨p, q, hA0, hV, rfl, hfz, hnd⟩ := hW
  have hA : DataW.TrodAll enc Tryz.prog W 0 (fun _ => true) true Tryz.f6.params.toList args.toList ds p := hA0
  rw [Tryz.params6] at hA hval hsz
  obtain ⟨v0, vs0, d0, ds0, p0, q0, hargs, rfl, rfl, h0, r0⟩ := trodAll_cons hA
  obtain ⟨v1, vs1, d1, ds1, p1, q1, rfl, rfl, rfl, h1, r1⟩ := trodAll_cons r0
  obtain ⟨rfl, rfl, rfl⟩ := trodAll_nil r1
  obtain rfl : args = #[v0, v1] := by cases args; simp_all
  obtain ⟨rfl, rfl⟩ := trodVars_none hV
  have k0 := h0
  have lt0 : ∀ x ∈ p0, x.block < W.heap.size := by obtain ⟨m, hm⟩ := k0; exact DataW.trod_lt m _ _ _ hm
  obtain ⟨u0, x0, y00, y01, m0, rfl, rfl, rfl, hy00, hy01⟩ := Go.Joins.open_agg2 Tryz.underlying47 (by kernel_rfl) (by kernel_rfl) (hval 0 47 v0 rfl rfl) h0
  obtain ⟨s0, ha0, hd0, wa0⟩ := DataW.trod_string Tryz.underlying9 hy00
  obtain ⟨q0, hq0, he0, wq0⟩ := DataW.trod_int Tryz.underlying3 hy01
  obtain rfl : u0 = .string s0 := by simpa using ha0
  obtain rfl : x0 = .int .i64 q0 := by simpa using hq0
  obtain ⟨a1, rfl, rfl, rfl, w1⟩ := open_int Tryz.underlying2 (hval 1 2 v1 rfl rfl) h1
  clear hA0
  refine (moneyTexts_walk0 s0 q0 a1 W wq0 w1 tb0 tb1).mono fun e W' ⟨he, bel⟩ => ?_
  subst he
  exact ⟨_, rfl, _, _, _, [], _, [], hW', trodAll_mk1 (shut_bool Tryz.underlying4 _), (trodAll_cons_mk (Below.trod laidOut (by kernel_rfl) (of_decide_eq_true (by kernel_rfl)) k0 bel lt0) (trodAll_cons_mk (shut_int Tryz.underlying2 w1) trodAll_mk0)), rfl, bel.frame _, fun h => by cases h⟩

set_option maxRecDepth 100000 in
theorem lifted (os : Os) (started : os.Started) (H : Type) (enc : TypeId × Value → H) :
    ReturnsInHanded {} Tryz.checked os 6 .any (fun w args => (Rows.moneyTextsSpec.pre enc Tryz.prog Tryz.f6 [] false w args ∧ laidMetH Tryz.prog Rows.moneyTextsRow.laid w) ∧ sizedMet enc Tryz.prog Tryz.f6 (OpenSpec.ofChange Rows.moneyTextsSpec) false w args)
      (Rows.moneyTextsSpec.post enc Tryz.prog Tryz.f6 false true false false) := by
  refine returnsInHanded_of_change_and (C := Tryz.checked) (X := fun w _ => laidMetH Tryz.prog Rows.moneyTextsRow.laid w) (fun _ _ _ hh h => h.of_heap hh) own started (by kernel_rfl) Tryz.func6
    (ChangeSpec.witness_shaped (enc := enc) (C := Tryz.checked) (os := os) (X := fun w _ => laidMetH Tryz.prog Rows.moneyTextsRow.laid w) false (World.laidAll Tryz.prog os Rows.moneyTextsRow.laid) #[.agg #[.string ⟨#[]⟩, .int .i64 0], .int .i64 0] 8 (World.laidAll_os _ _ _)
      (World.shaped_of_ZipB (by kernel_rfl) (by kernel_rfl)) (by kernel_rfl) (by kernel_rfl) (by kernel_rfl)
      (by rw [MakeChecks.laidMetH_plain _ _ _ (by kernel_rfl)]; exact laidMet_laidAll _ (by kernel_rfl) (by kernel_rfl))) ?_
  intro W base args ds gs before hval0 hW _ hsz0 hL _
  exact contract H enc W base args ds gs before hval0 hW hsz0 hL

theorem over : Rows.moneyTextsRow.holds Tryz.pinned (OpenSpec.ofChange Rows.moneyTextsSpec) :=
  OpenClaim.holds_of_wide 6 Tryz.f6 rfl rfl rfl rfl rfl rfl rfl ⟨rfl, rfl, rfl, rfl, rfl⟩ rfl rfl rfl rfl rfl (by kernel_rfl) Tryz.func6 (by kernel_rfl)
    (of_decide_eq_true (by kernel_rfl)) (by unfold Func.isWrapper; first | (rw [if_pos (by decide +kernel)]; kernel_rfl) | (rw [if_neg (by decide +kernel)]; exact ⟨rfl, rfl⟩))
    (fun os started H enc _ => lifted os started H enc)
end Go.Proofs.YtigimdcaakfckaaGreatDoor.moneyTexts
namespace Go.Proofs.YtigimdcaakfckaaGreatDoor
theorem moneyTexts_plain (f : FuncId) (fn : Func) (hf : Tryz.pinned.checked.prog.funcNamed "tollbook/tollbooklaw09.MoneyTexts" = some f) (hfn : Tryz.pinned.checked.prog.funcs[f]? = some fn) :
    false = Tryz.pinned.checked.prog.looks [] ∧ ∀ (j : Nat) t, fn.params[j]? = some t → Tryz.pinned.checked.prog.wantsStandIn t = false := by
  obtain rfl : f = 6 := Option.some.inj ((show Tryz.prog.funcNamed "tollbook/tollbooklaw09.MoneyTexts" = some 6 by kernel_rfl).symm.trans hf) |>.symm
  obtain rfl : fn = Tryz.f6 := (Option.some.inj (Tryz.func6.symm.trans hfn)).symm
  refine ⟨by kernel_rfl, fun j t ht => ?_⟩
  rw [Tryz.params6] at ht
  have hm : t ∈ [47, 2] := by have := Array.mem_of_getElem? ht; simp at this; simp; omega
  have hall : ([47, 2].all fun u => !Tryz.prog.wantsStandIn u) = true := by kernel_rfl
  exact (show Tryz.prog.wantsStandIn t = false by simpa using List.all_eq_true.1 hall t hm)
theorem moneyTextsCard_holds : Rows.MoneyTextsCardSaid :=
  Claim7.holds_tied_plain_at .later [] _ _ _ _ moneyTexts.over (fun _ h => by cases h) (by kernel_rfl) (fun _ h => by cases h) moneyTexts_row_tie rfl ⟨rfl, rfl⟩ (by kernel_rfl) rfl moneyTexts_plain (by kernel_rfl)
#print axioms moneyTextsCard_holds
end Go.Proofs.YtigimdcaakfckaaGreatDoor
