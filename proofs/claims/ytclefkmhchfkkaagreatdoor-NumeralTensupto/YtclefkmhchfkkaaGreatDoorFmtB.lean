/-
  strconv.FormatUint at bases other than 10.
-/
import Derived.Test.YtclefkmhchfkkaaGreatDoorRev
import Derived.Test.YtclefkmhchfkkaaGreatDoorTxP
import Derived.Lib.AppendIntMem
import Derived.Laws.Bits64b
namespace Go.Proofs.YtclefkmhchfkkaaGreatDoor
open Go.RowKit Go.Shelf
set_option linter.unusedVariables false

/-- The digit of a worth. -/
def dg (d : Nat) : UInt8 := UInt8.ofNat (if d < 10 then 48 + d else 87 + d)
theorem wv_dg {d : Nat} (h : d < 36) : wv (dg d) = d := by
  have : ∀ d : Fin 36, wv (dg d.1) = d.1 := by decide
  exact this ⟨d, h⟩
theorem s36_at {r : Nat} (h : r < 36) : (ByteArray.mk #[48, 49, 50, 51, 52, 53, 54, 55, 56, 57, 97, 98, 99, 100, 101, 102, 103, 104, 105, 106, 107, 108, 109, 110, 111, 112, 113, 114, 115, 116, 117, 118, 119, 120, 121, 122])[r]'(show r < 36 from h) = dg r := by
  have : ∀ r : Fin 36, (ByteArray.mk #[48, 49, 50, 51, 52, 53, 54, 55, 56, 57, 97, 98, 99, 100, 101, 102, 103, 104, 105, 106, 107, 108, 109, 110, 111, 112, 113, 114, 115, 116, 117, 118, 119, 120, 121, 122])[r.1]'(show r.1 < 36 from r.2) = dg r.1 := by decide
  exact this ⟨r, h⟩
/-- Between two rounds: v is still to be told, acc is told. -/
def FB (U b v : Nat) (acc : List UInt8) : Prop := U = v * b ^ acc.length + tv b acc ∧ Dig b acc ∧ (acc ≠ [] → 1 ≤ v)
theorem FB.start (U b : Nat) : FB U b U [] := ⟨by simp [tv], Dig.nil b, fun h => absurd rfl h⟩
theorem FB.on {U b v : Nat} {acc : List UInt8} (hb : 2 ≤ b) (h36 : b ≤ 36) (h : FB U b v acc) (hv : b ≤ v) : FB U b (v / b) (dg (v % b) :: acc) := by
  obtain ⟨h1, h2, h3⟩ := h
  have hm : v % b < b := Nat.mod_lt _ (by omega)
  have hw : wv (dg (v % b)) = v % b := wv_dg (by omega)
  refine ⟨?_, fun c hc => ?_, fun _ => Nat.div_pos hv (by omega)⟩
  · rw [tv_cons, hw, List.length_cons, h1]
    have e := Nat.div_add_mod v b
    have : v * b ^ acc.length = (v / b) * (b ^ (acc.length + 1)) + (v % b) * b ^ acc.length := by
      rw [Nat.pow_succ]
      have : (v / b) * (b ^ acc.length * b) + (v % b) * b ^ acc.length = (b * (v / b) + v % b) * b ^ acc.length := by
        rw [Nat.add_mul]; congr 1; rw [Nat.mul_comm (b ^ acc.length) b, ← Nat.mul_assoc, Nat.mul_comm (v / b) b]
      rw [this, e]
    omega
  · rcases List.mem_cons.1 hc with rfl | hc
    · rw [hw]; exact hm
    · exact h2 c hc
theorem FB.done {U b v : Nat} {acc : List UInt8} (hb : 2 ≤ b) (h36 : b ≤ 36) (h : FB U b v acc) (hv : v < b) : Tx b (dg v :: acc) U := by
  obtain ⟨h1, h2, h3⟩ := h
  have hw : wv (dg v) = v := wv_dg (by omega)
  refine ⟨by simp, fun c hc => ?_, by rw [tv_cons, hw]; exact h1.symm, fun e => ?_⟩
  · rcases List.mem_cons.1 hc with rfl | hc
    · rw [hw]; exact hv
    · exact h2 c hc
  · have e2 : dg v = 48 := by simpa using e
    have : v = 0 := by rw [← hw, e2]; rfl
    cases acc with
    | nil => rfl
    | cons x r => have := h3 (by simp); omega
theorem FB.len {U b v : Nat} {acc : List UInt8} (hb : 2 ≤ b) (h : FB U b v acc) (hU : U < 18446744073709551616) : acc.length ≤ 63 := by
  rcases Nat.lt_or_ge 63 acc.length with h4 | h4
  · exfalso
    obtain ⟨h1, h2, h3⟩ := h
    have hv := h3 (fun e => by rw [e] at h4; simp at h4)
    have h5 : 2 ^ 64 ≤ 2 ^ acc.length := Nat.pow_le_pow_right (by omega) (by omega)
    have h6 : 2 ^ acc.length ≤ b ^ acc.length := Nat.pow_le_pow_left hb _
    have h7 : 1 * b ^ acc.length ≤ v * b ^ acc.length := Nat.mul_le_mul_right _ hv
    omega
  · exact h4
theorem FB.le {U b v : Nat} {acc : List UInt8} (hb : 2 ≤ b) (h : FB U b v acc) : v ≤ U := by
  have h1 := h.1
  have : v * 1 ≤ v * b ^ acc.length := Nat.mul_le_mul_left _ (Nat.pow_pos (by omega))
  omega
/-- The array's end holds what is told. -/
def AF (W : World) (A : Nat) (acc : List UInt8) : Prop := Blk W A 65 ∧ acc.length ≤ 65 ∧ ∀ (j : Nat) (hj : j < acc.length), W.cell? ⟨A, 65 - acc.length + j, none⟩ = some (.int .u8 (acc[j].toNat : Int))
theorem AF.push {W : World} {A : Nat} {acc : List UInt8} (h : AF W A acc) (hl : acc.length < 65) (c : UInt8) : AF (W.setCell ⟨A, 64 - acc.length, none⟩ (.int .u8 (c.toNat : Int))) A (c :: acc) := by
  obtain ⟨h1, h2, h3⟩ := h
  refine ⟨h1.set _ _, by simp; omega, fun j hj => ?_⟩
  rw [List.length_cons]
  rcases Nat.eq_zero_or_pos j with h0 | h0
  · subst h0
    rw [show 65 - (acc.length + 1) + 0 = 64 - acc.length by omega, cell_set_eq h1 (by omega)]; rfl
  · obtain ⟨i, rfl⟩ : ∃ i, j = i + 1 := ⟨j - 1, by omega⟩
    have hi : i < acc.length := by simpa using hj
    rw [cell_set_ne _ _ _ _ _ (by omega), show 65 - (acc.length + 1) + (i + 1) = 65 - acc.length + i by omega, h3 i hi]; rfl
def zeros65 : Array Value := Array.replicate 65 (.int .u8 0)
set_option maxHeartbeats 16000000 in
set_option maxRecDepth 100000 in
theorem bits_gen (U b : Nat) (hU : U < 18446744073709551616) (hb2 : 2 ≤ b) (hb36 : b ≤ 36) (hb10 : b ≠ 10) (w : World)
    (hp : ∀ W, Calls Tryz.prog 93 #[.int .i64 b] W fun e W' => e = .returned (.bool false) ∧ W' = W) :
    Calls Tryz.prog 76 #[.slice none 0 0, .int .u64 U, .int .i64 b, .bool false, .bool false] w fun e W' => ∃ l, e = .returned (.tuple #[.slice none 0 0, .string ⟨List.toArray l⟩]) ∧ Tx b l U ∧ Below w.heap.size w W' := by
  have hb1 : ¬ (b : Int) < 2 := by omega
  have hb3 : ¬ (b : Int) = 10 := by omega
  have hb4 : ¬ (36 : Int) < b := by omega
  have hbI : IntKind.u64.wrap (b : Int) = b := by rw [IntKind.wrap_u64]; omega
  go_enter Tryz.func76, Tryz.ntmps76
  go_wp2_with fail
  refine (hp _).mono ?_
  rintro e w' ⟨rfl, rfl⟩
  have HA0 : Hid (AF (w.alloc (.cells Tryz.zeroCells130 130)) w.heap.size []) := ⟨⟨_, _, heap_alloc_new w _, by rw [show Tryz.zeroCells130.size = 65 by kernel_rfl]; exact Nat.le_refl _⟩, by simp, fun j hj => by simp at hj⟩
  have HB0 : Hid (Below w.heap.size w (w.alloc (.cells Tryz.zeroCells130 130))) := (Below.refl _ _).alloc (Nat.le_refl _) _
  generalize w.alloc (.cells Tryz.zeroCells130 130) = W0 at HA0 HB0 ⊢
  clear hp
  go_wp2_with fail
  go_loopw [1, 13] (fun u i wr => ∃ (v n : Nat) (acc : List UInt8), u = .int .u64 v ∧ i = .int .i64 n ∧ n ≤ 65 ∧ 2 ≤ n ∧ v < 18446744073709551616 ∧ Hid (n = 65 - acc.length) ∧ Hid (FB U b v acc) ∧ Hid (AF wr w.heap.size acc) ∧ Hid (Below w.heap.size w wr)) (fun u _ _ => (intOf u).toNat)
  case atStart => exact ⟨U, 65, [], rfl, rfl, by omega, by omega, hU, rfl, FB.start U b, HA0.out, HB0.out⟩
  case round =>
    obtain ⟨v, n, acc, rfl, rfl, hn1, hn2, hv64, HN, HF, HA, HB⟩ := hrel
    have hlt := HA.out.1.lt
    obtain ⟨x, hx⟩ := HA.out.1.cell (k := n - 1) (by omega)
    have fx := HA.out.1.frozen (n - 1)
    obtain ⟨m, hm⟩ : ∃ m, n = m + 1 := ⟨n - 1, by omega⟩
    subst hm
    rw [Nat.add_sub_cancel] at hx fx
    have em : ((m + 1 : Nat) : Int) - 1 = m := by omega
    by_cases hv : b ≤ v
    · have hvi : (b : Int) ≤ v := by omega
      obtain ⟨q, hq⟩ : ∃ q : Nat, q = v / b := ⟨_, rfl⟩
      have hqi : (v : Int).tdiv b = q := by rw [Int.tdiv_eq_ediv_of_nonneg (by omega), hq]; simp
      obtain ⟨r, hr⟩ : ∃ r : Nat, r = v % b := ⟨_, rfl⟩
      have hdm := Nat.div_add_mod v b
      have hrb : r < b := by rw [hr]; exact Nat.mod_lt _ (by omega)
      have hqb : (q : Int) * b + r = v := by rw [hq, hr]; have : v / b * b + v % b = v := by rw [Nat.mul_comm]; exact hdm
                                             exact_mod_cast this
      have HQ : Hid (q = v / b ∧ r = v % b) := ⟨hq, hr⟩
      have hq2 : q < v := by rw [hq]; exact Nat.div_lt_self (by omega) (by omega)
      clear hq hr hdm
      have hb0 : (b : Int) ≠ 0 := by omega
      obtain ⟨y, hy⟩ : ∃ y : Int, y = (q : Int) * b := ⟨_, rfl⟩
      rw [← hy] at hqb
      have e1 : IntKind.u64.wrap ((q : Int) * b) = y := by rw [← hy, IntKind.wrap_u64]; omega
      have e2 : IntKind.u64.wrap ((v : Int) - y) = r := by rw [IntKind.wrap_u64]; omega
      clear hy
      have HS := s36_at (show r < 36 by omega)
      go_wp2_with fail
      have hF2 := HF.out.on hb2 hb36 hv
      rw [← HQ.out.1, ← HQ.out.2] at hF2
      have hl := hF2.len hb2 hU
      rw [List.length_cons] at hl
      have eN : m = 64 - acc.length := by have := HN.out; omega
      refine ⟨⟨q, m, dg r :: acc, rfl, rfl, by omega, by omega, by omega, by show m = 65 - (acc.length + 1); omega, hF2, ?_, ?_⟩, by simp [intOf]; omega⟩
      · show AF _ _ _
        rw [eN]
        exact HA.out.push (by omega) (dg r)
      · exact HB.out.setCell (p := ⟨w.heap.size, m, none⟩) (Nat.le_refl _) _
    · have hvi : ¬ (b : Int) ≤ v := by omega
      have HS := s36_at (show v < 36 by omega)
      have hT := HF.out.done hb2 hb36 (by omega)
      have hlen : acc.length ≤ 63 := HF.out.len hb2 hU
      have eN : m = 64 - acc.length := by have := HN.out; omega
      have hA2 := HA.out.push (by omega) (dg v)
      rw [← eN] at hA2
      obtain ⟨L, hL⟩ : ∃ L, L = dg v :: acc := ⟨_, rfl⟩
      have hLl : L.length = 65 - m := by rw [hL, List.length_cons]; omega
      rw [← hL] at hA2 hT
      have HA2 : Hid (AF (wr.setCell ⟨w.heap.size, m, none⟩ (.int .u8 ((dg v).toNat : Int))) w.heap.size L) := hA2
      have HT : Hid (Tx b L U) := hT
      have HB2 : Hid (Below w.heap.size w (wr.setCell ⟨w.heap.size, m, none⟩ (.int .u8 ((dg v).toNat : Int)))) := HB.out.setCell (p := ⟨w.heap.size, m, none⟩) (Nat.le_refl _) _
      have hal : Tryz.prog.arrayLen 130 = 65 := by simp [Program.arrayLen, Tryz.underlying130]
      have hsl : ∀ W, (Instr.sliceAt 130 (.pointer (some ⟨w.heap.size, 0, none⟩)) (some (.int .i64 (m : Int))) none none).run Tryz.prog W = .ok (.slice (some ⟨w.heap.size, m, none⟩) L.length L.length) W := fun W => by
        rw [run_sliceAt_array_l W 130 ⟨w.heap.size, 0, none⟩ (by simp [Program.arrayLen, Program.elem, Tryz.underlying130]) .i64 (m : Int) (by omega) (by rw [hal]; omega)]
        go_simp
        omega
      have hcv : (convert 53 9 (.slice (some ⟨w.heap.size, m, none⟩) L.length L.length)).run Tryz.prog (wr.setCell ⟨w.heap.size, m, none⟩ (.int .u8 ((dg v).toNat : Int))) = .ok (.string ⟨L.toArray⟩) (wr.setCell ⟨w.heap.size, m, none⟩ (.int .u8 ((dg v).toNat : Int))) :=
        run_convert_bytes_back _ 53 9 5 ⟨w.heap.size, m, none⟩ L.length L Tryz.underlying53 Tryz.underlying5 Tryz.underlying9 (fun j hj => by
          have := HA2.out.2.2 j hj
          rw [show 65 - L.length = m by omega] at this
          rw [Go.Lib.add_plain]; exact this)
      rw [hLl] at hcv hsl
      clear hT hL eN hlen hA2 hal hLl
      go_wp2_with fail
      go_ret2
      exact ⟨L, rfl, HT.out, HB2.out⟩
set_option maxHeartbeats 16000000 in
set_option maxRecDepth 100000 in
theorem bits_two (U b sh : Nat) (hsh : sh ≤ 5) (hbs : b = 2 ^ sh) (hU : U < 18446744073709551616) (hb2 : 2 ≤ b) (hb36 : b ≤ 36) (hb10 : b ≠ 10) (w : World)
    (hp : ∀ W, Calls Tryz.prog 93 #[.int .i64 b] W fun e W' => e = .returned (.bool true) ∧ W' = W) (T : World → Prop) (hTo : ∀ W W', Below W.heap.size W W' → T W → T W') (hTw : T w)
    (htz : ∀ W, T W → Calls Tryz.prog 94 #[.int .u64 b] W fun e W' => e = .returned (.int .i64 sh) ∧ W' = W) :
    Calls Tryz.prog 76 #[.slice none 0 0, .int .u64 U, .int .i64 b, .bool false, .bool false] w fun e W' => ∃ l, e = .returned (.tuple #[.slice none 0 0, .string ⟨List.toArray l⟩]) ∧ Tx b l U ∧ Below w.heap.size w W' := by
  have HBS : Hid (b = 2 ^ sh) := hbs
  clear hbs
  have hb1 : ¬ (b : Int) < 2 := by omega
  have hb3 : ¬ (b : Int) = 10 := by omega
  have hb4 : ¬ (36 : Int) < b := by omega
  have hbI : IntKind.u64.wrap (b : Int) = b := by rw [IntKind.wrap_u64]; omega
  go_enter Tryz.func76, Tryz.ntmps76
  go_wp2_with fail
  refine (hp _).mono ?_
  rintro e w' ⟨rfl, rfl⟩
  have HA0 : Hid (AF (w.alloc (.cells Tryz.zeroCells130 130)) w.heap.size []) := ⟨⟨_, _, heap_alloc_new w _, by rw [show Tryz.zeroCells130.size = 65 by kernel_rfl]; exact Nat.le_refl _⟩, by simp, fun j hj => by simp at hj⟩
  have HB0 : Hid (Below w.heap.size w (w.alloc (.cells Tryz.zeroCells130 130))) := (Below.refl _ _).alloc (Nat.le_refl _) _
  generalize w.alloc (.cells Tryz.zeroCells130 130) = W0 at HA0 HB0 ⊢
  have HTW := htz _ (hTo _ _ HB0.out hTw)
  clear hp
  go_wp2_with fail
  refine HTW.mono ?_
  rintro e w' ⟨rfl, rfl⟩
  go_wp2_with fail
  go_loopw [1, 13] (fun u i wr => ∃ (v n : Nat) (acc : List UInt8), u = .int .u64 v ∧ i = .int .i64 n ∧ n ≤ 65 ∧ 2 ≤ n ∧ v < 18446744073709551616 ∧ Hid (n = 65 - acc.length) ∧ Hid (FB U b v acc) ∧ Hid (AF wr w.heap.size acc) ∧ Hid (Below w.heap.size w wr)) (fun u _ _ => (intOf u).toNat)
  case atStart => exact ⟨U, 65, [], rfl, rfl, by omega, by omega, hU, rfl, FB.start U b, HA0.out, HB0.out⟩
  case round =>
    obtain ⟨v, n, acc, rfl, rfl, hn1, hn2, hv64, HN, HF, HA, HB⟩ := hrel
    have hlt := HA.out.1.lt
    obtain ⟨x, hx⟩ := HA.out.1.cell (k := n - 1) (by omega)
    have fx := HA.out.1.frozen (n - 1)
    obtain ⟨m, hm⟩ : ∃ m, n = m + 1 := ⟨n - 1, by omega⟩
    subst hm
    rw [Nat.add_sub_cancel] at hx fx
    have em : ((m + 1 : Nat) : Int) - 1 = m := by omega
    by_cases hv : b ≤ v
    · have hvi : (b : Int) ≤ v := by omega
      obtain ⟨q, hq⟩ : ∃ q : Nat, q = v / b := ⟨_, rfl⟩
      have hqi : (v : Int).tdiv b = q := by rw [Int.tdiv_eq_ediv_of_nonneg (by omega), hq]; simp
      obtain ⟨r, hr⟩ : ∃ r : Nat, r = v % b := ⟨_, rfl⟩
      have hdm := Nat.div_add_mod v b
      have hrb : r < b := by rw [hr]; exact Nat.mod_lt _ (by omega)
      have hqb : (q : Int) * b + r = v := by rw [hq, hr]; have : v / b * b + v % b = v := by rw [Nat.mul_comm]; exact hdm
                                             exact_mod_cast this
      have HQ : Hid (q = v / b ∧ r = v % b) := ⟨hq, hr⟩
      have hq2 : q < v := by rw [hq]; exact Nat.div_lt_self (by omega) (by omega)
      clear hq hr hdm
      clear hqi hqb
      have HS := s36_at (show r < 36 by omega)
      have ea : bits .and .u64 (v : Int) ((b : Int) - 1) = r := by
        rw [show (b : Int) - 1 = ((b - 1 : Nat) : Int) by omega, bits_and_u64_nat v (b - 1) hv64 (by omega), HQ.out.2, HBS.out, Nat.and_two_pow_sub_one_eq_mod]
      have es : (v : Int) / 2 ^ sh = q := by
        rw [HQ.out.1, HBS.out]; simp
      go_wp2_with fail
      have hF2 := HF.out.on hb2 hb36 hv
      rw [← HQ.out.1, ← HQ.out.2] at hF2
      have hl := hF2.len hb2 hU
      rw [List.length_cons] at hl
      have eN : m = 64 - acc.length := by have := HN.out; omega
      refine ⟨⟨q, m, dg r :: acc, rfl, rfl, by omega, by omega, by omega, by show m = 65 - (acc.length + 1); omega, hF2, ?_, ?_⟩, by simp [intOf]; omega⟩
      · show AF _ _ _
        rw [eN]
        exact HA.out.push (by omega) (dg r)
      · exact HB.out.setCell (p := ⟨w.heap.size, m, none⟩) (Nat.le_refl _) _
    · have hvi : ¬ (b : Int) ≤ v := by omega
      have HS := s36_at (show v < 36 by omega)
      have hT := HF.out.done hb2 hb36 (by omega)
      have hlen : acc.length ≤ 63 := HF.out.len hb2 hU
      have eN : m = 64 - acc.length := by have := HN.out; omega
      have hA2 := HA.out.push (by omega) (dg v)
      rw [← eN] at hA2
      obtain ⟨L, hL⟩ : ∃ L, L = dg v :: acc := ⟨_, rfl⟩
      have hLl : L.length = 65 - m := by rw [hL, List.length_cons]; omega
      rw [← hL] at hA2 hT
      have HA2 : Hid (AF (wr.setCell ⟨w.heap.size, m, none⟩ (.int .u8 ((dg v).toNat : Int))) w.heap.size L) := hA2
      have HT : Hid (Tx b L U) := hT
      have HB2 : Hid (Below w.heap.size w (wr.setCell ⟨w.heap.size, m, none⟩ (.int .u8 ((dg v).toNat : Int)))) := HB.out.setCell (p := ⟨w.heap.size, m, none⟩) (Nat.le_refl _) _
      have hal : Tryz.prog.arrayLen 130 = 65 := by simp [Program.arrayLen, Tryz.underlying130]
      have hsl : ∀ W, (Instr.sliceAt 130 (.pointer (some ⟨w.heap.size, 0, none⟩)) (some (.int .i64 (m : Int))) none none).run Tryz.prog W = .ok (.slice (some ⟨w.heap.size, m, none⟩) L.length L.length) W := fun W => by
        rw [run_sliceAt_array_l W 130 ⟨w.heap.size, 0, none⟩ (by simp [Program.arrayLen, Program.elem, Tryz.underlying130]) .i64 (m : Int) (by omega) (by rw [hal]; omega)]
        go_simp
        omega
      have hcv : (convert 53 9 (.slice (some ⟨w.heap.size, m, none⟩) L.length L.length)).run Tryz.prog (wr.setCell ⟨w.heap.size, m, none⟩ (.int .u8 ((dg v).toNat : Int))) = .ok (.string ⟨L.toArray⟩) (wr.setCell ⟨w.heap.size, m, none⟩ (.int .u8 ((dg v).toNat : Int))) :=
        run_convert_bytes_back _ 53 9 5 ⟨w.heap.size, m, none⟩ L.length L Tryz.underlying53 Tryz.underlying5 Tryz.underlying9 (fun j hj => by
          have := HA2.out.2.2 j hj
          rw [show 65 - L.length = m by omega] at this
          rw [Go.Lib.add_plain]; exact this)
      rw [hLl] at hcv hsl
      clear hT hL eN hlen hA2 hal hLl
      go_wp2_with fail
      go_ret2
      exact ⟨L, rfl, HT.out, HB2.out⟩
end Go.Proofs.YtclefkmhchfkkaaGreatDoor
