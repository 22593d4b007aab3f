/-
  calendar: padded, number, Text, Parse.
-/
import Derived.Test.YtlebkdmkofgdpaaDoorShelf
import Derived.Test.YtlebkdmkofgdpaaDoorCa3
import Derived.Test.YtlebkdmkofgdpaaDoorCaT
import Derived.Lib.Strings
import Derived.Lib.ItoaMem
import Derived.Lib.AppendIntMem
namespace Go.Proofs.YtlebkdmkofgdpaaDoor
open Go.RowKit Go.Shelf
set_option linter.unusedVariables false

/-- The table of the powers of ten of strconv. -/
def Pt (w : World) : Prop := Go.Lib.TabIs Tryd.prog w "internal/strconv.uint64pow10" .u64 Go.Lib.pow10Tab
theorem Pt.to {w w' : World} (h : Pt w) (hb : Below w.heap.size w w') : Pt w' := Go.Lib.tabBelow_of_tabIs h w' hb
theorem cat (a b : List UInt8) : (⟨a.toArray⟩ ++ ⟨b.toArray⟩ : ByteArray) = ⟨(a ++ b).toArray⟩ := by
  apply ByteArray.ext
  simp
theorem bsize (l : List UInt8) : (ByteArray.mk l.toArray).size = l.length := by rw [Go.Lib.size_eq]
theorem repeat_noughts (n : Nat) : Go.Lib.repeatL [48] n = List.replicate n 48 := by
  induction n with
  | zero => simp [Go.Lib.repeatL]
  | succ n ih => simp_all [Go.Lib.repeatL, List.replicate_succ]
theorem zrep (n : Nat) (hn : n ≤ 1000000) (w : World) : Calls Tryd.prog 36 #[.string ⟨#[48]⟩, .int .i64 n] w fun e w' => e = .returned (.string ⟨(List.replicate n (48 : UInt8)).toArray⟩) ∧ Below w.heap.size w w' := by
  have := Tryd.strings_Repeat ⟨#[48]⟩ n w (by omega) (by show 1 * n ≤ _; omega)
  rw [show (ByteArray.mk #[48]).data.toList = [48] from rfl, repeat_noughts] at this
  exact this
theorem itoa_any (u : Nat) (hu : u ≤ 9999) (w : World) (hP : Pt w) : Calls Tryd.prog 35 #[.int .i64 u] w fun e w' => e = .returned (.string ⟨(Go.Lib.decDigits u).toArray⟩) ∧ Below w.heap.size w w' := by
  refine (Tryd.strconv_Itoa u (by omega) (by omega) w hP).mono ?_
  rintro e w' ⟨rfl, k, os, rfl⟩
  exact ⟨by rw [Go.Lib.itoa_nonneg], Go.Lib.below_grow _ _ (Nat.le_refl _) _ _⟩
set_option maxHeartbeats 1000000 in
theorem padded_any (u : Nat) (W : Nat) (l : List UInt8) (w : World) (hu : u ≤ 9999) (hW : W ≤ 4) (hl : (Go.Lib.decDigits u).length ≤ W) (he : List.replicate (W - (Go.Lib.decDigits u).length) 48 ++ Go.Lib.decDigits u = l) (hP : Pt w) :
    Calls Tryd.prog 26 #[.int .i64 u, .int .i64 W] w fun e w' => e = .returned (.string ⟨l.toArray⟩) ∧ Below w.heap.size w w' := by
  have it := itoa_any u hu w hP
  obtain ⟨x, hx⟩ : ∃ x, Go.Lib.decDigits u = x := ⟨_, rfl⟩
  rw [hx] at hl he it
  obtain ⟨z, hz⟩ : ∃ z : List UInt8, List.replicate (W - x.length) 48 = z := ⟨_, rfl⟩
  have zr := fun w' => zrep (W - x.length) (by omega) w'
  rw [hz] at zr he
  rw [show ((W - x.length : Nat) : Int) = (W : Int) - (x.length : Int) by omega] at zr
  have hcat := cat z x
  have hzl : z.length ≤ 4 := by rw [← hz]; simp; omega
  rw [he] at hcat
  clear hz hx hP he
  go_enter Tryd.func26, Tryd.ntmps26
  go_wp2_with (go_at_call 35; refine it.mono ?_; rintro e w2 ⟨rfl, hb⟩)
  go_at_call 36
  refine (zr _).mono ?_
  rintro e w3 ⟨rfl, hb2⟩
  go_wp2_with fail
  go_ret
  exact ⟨rfl, step hb hb2⟩
theorem numB (r : List UInt8) : -48 * (((10 ^ r.length : Nat) : Int) - 1) ≤ 9 * numL r.reverse ∧ 9 * numL r.reverse ≤ 207 * (((10 ^ r.length : Nat) : Int) - 1) := by
  induction r with
  | nil => simp [numL]
  | cons c r ih =>
    have hc := c.toNat_lt
    rw [List.reverse_cons, numL_snoc, List.length_cons, show 10 ^ (r.length + 1) = 10 * 10 ^ r.length by rw [Nat.pow_succ, Nat.mul_comm]]
    generalize 10 ^ r.length = P at *
    omega
theorem numB4 {l : List UInt8} (h : l.length ≤ 4) : -60000 ≤ numL l ∧ numL l ≤ 300000 := by
  have := numB l.reverse
  rw [List.reverse_reverse, List.length_reverse] at this
  have h2 : 10 ^ l.length ≤ 10 ^ 4 := Nat.pow_le_pow_right (by omega) h
  generalize 10 ^ l.length = P at *
  omega
theorem byte_at (s : List UInt8) (p : Nat) (h : p < s.length) : ∃ c, (ByteArray.mk s.toArray)[p]'(by rw [bsize]; exact h) = c ∧ s[p] = c ∧ s.take (p + 1) = s.take p ++ [c] := by
  refine ⟨s[p], rfl, rfl, ?_⟩
  rw [List.take_succ_eq_append_getElem h]
set_option maxHeartbeats 1000000 in
theorem number_any (l : List UInt8) (w : World) (hl : l.length ≤ 4) :
    Calls Tryd.prog 32 #[.string ⟨l.toArray⟩] w fun e w' => e = .returned (.int .i64 (numL l)) ∧ w' = w := by
  go_enter Tryd.func32, Tryd.ntmps32
  go_wp2
  go_loop [3, 7] (fun n i => ∃ k : Nat, k ≤ l.length ∧ i = .int .i64 k ∧ n = .int .i64 (numL (l.take k))) (fun _ i => ((l.length : Int) - intOf i).toNat)
  case atStart => exact ⟨0, Nat.zero_le _, rfl, rfl⟩
  case round =>
    obtain ⟨k, hk, rfl, rfl⟩ := hrel
    by_cases hlt : k < l.length
    · have hi : (k : Int) < l.length := by omega
      obtain ⟨c, hc, hc2, hcd⟩ := byte_at l k hlt
      have hb := numB4 (l := l.take k) (by simp; omega)
      have hcl := c.toNat_lt
      have HS : Hid (numL (l.take (k + 1)) = 10 * numL (l.take k) + ((c.toNat : Int) - 48)) := by show _ = _; rw [hcd, numL_snoc]
      clear hcd
      generalize numL (l.take k) = N at *
      go_wp2
      go_round
      case rel => exact ⟨k + 1, by omega, by go_num, int_of (by rw [HS.out]; omega)⟩
      case measure => simp [intOf]; omega
    · have hi : ¬ (k : Int) < l.length := by omega
      have e : numL (l.take k) = numL l := by rw [List.take_of_length_le (by omega)]
      rw [e]
      clear e
      go_wp2
      go_ret
      exact ⟨rfl, rfl⟩
set_option maxHeartbeats 1000000 in
theorem text_yes {d y m k : Int} (hD : Dt d y m k) (w : World) (hT : Tl w) (hP : Pt w) :
    Calls Tryd.prog 10 #[.int .i64 d] w fun e w' => e = .returned (.tuple #[.string ⟨(txt y m k).toArray⟩, .int .i64 0]) ∧ Below w.heap.size w w' := by
  have pa := parts_at hD w hT
  have y1 := hD.y1; have y2 := hD.y2; have m1 := hD.m1; have m2 := hD.m2; have k1 := hD.k1; have k2 := hD.k2
  have kb := dim_bd y m
  have a4 := pad4 (u := y.toNat) (by omega)
  have b2 := pad2 (u := m.toNat) (by omega)
  have c2 := pad2 (u := k.toNat) (by omega)
  have p1 := fun w hP => padded_any y.toNat 4 _ w (by omega) (by omega) a4.1 a4.2 hP
  have p2 := fun w hP => padded_any m.toNat 2 _ w (by omega) (by omega) b2.1 b2.2 hP
  have p3 := fun w hP => padded_any k.toNat 2 _ w (by omega) (by omega) c2.1 c2.2 hP
  rw [show ((y.toNat : Nat) : Int) = y by omega] at p1
  rw [show ((m.toNat : Nat) : Int) = m by omega] at p2
  rw [show ((k.toNat : Nat) : Int) = k by omega] at p3
  have HT : Hid ((((tx4 y ++ [45]) ++ tx2 m) ++ [45]) ++ tx2 k = txt y m k) := by show _ = _; simp [txt]
  have l4 : (tx4 y).length = 4 := rfl
  have l2 : (tx2 m).length = 2 := rfl
  have l3 : (tx2 k).length = 2 := rfl
  generalize txt y m k = T at *
  generalize tx4 y = A at *
  generalize tx2 m = B at *
  generalize tx2 k = C at *
  obtain ⟨T1, h1⟩ : ∃ T1, A ++ [45] = T1 := ⟨_, rfl⟩
  obtain ⟨T2, h2⟩ : ∃ T2, T1 ++ B = T2 := ⟨_, rfl⟩
  obtain ⟨T3, h3⟩ : ∃ T3, T2 ++ [45] = T3 := ⟨_, rfl⟩
  have h4 : T3 ++ C = T := by rw [← h3, ← h2, ← h1]; exact HT.out
  have g1 := cat A [45]; have g2 := cat T1 B; have g3 := cat T2 [45]; have g4 := cat T3 C
  have n1 : T1.length = 5 := by rw [← h1]; simp; omega
  have n2 : T2.length = 7 := by rw [← h2]; simp; omega
  have n3 : T3.length = 8 := by rw [← h3]; simp; omega
  rw [h1] at g1; rw [h2] at g2; rw [h3] at g3; rw [h4] at g4
  clear h1 h2 h3 h4 HT a4 b2 c2 hT
  go_enter Tryd.func10, Tryd.ntmps10
  go_wp2_with (go_at_call 14; refine pa.mono ?_; rintro e w2 ⟨rfl, rfl⟩)
  go_at_call 26
  refine (p1 _ hP).mono ?_
  rintro e w3 ⟨rfl, hb3⟩
  go_wp2_with fail
  go_at_call 26
  refine (p2 _ (hP.to hb3)).mono ?_
  rintro e w4 ⟨rfl, hb4⟩
  have HB := step hb3 hb4
  go_wp2_with fail
  go_at_call 26
  refine (p3 _ (hP.to HB)).mono ?_
  rintro e w5 ⟨rfl, hb5⟩
  go_wp2_with fail
  go_ret2
  exact ⟨rfl, step HB hb5⟩
theorem text_no (d : Int) (w : World) (h : ¬ (0 ≤ d ∧ d ≤ 3652058)) :
    Calls Tryd.prog 10 #[.int .i64 d] w fun e w' => e = .returned (.tuple #[.string ⟨#[]⟩, .int .i64 100]) ∧ w' = w := by
  have pa := parts_no d w h
  go_enter Tryd.func10, Tryd.ntmps10
  go_wp2_with (go_at_call 14; refine pa.mono ?_; rintro e w2 ⟨rfl, rfl⟩)
  go_ret2
  exact ⟨rfl, rfl⟩
end Go.Proofs.YtlebkdmkofgdpaaDoor
