/-
  The document's calendar: Text, number, Parse.
-/
import Derived.Test.YtlebkdmkofgdpaaDoorCr2
import Derived.Test.YtlebkdmkofgdpaaDoorCa5
namespace Go.Proofs.YtlebkdmkofgdpaaDoor
open Go.RowKit Go.Shelf
set_option linter.unusedVariables false

theorem rtext_no (d : Int) (w : World) (h : ¬ (0 ≤ d ∧ d ≤ 3652058)) :
    Calls Tryd.prog 16 #[.int .i64 d] w fun e w' => e = .returned (.tuple #[.string ⟨#[]⟩, .int .i64 100]) ∧ w' = w := by
  have pa := rparts_no d w h
  go_enter Tryd.func16, Tryd.ntmps16
  go_wp2_with (go_at_call 15; refine pa.mono ?_; rintro e w2 ⟨rfl, rfl⟩)
  go_ret2
  exact ⟨rfl, rfl⟩
set_option maxHeartbeats 1000000 in
theorem rtext_yes {d y m k : Int} (hD : Dt d y m k) (w : World) :
    Calls Tryd.prog 16 #[.int .i64 d] w fun e w' => e = .returned (.tuple #[.string ⟨(txt y m k).toArray⟩, .int .i64 0]) ∧ Below w.heap.size w w' := by
  have pa := rparts_at hD w
  have y1 := hD.y1; have y2 := hD.y2; have m1 := hD.m1; have m2 := hD.m2; have k1 := hD.k1; have k2 := hD.k2
  have kb := dim_bd y m
  obtain ⟨O, hO⟩ : ∃ O, O = Obj.cells #[.int .u8 (48 + y / 1000), .int .u8 (48 + y / 100 % 10), .int .u8 (48 + y / 10 % 10), .int .u8 (48 + y % 10), .int .u8 45, .int .u8 (48 + m / 10), .int .u8 (48 + m % 10), .int .u8 45, .int .u8 (48 + k / 10), .int .u8 (48 + k % 10)] 5 := ⟨_, rfl⟩
  have hcv : (convert 49 9 (.slice (some ⟨w.heap.size, 0, none⟩) 10 10)).run Tryd.prog (w.alloc O) = .ok (.string ⟨(txt y m k).toArray⟩) (w.alloc O) := by
    have h := run_convert_bytes_back (P := Tryd.prog) (w.alloc O) 49 9 5 ⟨w.heap.size, 0, none⟩ 10 (txt y m k) Tryd.underlying49 Tryd.underlying5 Tryd.underlying9 (fun j hj => by
      have hj10 : j < 10 := hj
      have V := Va.new w 5 #[.int .u8 (48 + y / 1000), .int .u8 (48 + y / 100 % 10), .int .u8 (48 + y / 10 % 10), .int .u8 (48 + y % 10), .int .u8 45, .int .u8 (48 + m / 10), .int .u8 (48 + m % 10), .int .u8 45, .int .u8 (48 + k / 10), .int .u8 (48 + k % 10)]
      rw [← hO] at V
      rw [Go.Lib.add_plain]
      obtain rfl | rfl | rfl | rfl | rfl | rfl | rfl | rfl | rfl | rfl : j = 0 ∨ j = 1 ∨ j = 2 ∨ j = 3 ∨ j = 4 ∨ j = 5 ∨ j = 6 ∨ j = 7 ∨ j = 8 ∨ j = 9 := by omega
      · exact (V.cellAt 0).trans (by show some (Value.int .u8 _) = some (.int .u8 ((dg (y / 1000)).toNat : Int)); rw [dg_int (by omega) (by omega)])
      · exact (V.cellAt 1).trans (by show some (Value.int .u8 _) = some (.int .u8 ((dg (y / 100 % 10)).toNat : Int)); rw [dg_int (by omega) (by omega)])
      · exact (V.cellAt 2).trans (by show some (Value.int .u8 _) = some (.int .u8 ((dg (y / 10 % 10)).toNat : Int)); rw [dg_int (by omega) (by omega)])
      · exact (V.cellAt 3).trans (by show some (Value.int .u8 _) = some (.int .u8 ((dg (y % 10)).toNat : Int)); rw [dg_int (by omega) (by omega)])
      · exact V.cellAt 4
      · exact (V.cellAt 5).trans (by show some (Value.int .u8 _) = some (.int .u8 ((dg (m / 10)).toNat : Int)); rw [dg_int (by omega) (by omega)])
      · exact (V.cellAt 6).trans (by show some (Value.int .u8 _) = some (.int .u8 ((dg (m % 10)).toNat : Int)); rw [dg_int (by omega) (by omega)])
      · exact V.cellAt 7
      · exact (V.cellAt 8).trans (by show some (Value.int .u8 _) = some (.int .u8 ((dg (k / 10)).toNat : Int)); rw [dg_int (by omega) (by omega)])
      · exact (V.cellAt 9).trans (by show some (Value.int .u8 _) = some (.int .u8 ((dg (k % 10)).toNat : Int)); rw [dg_int (by omega) (by omega)]))
    rw [txt_len] at h
    exact h
  rw [hO] at hcv
  clear hO hD
  generalize txt y m k = T at *
  go_enter Tryd.func16, Tryd.ntmps16
  go_wp2_with (go_at_call 15; refine pa.mono ?_; rintro e w2 ⟨rfl, rfl⟩)
  go_ret2
  exact ⟨rfl, (Below.refl _ _).alloc (Nat.le_refl _) _⟩
/-- What the document's number answers: the digits' number, or -1. -/
def rnum (l : List UInt8) : Int := if l.all isDg = true then numL l else -1
theorem all_take {l : List UInt8} {k : Nat} {c : UInt8} (h : (l.take k).all isDg = true) (e : l.take (k + 1) = l.take k ++ [c]) (hc : isDg c = true) : (l.take (k + 1)).all isDg = true := by
  rw [e, List.all_append, h]; simp [hc]
theorem not_all {l : List UInt8} {k : Nat} (hk : k < l.length) (h : isDg l[k] = false) : l.all isDg = false := by
  rw [List.all_eq_false]
  exact ⟨l[k], List.getElem_mem hk, by rw [h]; simp⟩
theorem digB {l : List UInt8} (h4 : l.length ≤ 4) (h : l.all isDg = true) : 0 ≤ numL l ∧ numL l ≤ 9999 := by
  rw [List.all_eq_true] at h
  have hb : ∀ c ∈ l, 48 ≤ c.toNat ∧ c.toNat ≤ 57 := fun c hc => (isDg_iff c).1 (h c hc)
  match l, h4, hb with
  | [], _, _ => simp [numL]
  | [a], _, hb => have ha := hb a (by simp); simp only [numL, List.foldl_cons, List.foldl_nil]; omega
  | [a, b], _, hb => have ha := hb a (by simp); have hc := hb b (by simp); simp only [numL, List.foldl_cons, List.foldl_nil]; omega
  | [a, b, c], _, hb => have ha := hb a (by simp); have hc := hb b (by simp); have hd := hb c (by simp); simp only [numL, List.foldl_cons, List.foldl_nil]; omega
  | [a, b, c, d], _, hb => have ha := hb a (by simp); have hc := hb b (by simp); have hd := hb c (by simp); have he := hb d (by simp); simp only [numL, List.foldl_cons, List.foldl_nil]; omega
set_option maxHeartbeats 1000000 in
theorem rnumber_any (l : List UInt8) (w : World) (hl : l.length ≤ 4) :
    Calls Tryd.prog 33 #[.string ⟨l.toArray⟩] w fun e w' => e = .returned (.int .i64 (rnum l)) ∧ w' = w := by
  go_enter Tryd.func33, Tryd.ntmps33
  go_wp2
  go_loop [3, 4] (fun n i => ∃ k : Nat, k ≤ l.length ∧ i = .int .i64 k ∧ n = .int .i64 (numL (l.take k)) ∧ (l.take k).all isDg = true) (fun _ i => ((l.length : Int) - intOf i).toNat)
  case atStart => exact ⟨0, Nat.zero_le _, rfl, rfl, rfl⟩
  case round =>
    obtain ⟨k, hk, rfl, rfl, hall⟩ := hrel
    have HA : Hid ((l.take k).all isDg = true) := hall
    clear hall
    by_cases hlt : k < l.length
    · have hi : (k : Int) < l.length := by omega
      obtain ⟨c, hc, hc2, hcd⟩ := byte_at l k hlt
      have hb := digB (l := l.take k) (by simp; omega) HA.out
      have hcl := c.toNat_lt
      have HD : Hid (l.take (k + 1) = l.take k ++ [c]) := hcd
      have HC : Hid (l[k] = c) := hc2
      clear hcd hc2
      generalize hN : numL (l.take k) = N at *
      have HN : Hid (numL (l.take k) = N) := hN
      clear hN
      by_cases a1 : 48 ≤ c.toNat
      · have i1 : ¬ (c.toNat : Int) < 48 := by omega
        have n1 : decide (c.toNat < 48) = false := by simp; omega
        have j1 : decide ((c.toNat : Int) < 48) = false := by simp; omega
        by_cases a2 : c.toNat ≤ 57
        · have i2 : ¬ (57 : Int) < c.toNat := by omega
          have n2 : decide (57 < c.toNat) = false := by simp; omega
          have j2 : decide ((57 : Int) < c.toNat) = false := by simp; omega
          go_wp2
          go_round
          case rel => exact ⟨k + 1, by omega, by go_num, int_of (by rw [HD.out, numL_snoc, HN.out]; omega), all_take HA.out HD.out ((isDg_iff c).2 ⟨a1, a2⟩)⟩
          case measure => simp [intOf]; omega
        · have i2 : (57 : Int) < c.toNat := by omega
          have n2 : decide (57 < c.toNat) = true := by simp; omega
          have j2 : decide ((57 : Int) < c.toNat) = true := by simp; omega
          have hd : isDg c = false := by unfold isDg; simp; omega
          have HR : Hid (rnum l = -1) := by
            show _ = _
            unfold rnum; rw [not_all hlt (by rw [HC.out]; exact hd)]; rfl
          clear hd
          go_wp2
          go_ret
          exact ⟨by rw [HR.out]; rfl, rfl⟩
      · have i1 : (c.toNat : Int) < 48 := by omega
        have n1 : decide (c.toNat < 48) = true := by simp; omega
        have j1 : decide ((c.toNat : Int) < 48) = true := by simp; omega
        have hd : isDg c = false := by unfold isDg; simp; omega
        have HR : Hid (rnum l = -1) := by
          show _ = _
          unfold rnum; rw [not_all hlt (by rw [HC.out]; exact hd)]; rfl
        clear hd
        go_wp2
        go_ret
        exact ⟨by rw [HR.out]; rfl, rfl⟩
    · have hi : ¬ (k : Int) < l.length := by omega
      have HR : Hid (rnum l = numL (l.take k)) := by
        have := HA.out
        show _ = _
        rw [List.take_of_length_le (by omega)] at this ⊢
        unfold rnum; rw [if_pos this]
      go_wp2
      go_ret
      exact ⟨by rw [HR.out]; rfl, rfl⟩
end Go.Proofs.YtlebkdmkofgdpaaDoor
