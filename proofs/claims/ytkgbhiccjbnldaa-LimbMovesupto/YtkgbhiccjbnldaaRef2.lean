/-
  The document's answers: Digits: a list of limbs as digits to the base 2^32.
-/
import Derived.Test.YtkgbhiccjbnldaaRef1
namespace Go.Proofs.Ytkgbhiccjbnldaa
open Go.RowKit Go.Shelf

/-- What holds behind k limbs. -/
def GInv (zs cs : List Int) (k : Nat) : Prop := cs.length = 2 * k ∧ H.Limbs cs ∧ H.num cs = num (zs.take k)
theorem ginv_step {zs cs : List Int} {k : Nat} (h : Limbs zs) (I : GInv zs cs k) : GInv zs (cs ++ [zs.getD k 0 % 4294967296, zs.getD k 0 / 4294967296]) (k + 1) := by
  obtain ⟨i1, i2, i3⟩ := I
  have b := h.getD k
  refine ⟨by simp; omega, i2.append ?_, ?_⟩
  · intro z hz
    simp only [List.mem_cons, List.not_mem_nil, or_false] at hz
    rcases hz with rfl | rfl <;> omega
  · rw [H.num_append, i1, H.pw_two, num_take_succ, i3]
    have : H.num [zs.getD k 0 % 4294967296, zs.getD k 0 / 4294967296] = zs.getD k 0 := by simp only [H.num]; omega
    rw [this]

/-- A list of digits is answered, trimmed, of that number. -/
def DRes (w w' : World) (e : Ending) (N : Int) (bound : Nat) : Prop :=
  ∃ a m c ds, e = .returned (.slice a m c) ∧ m ≤ c ∧ m ≤ bound ∧ Sl w' a m ds ∧ H.Limbs ds ∧ usedN ds = m ∧ H.num ds = N ∧ Below w.heap.size w w'

set_option maxHeartbeats 1000000 in
theorem digits_any (a : Option Addr) (la ca : Nat) (zs : List Int) (w : World) (h : Sl w a la zs) (hl : la ≤ 8000000000000) :
    Calls Try.prog 47 #[.slice a la ca] w fun e w' => DRes w w' e (num zs) (2 * la) := by
  have hz := h.1
  have hL := h.2.1
  go_enter Try.func47, Try.ntmps47
  go_wp2_with fail
  go_loopw [3, 4] (fun v i wr => ∃ (k : Nat) (cs : List Int), k ≤ la ∧ i = .int .i64 k ∧ Hid (GInv zs cs k) ∧ Hid (Gr wr w.heap.size v cs) ∧ Below w.heap.size w wr) (fun _ i _ => la - (intOf i).toNat)
  case atStart => exact ⟨0, [], Nat.zero_le _, rfl, ⟨rfl, H.Limbs.nil, rfl⟩, Gr.nil _ _, Below.refl _ _⟩
  case round =>
    obtain ⟨k, cs, hk, rfl, hI, hG, hb⟩ := hrel
    by_cases hlt : k < la
    · have hs := h.below hb (Nat.le_refl _)
      obtain ⟨b, off, rfl, hcell⟩ := hs.2.2 (by omega)
      have hcx := hcell k hlt
      have hstep := ginv_step hL hI.out
      have hw := hL.getD k
      obtain ⟨x, hx⟩ : ∃ x, zs.getD k 0 = x := ⟨_, rfl⟩
      rw [hx] at hcx hstep hw
      obtain ⟨x1, x2⟩ := hw
      obtain ⟨d0, hd0⟩ : ∃ d, x % 4294967296 = d := ⟨_, rfl⟩
      obtain ⟨d1, hd1⟩ : ∃ d, x / 4294967296 = d := ⟨_, rfl⟩
      rw [hd0, hd1] at hstep
      have e1 : x.tmod 4294967296 = d0 := by rw [Int.tmod_eq_emod_of_nonneg x1, hd0]
      have e2 : IntKind.u64.wrap (x.tdiv 4294967296) = d1 := by rw [Int.tdiv_eq_ediv_of_nonneg x1, IntKind.wrap_u64]; omega
      have HS : Hid (GInv zs (cs ++ [d0, d1]) (k + 1)) := hstep
      have hcl : cs.length ≤ 2 * k := by have := hI.out.1; omega
      clear hs hcell hx hstep hd0 hd1
      go_wp2_with fail
      go_region_law (refine step_app rfl (.tmp 11) (.tmp 22) rfl w.heap.size u3 cs (by simp [Act.eval]) (by exact hG.out.alloc _) wr.heap.size 2 2 [d0, d1] (by simp [Act.eval]) rfl (by exact heap_alloc_new _ _) (by omega) (by have := hb.size; simp; omega) ?_; intro v1 w1 hG1 hb1)
      all_goals
        have hb2 : Below w.heap.size w w1 := ((hb.alloc hb.size _).drew).trans hb1
        have HG1 : Hid (Gr w1 w.heap.size v1 (cs ++ [d0, d1])) := hG1
        clear hG1 hb1
        go_wp2_with fail
        go_roundw
        case rel => exact ⟨k + 1, _, by omega, by go_num, HS, HG1, hb2⟩
        case measure => simp [intOf]; omega
    · obtain rfl : k = la := by omega
      obtain ⟨i1, i2, i3⟩ := hI.out
      rw [List.take_of_length_le (by omega)] at i3
      obtain ⟨aa, cap, hv, hcap, hsl⟩ := hG.out.sl i2.up
      have hu := usedN_le cs
      have hle : cs.length ≤ 2 * k := by omega
      rw [hv]
      clear hG hv i1
      go_wp2_with fail
      refine (cutr_any aa cs.length cap cs _ hsl (by omega) hcap).mono ?_
      rintro e w2 ⟨rfl, rfl⟩
      go_wp2_with fail
      go_ret
      exact ⟨aa, usedN cs, cap, cs.take (usedN cs), rfl, by omega, by omega, hsl.take hu, i2.take _, usedN_take cs (Nat.le_refl _), by rw [H.num_take_used cs (Nat.le_refl _)]; exact i3, hb⟩
end Go.Proofs.Ytkgbhiccjbnldaa
