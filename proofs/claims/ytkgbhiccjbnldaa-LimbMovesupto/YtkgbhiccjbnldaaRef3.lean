/-
  The document's answers: the sum and the difference of two lists of digits to the base 2^32.
-/
import Derived.Test.YtkgbhiccjbnldaaRef2
namespace Go.Proofs.Ytkgbhiccjbnldaa
open Go.RowKit Go.Shelf

def SumInv (xs ys cs : List Int) (n k : Nat) (c : Int) : Prop :=
  cs.length = k ∧ H.Limbs cs ∧ H.num cs + c * H.pw k = H.num (xs.take k) + H.num (ys.take k) ∧ 0 ≤ c ∧ c ≤ 1 ∧ (k ≤ n ∨ (k = n + 1 ∧ c = 0))
theorem sum_step {xs ys cs : List Int} {n k : Nat} {c : Int} (hx : H.Limbs xs) (hy : H.Limbs ys) (hnx : xs.length ≤ n) (hny : ys.length ≤ n) (I : SumInv xs ys cs n k c) (h : k < xs.length ∨ k < ys.length ∨ 0 < c) :
    SumInv xs ys (cs ++ [(xs.getD k 0 + ys.getD k 0 + c) % 4294967296]) n (k + 1) ((xs.getD k 0 + ys.getD k 0 + c) / 4294967296) := by
  obtain ⟨i1, i2, i3, i4, i5, i6⟩ := I
  have b1 := hx.getD k; have b2 := hy.getD k
  have hkn : k ≤ n := by omega
  refine ⟨by simp; omega, i2.snoc ⟨by omega, by omega⟩, ?_, by omega, by omega, ?_⟩
  · have hc := H.carry_step (v := (xs.getD k 0 + ys.getD k 0 + c) % 4294967296) (c' := (xs.getD k 0 + ys.getD k 0 + c) / 4294967296) (p := H.pw k) (s := xs.getD k 0 + ys.getD k 0 + c) (by omega)
    rw [H.num_snoc, i1, H.num_take_succ, H.num_take_succ, H.pw]
    rw [Int.add_mul, Int.add_mul] at hc
    omega
  · by_cases hk : k < n
    · exact .inl (by omega)
    · right
      have e1 : xs.getD k 0 = 0 := by rw [List.getD_eq_getElem?_getD, List.getElem?_eq_none (by omega)]; rfl
      have e2 : ys.getD k 0 = 0 := by rw [List.getD_eq_getElem?_getD, List.getElem?_eq_none (by omega)]; rfl
      exact ⟨by omega, by omega⟩

set_option maxHeartbeats 2000000 in
theorem sum_any (a b : Option Addr) (la ca lb cb : Nat) (xs ys : List Int) (w : World) (ha : Sl w a la xs) (hb : Sl w b lb ys) (hx : H.Limbs xs) (hy : H.Limbs ys) (h1 : la ≤ 17000000000000) (h2 : lb ≤ 17000000000000) :
    Calls Try.prog 46 #[.slice a la ca, .slice b lb cb] w fun e w' => DRes w w' e (H.num xs + H.num ys) (max la lb + 1) := by
  have hza := ha.1; have hzb := hb.1
  obtain ⟨n, hn⟩ : ∃ n, n = max la lb := ⟨_, rfl⟩
  have hna : la ≤ n := by omega
  have hnb : lb ≤ n := by omega
  have hnn : n ≤ 17000000000000 := by omega
  rw [← hn]
  clear hn
  go_enter Try.func46, Try.ntmps46
  go_wp2_with fail
  go_loopw [5, 6, 7] (fun v cc i wr => ∃ (k : Nat) (c : Int) (cs : List Int), i = .int .i64 k ∧ cc = .int .u64 c ∧ k ≤ n + 1 ∧ Hid (SumInv xs ys cs n k c) ∧ Hid (Gr wr w.heap.size v cs) ∧ Below w.heap.size w wr) (fun _ cc i _ => 2 * (n + 1 - (intOf i).toNat) + (intOf cc).toNat)
  case atStart => exact ⟨0, 0, [], rfl, rfl, by omega, ⟨rfl, H.Limbs.nil, by simp [H.num], by omega, by omega, .inl (by omega)⟩, Gr.nil _ _, Below.refl _ _⟩
  case round =>
    obtain ⟨k, c, cs, rfl, rfl, hk, hI, hG, hbl⟩ := hrel
    have hc0 := hI.out.2.2.2.1
    have hc1 := hI.out.2.2.2.2.1
    by_cases hgo : k < la ∨ k < lb ∨ 0 < c
    · have hkn : k ≤ n := by have := hI.out.2.2.2.2.2; omega
      have hstep := sum_step hx hy (by omega) (by omega) hI.out (by omega)
      have hcl : cs.length ≤ k := by have := hI.out.1; omega
      have b1 := hx.getD k; have b2 := hy.getD k
      have D1 := digit_any a la ca xs k wr (ha.below hbl (Nat.le_refl _)) (by omega)
      have D2 := digit_any b lb cb ys k wr (hb.below hbl (Nat.le_refl _)) (by omega)
      rw [Int.toNat_natCast] at D1 D2
      obtain ⟨x, hxx⟩ : ∃ x, xs.getD k 0 = x := ⟨_, rfl⟩
      obtain ⟨y, hyy⟩ : ∃ y, ys.getD k 0 = y := ⟨_, rfl⟩
      rw [hxx] at D1 hstep b1
      rw [hyy] at D2 hstep b2
      obtain ⟨x1, x2⟩ := b1; obtain ⟨y1, y2⟩ := b2
      have HS : Hid (SumInv xs ys (cs ++ [(x + y + c) % 4294967296]) n (k + 1) ((x + y + c) / 4294967296)) := hstep
      have hbs := hbl.size
      have HSZ : Hid (w.heap.size ≤ (wr.alloc (.cells (row [(x + y + c) % 4294967296]).toArray 26)).heap.size) := by show _ ≤ _; simp; omega
      have HM : Hid ((2 : Nat) * (n + 1 - (k + 1)) + ((x + y + c) / 4294967296).toNat < 2 * (n + 1 - k) + c.toNat) := by
        have h6 := hI.out.2.2.2.2.2
        have h7 := hstep.2.2.2.2.2
        have h8 := hstep.2.2.2.2.1
        show _ < _
        omega
      clear hstep hxx hyy
      have hcase : k < la ∨ (¬ k < la ∧ k < lb) ∨ (¬ k < la ∧ ¬ k < lb ∧ 0 < c) := by omega
      clear hgo
      rcases hcase with q1 | ⟨q1, q2⟩ | ⟨q1, q2, q3⟩
      all_goals
        go_wp2_with fail
        refine D1.mono ?_
        rintro e w2 ⟨rfl, hw2⟩
        rw [hw2]
        clear hw2
        go_wp2_with fail
        refine D2.mono ?_
        rintro e w2 ⟨rfl, hw2⟩
        rw [hw2]
        clear hw2 D1 D2
        go_wp2_with (at_builtin; refine wpList_app rfl (.tmp 34) (.tmp 37) rfl w.heap.size u5 cs rfl (hG.out.alloc _) wr.heap.size 1 1 [(x + y + c) % 4294967296] rfl rfl (heap_alloc_new _ _) (by omega) HSZ.out ?_; intro v1 w1 hG1 hb1)
        have hb2 : Below w.heap.size w w1 := (hbl.alloc hbs _).trans hb1
        clear hb1
        go_wp2_with fail
        go_roundw
        case rel => exact ⟨k + 1, _, _, by go_num, rfl, by omega, HS, hG1, hb2⟩
        case measure => simpa [intOf] using HM.out
    · obtain ⟨i1, i2, i3, i4, i5, i6⟩ := hI.out
      have hc : c = 0 := by omega
      subst hc
      rw [List.take_of_length_le (by omega), List.take_of_length_le (by omega), Int.zero_mul, Int.add_zero] at i3
      obtain ⟨aa, cap, hv, hcap, hsl⟩ := hG.out.sl i2.up
      have hu := usedN_le cs
      have hle : cs.length ≤ n + 1 := by omega
      rw [hv]
      have q1 : ¬ k < la := by omega
      have q2 : ¬ k < lb := by omega
      clear hG hv i1 hgo
      go_wp2_with fail
      refine (cutr_any aa cs.length cap cs _ hsl (by omega) hcap).mono ?_
      rintro e w2 ⟨rfl, rfl⟩
      go_wp2_with fail
      go_ret
      exact ⟨aa, usedN cs, cap, cs.take (usedN cs), rfl, by omega, by omega, hsl.take hu, i2.take _, usedN_take cs (Nat.le_refl _), by rw [H.num_take_used cs (Nat.le_refl _)]; exact i3, hbl⟩
end Go.Proofs.Ytkgbhiccjbnldaa
