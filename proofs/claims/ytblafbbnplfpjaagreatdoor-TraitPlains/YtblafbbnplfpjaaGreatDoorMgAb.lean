/-
  Put together of: Order, Lists2.
-/
import Derived.Test.YtblafbbnplfpjaaGreatDoorBsA
import Derived.Test.YtblafbbnplfpjaaGreatDoorMgAa
import Derived.Test.YtblafbbnplfpjaaGreatDoorMgAc
import Derived.Deep.RegionWith
import Derived.Deep.RegionLaw
namespace Go.Proofs.YtblafbbnplfpjaaGreatDoor

/-- -1, 0 or 1. -/
def cmp3 (x y : Int) : Int := if x < y then -1 else if y < x then 1 else 0
theorem cmp3_lt {x y : Int} (h : x < y) : cmp3 x y = -1 := by simp [cmp3, h]
theorem cmp3_gt {x y : Int} (h : y < x) : cmp3 x y = 1 := by unfold cmp3; rw [if_neg (by omega), if_pos h]
theorem cmp3_eq {x y : Int} (h : x = y) : cmp3 x y = 0 := by subst h; simp [cmp3]
theorem cmp3_neg_iff (x y : Int) : cmp3 x y < 0 ↔ x < y := by
  rcases Int.lt_trichotomy x y with h | h | h
  · rw [cmp3_lt h]; omega
  · rw [cmp3_eq h]; omega
  · rw [cmp3_gt h]; omega

theorem num_above {a b : List Int} {t : Nat} (h : ∀ j, t ≤ j → a.getD j 0 = b.getD j 0) : ∀ k, num (a.take (t + k)) - num (a.take t) = num (b.take (t + k)) - num (b.take t)
  | 0 => by simp only [Nat.add_zero]; omega
  | k + 1 => by
    have ih := num_above h k
    rw [← Nat.add_assoc, num_take_succ, num_take_succ, h (t + k) (by omega)]; omega
theorem num_above' {a b : List Int} {t : Nat} (h : ∀ j, t ≤ j → a.getD j 0 = b.getD j 0) : num a - num (a.take t) = num b - num (b.take t) := by
  have e := num_above h (a.length + b.length)
  have e1 : a.take (t + (a.length + b.length)) = a := List.take_of_length_le (by omega)
  have e2 : b.take (t + (a.length + b.length)) = b := List.take_of_length_le (by omega)
  rw [e1, e2] at e; exact e
/-- The highest limb in which they differ decides. -/
theorem num_lt_at {a b : List Int} {t : Nat} (ha : Limbs a) (hb : Limbs b) (h : ∀ j, t < j → a.getD j 0 = b.getD j 0) (hlt : a.getD t 0 < b.getD t 0) : num a < num b := by
  have e := num_above' (t := t + 1) (fun j hj => h j (by omega))
  rw [num_take_succ, num_take_succ] at e
  have h1 := num_lt (ha.take t); have h2 := num_nonneg (hb.take t)
  have h3 : num (a.take t) < pw t := by
    refine Int.lt_of_lt_of_le h1 (pw_mono ?_)
    rw [List.length_take]; omega
  have h4 : (a.getD t 0 + 1) * pw t ≤ b.getD t 0 * pw t := Int.mul_le_mul_of_nonneg_right (by omega) (by have := pw_pos t; omega)
  rw [Int.add_mul, Int.one_mul] at h4
  omega
theorem num_lt_len {a b : List Int} (ha : Limbs a) (hb : Limbs b) (h : usedN a < usedN b) : num a < num b := by
  have h1 := num_lt_used ha; have h2 := num_ge_used hb (by omega)
  have := pw_mono (show usedN a ≤ usedN b - 1 by omega); omega
theorem num_eq_of {a b : List Int} (h : ∀ j, a.getD j 0 = b.getD j 0) : num a = num b := by
  have e := num_above' (a := a) (b := b) (t := 0) (fun j _ => h j)
  simp [num] at e; omega
end Go.Proofs.YtblafbbnplfpjaaGreatDoor

namespace Go.Proofs.YtblafbbnplfpjaaGreatDoor
open Go.RowKit Go.Shelf

theorem sign_any (b : Bool) (w : World) : Calls Tryz.prog 164 #[.bool b] w fun e w' => e = .returned (.int .i64 (if b then 1 else -1)) ∧ w' = w := by
  cases b
  all_goals
    go_enter Tryz.func164, Tryz.ntmps164
    go_wp2_with fail
    go_ret
    exact ⟨rfl, rfl⟩

theorem trim_any (a : Option Addr) (len cap : Nat) (zs : List Int) (w : World) (h : Sl w a len zs) (hl : len ≤ 20000000000000) (hcap : len ≤ cap) :
    Calls Tryz.prog 181 #[.slice a len cap] w fun e w' =>
      ∃ g, e = .returned (.slice (some ⟨g, 0, none⟩) (usedN zs) (usedN zs)) ∧ w.heap.size ≤ g ∧ Own w' g (zs.take (usedN zs)) ∧ Below w.heap.size w w' := by
  have hu := usedN_le zs
  have hz := h.1
  go_enter Tryz.func181, Tryz.ntmps181
  go_wp2_with fail
  refine (used_any a len cap zs _ h (by omega)).mono ?_
  rintro e w' ⟨rfl, rfl⟩
  go_wp2_with fail
  refine (widened_any a len cap (usedN zs) zs _ h hl hcap (Nat.le_refl _) (by omega)).mono ?_
  rintro e w' ⟨g, rfl, hg, ho, hb⟩
  go_wp2_with fail
  go_ret
  refine ⟨g, rfl, hg, ?_, hb⟩
  rw [Nat.sub_self, List.replicate_zero, List.append_nil] at ho
  exact ho

set_option maxHeartbeats 1000000 in
theorem compare_any (a b : Option Addr) (la ca lb cb : Nat) (xs ys : List Int) (w : World) (ha : Sl w a la xs) (hb : Sl w b lb ys) (h1 : la ≤ 40000000000000) (h2 : lb ≤ 40000000000000) :
    Calls Tryz.prog 139 #[.slice a la ca, .slice b lb cb] w fun e w' => e = .returned (.int .i64 (cmp3 (num xs) (num ys))) ∧ ∃ n, w' = w.drewN n := by
  have hux := usedN_le xs; have huy := usedN_le ys
  have hza := ha.1; have hzb := hb.1
  have hLx := ha.2.1; have hLy := hb.2.1
  have U := used_any a la ca xs w ha h1
  have V := used_any b lb cb ys w hb h2
  by_cases hne : usedN xs = usedN ys
  · by_cases h0 : usedN xs = 0
    · have e1 : cmp3 (num xs) (num ys) = 0 := cmp3_eq (by rw [(num_eq_zero hLx).2 h0, (num_eq_zero hLy).2 (by omega)])
      rw [e1]
      rw [h0] at U
      rw [← hne, h0] at V
      clear ha hb hne h0
      go_enter Tryz.func139, Tryz.ntmps139
      go_wp2_with fail
      refine U.mono ?_
      rintro e w' ⟨rfl, rfl⟩
      go_wp2_with fail
      refine V.mono ?_
      rintro e w' ⟨rfl, rfl⟩
      go_wp2_with fail
      refine wp_loop_rounds 1 ?_
      rw [rounds_succ]
      go_wp2_with fail
      go_ret
      exact ⟨rfl, 0, rfl⟩
    · obtain ⟨ba, oa, rfl, hca⟩ := ha.2.2 (by omega)
      obtain ⟨bb, ob, rfl, hcb⟩ := hb.2.2 (by omega)
      rw [← hne] at V
      obtain ⟨n, hn⟩ : ∃ n, usedN xs = n := ⟨_, rfl⟩
      rw [hn] at U V
      have hna : n ≤ la := by omega
      have hnb : n ≤ lb := by omega
      have HN : Hid (usedN xs = n) := hn
      have HE : Hid (usedN xs = usedN ys) := hne
      have g1 : ((n : Int) != n) = false := by simp
      clear hn hne h0 ha hb hux huy
      go_enter Tryz.func139, Tryz.ntmps139
      go_wp2_with fail
      refine U.mono ?_
      rintro e w' ⟨rfl, rfl⟩
      go_wp2_with fail
      refine V.mono ?_
      rintro e w' ⟨rfl, rfl⟩
      clear U V
      go_wp2_with fail
      go_loopw [21] (fun i wr => ∃ k : Nat, k ≤ n ∧ i = .int .i64 k ∧ Hid (∀ j, n - k ≤ j → j < n → xs.getD j 0 = ys.getD j 0) ∧ ∃ q, wr = w'.drewN q) (fun i _ => n - (intOf i).toNat)
      case atStart => exact ⟨0, Nat.zero_le _, rfl, fun j h1 h2 => absurd h1 (by omega), 0, rfl⟩
      case round =>
        obtain ⟨k, hk, rfl, hI, q, rfl⟩ := hrel
        by_cases hlt : k < n
        · have hcx := hca (n - 1 - k) (by omega)
          have hcy := hcb (n - 1 - k) (by omega)
          have ex : ((n : Int) - 1 - k).toNat = n - 1 - k := by omega
          obtain ⟨x, hx⟩ : ∃ x, xs.getD (n - 1 - k) 0 = x := ⟨_, rfl⟩
          obtain ⟨y, hy⟩ : ∃ y, ys.getD (n - 1 - k) 0 = y := ⟨_, rfl⟩
          rw [hx] at hcx
          rw [hy] at hcy
          have HX : Hid (xs.getD (n - 1 - k) 0 = x) := hx
          have HY : Hid (ys.getD (n - 1 - k) 0 = y) := hy
          clear hx hy
          by_cases hxy : x = y
          · have g2 : (x != y) = false := by simp [hxy]
            have HXY : Hid (x = y) := hxy
            clear hxy
            go_wp2_with fail
            go_quiet (fail)
            go_wp2_with fail
            go_roundw
            case rel =>
              refine ⟨k + 1, by omega, by go_num, ?_, q + nq, rfl⟩
              intro j h1 h2
              by_cases hj : j = n - 1 - k
              · rw [hj, HX.out, HY.out, HXY.out]
              · exact hI.out j (by omega) h2
            case measure => simp [intOf]; omega
          · have g2 : (x != y) = true := by simp [hxy]
            have g3 : Hid (∀ j, n - 1 - k < j → xs.getD j 0 = ys.getD j 0) := by
              intro j hj
              by_cases hjn : j < n
              · exact hI.out j (by omega) hjn
              · rw [usedN_beyond xs j (by rw [HN.out]; omega), usedN_beyond ys j (by rw [← HE.out, HN.out]; omega)]
            by_cases hyx : y < x
            · have e1 : cmp3 (num xs) (num ys) = 1 := cmp3_gt (num_lt_at hLy hLx (fun j hj => (g3.out j hj).symm) (by rw [HX.out, HY.out]; exact hyx))
              have E1 : Hid (cmp3 (num xs) (num ys) = 1) := e1
              clear e1 hxy
              go_wp2_with fail
              go_quiet (fail)
              go_wp2_with fail
              go_region_with (go_at_call 164; refine (sign_any _ _).mono ?_; rintro e w1 ⟨rfl, rfl⟩)
              all_goals
                go_wp2_with fail
                go_ret
                exact ⟨ret_int (by rw [E1.out]), _, rfl⟩
            · have e1 : cmp3 (num xs) (num ys) = -1 := cmp3_lt (num_lt_at hLx hLy g3.out (by rw [HX.out, HY.out]; omega))
              have E1 : Hid (cmp3 (num xs) (num ys) = -1) := e1
              clear e1 hxy
              go_wp2_with fail
              go_quiet (fail)
              go_wp2_with fail
              go_region_with (go_at_call 164; refine (sign_any _ _).mono ?_; rintro e w1 ⟨rfl, rfl⟩)
              all_goals
                go_wp2_with fail
                go_ret
                exact ⟨ret_int (by rw [E1.out]), _, rfl⟩
        · have e1 : cmp3 (num xs) (num ys) = 0 := by
            refine cmp3_eq (num_eq_of fun j => ?_)
            by_cases hjn : j < n
            · exact hI.out j (by omega) hjn
            · rw [usedN_beyond xs j (by rw [HN.out]; omega), usedN_beyond ys j (by rw [← HE.out, HN.out]; omega)]
          have E1 : Hid (cmp3 (num xs) (num ys) = 0) := e1
          clear e1
          go_wp2_with fail
          go_ret
          exact ⟨ret_int (by rw [E1.out]), q, rfl⟩
  · have g1 : ((usedN xs : Int) != usedN ys) = true := by simp; omega
    by_cases hgt : usedN ys < usedN xs
    · have e1 : cmp3 (num xs) (num ys) = 1 := cmp3_gt (num_lt_len hLy hLx hgt)
      rw [e1]
      clear ha hb hne e1
      go_enter Tryz.func139, Tryz.ntmps139
      go_wp2_with fail
      refine U.mono ?_
      rintro e w' ⟨rfl, rfl⟩
      go_wp2_with fail
      refine V.mono ?_
      rintro e w' ⟨rfl, rfl⟩
      go_wp2_with fail
      refine (sign_any _ _).mono ?_
      rintro e w' ⟨rfl, rfl⟩
      go_wp2_with fail
      go_ret
      exact ⟨rfl, 0, rfl⟩
    · have e1 : cmp3 (num xs) (num ys) = -1 := cmp3_lt (num_lt_len hLx hLy (by omega))
      rw [e1]
      clear ha hb hne e1
      go_enter Tryz.func139, Tryz.ntmps139
      go_wp2_with fail
      refine U.mono ?_
      rintro e w' ⟨rfl, rfl⟩
      go_wp2_with fail
      refine V.mono ?_
      rintro e w' ⟨rfl, rfl⟩
      go_wp2_with fail
      refine (sign_any _ _).mono ?_
      rintro e w' ⟨rfl, rfl⟩
      go_wp2_with fail
      go_ret
      exact ⟨rfl, 0, rfl⟩
end Go.Proofs.YtblafbbnplfpjaaGreatDoor
namespace Go.Proofs.YtblafbbnplfpjaaGreatDoor
open Go.RowKit Go.Shelf

theorem step {w wk w' : World} (B : Below w.heap.size w wk) (hb : Below wk.heap.size wk w') : Below w.heap.size w w' := B.trans (hb.mono B.size)

theorem one_list {zs xs : List Int} {m : Nat} (h1 : Limbs zs) (h2 : Limbs xs) (hl : zs.length = m) (hu : usedN zs = m) (hn : num zs = num xs) : m = usedN xs ∧ zs = xs.take (usedN xs) := by
  have e := trim_eq h1 h2 hn
  have u := used_of_num h1 h2 hn
  rw [hu, ← hl, List.take_of_length_le (Nat.le_refl _)] at e
  exact ⟨by omega, e⟩

theorem compare_b (a b : Option Addr) (la ca lb cb : Nat) (xs ys : List Int) (w : World) (ha : Sl w a la xs) (hb : Sl w b lb ys) (h1 : la ≤ 40000000000000) (h2 : lb ≤ 40000000000000) :
    Calls Tryz.prog 139 #[.slice a la ca, .slice b lb cb] w fun e w' => e = .returned (.int .i64 (cmp3 (num xs) (num ys))) ∧ Below w.heap.size w w' := by
  refine (compare_any a b la ca lb cb xs ys w ha hb h1 h2).mono ?_
  rintro e w' ⟨rfl, n, rfl⟩
  exact ⟨rfl, below_drewN (Below.refl _ _) n⟩
theorem sl_one (w : World) (m : Int) (hm : Word m) : Sl (w.alloc (.cells #[.int .u64 m] 124)) (some ⟨w.heap.size, 0, none⟩) 1 [m] := by
  refine ⟨rfl, fun z hz => by rw [List.mem_singleton.1 hz]; exact hm, fun _ => ⟨_, _, rfl, fun i hi => ?_⟩⟩
  obtain rfl : i = 0 := by omega
  exact Own.cell (cs := [m]) (heap_alloc_new w _) 0 Nat.one_pos
end Go.Proofs.YtblafbbnplfpjaaGreatDoor

namespace Go.Proofs.YtblafbbnplfpjaaGreatDoor

theorem pw_eq : ∀ n : Nat, pw n = 2 ^ (64 * n)
  | 0 => by simp [pw]
  | n + 1 => by
    rw [pw, pw_eq n, Nat.mul_add, Int.pow_add, Int.mul_comm]; rfl

/-- What holds behind k limbs moved down. -/
def DnInv (xs cs : List Int) (P : Int) (k : Nat) : Prop :=
  cs.length = xs.length ∧ Limbs cs ∧ (∀ j, k ≤ j → cs.getD j 0 = xs.getD j 0) ∧ P * num (cs.take k) + xs.getD 0 0 % P = num (xs.take k) + xs.getD k 0 % P * pw k

theorem dninv_start {xs : List Int} {P : Int} (hx : Limbs xs) : DnInv xs xs P 0 := ⟨rfl, hx, fun _ _ => rfl, by simp [num, pw]⟩
theorem down_word {x y P D : Int} (hPD : P * D = 18446744073709551616) (hP : 0 < P) (hD : 0 < D) (hx : 0 ≤ x ∧ x < 18446744073709551616) :
    P * (x / P + (y * D) % 18446744073709551616) + x % P = x + 18446744073709551616 * (y % P) ∧ 0 ≤ x / P ∧ x / P < D ∧ (y * D) % 18446744073709551616 = (y % P) * D ∧ 0 ≤ x / P + (y * D) % 18446744073709551616 ∧ x / P + (y * D) % 18446744073709551616 < 18446744073709551616 := by
  have e1 : (y * D) % 18446744073709551616 = (y % P) * D := by
    rw [← hPD, Int.mul_comm P D, Int.mul_comm y D, Int.mul_emod_mul_of_pos _ _ hD, Int.mul_comm]
  have h1 := Int.emod_nonneg y (b := P) (by omega)
  have h2 := Int.emod_lt_of_pos y hP
  have h3 := Int.mul_ediv_add_emod x P
  have h4 : 0 ≤ x / P := Int.ediv_nonneg hx.1 (by omega)
  have h5 : x / P < D := Int.ediv_lt_of_lt_mul hP (by rw [Int.mul_comm, hPD]; exact hx.2)
  have h6 : (y % P + 1) * D ≤ P * D := Int.mul_le_mul_of_nonneg_right (by omega) (by omega)
  rw [Int.add_mul, Int.one_mul, hPD] at h6
  have h7 : 0 ≤ (y % P) * D := Int.mul_nonneg h1 (by omega)
  rw [e1]
  refine ⟨?_, h4, h5, rfl, by omega, by omega⟩
  rw [Int.mul_add, Int.mul_left_comm P, hPD, Int.mul_comm _ 18446744073709551616]
  omega
theorem dninv_step {xs cs : List Int} {P D : Int} {k : Nat} (hPD : P * D = 18446744073709551616) (hP : 0 < P) (hD : 0 < D) (I : DnInv xs cs P k) (h : k < xs.length) :
    DnInv xs (cs.set k (cs.getD k 0 / P + (cs.getD (k + 1) 0 * D) % 18446744073709551616)) P (k + 1) := by
  obtain ⟨i1, i2, i3, i4⟩ := I
  have b1 := i2.getD k
  have e := i3 k (Nat.le_refl _)
  have e' := i3 (k + 1) (by omega)
  obtain ⟨p1, p2, p3, p4, p5, p6⟩ := down_word (y := cs.getD (k + 1) 0) hPD hP hD b1
  refine ⟨by rw [List.length_set]; exact i1, i2.set k ⟨p5, p6⟩, fun j hj => by rw [getD_set_other _ _ _ _ (by omega)]; exact i3 j (by omega), ?_⟩
  rw [num_set_take _ _ _ (by omega), num_take_succ, ← e, ← e', pw, Int.mul_add, ← Int.mul_assoc P]
  rw [← e] at i4
  have hc : (P * (cs.getD k 0 / P + (cs.getD (k + 1) 0 * D) % 18446744073709551616) + cs.getD k 0 % P) * pw k = (cs.getD k 0 + 18446744073709551616 * (cs.getD (k + 1) 0 % P)) * pw k := by rw [p1]
  rw [Int.add_mul, Int.add_mul, Int.mul_comm 18446744073709551616 (cs.getD (k + 1) 0 % P), Int.mul_assoc (cs.getD (k + 1) 0 % P)] at hc
  omega
theorem dninv_end {xs cs : List Int} {P : Int} (hP : 0 < P) (I : DnInv xs cs P xs.length) : num cs = num xs / P := by
  obtain ⟨i1, i2, i3, i4⟩ := I
  have e : xs.getD xs.length 0 = 0 := by rw [List.getD_eq_getElem?_getD, List.getElem?_eq_none (Nat.le_refl _)]; rfl
  rw [e, List.take_of_length_le (Nat.le_refl _), List.take_of_length_le (by omega), Int.zero_emod, Int.zero_mul, Int.add_zero] at i4
  have h1 := Int.emod_nonneg (xs.getD 0 0) (b := P) (by omega)
  have h2 := Int.emod_lt_of_pos (xs.getD 0 0) hP
  rw [← i4, Int.add_comm, Int.add_mul_ediv_left _ _ (by omega), Int.ediv_eq_zero_of_lt h1 h2, Int.zero_add]
end Go.Proofs.YtblafbbnplfpjaaGreatDoor

namespace Go.Proofs.YtblafbbnplfpjaaGreatDoor
open Go.RowKit Go.Shelf

theorem or_two (a b s : Nat) (ha : a * 2 ^ s < 18446744073709551616) (hb : b < 2 ^ s) (hb' : b < 18446744073709551616) :
    bits .or .u64 ((a * 2 ^ s : Nat) : Int) (b : Int) = ((a * 2 ^ s + b : Nat) : Int) ∧ bits .or .u64 (b : Int) ((a * 2 ^ s : Nat) : Int) = ((a * 2 ^ s + b : Nat) : Int) := by
  have := Nat.shiftLeft_add_eq_or_of_lt hb a
  rw [Nat.shiftLeft_eq] at this
  rw [bits_or_u64_nat _ _ ha hb', bits_or_u64_nat _ _ hb' ha, Nat.or_comm b, ← this]
  exact ⟨rfl, rfl⟩
theorem two_parts (s : Nat) (hs : s ≤ 63) : (2 : Int) ^ s * 2 ^ (64 - s) = 18446744073709551616 ∧ (0 : Int) < 2 ^ s ∧ (0 : Int) < 2 ^ (64 - s) := by
  refine ⟨?_, Int.pow_pos (by decide), Int.pow_pos (by decide)⟩
  rw [← Int.pow_add, show s + (64 - s) = 64 by omega]; rfl
theorem down_or (x y : Int) (s : Nat) (hs : s ≤ 63) (hx : 0 ≤ x ∧ x < 18446744073709551616) :
    bits .or .u64 (x / 2 ^ s) (IntKind.u64.wrap (y * 2 ^ (64 - s))) = x / 2 ^ s + (y * 2 ^ (64 - s)) % 18446744073709551616 := by
  obtain ⟨hPD, hP, hD⟩ := two_parts s hs
  obtain ⟨-, p2, p3, p4, p5, p6⟩ := down_word (y := y) hPD hP hD hx
  have h1 := Int.emod_nonneg y (b := (2 : Int) ^ s) (by omega)
  obtain ⟨a, ha⟩ := Int.eq_ofNat_of_zero_le h1
  obtain ⟨b, hb⟩ := Int.eq_ofNat_of_zero_le p2
  have c64 : ((2 ^ (64 - s) : Nat) : Int) = 2 ^ (64 - s) := by simp
  rw [IntKind.wrap_u64, p4, ha, hb, ← c64, ← Int.natCast_mul]
  rw [p4, ha, hb, ← c64, ← Int.natCast_mul] at p6
  rw [hb, ← c64] at p3
  rw [(or_two a b (64 - s) (by omega) (by omega) (by omega)).2, Int.natCast_add, Int.add_comm]

set_option maxHeartbeats 1000000 in
theorem shiftDown_any (g n c s : Nat) (xs : List Int) (w : World) (ho : Own w g xs) (hx : Limbs xs) (hn : n = xs.length) (hnb : xs.length ≤ 20000000000000) (hs : s ≤ 63) :
    Calls Tryz.prog 209 #[.slice (some ⟨g, 0, none⟩) n c, .int .i64 s] w fun e w' =>
      e = .returned (.tuple #[]) ∧ ∃ cs, Own w' g cs ∧ cs.length = xs.length ∧ Limbs cs ∧ num cs = num xs / 2 ^ s ∧ Below g w w' := by
  obtain ⟨hPD, hP, hD⟩ := two_parts s hs
  have m1 : min s 64 = s := by omega
  have m2 : min (64 - s) 64 = 64 - s := by omega
  have m3 : ((64 : Int) - s).toNat = 64 - s := by omega
  have HI0 : Hid (DnInv xs xs (2 ^ s) 0) := dninv_start hx
  have HO : Hid (Own w g xs) := ho
  have HP : Hid ((2 : Int) ^ s * 2 ^ (64 - s) = 18446744073709551616) := hPD
  have HN : Hid (n = xs.length) := hn
  have hnb' : n ≤ 20000000000000 := by omega
  clear ho hPD hn hnb
  go_enter Tryz.func209, Tryz.ntmps209
  go_wp2_with fail
  go_loopw [7] (fun i wr => ∃ (k : Nat) (cs : List Int), k ≤ n ∧ i = .int .i64 k ∧ Hid (DnInv xs cs (2 ^ s) k) ∧ Hid (Own wr g cs) ∧ Below g w wr) (fun i _ => n - (intOf i).toNat)
  case atStart => exact ⟨0, xs, Nat.zero_le _, rfl, HI0, HO, Below.refl _ _⟩
  case round =>
    obtain ⟨k, cs, hk, rfl, hI, ho, hbl⟩ := hrel
    by_cases hlt : k < n
    · have hlen := hI.out.1
      rw [← HN.out] at hlen
      have hcx := ho.out.cell k (by omega)
      have hfx := ho.out.frozen k
      have hw1 := hI.out.2.1.getD k
      have hstep := dninv_step HP.out hP hD hI.out (by rw [← HN.out]; omega)
      have hsl := ho.out.sl hI.out.2.1
      rw [hlen] at hsl
      obtain ⟨x, hxx⟩ : ∃ x, cs.getD k 0 = x := ⟨_, rfl⟩
      obtain ⟨y, hyy⟩ : ∃ y, cs.getD (k + 1) 0 = y := ⟨_, rfl⟩
      have ek : ((k : Int) + 1).toNat = k + 1 := by omega
      have L : ∀ W0, Sl W0 (some ⟨g, 0, none⟩) n cs → Calls Tryz.prog 214 #[.slice (some ⟨g, 0, none⟩) n c, .int .i64 (k + 1)] W0 fun e w' => e = .returned (.int .u64 y) ∧ w' = W0 := by
        intro W0 hW0
        have := limbAt_any (some ⟨g, 0, none⟩) n c cs (k + 1) W0 hW0 (by omega)
        rw [ek, hyy] at this; exact this
      have LH : Hid (∀ W0, Sl W0 (some ⟨g, 0, none⟩) n cs → Calls Tryz.prog 214 #[.slice (some ⟨g, 0, none⟩) n c, .int .i64 (k + 1)] W0 fun e w' => e = .returned (.int .u64 y) ∧ w' = W0) := L
      rw [hxx] at hcx hw1
      rw [hxx, hyy] at hstep
      have e1 := down_or x y s hs hw1
      obtain ⟨v, hv⟩ : ∃ v, x / 2 ^ s + (y * 2 ^ (64 - s)) % 18446744073709551616 = v := ⟨_, rfl⟩
      rw [hv] at e1 hstep
      have HS : Hid (DnInv xs (cs.set k v) (2 ^ s) (k + 1)) := hstep
      clear hstep hxx hyy hv L ek hlen
      have LD : Hid (Calls Tryz.prog 214 #[.slice (some ⟨g, 0, none⟩) n c, .int .i64 (k + 1)] wr.drew fun e w' => e = .returned (.int .u64 y) ∧ w' = wr.drew) := LH.out wr.drew (hsl.drewN 1)
      clear hsl LH
      have ew1 : IntKind.i64.wrap ((k : Int) + 1) = k + 1 := by rw [IntKind.wrap_i64]; omega
      have ew2 : IntKind.i64.wrap (64 - (s : Int)) = 64 - s := by rw [IntKind.wrap_i64]; omega
      go_wp2_with fail
      go_region_with (go_at_call 214; refine LD.out.mono ?_; rintro e w2 ⟨rfl, rfl⟩)
      all_goals
        go_wp2_with fail
        go_roundw
        case rel => exact ⟨k + 1, _, by omega, by go_num, HS, Own.set (w := wr.drew) ho.out k _, hbl.drew.setCell (Nat.le_refl _) _⟩
        case measure => simp [intOf]; omega
    · obtain rfl : k = n := by omega
      have hI' := hI.out
      rw [HN.out] at hI'
      have HE : Hid (num cs = num xs / 2 ^ s) := dninv_end hP hI'
      have hlen : Hid (cs.length = xs.length) := hI'.1
      have HL : Hid (Limbs cs) := hI'.2.1
      clear hI'
      go_wp2_with fail
      go_end0
      exact ⟨rfl, cs, ho.out, hlen.out, HL.out, HE.out, hbl⟩
end Go.Proofs.YtblafbbnplfpjaaGreatDoor

namespace Go.Proofs.YtblafbbnplfpjaaGreatDoor
open Go.RowKit Go.Shelf

theorem splice_row (A B : List Int) (p : Nat) : splice (row A) p (row B) = row (A.take p ++ (B ++ A.drop (p + B.length))) := by
  simp only [splice, row, List.length_map, List.map_append, List.map_take, List.map_drop]
end Go.Proofs.YtblafbbnplfpjaaGreatDoor

namespace Go.Proofs.YtblafbbnplfpjaaGreatDoor
open Go.RowKit Go.Shelf

theorem right_none (a : Option Addr) (la ca : Nat) (xs : List Int) (t : Nat) (w : World) (ha : Sl w a la xs) (h1 : la ≤ 20000000000000) (htb : t ≤ 9223372036854775807) (hu : usedN xs ≤ t / 64) :
    Calls Tryz.prog 201 #[.slice a la ca, .int .i64 t] w fun e w' => e = .returned (.tuple #[.slice none 0 0, .int .i64 0]) ∧ w' = w := by
  have U := used_any a la ca xs w ha (by omega)
  obtain ⟨n, hn⟩ : ∃ n, usedN xs = n := ⟨_, rfl⟩
  rw [hn] at U hu
  obtain ⟨p, hp⟩ : ∃ p, t / 64 = p := ⟨_, rfl⟩
  have ep : (t : Int) / 64 = p := by omega
  have hnp : (n : Int) ≤ p := by omega
  clear hn hp hu
  go_enter Tryz.func201, Tryz.ntmps201
  go_wp2_with fail
  refine U.mono ?_
  rintro e w' ⟨rfl, rfl⟩
  go_wp2_with fail
  go_ret2
  exact ⟨rfl, rfl⟩

theorem right_zero {xs : List Int} (h : Limbs xs) {t : Nat} (hu : usedN xs ≤ t / 64) : num xs / 2 ^ t = 0 := by
  have h1 := num_lt_used h
  have h2 := pw_mono hu
  rw [pw_eq (t / 64)] at h2
  have h3 : (2 : Int) ^ (64 * (t / 64)) ≤ 2 ^ t := by
    have := Nat.pow_le_pow_right (n := 2) (by decide) (show 64 * (t / 64) ≤ t by omega)
    have h := Int.ofNat_le.2 this
    simpa using h
  exact Int.ediv_eq_zero_of_lt (num_nonneg h) (by omega)

theorem Sl.drop {w : World} {b o la p : Nat} {zs : List Int} (h : Sl w (some ⟨b, o, none⟩) la zs) (hp : p ≤ la) : Sl w (some ⟨b, o + p, none⟩) (la - p) (zs.drop p) := by
  obtain ⟨h1, h2, h3⟩ := h
  refine ⟨by rw [List.length_drop]; omega, h2.drop p, fun h0 => ⟨b, o + p, rfl, fun i hi => ?_⟩⟩
  obtain ⟨b', o', e, hc⟩ := h3 (by omega)
  cases e
  rw [Nat.add_assoc, hc (p + i) (by omega), List.getD_eq_getElem?_getD, List.getD_eq_getElem?_getD, List.getElem?_drop]

theorem down_num {xs : List Int} (hx : Limbs xs) {p n : Nat} (hn : usedN xs = n) (hp : p ≤ n) : num ((xs.drop p).take (n - p)) = num xs / pw p ∧ ((xs.drop p).take (n - p)).length = n - p ∧ Limbs ((xs.drop p).take (n - p)) := by
  have hu := usedN_le xs
  refine ⟨?_, by rw [List.length_take, List.length_drop]; omega, (hx.drop p).take _⟩
  have e := num_take_drop (xs.take n) p (by rw [List.length_take]; omega)
  rw [num_take_used xs (by omega), List.take_take, Nat.min_eq_left hp, List.drop_take] at e
  have h1 := num_lt (hx.take p); have h2 := num_nonneg (hx.take p)
  rw [List.length_take, Nat.min_eq_left (by omega)] at h1
  have h3 := pw_pos p
  rw [e, Int.add_mul_ediv_right _ _ (by omega), Int.ediv_eq_zero_of_lt h2 h1, Int.zero_add]

set_option maxHeartbeats 1000000 in
theorem right_ok (a : Option Addr) (la ca : Nat) (xs : List Int) (t : Nat) (w : World) (ha : Sl w a la xs) (h1 : la ≤ 20000000000000) (hca : la ≤ ca) (htb : t ≤ 9223372036854775807) (hu : t / 64 < usedN xs) :
    Calls Tryz.prog 201 #[.slice a la ca, .int .i64 t] w fun e w' =>
      ∃ g m c zs, e = .returned (.tuple #[.slice (some ⟨g, 0, none⟩) m c, .int .i64 0]) ∧ m ≤ c ∧ m ≤ la ∧ Sl w' (some ⟨g, 0, none⟩) m zs ∧ usedN zs = m ∧ num zs = num xs / 2 ^ t ∧ Below w.heap.size w w' := by
  have U := used_any a la ca xs w ha (by omega)
  have hul := usedN_le xs
  have hz := ha.1
  have hLx := ha.2.1
  obtain ⟨ba, oa, rfl, hcell⟩ := ha.2.2 (by omega)
  obtain ⟨n, hn⟩ : ∃ n, usedN xs = n := ⟨_, rfl⟩
  rw [hn] at U hul hu
  have HN : Hid (usedN xs = n) := hn
  obtain ⟨p, hp⟩ : ∃ p, t / 64 = p := ⟨_, rfl⟩
  obtain ⟨s, hs⟩ : ∃ s, t % 64 = s := ⟨_, rfl⟩
  have ep : (t : Int) / 64 = p := by omega
  have es : (t : Int) % 64 = s := by omega
  have hs63 : s ≤ 63 := by omega
  have hpn : p < n := by omega
  have hnl : n ≤ la := by omega
  have HT : Hid (t = 64 * p + s) := by show t = 64 * p + s; omega
  obtain ⟨D, hD⟩ : ∃ D, D = (xs.drop p).take (n - p) := ⟨_, rfl⟩
  obtain ⟨d1, d2, d3⟩ := down_num hLx hn (Nat.le_of_lt hpn)
  rw [← hD] at d1 d2 d3
  have hmk := make_row (n - p) (by omega)
  have ec : ((n - p : Nat) : Int) = (n : Int) - p := by omega
  rw [ec] at hmk
  have f2 : ¬ ca = p := by omega
  have f4 : (n : Int) ≤ ca := by omega
  have f5 : (p : Int) ≤ n := by omega
  have HD1 : Hid (num D = num xs / pw p) := d1
  have HD2 : Hid (D.length = n - p) := d2
  have HD3 : Hid (Limbs D) := d3
  have HDD : Hid (D = (xs.drop p).take (n - p)) := hD
  clear hn hp hs ec d1 d2 d3 hD hu
  go_enter Tryz.func201, Tryz.ntmps201
  go_wp2_with fail
  refine U.mono ?_
  rintro e w' ⟨rfl, rfl⟩
  clear U
  go_wp2_with (refine wpList_copy_splice rfl (.tmp 25) (.tmp 29) 60 60 rfl 124 Tryz.underlying60 (by kernel_rfl) _ _ _ _ _ _ rfl rfl w'.heap.size 0 (row (List.replicate (n - p) 0)) 124 ?hg (row D) ?hn ?hpos ?hfit ?h1 w'.heap.size w' ?hb ?hBg ?_)
  case hg => exact heap_alloc_new _ _
  case hn =>
    rw [row_length, HD2.out]
    show _ = min _ _
    omega
  case hpos =>
    intro _ j v hj
    rw [HDD.out] at hj
    have hsl := ((ha.below ((Below.refl w'.heap.size w').alloc (Nat.le_refl _) (Obj.cells (row (List.replicate (n - p) 0)).toArray 124)) (Nat.le_refl _)).drop (p := p) (by omega))
    have := src_row hsl (n := n - p) (by omega) j v hj
    rw [addr_add] at this
    exact this
  case hfit => rw [row_length, row_length, HD2.out, List.length_replicate]; omega
  case h1 => exact row_one _
  case hb => exact (Below.refl _ _).alloc (Nat.le_refl _) _
  case hBg => exact Nat.le_refl _
  intro w4 hg4 hb4
  have ho : Own w4 w'.heap.size D := by
    have := hg4.out
    rw [splice_row, List.take_zero, List.nil_append, Nat.zero_add, HD2.out, List.drop_replicate, Nat.sub_self, List.replicate_zero, List.append_nil] at this
    exact this
  have HO : Hid (Own w4 w'.heap.size D) := ho
  clear ho hg4 hmk ha hcell
  go_wp2_with fail
  refine (shiftDown_any w'.heap.size (n - p) (n - p) s D w4 HO.out HD3.out HD2.out.symm (by rw [HD2.out]; omega) hs63).mono ?_
  rintro e w5 ⟨rfl, cs, ho5, hl5, hL5, hn5, hb5⟩
  rw [HD2.out] at hl5
  have hsl := ho5.sl hL5
  rw [hl5] at hsl
  have hb6 : Below w'.heap.size w' w5 := hb4.trans hb5
  have hcu := usedN_le cs
  rw [hl5] at hcu
  have HV : Hid (num cs = num xs / 2 ^ t) := by
    show num cs = num xs / 2 ^ t
    rw [hn5, HD1.out, pw_eq, Int.ediv_ediv_of_nonneg (Int.le_of_lt (Int.pow_pos (by decide))), ← Int.pow_add, ← HT.out]
  clear hl5 hL5 hn5 ho5 hb5 hb4
  go_wp2_with fail
  refine (cut_any (some ⟨w'.heap.size, 0, none⟩) (n - p) (n - p) cs _ hsl (by omega) (Nat.le_refl _)).mono ?_
  rintro e w6 ⟨rfl, rfl⟩
  go_wp2_with fail
  go_ret2
  refine ⟨w'.heap.size, usedN cs, n - p, cs.take (usedN cs), rfl, by omega, by omega, hsl.take (by omega), usedN_take cs (Nat.le_refl _), ?_, hb6⟩
  rw [num_take_used cs (Nat.le_refl _)]
  exact HV.out
end Go.Proofs.YtblafbbnplfpjaaGreatDoor

namespace Go.Proofs.YtblafbbnplfpjaaGreatDoor
open Go.RowKit Go.Shelf

theorem right_val (a : Option Addr) (la ca : Nat) (xs : List Int) (t : Nat) (w : World) (ha : Sl w a la xs) (h1 : la ≤ 20000000000000) (hca : la ≤ ca) (htb : t ≤ 9223372036854775807) :
    Calls Tryz.prog 201 #[.slice a la ca, .int .i64 t] w fun e w' =>
      ∃ a' m c zs, e = .returned (.tuple #[.slice a' m c, .int .i64 0]) ∧ m ≤ c ∧ m ≤ la ∧ Sl w' a' m zs ∧ usedN zs = m ∧ num zs = num xs / 2 ^ t ∧ Below w.heap.size w w' := by
  rcases Nat.lt_or_ge (t / 64) (usedN xs) with h0 | h0
  · refine (right_ok a la ca xs t w ha h1 hca htb h0).mono ?_
    rintro e w' ⟨g, m, c, zs, rfl, r1, r2, r3, r4, r5, r6⟩
    exact ⟨_, m, c, zs, rfl, r1, r2, r3, r4, r5, r6⟩
  · refine (right_none a la ca xs t w ha h1 htb h0).mono ?_
    rintro e w' ⟨rfl, rfl⟩
    refine ⟨none, 0, 0, [], rfl, Nat.le_refl _, by omega, ⟨rfl, Limbs.nil, fun h => absurd h (by decide)⟩, rfl, ?_, Below.refl _ _⟩
    rw [right_zero ha.2.1 h0]; rfl

theorem p2_mono {m n : Nat} (h : m ≤ n) : (2 : Int) ^ m ≤ 2 ^ n := by
  have h := Int.ofNat_le.2 (Nat.pow_le_pow_right (n := 2) (by decide) h)
  simpa using h
theorem p2_pos (n : Nat) : (0 : Int) < 2 ^ n := Int.pow_pos (by decide)

/-- A number lies between two powers of two. -/
theorem bits_spec {xs : List Int} (h : Limbs xs) (hu : 0 < usedN xs) : ∃ k : Nat, bitsN xs = (k : Int) + 1 ∧ 2 ^ k ≤ num xs ∧ num xs < 2 ^ (k + 1) := by
  have ht := usedN_top xs hu
  have hw := h.getD (usedN xs - 1)
  obtain ⟨x, hx⟩ : ∃ x, xs.getD (usedN xs - 1) 0 = x := ⟨_, rfl⟩
  have hn := num_take_succ xs (usedN xs - 1)
  rw [Nat.sub_add_cancel hu, num_take_used xs (Nat.le_refl _), hx] at hn
  have hB : bitsN xs = 64 * ((usedN xs : Int) - 1) + (Lib.bitLen x.toNat : Int) := by rw [bitsN, if_neg (by omega), hx]
  rw [hx] at ht hw
  obtain ⟨X, rfl⟩ := Int.eq_ofNat_of_zero_le hw.1
  rw [Int.toNat_natCast] at hB
  obtain ⟨p1, p2⟩ := bitLen_spec 64 X (by omega) (by omega)
  have p3 := p2 (by omega)
  obtain ⟨l, hl⟩ : ∃ l, Lib.bitLen X = l + 1 := by
    cases hb : Lib.bitLen X with
    | zero => rw [hb] at p1; omega
    | succ l => exact ⟨l, rfl⟩
  rw [hl] at p1 p3 hB
  have h1 := num_nonneg (h.take (usedN xs - 1))
  have h2 := num_lt (h.take (usedN xs - 1))
  have hul := usedN_le xs
  rw [List.length_take, Nat.min_eq_left (by omega), pw_eq] at h2
  rw [pw_eq] at hn
  obtain ⟨v, hv⟩ : ∃ v, usedN xs - 1 = v := ⟨_, rfl⟩
  rw [hv] at hn h1 h2
  have q1 : (2 : Int) ^ (64 * v + l) ≤ (X : Int) * 2 ^ (64 * v) := by
    rw [Int.pow_add, Int.mul_comm]
    refine Int.mul_le_mul_of_nonneg_right ?_ (Int.le_of_lt (p2_pos _))
    have : 2 ^ l ≤ X := by rw [Nat.pow_succ] at p3; omega
    have h := Int.ofNat_le.2 this
    simpa using h
  have q2 : ((X : Int) + 1) * 2 ^ (64 * v) ≤ (2 : Int) ^ (64 * v + l + 1) := by
    rw [Nat.add_assoc, Int.pow_add, Int.mul_comm]
    refine Int.mul_le_mul_of_nonneg_left ?_ (Int.le_of_lt (p2_pos _))
    have h := Int.ofNat_le.2 (show X + 1 ≤ 2 ^ (l + 1) from p1)
    simpa using h
  rw [Int.add_mul, Int.one_mul] at q2
  exact ⟨64 * v + l, by rw [hB]; omega, by omega, by omega⟩
theorem bits_nought {xs : List Int} (hu : usedN xs = 0) : bitsN xs = 0 := by simp [bitsN, hu]
theorem bits_of {xs : List Int} (h : Limbs xs) {k : Nat} (h1 : 2 ^ k ≤ num xs) (h2 : num xs < 2 ^ (k + 1)) : bitsN xs = (k : Int) + 1 := by
  have hu : 0 < usedN xs := by
    rcases Nat.eq_zero_or_pos (usedN xs) with h0 | h0
    · have := (num_eq_zero h).2 h0; have := p2_pos k; omega
    · exact h0
  obtain ⟨j, e, j1, j2⟩ := bits_spec h hu
  rcases Nat.lt_trichotomy j k with hjk | hjk | hjk
  · have := p2_mono (show j + 1 ≤ k by omega); omega
  · subst hjk; exact e
  · have := p2_mono (show k + 1 ≤ j by omega); omega
theorem bits_moved {xs zs : List Int} (h : Limbs xs) (hz : Limbs zs) (hu : 0 < usedN xs) {t : Nat} (e : num zs = num xs * 2 ^ t) : bitsN zs = bitsN xs + t := by
  obtain ⟨k, e1, k1, k2⟩ := bits_spec h hu
  have := bits_of hz (k := k + t) (by rw [e, Int.pow_add]; exact Int.mul_le_mul_of_nonneg_right k1 (Int.le_of_lt (p2_pos t)))
    (by rw [e, Nat.add_right_comm, Int.pow_add]; exact Int.mul_lt_mul_of_pos_right k2 (p2_pos t))
  rw [this, e1]; omega

end Go.Proofs.YtblafbbnplfpjaaGreatDoor
namespace Go.Proofs.YtblafbbnplfpjaaGreatDoor
set_option linter.unusedVariables false
theorem ten_ne (P : Nat) : (10 : Int) ^ P ≠ 0 := Int.ne_of_gt (Int.pow_pos (by omega))
theorem cross {U : Int} {P : Nat} {v : Rat} (hv : v = Rat.divInt U (10 ^ P)) : v.num * 10 ^ P = U * v.den := by
  have h := Rat.num_divInt_den v
  rw [hv] at h
  have := (Rat.divInt_eq_divInt_iff (by have := (Rat.divInt U (10 ^ P)).den_nz; omega) (ten_ne P)).1 h
  rw [← hv] at this
  exact this
/-- The fewest places at which a number of 10^-P parts is whole. -/
theorem few {U : Int} {P : Nat} {v : Rat} (hv : v = Rat.divInt U (10 ^ P)) (hc : 0 < P → U.natAbs % 10 ≠ 0) {p t : Nat} (hp : p ≤ P) (h : 10 ^ p = v.den * t) : p = P ∧ v.num * t = U := by
  have hx := cross hv
  have hd : (v.den : Int) ≠ 0 := by have := v.den_nz; omega
  obtain ⟨d, rfl⟩ : ∃ d, P = p + d := ⟨P - p, by omega⟩
  have h' : ((10 : Int)) ^ p = v.den * t := by exact_mod_cast h
  have e : U = v.num * t * 10 ^ d := by
    rw [Int.pow_add, h'] at hx
    have h3 : U * v.den = (v.num * t * 10 ^ d) * v.den := by rw [← hx]; grind
    exact Int.eq_of_mul_eq_mul_right hd h3
  rcases Nat.eq_zero_or_pos d with h0 | h0
  · subst h0
    exact ⟨rfl, by rw [e]; simp⟩
  · exfalso
    obtain ⟨f, rfl⟩ : ∃ f, d = f + 1 := ⟨d - 1, by omega⟩
    have h10 : (10 : Int) ∣ U := ⟨v.num * t * 10 ^ f, by rw [e, Int.pow_succ]; grind⟩
    exact hc (by omega) (by omega)
end Go.Proofs.YtblafbbnplfpjaaGreatDoor
