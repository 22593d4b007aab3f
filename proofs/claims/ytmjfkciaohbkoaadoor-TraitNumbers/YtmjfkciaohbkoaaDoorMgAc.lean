/-
  Put together of: Uni, ShiftPlain, Shift, Left, Right, Uni2.
-/
import Derived.Test.YtmjfkciaohbkoaaDoorMgAa
import Derived.Test.YtmjfkciaohbkoaaDoorMgAb
import Derived.Test.YtmjfkciaohbkoaaDoorBsA
import Derived.Deep.RegionWith
import Derived.Deep.RegionLaw
namespace Go.Proofs.YtmjfkciaohbkoaaDoor
open Go.RowKit Go.Shelf

theorem step {w wk w' : World} (B : Below w.heap.size w wk) (hb : Below wk.heap.size wk w') : Below w.heap.size w w' := B.trans (hb.mono B.size)

theorem one_list {zs xs : List Int} {m : Nat} (h1 : Limbs zs) (h2 : Limbs xs) (hl : zs.length = m) (hu : usedN zs = m) (hn : num zs = num xs) : m = usedN xs ∧ zs = xs.take (usedN xs) := by
  have e := trim_eq h1 h2 hn
  have u := used_of_num h1 h2 hn
  rw [hu, ← hl, List.take_of_length_le (Nat.le_refl _)] at e
  exact ⟨by omega, e⟩

end Go.Proofs.YtmjfkciaohbkoaaDoor

namespace Go.Proofs.YtmjfkciaohbkoaaDoor

theorem pw_eq : ∀ n : Nat, pw n = 2 ^ (64 * n)
  | 0 => by simp [pw]
  | n + 1 => by
    rw [pw, pw_eq n, Nat.mul_add, Int.pow_add, Int.mul_comm]; rfl

/-- What holds behind k limbs moved up, from place o on. -/
def UInv (xs cs : List Int) (P : Int) (o k : Nat) (c : Int) : Prop :=
  cs.length = xs.length ∧ Limbs cs ∧ (∀ j, o + k ≤ j → cs.getD j 0 = xs.getD j 0) ∧ num (cs.take (o + k)) + c * pw (o + k) = num (xs.take (o + k)) * P ∧ 0 ≤ c ∧ c < P

theorem uinv_start {xs : List Int} {P : Int} {o : Nat} (hx : Limbs xs) (hP : 0 < P) (h0 : num (xs.take o) = 0) : UInv xs xs P o 0 0 :=
  ⟨rfl, hx, fun _ _ => rfl, by simp [h0], by omega, hP⟩

/-- One limb moved up: P is a power of two below 2^64, D what is left of 2^64. -/
theorem up_word {x c P D : Int} (hPD : P * D = 18446744073709551616) (hP : 0 < P) (hD : 0 < D) (hx : 0 ≤ x ∧ x < 18446744073709551616) (hc : 0 ≤ c ∧ c < P) :
    (x * P) % 18446744073709551616 + c + 18446744073709551616 * (x / D) = x * P + c ∧ 0 ≤ (x * P) % 18446744073709551616 + c ∧ (x * P) % 18446744073709551616 + c < 18446744073709551616 ∧ 0 ≤ x / D ∧ x / D < P ∧ (x * P) % 18446744073709551616 = (x % D) * P := by
  have e1 : (x * P) % 18446744073709551616 = (x % D) * P := by
    rw [← hPD, Int.mul_comm x P, Int.mul_emod_mul_of_pos _ _ hP, Int.mul_comm]
  have h1 := Int.emod_nonneg x (b := D) (by omega)
  have h2 := Int.emod_lt_of_pos x hD
  have h3 := Int.mul_ediv_add_emod x D
  have h4 : 0 ≤ x / D := Int.ediv_nonneg hx.1 (by omega)
  have h5 : x / D < P := Int.ediv_lt_of_lt_mul hD (by rw [hPD]; exact hx.2)
  have h6 : (x % D + 1) * P ≤ D * P := Int.mul_le_mul_of_nonneg_right (by omega) (by omega)
  rw [Int.add_mul, Int.one_mul, Int.mul_comm D P, hPD] at h6
  have h7 : 0 ≤ (x % D) * P := Int.mul_nonneg h1 (by omega)
  have h8 : x * P = 18446744073709551616 * (x / D) + (x % D) * P := by
    rw [← hPD, Int.mul_assoc P D, Int.mul_comm P, ← Int.add_mul, h3]
  rw [e1]
  exact ⟨by omega, by omega, by omega, h4, h5, rfl⟩

theorem uinv_step {xs cs : List Int} {P D : Int} {o k : Nat} {c : Int} (hPD : P * D = 18446744073709551616) (hP : 0 < P) (hD : 0 < D) (I : UInv xs cs P o k c) (h : o + k < xs.length) :
    UInv xs (cs.set (o + k) ((cs.getD (o + k) 0 * P) % 18446744073709551616 + c)) P o (k + 1) (cs.getD (o + k) 0 / D) := by
  obtain ⟨i1, i2, i3, i4, i5, i6⟩ := I
  have b1 := i2.getD (o + k)
  have e := i3 (o + k) (Nat.le_refl _)
  obtain ⟨p1, p2, p3, p4, p5, -⟩ := up_word hPD hP hD b1 ⟨i5, i6⟩
  refine ⟨by rw [List.length_set]; exact i1, i2.set _ ⟨p2, p3⟩, fun j hj => by rw [getD_set_other _ _ _ _ (by omega)]; exact i3 j (by omega), ?_, p4, p5⟩
  have hc := carry_step (p := pw (o + k)) p1
  rw [← Nat.add_assoc, num_set_take _ _ _ (by omega), num_take_succ, pw, ← e, Int.add_mul (num (xs.take (o + k)))]
  rw [Int.add_mul (cs.getD (o + k) 0 * P), Int.mul_right_comm] at hc
  omega

/-- What holds behind k limbs moved down. -/
def DnInv (xs cs : List Int) (P : Int) (k : Nat) : Prop :=
  cs.length = xs.length ∧ Limbs cs ∧ (∀ j, k ≤ j → cs.getD j 0 = xs.getD j 0) ∧ P * num (cs.take k) + xs.getD 0 0 % P = num (xs.take k) + xs.getD k 0 % P * pw k

theorem dninv_start {xs : List Int} {P : Int} (hx : Limbs xs) : DnInv xs xs P 0 := ⟨rfl, hx, fun _ _ => rfl, by simp [num, pw]⟩
theorem down_word {x y P D : Int} (hPD : P * D = 18446744073709551616) (hP : 0 < P) (hD : 0 < D) (hx : 0 ≤ x ∧ x < 18446744073709551616) :
    P * (x / P + (y * D) % 18446744073709551616) + x % P = x + 18446744073709551616 * (y % P) ∧ 0 ≤ x / P ∧ x / P < D ∧ (y * D) % 18446744073709551616 = (y % P) * D ∧ 0 ≤ x / P + (y * D) % 18446744073709551616 ∧ x / P + (y * D) % 18446744073709551616 < 18446744073709551616 := by
  have e1 : (y * D) % 18446744073709551616 = (y % P) * D := by
    rw [← hPD, Int.mul_comm P D, Int.mul_comm y D, Int.mul_emod_mul_of_pos _ _ hD, Int.mul_comm]
  have h1 := Int.emod_nonneg y (b := P) (by omega)
  have h2 := Int.emod_lt_of_pos y hP
  have h3 := Int.mul_ediv_add_emod x P
  have h4 : 0 ≤ x / P := Int.ediv_nonneg hx.1 (by omega)
  have h5 : x / P < D := Int.ediv_lt_of_lt_mul hP (by rw [Int.mul_comm, hPD]; exact hx.2)
  have h6 : (y % P + 1) * D ≤ P * D := Int.mul_le_mul_of_nonneg_right (by omega) (by omega)
  rw [Int.add_mul, Int.one_mul, hPD] at h6
  have h7 : 0 ≤ (y % P) * D := Int.mul_nonneg h1 (by omega)
  rw [e1]
  refine ⟨?_, h4, h5, rfl, by omega, by omega⟩
  rw [Int.mul_add, Int.mul_left_comm P, hPD, Int.mul_comm _ 18446744073709551616]
  omega
theorem dninv_step {xs cs : List Int} {P D : Int} {k : Nat} (hPD : P * D = 18446744073709551616) (hP : 0 < P) (hD : 0 < D) (I : DnInv xs cs P k) (h : k < xs.length) :
    DnInv xs (cs.set k (cs.getD k 0 / P + (cs.getD (k + 1) 0 * D) % 18446744073709551616)) P (k + 1) := by
  obtain ⟨i1, i2, i3, i4⟩ := I
  have b1 := i2.getD k
  have e := i3 k (Nat.le_refl _)
  have e' := i3 (k + 1) (by omega)
  obtain ⟨p1, p2, p3, p4, p5, p6⟩ := down_word (y := cs.getD (k + 1) 0) hPD hP hD b1
  refine ⟨by rw [List.length_set]; exact i1, i2.set k ⟨p5, p6⟩, fun j hj => by rw [getD_set_other _ _ _ _ (by omega)]; exact i3 j (by omega), ?_⟩
  rw [num_set_take _ _ _ (by omega), num_take_succ, ← e, ← e', pw, Int.mul_add, ← Int.mul_assoc P]
  rw [← e] at i4
  have hc : (P * (cs.getD k 0 / P + (cs.getD (k + 1) 0 * D) % 18446744073709551616) + cs.getD k 0 % P) * pw k = (cs.getD k 0 + 18446744073709551616 * (cs.getD (k + 1) 0 % P)) * pw k := by rw [p1]
  rw [Int.add_mul, Int.add_mul, Int.mul_comm 18446744073709551616 (cs.getD (k + 1) 0 % P), Int.mul_assoc (cs.getD (k + 1) 0 % P)] at hc
  omega
theorem dninv_end {xs cs : List Int} {P : Int} (hP : 0 < P) (I : DnInv xs cs P xs.length) : num cs = num xs / P := by
  obtain ⟨i1, i2, i3, i4⟩ := I
  have e : xs.getD xs.length 0 = 0 := by rw [List.getD_eq_getElem?_getD, List.getElem?_eq_none (Nat.le_refl _)]; rfl
  rw [e, List.take_of_length_le (Nat.le_refl _), List.take_of_length_le (by omega), Int.zero_emod, Int.zero_mul, Int.add_zero] at i4
  have h1 := Int.emod_nonneg (xs.getD 0 0) (b := P) (by omega)
  have h2 := Int.emod_lt_of_pos (xs.getD 0 0) hP
  rw [← i4, Int.add_comm, Int.add_mul_ediv_left _ _ (by omega), Int.ediv_eq_zero_of_lt h1 h2, Int.zero_add]
end Go.Proofs.YtmjfkciaohbkoaaDoor

namespace Go.Proofs.YtmjfkciaohbkoaaDoor
open Go.RowKit Go.Shelf

theorem or_two (a b s : Nat) (ha : a * 2 ^ s < 18446744073709551616) (hb : b < 2 ^ s) (hb' : b < 18446744073709551616) :
    bits .or .u64 ((a * 2 ^ s : Nat) : Int) (b : Int) = ((a * 2 ^ s + b : Nat) : Int) ∧ bits .or .u64 (b : Int) ((a * 2 ^ s : Nat) : Int) = ((a * 2 ^ s + b : Nat) : Int) := by
  have := Nat.shiftLeft_add_eq_or_of_lt hb a
  rw [Nat.shiftLeft_eq] at this
  rw [bits_or_u64_nat _ _ ha hb', bits_or_u64_nat _ _ hb' ha, Nat.or_comm b, ← this]
  exact ⟨rfl, rfl⟩
theorem two_parts (s : Nat) (hs : s ≤ 63) : (2 : Int) ^ s * 2 ^ (64 - s) = 18446744073709551616 ∧ (0 : Int) < 2 ^ s ∧ (0 : Int) < 2 ^ (64 - s) := by
  refine ⟨?_, Int.pow_pos (by decide), Int.pow_pos (by decide)⟩
  rw [← Int.pow_add, show s + (64 - s) = 64 by omega]; rfl
theorem up_or (x c : Int) (s : Nat) (hs : s ≤ 63) (hx : 0 ≤ x ∧ x < 18446744073709551616) (hc : 0 ≤ c ∧ c < 2 ^ s) :
    bits .or .u64 (IntKind.u64.wrap (x * 2 ^ s)) c = (x * 2 ^ s) % 18446744073709551616 + c := by
  obtain ⟨hPD, hP, hD⟩ := two_parts s hs
  obtain ⟨-, p2, p3, -, -, p6⟩ := up_word hPD hP hD hx hc
  have h1 := Int.emod_nonneg x (b := (2 : Int) ^ (64 - s)) (by omega)
  obtain ⟨a, ha⟩ := Int.eq_ofNat_of_zero_le h1
  obtain ⟨b, rfl⟩ := Int.eq_ofNat_of_zero_le hc.1
  have c64 : ((2 ^ s : Nat) : Int) = 2 ^ s := by simp
  rw [IntKind.wrap_u64, p6, ha, ← c64, ← Int.natCast_mul]
  rw [p6, ha, ← c64, ← Int.natCast_mul] at p3
  rw [(or_two a b s (by omega) (by omega) (by omega)).1, Int.natCast_add]
theorem down_or (x y : Int) (s : Nat) (hs : s ≤ 63) (hx : 0 ≤ x ∧ x < 18446744073709551616) :
    bits .or .u64 (x / 2 ^ s) (IntKind.u64.wrap (y * 2 ^ (64 - s))) = x / 2 ^ s + (y * 2 ^ (64 - s)) % 18446744073709551616 := by
  obtain ⟨hPD, hP, hD⟩ := two_parts s hs
  obtain ⟨-, p2, p3, p4, p5, p6⟩ := down_word (y := y) hPD hP hD hx
  have h1 := Int.emod_nonneg y (b := (2 : Int) ^ s) (by omega)
  obtain ⟨a, ha⟩ := Int.eq_ofNat_of_zero_le h1
  obtain ⟨b, hb⟩ := Int.eq_ofNat_of_zero_le p2
  have c64 : ((2 ^ (64 - s) : Nat) : Int) = 2 ^ (64 - s) := by simp
  rw [IntKind.wrap_u64, p4, ha, hb, ← c64, ← Int.natCast_mul]
  rw [p4, ha, hb, ← c64, ← Int.natCast_mul] at p6
  rw [hb, ← c64] at p3
  rw [(or_two a b (64 - s) (by omega) (by omega) (by omega)).2, Int.natCast_add, Int.add_comm]

end Go.Proofs.YtmjfkciaohbkoaaDoor

namespace Go.Proofs.YtmjfkciaohbkoaaDoor
open Go.RowKit Go.Shelf

theorem bitsN_bd {xs : List Int} (h : Limbs xs) (hu : 0 < usedN xs) : 64 * ((usedN xs : Int) - 1) + 1 ≤ bitsN xs ∧ bitsN xs ≤ 64 * (usedN xs : Int) := by
  have ht := usedN_top xs hu
  have hw := h.getD (usedN xs - 1)
  obtain ⟨p1, p2⟩ := bitLen_spec 64 (xs.getD (usedN xs - 1) 0).toNat (by omega) (by omega)
  have p3 : Lib.bitLen (xs.getD (usedN xs - 1) 0).toNat ≤ 64 := Lib.bitLen_le _ 64 (by omega) (by omega)
  have : Lib.bitLen (xs.getD (usedN xs - 1) 0).toNat ≠ 0 := by
    intro e
    rw [e] at p1
    omega
  simp only [bitsN, if_neg (show ¬ usedN xs = 0 by omega)]
  omega

theorem splice_row (A B : List Int) (p : Nat) : splice (row A) p (row B) = row (A.take p ++ (B ++ A.drop (p + B.length))) := by
  simp only [splice, row, List.length_map, List.map_append, List.map_take, List.map_drop]
theorem up_start (xs : List Int) (p n : Nat) (hn : usedN xs = n) : (List.replicate (p + n + 1) (0 : Int)).take p ++ (xs.take n ++ (List.replicate (p + n + 1) (0 : Int)).drop (p + (xs.take n).length)) = List.replicate p 0 ++ (xs.take n ++ [0]) := by
  have hu := usedN_le xs
  rw [List.length_take, Nat.min_eq_left (by omega), List.take_replicate, List.drop_replicate, Nat.min_eq_left (by omega), show p + n + 1 - (p + n) = 1 by omega]; rfl
theorem up_num (xs : List Int) (p n : Nat) (hn : usedN xs = n) : num (List.replicate p 0 ++ (xs.take n ++ [0])) = num xs * pw p ∧ (List.replicate p 0 ++ (xs.take n ++ [0])).length = p + n + 1 ∧ num ((List.replicate p 0 ++ (xs.take n ++ [0])).take p) = 0 := by
  have hu := usedN_le xs
  refine ⟨?_, by simp; omega, ?_⟩
  · rw [num_append, num_zeros, num_append, List.length_replicate, num_take_used xs (by omega)]; simp [num]
  · rw [List.take_append_of_le_length (by simp), List.take_of_length_le (by simp), num_zeros]
theorem up_end {xs cs : List Int} {p n s t : Nat} {r : Int} (hx : Limbs xs) (hn : usedN xs = n) (ht : t = 64 * p + s) (hs : s ≤ 63) (I : UInv (List.replicate p 0 ++ (xs.take n ++ [0])) cs (2 ^ s) p (n + 1) r) : cs.length = p + n + 1 ∧ Limbs cs ∧ num cs = num xs * 2 ^ t := by
  obtain ⟨i1, i2, i3, i4, i5, i6⟩ := I
  obtain ⟨u1, u2, u3⟩ := up_num xs p n hn
  rw [List.take_of_length_le (by omega), List.take_of_length_le (by omega), u1] at i4
  refine ⟨by omega, i2, ?_⟩
  have e : num xs * pw p * 2 ^ s = num xs * 2 ^ t := by
    rw [pw_eq, Int.mul_assoc, ← Int.pow_add, ht]
  rw [e] at i4
  have h1 := num_lt_used hx
  rw [hn] at h1
  have hP : (0 : Int) < 2 ^ s := Int.pow_pos (by decide)
  have hP2 : (2 : Int) ^ s ≤ 2 ^ 63 := by
    have := Nat.pow_le_pow_right (n := 2) (by decide) hs
    have h := Int.ofNat_le.2 this
    simpa using h
  have h2 := num_nonneg i2
  have h3 := pw_pos (p + (n + 1))
  have h4 : pw (p + (n + 1)) = pw p * (18446744073709551616 * pw n) := by rw [pw_add, pw]
  have h5 : num xs * pw p * 2 ^ s < pw (p + (n + 1)) := by
    have a1 : num xs * pw p ≤ pw n * pw p := Int.mul_le_mul_of_nonneg_right (by omega) (by have := pw_pos p; omega)
    have a2 : num xs * pw p * 2 ^ s ≤ pw n * pw p * 2 ^ 63 := Int.le_trans (Int.mul_le_mul_of_nonneg_right a1 (by omega)) (Int.mul_le_mul_of_nonneg_left hP2 (Int.mul_nonneg (by have := pw_pos n; omega) (by have := pw_pos p; omega)))
    have a3 : pw p * (18446744073709551616 * pw n) = pw n * pw p * 18446744073709551616 := by
      rw [Int.mul_comm (pw p), Int.mul_comm 18446744073709551616, Int.mul_assoc, Int.mul_comm 18446744073709551616, ← Int.mul_assoc]
    have a4 : 0 < pw n * pw p := Int.mul_pos (pw_pos n) (pw_pos p)
    rw [h4, a3]
    generalize pw n * pw p = z at *
    have : z * 2 ^ 63 = 9223372036854775808 * z := by rw [Int.mul_comm]; rfl
    omega
  rw [e] at h5
  have : r = 0 := by
    rcases Int.lt_or_le 0 r with h | h
    · have : 1 * pw (p + (n + 1)) ≤ r * pw (p + (n + 1)) := Int.mul_le_mul_of_nonneg_right (by omega) (by omega)
      omega
    · omega
  subst this
  simpa using i4

end Go.Proofs.YtmjfkciaohbkoaaDoor

namespace Go.Proofs.YtmjfkciaohbkoaaDoor
open Go.RowKit Go.Shelf

theorem right_zero {xs : List Int} (h : Limbs xs) {t : Nat} (hu : usedN xs ≤ t / 64) : num xs / 2 ^ t = 0 := by
  have h1 := num_lt_used h
  have h2 := pw_mono hu
  rw [pw_eq (t / 64)] at h2
  have h3 : (2 : Int) ^ (64 * (t / 64)) ≤ 2 ^ t := by
    have := Nat.pow_le_pow_right (n := 2) (by decide) (show 64 * (t / 64) ≤ t by omega)
    have h := Int.ofNat_le.2 this
    simpa using h
  exact Int.ediv_eq_zero_of_lt (num_nonneg h) (by omega)

theorem Sl.drop {w : World} {b o la p : Nat} {zs : List Int} (h : Sl w (some ⟨b, o, none⟩) la zs) (hp : p ≤ la) : Sl w (some ⟨b, o + p, none⟩) (la - p) (zs.drop p) := by
  obtain ⟨h1, h2, h3⟩ := h
  refine ⟨by rw [List.length_drop]; omega, h2.drop p, fun h0 => ⟨b, o + p, rfl, fun i hi => ?_⟩⟩
  obtain ⟨b', o', e, hc⟩ := h3 (by omega)
  cases e
  rw [Nat.add_assoc, hc (p + i) (by omega), List.getD_eq_getElem?_getD, List.getD_eq_getElem?_getD, List.getElem?_drop]

theorem down_num {xs : List Int} (hx : Limbs xs) {p n : Nat} (hn : usedN xs = n) (hp : p ≤ n) : num ((xs.drop p).take (n - p)) = num xs / pw p ∧ ((xs.drop p).take (n - p)).length = n - p ∧ Limbs ((xs.drop p).take (n - p)) := by
  have hu := usedN_le xs
  refine ⟨?_, by rw [List.length_take, List.length_drop]; omega, (hx.drop p).take _⟩
  have e := num_take_drop (xs.take n) p (by rw [List.length_take]; omega)
  rw [num_take_used xs (by omega), List.take_take, Nat.min_eq_left hp, List.drop_take] at e
  have h1 := num_lt (hx.take p); have h2 := num_nonneg (hx.take p)
  rw [List.length_take, Nat.min_eq_left (by omega)] at h1
  have h3 := pw_pos p
  rw [e, Int.add_mul_ediv_right _ _ (by omega), Int.ediv_eq_zero_of_lt h2 h1, Int.zero_add]

end Go.Proofs.YtmjfkciaohbkoaaDoor

namespace Go.Proofs.YtmjfkciaohbkoaaDoor
open Go.RowKit Go.Shelf

theorem p2_mono {m n : Nat} (h : m ≤ n) : (2 : Int) ^ m ≤ 2 ^ n := by
  have h := Int.ofNat_le.2 (Nat.pow_le_pow_right (n := 2) (by decide) h)
  simpa using h
theorem p2_pos (n : Nat) : (0 : Int) < 2 ^ n := Int.pow_pos (by decide)

/-- A number lies between two powers of two. -/
theorem bits_spec {xs : List Int} (h : Limbs xs) (hu : 0 < usedN xs) : ∃ k : Nat, bitsN xs = (k : Int) + 1 ∧ 2 ^ k ≤ num xs ∧ num xs < 2 ^ (k + 1) := by
  have ht := usedN_top xs hu
  have hw := h.getD (usedN xs - 1)
  obtain ⟨x, hx⟩ : ∃ x, xs.getD (usedN xs - 1) 0 = x := ⟨_, rfl⟩
  have hn := num_take_succ xs (usedN xs - 1)
  rw [Nat.sub_add_cancel hu, num_take_used xs (Nat.le_refl _), hx] at hn
  have hB : bitsN xs = 64 * ((usedN xs : Int) - 1) + (Lib.bitLen x.toNat : Int) := by rw [bitsN, if_neg (by omega), hx]
  rw [hx] at ht hw
  obtain ⟨X, rfl⟩ := Int.eq_ofNat_of_zero_le hw.1
  rw [Int.toNat_natCast] at hB
  obtain ⟨p1, p2⟩ := bitLen_spec 64 X (by omega) (by omega)
  have p3 := p2 (by omega)
  obtain ⟨l, hl⟩ : ∃ l, Lib.bitLen X = l + 1 := by
    cases hb : Lib.bitLen X with
    | zero => rw [hb] at p1; omega
    | succ l => exact ⟨l, rfl⟩
  rw [hl] at p1 p3 hB
  have h1 := num_nonneg (h.take (usedN xs - 1))
  have h2 := num_lt (h.take (usedN xs - 1))
  have hul := usedN_le xs
  rw [List.length_take, Nat.min_eq_left (by omega), pw_eq] at h2
  rw [pw_eq] at hn
  obtain ⟨v, hv⟩ : ∃ v, usedN xs - 1 = v := ⟨_, rfl⟩
  rw [hv] at hn h1 h2
  have q1 : (2 : Int) ^ (64 * v + l) ≤ (X : Int) * 2 ^ (64 * v) := by
    rw [Int.pow_add, Int.mul_comm]
    refine Int.mul_le_mul_of_nonneg_right ?_ (Int.le_of_lt (p2_pos _))
    have : 2 ^ l ≤ X := by rw [Nat.pow_succ] at p3; omega
    have h := Int.ofNat_le.2 this
    simpa using h
  have q2 : ((X : Int) + 1) * 2 ^ (64 * v) ≤ (2 : Int) ^ (64 * v + l + 1) := by
    rw [Nat.add_assoc, Int.pow_add, Int.mul_comm]
    refine Int.mul_le_mul_of_nonneg_left ?_ (Int.le_of_lt (p2_pos _))
    have h := Int.ofNat_le.2 (show X + 1 ≤ 2 ^ (l + 1) from p1)
    simpa using h
  rw [Int.add_mul, Int.one_mul] at q2
  exact ⟨64 * v + l, by rw [hB]; omega, by omega, by omega⟩
theorem bits_pos {xs : List Int} (h : Limbs xs) (hu : 0 < usedN xs) : 0 < bitsN xs := by
  obtain ⟨k, e, -, -⟩ := bits_spec h hu; omega
theorem bits_nought {xs : List Int} (hu : usedN xs = 0) : bitsN xs = 0 := by simp [bitsN, hu]
theorem bits_of {xs : List Int} (h : Limbs xs) {k : Nat} (h1 : 2 ^ k ≤ num xs) (h2 : num xs < 2 ^ (k + 1)) : bitsN xs = (k : Int) + 1 := by
  have hu : 0 < usedN xs := by
    rcases Nat.eq_zero_or_pos (usedN xs) with h0 | h0
    · have := (num_eq_zero h).2 h0; have := p2_pos k; omega
    · exact h0
  obtain ⟨j, e, j1, j2⟩ := bits_spec h hu
  rcases Nat.lt_trichotomy j k with hjk | hjk | hjk
  · have := p2_mono (show j + 1 ≤ k by omega); omega
  · subst hjk; exact e
  · have := p2_mono (show k + 1 ≤ j by omega); omega
theorem bits_moved {xs zs : List Int} (h : Limbs xs) (hz : Limbs zs) (hu : 0 < usedN xs) {t : Nat} (e : num zs = num xs * 2 ^ t) : bitsN zs = bitsN xs + t := by
  obtain ⟨k, e1, k1, k2⟩ := bits_spec h hu
  have := bits_of hz (k := k + t) (by rw [e, Int.pow_add]; exact Int.mul_le_mul_of_nonneg_right k1 (Int.le_of_lt (p2_pos t)))
    (by rw [e, Nat.add_right_comm, Int.pow_add]; exact Int.mul_lt_mul_of_pos_right k2 (p2_pos t))
  rw [this, e1]; omega

end Go.Proofs.YtmjfkciaohbkoaaDoor
namespace Go.Proofs.YtmjfkciaohbkoaaDoor

theorem num_take_congr {a b : List Int} : ∀ (k : Nat), (∀ j, j < k → a.getD j 0 = b.getD j 0) → num (a.take k) = num (b.take k)
  | 0, _ => by simp
  | k + 1, h => by rw [num_take_succ, num_take_succ, h k (by omega), num_take_congr k (fun j hj => h j (by omega))]
theorem num_set {cs : List Int} {i : Nat} (v : Int) (h : i < cs.length) : num (cs.set i v) = num cs + (v - cs.getD i 0) * pw i := by
  have e := num_above' (a := cs.set i v) (b := cs) (t := i + 1) (fun j hj => getD_set_other _ _ _ _ (by omega))
  rw [num_set_take _ _ _ h, num_take_succ] at e
  grind
theorem getD_set_self (zs : List Int) (i : Nat) (v : Int) (h : i < zs.length) : (zs.set i v).getD i 0 = v := by
  rw [List.getD_eq_getElem?_getD, List.getElem?_set_self h]; rfl
theorem getD_drop (zs : List Int) (k j : Nat) : (zs.drop k).getD j 0 = zs.getD (k + j) 0 := by
  rw [List.getD_eq_getElem?_getD, List.getElem?_drop, ← List.getD_eq_getElem?_getD]
theorem getD_seg (zs : List Int) (k n j : Nat) (h : j < n) : ((zs.drop k).take n).getD j 0 = zs.getD (k + j) 0 := by
  rw [getD_take_lt _ _ _ h, getD_drop]
theorem num_drop_congr {a b : List Int} (k : Nat) (h : ∀ j, k ≤ j → a.getD j 0 = b.getD j 0) : num (a.drop k) = num (b.drop k) :=
  num_eq_of fun j => by rw [getD_drop, getD_drop]; exact h _ (by omega)
theorem seg_length (cs : List Int) (off n : Nat) (h : off + n ≤ cs.length) : ((cs.drop off).take n).length = n := by
  rw [List.length_take, List.length_drop]; omega
/-- A row is what lies below a piece, the piece, and what lies beyond. -/
theorem num_parts (cs : List Int) (off n : Nat) (h : off + n ≤ cs.length) : num cs = num (cs.take off) + num ((cs.drop off).take n) * pw off + num (cs.drop (off + n)) * pw (off + n) := by
  have h1 := num_take_drop cs off (by omega)
  have h2 := num_take_drop (cs.drop off) n (by rw [List.length_drop]; omega)
  rw [List.drop_drop] at h2
  rw [h1, h2, pw_add]
  grind
/-- Where a piece alone has changed, by how much the row has. -/
theorem num_piece {cs ds : List Int} {off n : Nat} (hl : cs.length = ds.length) (h : off + n ≤ cs.length) (hout : ∀ j, j < off ∨ off + n ≤ j → cs.getD j 0 = ds.getD j 0) :
    num cs - num ds = (num ((cs.drop off).take n) - num ((ds.drop off).take n)) * pw off := by
  have h1 := num_parts cs off n h
  have h2 := num_parts ds off n (by omega)
  rw [num_take_congr off (fun j hj => hout j (.inl hj)), num_drop_congr (off + n) (fun j hj => hout j (.inr hj))] at h1
  grind
theorem mul_cancel {a b p : Int} (hp : 0 < p) (h : a * p = b * p) : a = b := Int.eq_of_mul_eq_mul_right (by omega) h
theorem lt_cancel {a b p : Int} (hp : 0 < p) (h : a * p < b * p) : a < b := Int.lt_of_mul_lt_mul_right h (by omega)
theorem le_cancel {a b p : Int} (hp : 0 < p) (h : a * p ≤ b * p) : a ≤ b := Int.le_of_mul_le_mul_right h hp
theorem mul_le {a b p : Int} (hp : 0 ≤ p) (h : a ≤ b) : a * p ≤ b * p := Int.mul_le_mul_of_nonneg_right h hp
theorem num_top (cs : List Int) (n : Nat) (h : cs.length = n + 1) : num cs = num (cs.take n) + cs.getD n 0 * pw n := by
  have := num_take_succ cs n
  rw [List.take_of_length_le (by omega)] at this; exact this
theorem num_take_lt {cs : List Int} (h : Limbs cs) (n : Nat) : num (cs.take n) < pw n := by
  refine Int.lt_of_lt_of_le (num_lt (h.take n)) (pw_mono ?_)
  rw [List.length_take]; omega
theorem num_take_nonneg {cs : List Int} (h : Limbs cs) (n : Nat) : 0 ≤ num (cs.take n) := num_nonneg (h.take n)
end Go.Proofs.YtmjfkciaohbkoaaDoor

namespace Go.Proofs.YtmjfkciaohbkoaaDoor
open Go.RowKit Go.Shelf

/-- A variable of the program: one block. -/
def Va (w : World) (b : Nat) (t : TypeId) (cs : Array Value) : Prop := w.heap[b]? = some (.cells cs t (0, 0))
theorem Va.lt {w : World} {b : Nat} {t : TypeId} {cs : Array Value} (h : Va w b t cs) : b < w.heap.size := by
  unfold Va at h
  rcases Nat.lt_or_ge b w.heap.size with h' | h'
  · exact h'
  · rw [Array.getElem?_eq_none h'] at h; cases h
theorem Va.cell {w : World} {b : Nat} {t : TypeId} {v : Value} (h : Va w b t #[v]) : w.cell? ⟨b, 0, none⟩ = some v := by
  unfold Va at h; simp [World.cell?, h]
theorem Va.cellAt {w : World} {b : Nat} {t : TypeId} {cs : Array Value} (h : Va w b t cs) (i : Nat) : w.cell? ⟨b, i, none⟩ = cs[i]? := by
  unfold Va at h; simp [World.cell?, h]
theorem Va.frozen {w : World} {b : Nat} {t : TypeId} {cs : Array Value} (h : Va w b t cs) (i : Nat) : w.frozen? ⟨b, i, none⟩ = false := by
  unfold Va at h; simp [World.frozen?, h]
theorem Va.below {B : Nat} {w w' : World} {b : Nat} {t : TypeId} {cs : Array Value} (h : Va w b t cs) (hb : Below B w w') (hB : b < B) : Va w' b t cs := by
  unfold Va at *; rw [hb.block b hB]; exact h
theorem Va.kept {w w' : World} {b : Nat} {t : TypeId} {cs : Array Value} (h : Va w b t cs) (hb : Below w.heap.size w w') : Va w' b t cs := h.below hb h.lt
theorem Va.after {w w' : World} (hb : Below w.heap.size w w') {b : Nat} {t : TypeId} {cs : Array Value} (h : Va w b t cs) : Va w' b t cs := h.below hb h.lt
theorem Va.new (w : World) (t : TypeId) (cs : Array Value) : Va (w.alloc (.cells cs t)) w.heap.size t cs := heap_alloc_new w _
theorem Va.old {w : World} {b : Nat} {t : TypeId} {cs : Array Value} (h : Va w b t cs) (o : Obj) : Va (w.alloc o) b t cs := by
  unfold Va at *
  rw [Below.heap_alloc _ _ _ (Va.lt h)]; exact h
theorem Va.set {w : World} {b : Nat} {t : TypeId} {v : Value} (h : Va w b t #[v]) (v' : Value) : Va (w.setCell ⟨b, 0, none⟩ v') b t #[v'] := by
  unfold Va at *
  simp only [World.setCell]
  rw [Array.getElem?_modify, if_pos rfl, h]
  simp
theorem Va.other {w : World} {b : Nat} {t : TypeId} {cs : Array Value} (h : Va w b t cs) {p : Addr} (hp : b ≠ p.block) (v' : Value) : Va (w.setCell p v') b t cs := by
  unfold Va at *
  rw [Below.heap_setCell _ _ _ _ hp]; exact h
theorem size_set (w : World) (p : Addr) (v : Value) : (w.setCell p v).heap.size = w.heap.size := by simp [World.setCell]

/-- A store into a variable of one cell, all told. -/
theorem set_var {w : World} {b : Nat} {t : TypeId} {v : Value} (h : Va w b t #[v]) (v' : Value) {Q : World → Prop}
    (k : ∀ w', Below b w w' → w'.heap.size = w.heap.size → Va w' b t #[v'] → (∀ c, c ≠ b → w'.heap[c]? = w.heap[c]?) → Q w') : Q (w.setCell ⟨b, 0, none⟩ v') :=
  k _ ((Below.refl b w).setCell (p := ⟨b, 0, none⟩) (Nat.le_refl _) _) (size_set _ _ _) (h.set v') (fun _ hc => Below.heap_setCell _ _ _ _ hc)
theorem Va.stay {w w' : World} {b b' : Nat} {t : TypeId} {cs : Array Value} (h : Va w b t cs) (hk : ∀ c, c ≠ b' → w'.heap[c]? = w.heap[c]?) (hne : b ≠ b') : Va w' b t cs := by
  unfold Va at *; rw [hk b hne]; exact h

theorem ent1 (w : World) (t0 : TypeId) (c0 : Array Value) {Q : World → Prop}
    (h : ∀ w0, Below w.heap.size w w0 → w0.heap.size = w.heap.size + 1 → Va w0 (w.heap.size) t0 c0 → Q w0) : Q (w.alloc (.cells c0 t0)) := by
  refine h _ ((Below.refl _ _).alloc (Nat.le_refl _) _) (by simp) ?_
  · have := Va.new w t0 c0
    exact this
theorem ent2 (w : World) (t0 : TypeId) (c0 : Array Value) (t1 : TypeId) (c1 : Array Value) {Q : World → Prop}
    (h : ∀ w0, Below w.heap.size w w0 → w0.heap.size = w.heap.size + 2 → Va w0 (w.heap.size) t0 c0 → Va w0 (w.heap.size + 1) t1 c1 → Q w0) : Q ((w.alloc (.cells c0 t0)).alloc (.cells c1 t1)) := by
  refine h _ (((Below.refl _ _).alloc (Nat.le_refl _) _).alloc (by simp) _) (by simp) ?_ ?_
  · have := Va.new w t0 c0
    exact (Va.old this _)
  · have := Va.new (w.alloc (.cells c0 t0)) t1 c1
    simp only [World.alloc, Array.size_push] at this
    exact this
theorem ent3 (w : World) (t0 : TypeId) (c0 : Array Value) (t1 : TypeId) (c1 : Array Value) (t2 : TypeId) (c2 : Array Value) {Q : World → Prop}
    (h : ∀ w0, Below w.heap.size w w0 → w0.heap.size = w.heap.size + 3 → Va w0 (w.heap.size) t0 c0 → Va w0 (w.heap.size + 1) t1 c1 → Va w0 (w.heap.size + 1 + 1) t2 c2 → Q w0) : Q (((w.alloc (.cells c0 t0)).alloc (.cells c1 t1)).alloc (.cells c2 t2)) := by
  refine h _ ((((Below.refl _ _).alloc (Nat.le_refl _) _).alloc (by simp) _).alloc (by simp; omega) _) (by simp) ?_ ?_ ?_
  · have := Va.new w t0 c0
    exact (Va.old (Va.old this _) _)
  · have := Va.new (w.alloc (.cells c0 t0)) t1 c1
    simp only [World.alloc, Array.size_push] at this
    exact (Va.old this _)
  · have := Va.new ((w.alloc (.cells c0 t0)).alloc (.cells c1 t1)) t2 c2
    simp only [World.alloc, Array.size_push] at this
    exact this
theorem ent4 (w : World) (t0 : TypeId) (c0 : Array Value) (t1 : TypeId) (c1 : Array Value) (t2 : TypeId) (c2 : Array Value) (t3 : TypeId) (c3 : Array Value) {Q : World → Prop}
    (h : ∀ w0, Below w.heap.size w w0 → w0.heap.size = w.heap.size + 4 → Va w0 (w.heap.size) t0 c0 → Va w0 (w.heap.size + 1) t1 c1 → Va w0 (w.heap.size + 1 + 1) t2 c2 → Va w0 (w.heap.size + 1 + 1 + 1) t3 c3 → Q w0) : Q ((((w.alloc (.cells c0 t0)).alloc (.cells c1 t1)).alloc (.cells c2 t2)).alloc (.cells c3 t3)) := by
  refine h _ (((((Below.refl _ _).alloc (Nat.le_refl _) _).alloc (by simp) _).alloc (by simp; omega) _).alloc (by simp; omega) _) (by simp) ?_ ?_ ?_ ?_
  · have := Va.new w t0 c0
    exact (Va.old (Va.old (Va.old this _) _) _)
  · have := Va.new (w.alloc (.cells c0 t0)) t1 c1
    simp only [World.alloc, Array.size_push] at this
    exact (Va.old (Va.old this _) _)
  · have := Va.new ((w.alloc (.cells c0 t0)).alloc (.cells c1 t1)) t2 c2
    simp only [World.alloc, Array.size_push] at this
    exact (Va.old this _)
  · have := Va.new (((w.alloc (.cells c0 t0)).alloc (.cells c1 t1)).alloc (.cells c2 t2)) t3 c3
    simp only [World.alloc, Array.size_push] at this
    exact this
theorem ent5 (w : World) (t0 : TypeId) (c0 : Array Value) (t1 : TypeId) (c1 : Array Value) (t2 : TypeId) (c2 : Array Value) (t3 : TypeId) (c3 : Array Value) (t4 : TypeId) (c4 : Array Value) {Q : World → Prop}
    (h : ∀ w0, Below w.heap.size w w0 → w0.heap.size = w.heap.size + 5 → Va w0 (w.heap.size) t0 c0 → Va w0 (w.heap.size + 1) t1 c1 → Va w0 (w.heap.size + 1 + 1) t2 c2 → Va w0 (w.heap.size + 1 + 1 + 1) t3 c3 → Va w0 (w.heap.size + 1 + 1 + 1 + 1) t4 c4 → Q w0) : Q (((((w.alloc (.cells c0 t0)).alloc (.cells c1 t1)).alloc (.cells c2 t2)).alloc (.cells c3 t3)).alloc (.cells c4 t4)) := by
  refine h _ ((((((Below.refl _ _).alloc (Nat.le_refl _) _).alloc (by simp) _).alloc (by simp; omega) _).alloc (by simp; omega) _).alloc (by simp; omega) _) (by simp) ?_ ?_ ?_ ?_ ?_
  · have := Va.new w t0 c0
    exact (Va.old (Va.old (Va.old (Va.old this _) _) _) _)
  · have := Va.new (w.alloc (.cells c0 t0)) t1 c1
    simp only [World.alloc, Array.size_push] at this
    exact (Va.old (Va.old (Va.old this _) _) _)
  · have := Va.new ((w.alloc (.cells c0 t0)).alloc (.cells c1 t1)) t2 c2
    simp only [World.alloc, Array.size_push] at this
    exact (Va.old (Va.old this _) _)
  · have := Va.new (((w.alloc (.cells c0 t0)).alloc (.cells c1 t1)).alloc (.cells c2 t2)) t3 c3
    simp only [World.alloc, Array.size_push] at this
    exact (Va.old this _)
  · have := Va.new ((((w.alloc (.cells c0 t0)).alloc (.cells c1 t1)).alloc (.cells c2 t2)).alloc (.cells c3 t3)) t4 c4
    simp only [World.alloc, Array.size_push] at this
    exact this
theorem ent6 (w : World) (t0 : TypeId) (c0 : Array Value) (t1 : TypeId) (c1 : Array Value) (t2 : TypeId) (c2 : Array Value) (t3 : TypeId) (c3 : Array Value) (t4 : TypeId) (c4 : Array Value) (t5 : TypeId) (c5 : Array Value) {Q : World → Prop}
    (h : ∀ w0, Below w.heap.size w w0 → w0.heap.size = w.heap.size + 6 → Va w0 (w.heap.size) t0 c0 → Va w0 (w.heap.size + 1) t1 c1 → Va w0 (w.heap.size + 1 + 1) t2 c2 → Va w0 (w.heap.size + 1 + 1 + 1) t3 c3 → Va w0 (w.heap.size + 1 + 1 + 1 + 1) t4 c4 → Va w0 (w.heap.size + 1 + 1 + 1 + 1 + 1) t5 c5 → Q w0) : Q ((((((w.alloc (.cells c0 t0)).alloc (.cells c1 t1)).alloc (.cells c2 t2)).alloc (.cells c3 t3)).alloc (.cells c4 t4)).alloc (.cells c5 t5)) := by
  refine h _ (((((((Below.refl _ _).alloc (Nat.le_refl _) _).alloc (by simp) _).alloc (by simp; omega) _).alloc (by simp; omega) _).alloc (by simp; omega) _).alloc (by simp; omega) _) (by simp) ?_ ?_ ?_ ?_ ?_ ?_
  · have := Va.new w t0 c0
    exact (Va.old (Va.old (Va.old (Va.old (Va.old this _) _) _) _) _)
  · have := Va.new (w.alloc (.cells c0 t0)) t1 c1
    simp only [World.alloc, Array.size_push] at this
    exact (Va.old (Va.old (Va.old (Va.old this _) _) _) _)
  · have := Va.new ((w.alloc (.cells c0 t0)).alloc (.cells c1 t1)) t2 c2
    simp only [World.alloc, Array.size_push] at this
    exact (Va.old (Va.old (Va.old this _) _) _)
  · have := Va.new (((w.alloc (.cells c0 t0)).alloc (.cells c1 t1)).alloc (.cells c2 t2)) t3 c3
    simp only [World.alloc, Array.size_push] at this
    exact (Va.old (Va.old this _) _)
  · have := Va.new ((((w.alloc (.cells c0 t0)).alloc (.cells c1 t1)).alloc (.cells c2 t2)).alloc (.cells c3 t3)) t4 c4
    simp only [World.alloc, Array.size_push] at this
    exact (Va.old this _)
  · have := Va.new (((((w.alloc (.cells c0 t0)).alloc (.cells c1 t1)).alloc (.cells c2 t2)).alloc (.cells c3 t3)).alloc (.cells c4 t4)) t5 c5
    simp only [World.alloc, Array.size_push] at this
    exact this
theorem ent7 (w : World) (t0 : TypeId) (c0 : Array Value) (t1 : TypeId) (c1 : Array Value) (t2 : TypeId) (c2 : Array Value) (t3 : TypeId) (c3 : Array Value) (t4 : TypeId) (c4 : Array Value) (t5 : TypeId) (c5 : Array Value) (t6 : TypeId) (c6 : Array Value) {Q : World → Prop}
    (h : ∀ w0, Below w.heap.size w w0 → w0.heap.size = w.heap.size + 7 → Va w0 (w.heap.size) t0 c0 → Va w0 (w.heap.size + 1) t1 c1 → Va w0 (w.heap.size + 1 + 1) t2 c2 → Va w0 (w.heap.size + 1 + 1 + 1) t3 c3 → Va w0 (w.heap.size + 1 + 1 + 1 + 1) t4 c4 → Va w0 (w.heap.size + 1 + 1 + 1 + 1 + 1) t5 c5 → Va w0 (w.heap.size + 1 + 1 + 1 + 1 + 1 + 1) t6 c6 → Q w0) : Q (((((((w.alloc (.cells c0 t0)).alloc (.cells c1 t1)).alloc (.cells c2 t2)).alloc (.cells c3 t3)).alloc (.cells c4 t4)).alloc (.cells c5 t5)).alloc (.cells c6 t6)) := by
  refine h _ ((((((((Below.refl _ _).alloc (Nat.le_refl _) _).alloc (by simp) _).alloc (by simp; omega) _).alloc (by simp; omega) _).alloc (by simp; omega) _).alloc (by simp; omega) _).alloc (by simp; omega) _) (by simp) ?_ ?_ ?_ ?_ ?_ ?_ ?_
  · have := Va.new w t0 c0
    exact (Va.old (Va.old (Va.old (Va.old (Va.old (Va.old this _) _) _) _) _) _)
  · have := Va.new (w.alloc (.cells c0 t0)) t1 c1
    simp only [World.alloc, Array.size_push] at this
    exact (Va.old (Va.old (Va.old (Va.old (Va.old this _) _) _) _) _)
  · have := Va.new ((w.alloc (.cells c0 t0)).alloc (.cells c1 t1)) t2 c2
    simp only [World.alloc, Array.size_push] at this
    exact (Va.old (Va.old (Va.old (Va.old this _) _) _) _)
  · have := Va.new (((w.alloc (.cells c0 t0)).alloc (.cells c1 t1)).alloc (.cells c2 t2)) t3 c3
    simp only [World.alloc, Array.size_push] at this
    exact (Va.old (Va.old (Va.old this _) _) _)
  · have := Va.new ((((w.alloc (.cells c0 t0)).alloc (.cells c1 t1)).alloc (.cells c2 t2)).alloc (.cells c3 t3)) t4 c4
    simp only [World.alloc, Array.size_push] at this
    exact (Va.old (Va.old this _) _)
  · have := Va.new (((((w.alloc (.cells c0 t0)).alloc (.cells c1 t1)).alloc (.cells c2 t2)).alloc (.cells c3 t3)).alloc (.cells c4 t4)) t5 c5
    simp only [World.alloc, Array.size_push] at this
    exact (Va.old this _)
  · have := Va.new ((((((w.alloc (.cells c0 t0)).alloc (.cells c1 t1)).alloc (.cells c2 t2)).alloc (.cells c3 t3)).alloc (.cells c4 t4)).alloc (.cells c5 t5)) t6 c6
    simp only [World.alloc, Array.size_push] at this
    exact this
end Go.Proofs.YtmjfkciaohbkoaaDoor

namespace Go.Proofs.YtmjfkciaohbkoaaDoor
open Go.RowKit Go.Shelf

end Go.Proofs.YtmjfkciaohbkoaaDoor
