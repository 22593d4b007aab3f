/-
  Left: a list of limbs moved up by any number of binary digits; the refusals.
-/
import Derived.Test.YtckfgolijlggbaaLists3
import Derived.Test.YtckfgolijlggbaaShift
import Derived.Deep.RegionLaw
namespace Go.Proofs.Ytckfgolijlggbaa
open Go.RowKit Go.Shelf

theorem left_neg (a : Option Addr) (la ca : Nat) (t : Int) (w : World) (ht : t < 0) :
    Calls Try.prog 36 #[.slice a la ca, .int .i64 t] w fun e w' => e = .returned (.tuple #[.slice none 0 0, .int .i64 2]) ∧ w' = w := by
  go_enter Try.func36, Try.ntmps36
  go_wp2_with fail
  go_ret2
  exact ⟨rfl, rfl⟩

theorem left_none (a : Option Addr) (la ca : Nat) (xs : List Int) (t : Int) (w : World) (ha : Sl w a la xs) (h1 : la ≤ 20000000000000) (ht : 0 ≤ t) (hu : usedN xs = 0) :
    Calls Try.prog 36 #[.slice a la ca, .int .i64 t] w fun e w' => e = .returned (.tuple #[.slice none 0 0, .int .i64 0]) ∧ w' = w := by
  have B := bits_any a la ca xs w ha (by omega)
  have e0 : bitsN xs = 0 := by simp [bitsN, hu]
  rw [e0] at B
  go_enter Try.func36, Try.ntmps36
  go_wp2_with fail
  refine B.mono ?_
  rintro e w' ⟨rfl, rfl⟩
  go_wp2_with fail
  go_ret2
  exact ⟨rfl, rfl⟩

theorem bitsN_bd {xs : List Int} (h : Limbs xs) (hu : 0 < usedN xs) : 64 * ((usedN xs : Int) - 1) + 1 ≤ bitsN xs ∧ bitsN xs ≤ 64 * (usedN xs : Int) := by
  have ht := usedN_top xs hu
  have hw := h.getD (usedN xs - 1)
  obtain ⟨p1, p2⟩ := bitLen_spec 64 (xs.getD (usedN xs - 1) 0).toNat (by omega) (by omega)
  have p3 : Lib.bitLen (xs.getD (usedN xs - 1) 0).toNat ≤ 64 := Lib.bitLen_le _ 64 (by omega) (by omega)
  have : Lib.bitLen (xs.getD (usedN xs - 1) 0).toNat ≠ 0 := by
    intro e
    rw [e] at p1
    omega
  simp only [bitsN, if_neg (show ¬ usedN xs = 0 by omega)]
  omega

theorem left_long (a : Option Addr) (la ca : Nat) (xs : List Int) (t : Int) (w : World) (ha : Sl w a la xs) (h1 : la ≤ 20000000000000) (ht : 0 ≤ t) (hu : 0 < usedN xs) (hlong : 262144 < bitsN xs + t) :
    Calls Try.prog 36 #[.slice a la ca, .int .i64 t] w fun e w' => e = .returned (.tuple #[.slice none 0 0, .int .i64 3]) ∧ w' = w := by
  have B := bits_any a la ca xs w ha (by omega)
  have hbd := bitsN_bd ha.2.1 hu
  have hul := usedN_le xs
  have hz := ha.1
  obtain ⟨q, hq⟩ : ∃ q, bitsN xs = q := ⟨_, rfl⟩
  rw [hq] at B hbd hlong
  have g1 : (q == 0) = false := by simp; omega
  have g2 : q ≤ 1280000000000000 := by omega
  have g3 : 0 ≤ q := by omega
  have g4 : 262144 - q < t := by omega
  clear hq hbd hlong
  go_enter Try.func36, Try.ntmps36
  go_wp2_with fail
  refine B.mono ?_
  rintro e w' ⟨rfl, rfl⟩
  go_wp2_with fail
  go_ret2
  exact ⟨rfl, rfl⟩

theorem splice_row (A B : List Int) (p : Nat) : splice (row A) p (row B) = row (A.take p ++ (B ++ A.drop (p + B.length))) := by
  simp only [splice, row, List.length_map, List.map_append, List.map_take, List.map_drop]
theorem src_row {W : World} {b o la n : Nat} {xs : List Int} (ha : Sl W (some ⟨b, o, none⟩) la xs) (hn : n ≤ la) : ∀ j v, (row (xs.take n))[j]? = some v → W.cell? ((⟨b, o, none⟩ : Addr).add j) = some v := by
  intro j v hj
  have hj' : j < (row (xs.take n)).length := by
    rcases Nat.lt_or_ge j (row (xs.take n)).length with h' | h'
    · exact h'
    · rw [List.getElem?_eq_none h'] at hj; cases hj
  rw [row_length, List.length_take] at hj'
  have hz := ha.1
  rw [row_getElem? _ _ (by rw [List.length_take]; omega), getD_take_lt _ _ _ (by omega)] at hj
  cases hj
  obtain ⟨b', o', e, hc⟩ := ha.2.2 (by omega)
  cases e
  rw [addr_add]
  exact hc j (by omega)
theorem row_one (cs : List Int) : ∀ v ∈ row cs, v.oneCell' = true := by
  intro v hv
  simp only [row, List.mem_map] at hv
  obtain ⟨x, -, rfl⟩ := hv
  rfl
theorem up_start (xs : List Int) (p n : Nat) (hn : usedN xs = n) : (List.replicate (p + n + 1) (0 : Int)).take p ++ (xs.take n ++ (List.replicate (p + n + 1) (0 : Int)).drop (p + (xs.take n).length)) = List.replicate p 0 ++ (xs.take n ++ [0]) := by
  have hu := usedN_le xs
  rw [List.length_take, Nat.min_eq_left (by omega), List.take_replicate, List.drop_replicate, Nat.min_eq_left (by omega), show p + n + 1 - (p + n) = 1 by omega]; rfl
theorem up_num (xs : List Int) (p n : Nat) (hn : usedN xs = n) : num (List.replicate p 0 ++ (xs.take n ++ [0])) = num xs * pw p ∧ (List.replicate p 0 ++ (xs.take n ++ [0])).length = p + n + 1 ∧ num ((List.replicate p 0 ++ (xs.take n ++ [0])).take p) = 0 := by
  have hu := usedN_le xs
  refine ⟨?_, by simp; omega, ?_⟩
  · rw [num_append, num_zeros, num_append, List.length_replicate, num_take_used xs (by omega)]; simp [num]
  · rw [List.take_append_of_le_length (by simp), List.take_of_length_le (by simp), num_zeros]
theorem up_end {xs cs : List Int} {p n s t : Nat} {r : Int} (hx : Limbs xs) (hn : usedN xs = n) (ht : t = 64 * p + s) (hs : s ≤ 63) (I : UInv (List.replicate p 0 ++ (xs.take n ++ [0])) cs (2 ^ s) p (n + 1) r) : cs.length = p + n + 1 ∧ Limbs cs ∧ num cs = num xs * 2 ^ t := by
  obtain ⟨i1, i2, i3, i4, i5, i6⟩ := I
  obtain ⟨u1, u2, u3⟩ := up_num xs p n hn
  rw [List.take_of_length_le (by omega), List.take_of_length_le (by omega), u1] at i4
  refine ⟨by omega, i2, ?_⟩
  have e : num xs * pw p * 2 ^ s = num xs * 2 ^ t := by
    rw [pw_eq, Int.mul_assoc, ← Int.pow_add, ht]
  rw [e] at i4
  have h1 := num_lt_used hx
  rw [hn] at h1
  have hP : (0 : Int) < 2 ^ s := Int.pow_pos (by decide)
  have hP2 : (2 : Int) ^ s ≤ 2 ^ 63 := by
    have := Nat.pow_le_pow_right (n := 2) (by decide) hs
    have h := Int.ofNat_le.2 this
    simpa using h
  have h2 := num_nonneg i2
  have h3 := pw_pos (p + (n + 1))
  have h4 : pw (p + (n + 1)) = pw p * (18446744073709551616 * pw n) := by rw [pw_add, pw]
  have h5 : num xs * pw p * 2 ^ s < pw (p + (n + 1)) := by
    have a1 : num xs * pw p ≤ pw n * pw p := Int.mul_le_mul_of_nonneg_right (by omega) (by have := pw_pos p; omega)
    have a2 : num xs * pw p * 2 ^ s ≤ pw n * pw p * 2 ^ 63 := Int.le_trans (Int.mul_le_mul_of_nonneg_right a1 (by omega)) (Int.mul_le_mul_of_nonneg_left hP2 (Int.mul_nonneg (by have := pw_pos n; omega) (by have := pw_pos p; omega)))
    have a3 : pw p * (18446744073709551616 * pw n) = pw n * pw p * 18446744073709551616 := by
      rw [Int.mul_comm (pw p), Int.mul_comm 18446744073709551616, Int.mul_assoc, Int.mul_comm 18446744073709551616, ← Int.mul_assoc]
    have a4 : 0 < pw n * pw p := Int.mul_pos (pw_pos n) (pw_pos p)
    rw [h4, a3]
    generalize pw n * pw p = z at *
    have : z * 2 ^ 63 = 9223372036854775808 * z := by rw [Int.mul_comm]; rfl
    omega
  rw [e] at h5
  have : r = 0 := by
    rcases Int.lt_or_le 0 r with h | h
    · have : 1 * pw (p + (n + 1)) ≤ r * pw (p + (n + 1)) := Int.mul_le_mul_of_nonneg_right (by omega) (by omega)
      omega
    · omega
  subst this
  simpa using i4

set_option maxHeartbeats 1000000 in
theorem left_ok (a : Option Addr) (la ca : Nat) (xs : List Int) (t : Nat) (w : World) (ha : Sl w a la xs) (h1 : la ≤ 20000000000000) (hca : la ≤ ca) (hu : 0 < usedN xs) (hfit : bitsN xs + t ≤ 262144) :
    Calls Try.prog 36 #[.slice a la ca, .int .i64 t] w fun e w' =>
      ∃ g m c zs, e = .returned (.tuple #[.slice (some ⟨g, 0, none⟩) m c, .int .i64 0]) ∧ m ≤ c ∧ m ≤ 20000 ∧ Sl w' (some ⟨g, 0, none⟩) m zs ∧ usedN zs = m ∧ num zs = num xs * 2 ^ t ∧ Below w.heap.size w w' := by
  have B := bits_any a la ca xs w ha (by omega)
  have U := used_any a la ca xs w ha (by omega)
  have hbd := bitsN_bd ha.2.1 hu
  have hul := usedN_le xs
  have hz := ha.1
  have hLx := ha.2.1
  obtain ⟨ba, oa, rfl, hcell⟩ := ha.2.2 (by omega)
  obtain ⟨q, hq⟩ : ∃ q, bitsN xs = q := ⟨_, rfl⟩
  rw [hq] at B hbd hfit
  obtain ⟨n, hn⟩ : ∃ n, usedN xs = n := ⟨_, rfl⟩
  rw [hn] at U hbd hul hu
  have HN : Hid (usedN xs = n) := hn
  have g1 : (q == 0) = false := by simp; omega
  have g3 : 0 ≤ q := by omega
  have g4 : ¬ (262144 - q < (t : Int)) := by omega
  obtain ⟨p, hp⟩ : ∃ p, t / 64 = p := ⟨_, rfl⟩
  obtain ⟨s, hs⟩ : ∃ s, t % 64 = s := ⟨_, rfl⟩
  have ep : (t : Int) / 64 = p := by omega
  have es : (t : Int) % 64 = s := by omega
  have hs63 : s ≤ 63 := by omega
  have hpb : p ≤ 4096 := by omega
  have hnb : n ≤ 4096 := by omega
  have htb : t ≤ 262144 := by omega
  have HT : Hid (t = 64 * p + s) := by show t = 64 * p + s; omega
  have hmk := make_row (p + n + 1) (by omega)
  have ec : ((p + n + 1 : Nat) : Int) = (p : Int) + n + 1 := by omega
  rw [ec] at hmk
  have hnl : n ≤ la := by omega
  have f1 : (p : Int) ≤ p + n + 1 := by omega
  have f2 : ¬ p + n + 1 = p := by omega
  have f3 : p + n + 1 - p = n + 1 := by omega
  have f4 : (n : Int) ≤ ca := by omega
  have f5 : n ≤ ca := by omega
  clear hq hn hp hs ec hbd hfit
  go_enter Try.func36, Try.ntmps36
  go_wp2_with fail
  refine B.mono ?_
  rintro e w' ⟨rfl, rfl⟩
  go_wp2_with fail
  refine U.mono ?_
  rintro e w' ⟨rfl, rfl⟩
  go_wp2_with fail
  have HG : Hid ((w'.alloc (Obj.cells (row (List.replicate (p + n + 1) 0)).toArray 46)).drew.heap[w'.heap.size]? = some (Obj.cells (row (List.replicate (p + n + 1) 0)).toArray 46 (0, 0))) := heap_alloc_new _ _
  have hbw : Below w'.heap.size w' (w'.alloc (Obj.cells (row (List.replicate (p + n + 1) 0)).toArray 46)).drew := ((Below.refl _ _).alloc (Nat.le_refl _) _).drew
  have HB : Hid (Below w'.heap.size w' (w'.alloc (Obj.cells (row (List.replicate (p + n + 1) 0)).toArray 46)).drew) := hbw
  have hlen : (row (xs.take n)).length = n := by rw [row_length, List.length_take]; omega
  have HM : Hid ((row (xs.take n)).length = Nat.min n (n + 1)) := by show _ = min _ _; omega
  have HF : Hid (p + (row (xs.take n)).length ≤ (row (List.replicate (p + n + 1) 0)).length) := by rw [Hid, hlen, row_length, List.length_replicate]; omega
  have HQ : Hid (0 < (row (xs.take n)).length → (some ⟨w'.heap.size, p, none⟩ : Option Addr) = some ⟨w'.heap.size, p, none⟩ ∧ ∃ ad, (some ⟨ba, oa, none⟩ : Option Addr) = some ad ∧ ∀ j v, (row (xs.take n))[j]? = some v → (w'.alloc (Obj.cells (row (List.replicate (p + n + 1) 0)).toArray 46)).drew.cell? (ad.add j) = some v) :=
    fun _ => ⟨rfl, _, rfl, src_row (ha.below hbw (Nat.le_refl _)) hnl⟩
  clear hbw hlen hmk B U
  go_region_law (refine step_copy_splice rfl (.tmp 34) (.tmp 37) 22 22 rfl 46 Try.underlying22 (by kernel_rfl) (some ⟨w'.heap.size, p, none⟩) (some ⟨ba, oa, none⟩) (n + 1) (n + 1) n ca (by simp [Act.eval, Act.put]) (by simp [Act.eval, Act.put]) w'.heap.size p (row (List.replicate (p + n + 1) 0)) 46 HG.out (row (xs.take n)) HM.out HQ.out HF.out (row_one _) w'.heap.size w' HB.out (Nat.le_refl _) ?_; intro w4 hg4 hb4)
  have ho : Own w4 w'.heap.size (List.replicate p 0 ++ (xs.take n ++ [0])) := by
    have := hg4.out
    rw [splice_row, up_start xs p n HN.out] at this
    exact this
  obtain ⟨u1, u2, u3⟩ := up_num xs p n HN.out
  have HO : Hid (Own w4 w'.heap.size (List.replicate p 0 ++ (xs.take n ++ [0]))) := ho
  have HL0 : Hid (Limbs (List.replicate p 0 ++ (xs.take n ++ [0]))) := (Limbs.zeros _).append ((hLx.take _).append (fun z hz => by rw [List.mem_singleton.1 hz]; decide))
  have HU2 : Hid ((List.replicate p 0 ++ (xs.take n ++ [0])).length = p + n + 1) := u2
  have HU3 : Hid (num ((List.replicate p 0 ++ (xs.take n ++ [0])).take p) = 0) := u3
  clear ho u1 u2 u3 hg4 HG HB HM HF HQ
  go_wp2_with fail
  refine (shiftUp_any w'.heap.size p (n + 1) (n + 1) s _ w4 HO.out HL0.out (by rw [HU2.out]; omega) (by rw [HU2.out]; omega) hs63 HU3.out (by omega)).mono ?_
  rintro e w5 ⟨rfl, cs, r, ho5, hI5, hb5⟩
  obtain ⟨v1, v2, v3⟩ := up_end hLx HN.out HT.out hs63 hI5
  have hsl := ho5.sl v2
  rw [v1] at hsl
  have hb6 : Below w'.heap.size w' w5 := hb4.trans hb5
  have hcu := usedN_le cs
  rw [v1] at hcu
  have HV : Hid (num cs = num xs * 2 ^ t) := v3
  clear v1 v2 v3 hI5 ho5 hb5 hb4
  go_wp2_with fail
  refine (cut_any (some ⟨w'.heap.size, 0, none⟩) (p + n + 1) (p + n + 1) cs _ hsl (by omega) (Nat.le_refl _)).mono ?_
  rintro e w6 ⟨rfl, rfl⟩
  go_wp2_with fail
  go_ret2
  refine ⟨w'.heap.size, usedN cs, p + n + 1, cs.take (usedN cs), rfl, by omega, by omega, hsl.take (by omega), usedN_take cs (Nat.le_refl _), ?_, hb6⟩
  rw [num_take_used cs (Nat.le_refl _)]
  exact HV.out
end Go.Proofs.Ytckfgolijlggbaa
