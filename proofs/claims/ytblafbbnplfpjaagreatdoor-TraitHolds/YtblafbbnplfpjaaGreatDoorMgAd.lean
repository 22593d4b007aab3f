import Derived.Test.YtblafbbnplfpjaaGreatDoorMgAb
import Derived.Test.YtblafbbnplfpjaaGreatDoorMgAc
import Derived.Test.YtblafbbnplfpjaaGreatDoorMgAa
import Derived.Deep.RegionWith
import Derived.Deep.RegionLaw
namespace Go.Proofs.YtblafbbnplfpjaaGreatDoor
open Go.RowKit Go.Shelf

theorem step {w wk w' : World} (B : Below w.heap.size w wk) (hb : Below wk.heap.size wk w') : Below w.heap.size w w' := B.trans (hb.mono B.size)

theorem one_list {zs xs : List Int} {m : Nat} (h1 : Limbs zs) (h2 : Limbs xs) (hl : zs.length = m) (hu : usedN zs = m) (hn : num zs = num xs) : m = usedN xs ∧ zs = xs.take (usedN xs) := by
  have e := trim_eq h1 h2 hn
  have u := used_of_num h1 h2 hn
  rw [hu, ← hl, List.take_of_length_le (Nat.le_refl _)] at e
  exact ⟨by omega, e⟩

theorem compare_b (a b : Option Addr) (la ca lb cb : Nat) (xs ys : List Int) (w : World) (ha : Sl w a la xs) (hb : Sl w b lb ys) (h1 : la ≤ 40000000000000) (h2 : lb ≤ 40000000000000) :
    Calls Tryz.prog 139 #[.slice a la ca, .slice b lb cb] w fun e w' => e = .returned (.int .i64 (cmp3 (num xs) (num ys))) ∧ Below w.heap.size w w' := by
  refine (compare_any a b la ca lb cb xs ys w ha hb h1 h2).mono ?_
  rintro e w' ⟨rfl, n, rfl⟩
  exact ⟨rfl, below_drewN (Below.refl _ _) n⟩
theorem sl_one (w : World) (m : Int) (hm : Word m) : Sl (w.alloc (.cells #[.int .u64 m] 124)) (some ⟨w.heap.size, 0, none⟩) 1 [m] := by
  refine ⟨rfl, fun z hz => by rw [List.mem_singleton.1 hz]; exact hm, fun _ => ⟨_, _, rfl, fun i hi => ?_⟩⟩
  obtain rfl : i = 0 := by omega
  exact Own.cell (cs := [m]) (heap_alloc_new w _) 0 Nat.one_pos
end Go.Proofs.YtblafbbnplfpjaaGreatDoor

namespace Go.Proofs.YtblafbbnplfpjaaGreatDoor

theorem pw_eq : ∀ n : Nat, pw n = 2 ^ (64 * n)
  | 0 => by simp [pw]
  | n + 1 => by
    rw [pw, pw_eq n, Nat.mul_add, Int.pow_add, Int.mul_comm]; rfl

def DnInv (xs cs : List Int) (P : Int) (k : Nat) : Prop :=
  cs.length = xs.length ∧ Limbs cs ∧ (∀ j, k ≤ j → cs.getD j 0 = xs.getD j 0) ∧ P * num (cs.take k) + xs.getD 0 0 % P = num (xs.take k) + xs.getD k 0 % P * pw k

theorem dninv_start {xs : List Int} {P : Int} (hx : Limbs xs) : DnInv xs xs P 0 := ⟨rfl, hx, fun _ _ => rfl, by simp [num, pw]⟩
theorem down_word {x y P D : Int} (hPD : P * D = 18446744073709551616) (hP : 0 < P) (hD : 0 < D) (hx : 0 ≤ x ∧ x < 18446744073709551616) :
    P * (x / P + (y * D) % 18446744073709551616) + x % P = x + 18446744073709551616 * (y % P) ∧ 0 ≤ x / P ∧ x / P < D ∧ (y * D) % 18446744073709551616 = (y % P) * D ∧ 0 ≤ x / P + (y * D) % 18446744073709551616 ∧ x / P + (y * D) % 18446744073709551616 < 18446744073709551616 := by
  have e1 : (y * D) % 18446744073709551616 = (y % P) * D := by
    rw [← hPD, Int.mul_comm P D, Int.mul_comm y D, Int.mul_emod_mul_of_pos _ _ hD, Int.mul_comm]
  have h1 := Int.emod_nonneg y (b := P) (by omega)
  have h2 := Int.emod_lt_of_pos y hP
  have h3 := Int.mul_ediv_add_emod x P
  have h4 : 0 ≤ x / P := Int.ediv_nonneg hx.1 (by omega)
  have h5 : x / P < D := Int.ediv_lt_of_lt_mul hP (by rw [Int.mul_comm, hPD]; exact hx.2)
  have h6 : (y % P + 1) * D ≤ P * D := Int.mul_le_mul_of_nonneg_right (by omega) (by omega)
  rw [Int.add_mul, Int.one_mul, hPD] at h6
  have h7 : 0 ≤ (y % P) * D := Int.mul_nonneg h1 (by omega)
  rw [e1]
  refine ⟨?_, h4, h5, rfl, by omega, by omega⟩
  rw [Int.mul_add, Int.mul_left_comm P, hPD, Int.mul_comm _ 18446744073709551616]
  omega
theorem dninv_step {xs cs : List Int} {P D : Int} {k : Nat} (hPD : P * D = 18446744073709551616) (hP : 0 < P) (hD : 0 < D) (I : DnInv xs cs P k) (h : k < xs.length) :
    DnInv xs (cs.set k (cs.getD k 0 / P + (cs.getD (k + 1) 0 * D) % 18446744073709551616)) P (k + 1) := by
  obtain ⟨i1, i2, i3, i4⟩ := I
  have b1 := i2.getD k
  have e := i3 k (Nat.le_refl _)
  have e' := i3 (k + 1) (by omega)
  obtain ⟨p1, p2, p3, p4, p5, p6⟩ := down_word (y := cs.getD (k + 1) 0) hPD hP hD b1
  refine ⟨by rw [List.length_set]; exact i1, i2.set k ⟨p5, p6⟩, fun j hj => by rw [getD_set_other _ _ _ _ (by omega)]; exact i3 j (by omega), ?_⟩
  rw [num_set_take _ _ _ (by omega), num_take_succ, ← e, ← e', pw, Int.mul_add, ← Int.mul_assoc P]
  rw [← e] at i4
  have hc : (P * (cs.getD k 0 / P + (cs.getD (k + 1) 0 * D) % 18446744073709551616) + cs.getD k 0 % P) * pw k = (cs.getD k 0 + 18446744073709551616 * (cs.getD (k + 1) 0 % P)) * pw k := by rw [p1]
  rw [Int.add_mul, Int.add_mul, Int.mul_comm 18446744073709551616 (cs.getD (k + 1) 0 % P), Int.mul_assoc (cs.getD (k + 1) 0 % P)] at hc
  omega
theorem dninv_end {xs cs : List Int} {P : Int} (hP : 0 < P) (I : DnInv xs cs P xs.length) : num cs = num xs / P := by
  obtain ⟨i1, i2, i3, i4⟩ := I
  have e : xs.getD xs.length 0 = 0 := by rw [List.getD_eq_getElem?_getD, List.getElem?_eq_none (Nat.le_refl _)]; rfl
  rw [e, List.take_of_length_le (Nat.le_refl _), List.take_of_length_le (by omega), Int.zero_emod, Int.zero_mul, Int.add_zero] at i4
  have h1 := Int.emod_nonneg (xs.getD 0 0) (b := P) (by omega)
  have h2 := Int.emod_lt_of_pos (xs.getD 0 0) hP
  rw [← i4, Int.add_comm, Int.add_mul_ediv_left _ _ (by omega), Int.ediv_eq_zero_of_lt h1 h2, Int.zero_add]
end Go.Proofs.YtblafbbnplfpjaaGreatDoor

namespace Go.Proofs.YtblafbbnplfpjaaGreatDoor
open Go.RowKit Go.Shelf

theorem or_two (a b s : Nat) (ha : a * 2 ^ s < 18446744073709551616) (hb : b < 2 ^ s) (hb' : b < 18446744073709551616) :
    bits .or .u64 ((a * 2 ^ s : Nat) : Int) (b : Int) = ((a * 2 ^ s + b : Nat) : Int) ∧ bits .or .u64 (b : Int) ((a * 2 ^ s : Nat) : Int) = ((a * 2 ^ s + b : Nat) : Int) := by
  have := Nat.shiftLeft_add_eq_or_of_lt hb a
  rw [Nat.shiftLeft_eq] at this
  rw [bits_or_u64_nat _ _ ha hb', bits_or_u64_nat _ _ hb' ha, Nat.or_comm b, ← this]
  exact ⟨rfl, rfl⟩
theorem two_parts (s : Nat) (hs : s ≤ 63) : (2 : Int) ^ s * 2 ^ (64 - s) = 18446744073709551616 ∧ (0 : Int) < 2 ^ s ∧ (0 : Int) < 2 ^ (64 - s) := by
  refine ⟨?_, Int.pow_pos (by decide), Int.pow_pos (by decide)⟩
  rw [← Int.pow_add, show s + (64 - s) = 64 by omega]; rfl
theorem down_or (x y : Int) (s : Nat) (hs : s ≤ 63) (hx : 0 ≤ x ∧ x < 18446744073709551616) :
    bits .or .u64 (x / 2 ^ s) (IntKind.u64.wrap (y * 2 ^ (64 - s))) = x / 2 ^ s + (y * 2 ^ (64 - s)) % 18446744073709551616 := by
  obtain ⟨hPD, hP, hD⟩ := two_parts s hs
  obtain ⟨-, p2, p3, p4, p5, p6⟩ := down_word (y := y) hPD hP hD hx
  have h1 := Int.emod_nonneg y (b := (2 : Int) ^ s) (by omega)
  obtain ⟨a, ha⟩ := Int.eq_ofNat_of_zero_le h1
  obtain ⟨b, hb⟩ := Int.eq_ofNat_of_zero_le p2
  have c64 : ((2 ^ (64 - s) : Nat) : Int) = 2 ^ (64 - s) := by simp
  rw [IntKind.wrap_u64, p4, ha, hb, ← c64, ← Int.natCast_mul]
  rw [p4, ha, hb, ← c64, ← Int.natCast_mul] at p6
  rw [hb, ← c64] at p3
  rw [(or_two a b (64 - s) (by omega) (by omega) (by omega)).2, Int.natCast_add, Int.add_comm]

set_option maxHeartbeats 1000000 in
theorem shiftDown_any (g n c s : Nat) (xs : List Int) (w : World) (ho : Own w g xs) (hx : Limbs xs) (hn : n = xs.length) (hnb : xs.length ≤ 20000000000000) (hs : s ≤ 63) :
    Calls Tryz.prog 209 #[.slice (some ⟨g, 0, none⟩) n c, .int .i64 s] w fun e w' =>
      e = .returned (.tuple #[]) ∧ ∃ cs, Own w' g cs ∧ cs.length = xs.length ∧ Limbs cs ∧ num cs = num xs / 2 ^ s ∧ Below g w w' := by
  obtain ⟨hPD, hP, hD⟩ := two_parts s hs
  have m1 : min s 64 = s := by omega
  have m2 : min (64 - s) 64 = 64 - s := by omega
  have m3 : ((64 : Int) - s).toNat = 64 - s := by omega
  have HI0 : Hid (DnInv xs xs (2 ^ s) 0) := dninv_start hx
  have HO : Hid (Own w g xs) := ho
  have HP : Hid ((2 : Int) ^ s * 2 ^ (64 - s) = 18446744073709551616) := hPD
  have HN : Hid (n = xs.length) := hn
  have hnb' : n ≤ 20000000000000 := by omega
  clear ho hPD hn hnb
  go_enter Tryz.func209, Tryz.ntmps209
  go_wp2_with fail
  go_loopw [7] (fun i wr => ∃ (k : Nat) (cs : List Int), k ≤ n ∧ i = .int .i64 k ∧ Hid (DnInv xs cs (2 ^ s) k) ∧ Hid (Own wr g cs) ∧ Below g w wr) (fun i _ => n - (intOf i).toNat)
  case atStart => exact ⟨0, xs, Nat.zero_le _, rfl, HI0, HO, Below.refl _ _⟩
  case round =>
    obtain ⟨k, cs, hk, rfl, hI, ho, hbl⟩ := hrel
    by_cases hlt : k < n
    · have hlen := hI.out.1
      rw [← HN.out] at hlen
      have hcx := ho.out.cell k (by omega)
      have hfx := ho.out.frozen k
      have hw1 := hI.out.2.1.getD k
      have hstep := dninv_step HP.out hP hD hI.out (by rw [← HN.out]; omega)
      have hsl := ho.out.sl hI.out.2.1
      rw [hlen] at hsl
      obtain ⟨x, hxx⟩ : ∃ x, cs.getD k 0 = x := ⟨_, rfl⟩
      obtain ⟨y, hyy⟩ : ∃ y, cs.getD (k + 1) 0 = y := ⟨_, rfl⟩
      have ek : ((k : Int) + 1).toNat = k + 1 := by omega
      have L : ∀ W0, Sl W0 (some ⟨g, 0, none⟩) n cs → Calls Tryz.prog 214 #[.slice (some ⟨g, 0, none⟩) n c, .int .i64 (k + 1)] W0 fun e w' => e = .returned (.int .u64 y) ∧ w' = W0 := by
        intro W0 hW0
        have := limbAt_any (some ⟨g, 0, none⟩) n c cs (k + 1) W0 hW0 (by omega)
        rw [ek, hyy] at this; exact this
      have LH : Hid (∀ W0, Sl W0 (some ⟨g, 0, none⟩) n cs → Calls Tryz.prog 214 #[.slice (some ⟨g, 0, none⟩) n c, .int .i64 (k + 1)] W0 fun e w' => e = .returned (.int .u64 y) ∧ w' = W0) := L
      rw [hxx] at hcx hw1
      rw [hxx, hyy] at hstep
      have e1 := down_or x y s hs hw1
      obtain ⟨v, hv⟩ : ∃ v, x / 2 ^ s + (y * 2 ^ (64 - s)) % 18446744073709551616 = v := ⟨_, rfl⟩
      rw [hv] at e1 hstep
      have HS : Hid (DnInv xs (cs.set k v) (2 ^ s) (k + 1)) := hstep
      clear hstep hxx hyy hv L ek hlen
      have LD : Hid (Calls Tryz.prog 214 #[.slice (some ⟨g, 0, none⟩) n c, .int .i64 (k + 1)] wr.drew fun e w' => e = .returned (.int .u64 y) ∧ w' = wr.drew) := LH.out wr.drew (hsl.drewN 1)
      clear hsl LH
      have ew1 : IntKind.i64.wrap ((k : Int) + 1) = k + 1 := by rw [IntKind.wrap_i64]; omega
      have ew2 : IntKind.i64.wrap (64 - (s : Int)) = 64 - s := by rw [IntKind.wrap_i64]; omega
      go_wp2_with fail
      go_region_with (go_at_call 214; refine LD.out.mono ?_; rintro e w2 ⟨rfl, rfl⟩)
      all_goals
        go_wp2_with fail
        go_roundw
        case rel => exact ⟨k + 1, _, by omega, by go_num, HS, Own.set (w := wr.drew) ho.out k _, hbl.drew.setCell (Nat.le_refl _) _⟩
        case measure => simp [intOf]; omega
    · obtain rfl : k = n := by omega
      have hI' := hI.out
      rw [HN.out] at hI'
      have HE : Hid (num cs = num xs / 2 ^ s) := dninv_end hP hI'
      have hlen : Hid (cs.length = xs.length) := hI'.1
      have HL : Hid (Limbs cs) := hI'.2.1
      clear hI'
      go_wp2_with fail
      go_end0
      exact ⟨rfl, cs, ho.out, hlen.out, HL.out, HE.out, hbl⟩
end Go.Proofs.YtblafbbnplfpjaaGreatDoor

namespace Go.Proofs.YtblafbbnplfpjaaGreatDoor
open Go.RowKit Go.Shelf

theorem splice_row (A B : List Int) (p : Nat) : splice (row A) p (row B) = row (A.take p ++ (B ++ A.drop (p + B.length))) := by
  simp only [splice, row, List.length_map, List.map_append, List.map_take, List.map_drop]
end Go.Proofs.YtblafbbnplfpjaaGreatDoor

namespace Go.Proofs.YtblafbbnplfpjaaGreatDoor
open Go.RowKit Go.Shelf

theorem right_none (a : Option Addr) (la ca : Nat) (xs : List Int) (t : Nat) (w : World) (ha : Sl w a la xs) (h1 : la ≤ 20000000000000) (htb : t ≤ 9223372036854775807) (hu : usedN xs ≤ t / 64) :
    Calls Tryz.prog 201 #[.slice a la ca, .int .i64 t] w fun e w' => e = .returned (.tuple #[.slice none 0 0, .int .i64 0]) ∧ w' = w := by
  have U := used_any a la ca xs w ha (by omega)
  obtain ⟨n, hn⟩ : ∃ n, usedN xs = n := ⟨_, rfl⟩
  rw [hn] at U hu
  obtain ⟨p, hp⟩ : ∃ p, t / 64 = p := ⟨_, rfl⟩
  have ep : (t : Int) / 64 = p := by omega
  have hnp : (n : Int) ≤ p := by omega
  clear hn hp hu
  go_enter Tryz.func201, Tryz.ntmps201
  go_wp2_with fail
  refine U.mono ?_
  rintro e w' ⟨rfl, rfl⟩
  go_wp2_with fail
  go_ret2
  exact ⟨rfl, rfl⟩

theorem right_zero {xs : List Int} (h : Limbs xs) {t : Nat} (hu : usedN xs ≤ t / 64) : num xs / 2 ^ t = 0 := by
  have h1 := num_lt_used h
  have h2 := pw_mono hu
  rw [pw_eq (t / 64)] at h2
  have h3 : (2 : Int) ^ (64 * (t / 64)) ≤ 2 ^ t := by
    have := Nat.pow_le_pow_right (n := 2) (by decide) (show 64 * (t / 64) ≤ t by omega)
    have h := Int.ofNat_le.2 this
    simpa using h
  exact Int.ediv_eq_zero_of_lt (num_nonneg h) (by omega)

theorem Sl.drop {w : World} {b o la p : Nat} {zs : List Int} (h : Sl w (some ⟨b, o, none⟩) la zs) (hp : p ≤ la) : Sl w (some ⟨b, o + p, none⟩) (la - p) (zs.drop p) := by
  obtain ⟨h1, h2, h3⟩ := h
  refine ⟨by rw [List.length_drop]; omega, h2.drop p, fun h0 => ⟨b, o + p, rfl, fun i hi => ?_⟩⟩
  obtain ⟨b', o', e, hc⟩ := h3 (by omega)
  cases e
  rw [Nat.add_assoc, hc (p + i) (by omega), List.getD_eq_getElem?_getD, List.getD_eq_getElem?_getD, List.getElem?_drop]

theorem down_num {xs : List Int} (hx : Limbs xs) {p n : Nat} (hn : usedN xs = n) (hp : p ≤ n) : num ((xs.drop p).take (n - p)) = num xs / pw p ∧ ((xs.drop p).take (n - p)).length = n - p ∧ Limbs ((xs.drop p).take (n - p)) := by
  have hu := usedN_le xs
  refine ⟨?_, by rw [List.length_take, List.length_drop]; omega, (hx.drop p).take _⟩
  have e := num_take_drop (xs.take n) p (by rw [List.length_take]; omega)
  rw [num_take_used xs (by omega), List.take_take, Nat.min_eq_left hp, List.drop_take] at e
  have h1 := num_lt (hx.take p); have h2 := num_nonneg (hx.take p)
  rw [List.length_take, Nat.min_eq_left (by omega)] at h1
  have h3 := pw_pos p
  rw [e, Int.add_mul_ediv_right _ _ (by omega), Int.ediv_eq_zero_of_lt h2 h1, Int.zero_add]

set_option maxHeartbeats 1000000 in
theorem right_ok (a : Option Addr) (la ca : Nat) (xs : List Int) (t : Nat) (w : World) (ha : Sl w a la xs) (h1 : la ≤ 20000000000000) (hca : la ≤ ca) (htb : t ≤ 9223372036854775807) (hu : t / 64 < usedN xs) :
    Calls Tryz.prog 201 #[.slice a la ca, .int .i64 t] w fun e w' =>
      ∃ g m c zs, e = .returned (.tuple #[.slice (some ⟨g, 0, none⟩) m c, .int .i64 0]) ∧ m ≤ c ∧ m ≤ la ∧ Sl w' (some ⟨g, 0, none⟩) m zs ∧ usedN zs = m ∧ num zs = num xs / 2 ^ t ∧ Below w.heap.size w w' := by
  have U := used_any a la ca xs w ha (by omega)
  have hul := usedN_le xs
  have hz := ha.1
  have hLx := ha.2.1
  obtain ⟨ba, oa, rfl, hcell⟩ := ha.2.2 (by omega)
  obtain ⟨n, hn⟩ : ∃ n, usedN xs = n := ⟨_, rfl⟩
  rw [hn] at U hul hu
  have HN : Hid (usedN xs = n) := hn
  obtain ⟨p, hp⟩ : ∃ p, t / 64 = p := ⟨_, rfl⟩
  obtain ⟨s, hs⟩ : ∃ s, t % 64 = s := ⟨_, rfl⟩
  have ep : (t : Int) / 64 = p := by omega
  have es : (t : Int) % 64 = s := by omega
  have hs63 : s ≤ 63 := by omega
  have hpn : p < n := by omega
  have hnl : n ≤ la := by omega
  have HT : Hid (t = 64 * p + s) := by show t = 64 * p + s; omega
  obtain ⟨D, hD⟩ : ∃ D, D = (xs.drop p).take (n - p) := ⟨_, rfl⟩
  obtain ⟨d1, d2, d3⟩ := down_num hLx hn (Nat.le_of_lt hpn)
  rw [← hD] at d1 d2 d3
  have hmk := make_row (n - p) (by omega)
  have ec : ((n - p : Nat) : Int) = (n : Int) - p := by omega
  rw [ec] at hmk
  have f2 : ¬ ca = p := by omega
  have f4 : (n : Int) ≤ ca := by omega
  have f5 : (p : Int) ≤ n := by omega
  have HD1 : Hid (num D = num xs / pw p) := d1
  have HD2 : Hid (D.length = n - p) := d2
  have HD3 : Hid (Limbs D) := d3
  have HDD : Hid (D = (xs.drop p).take (n - p)) := hD
  clear hn hp hs ec d1 d2 d3 hD hu
  go_enter Tryz.func201, Tryz.ntmps201
  go_wp2_with fail
  refine U.mono ?_
  rintro e w' ⟨rfl, rfl⟩
  clear U
  go_wp2_with (refine wpList_copy_splice rfl (.tmp 25) (.tmp 29) 60 60 rfl 124 Tryz.underlying60 (by kernel_rfl) _ _ _ _ _ _ rfl rfl w'.heap.size 0 (row (List.replicate (n - p) 0)) 124 ?hg (row D) ?hn ?hpos ?hfit ?h1 w'.heap.size w' ?hb ?hBg ?_)
  case hg => exact heap_alloc_new _ _
  case hn =>
    rw [row_length, HD2.out]
    show _ = min _ _
    omega
  case hpos =>
    intro _ j v hj
    rw [HDD.out] at hj
    have hsl := ((ha.below ((Below.refl w'.heap.size w').alloc (Nat.le_refl _) (Obj.cells (row (List.replicate (n - p) 0)).toArray 124)) (Nat.le_refl _)).drop (p := p) (by omega))
    have := src_row hsl (n := n - p) (by omega) j v hj
    rw [addr_add] at this
    exact this
  case hfit => rw [row_length, row_length, HD2.out, List.length_replicate]; omega
  case h1 => exact row_one _
  case hb => exact (Below.refl _ _).alloc (Nat.le_refl _) _
  case hBg => exact Nat.le_refl _
  intro w4 hg4 hb4
  have ho : Own w4 w'.heap.size D := by
    have := hg4.out
    rw [splice_row, List.take_zero, List.nil_append, Nat.zero_add, HD2.out, List.drop_replicate, Nat.sub_self, List.replicate_zero, List.append_nil] at this
    exact this
  have HO : Hid (Own w4 w'.heap.size D) := ho
  clear ho hg4 hmk ha hcell
  go_wp2_with fail
  refine (shiftDown_any w'.heap.size (n - p) (n - p) s D w4 HO.out HD3.out HD2.out.symm (by rw [HD2.out]; omega) hs63).mono ?_
  rintro e w5 ⟨rfl, cs, ho5, hl5, hL5, hn5, hb5⟩
  rw [HD2.out] at hl5
  have hsl := ho5.sl hL5
  rw [hl5] at hsl
  have hb6 : Below w'.heap.size w' w5 := hb4.trans hb5
  have hcu := usedN_le cs
  rw [hl5] at hcu
  have HV : Hid (num cs = num xs / 2 ^ t) := by
    show num cs = num xs / 2 ^ t
    rw [hn5, HD1.out, pw_eq, Int.ediv_ediv_of_nonneg (Int.le_of_lt (Int.pow_pos (by decide))), ← Int.pow_add, ← HT.out]
  clear hl5 hL5 hn5 ho5 hb5 hb4
  go_wp2_with fail
  refine (cut_any (some ⟨w'.heap.size, 0, none⟩) (n - p) (n - p) cs _ hsl (by omega) (Nat.le_refl _)).mono ?_
  rintro e w6 ⟨rfl, rfl⟩
  go_wp2_with fail
  go_ret2
  refine ⟨w'.heap.size, usedN cs, n - p, cs.take (usedN cs), rfl, by omega, by omega, hsl.take (by omega), usedN_take cs (Nat.le_refl _), ?_, hb6⟩
  rw [num_take_used cs (Nat.le_refl _)]
  exact HV.out
end Go.Proofs.YtblafbbnplfpjaaGreatDoor

namespace Go.Proofs.YtblafbbnplfpjaaGreatDoor
open Go.RowKit Go.Shelf

theorem right_val (a : Option Addr) (la ca : Nat) (xs : List Int) (t : Nat) (w : World) (ha : Sl w a la xs) (h1 : la ≤ 20000000000000) (hca : la ≤ ca) (htb : t ≤ 9223372036854775807) :
    Calls Tryz.prog 201 #[.slice a la ca, .int .i64 t] w fun e w' =>
      ∃ a' m c zs, e = .returned (.tuple #[.slice a' m c, .int .i64 0]) ∧ m ≤ c ∧ m ≤ la ∧ Sl w' a' m zs ∧ usedN zs = m ∧ num zs = num xs / 2 ^ t ∧ Below w.heap.size w w' := by
  rcases Nat.lt_or_ge (t / 64) (usedN xs) with h0 | h0
  · refine (right_ok a la ca xs t w ha h1 hca htb h0).mono ?_
    rintro e w' ⟨g, m, c, zs, rfl, r1, r2, r3, r4, r5, r6⟩
    exact ⟨_, m, c, zs, rfl, r1, r2, r3, r4, r5, r6⟩
  · refine (right_none a la ca xs t w ha h1 htb h0).mono ?_
    rintro e w' ⟨rfl, rfl⟩
    refine ⟨none, 0, 0, [], rfl, Nat.le_refl _, by omega, ⟨rfl, Limbs.nil, fun h => absurd h (by decide)⟩, rfl, ?_, Below.refl _ _⟩
    rw [right_zero ha.2.1 h0]; rfl

theorem p2_mono {m n : Nat} (h : m ≤ n) : (2 : Int) ^ m ≤ 2 ^ n := by
  have h := Int.ofNat_le.2 (Nat.pow_le_pow_right (n := 2) (by decide) h)
  simpa using h
theorem p2_pos (n : Nat) : (0 : Int) < 2 ^ n := Int.pow_pos (by decide)

theorem bits_spec {xs : List Int} (h : Limbs xs) (hu : 0 < usedN xs) : ∃ k : Nat, bitsN xs = (k : Int) + 1 ∧ 2 ^ k ≤ num xs ∧ num xs < 2 ^ (k + 1) := by
  have ht := usedN_top xs hu
  have hw := h.getD (usedN xs - 1)
  obtain ⟨x, hx⟩ : ∃ x, xs.getD (usedN xs - 1) 0 = x := ⟨_, rfl⟩
  have hn := num_take_succ xs (usedN xs - 1)
  rw [Nat.sub_add_cancel hu, num_take_used xs (Nat.le_refl _), hx] at hn
  have hB : bitsN xs = 64 * ((usedN xs : Int) - 1) + (Lib.bitLen x.toNat : Int) := by rw [bitsN, if_neg (by omega), hx]
  rw [hx] at ht hw
  obtain ⟨X, rfl⟩ := Int.eq_ofNat_of_zero_le hw.1
  rw [Int.toNat_natCast] at hB
  obtain ⟨p1, p2⟩ := bitLen_spec 64 X (by omega) (by omega)
  have p3 := p2 (by omega)
  obtain ⟨l, hl⟩ : ∃ l, Lib.bitLen X = l + 1 := by
    cases hb : Lib.bitLen X with
    | zero => rw [hb] at p1; omega
    | succ l => exact ⟨l, rfl⟩
  rw [hl] at p1 p3 hB
  have h1 := num_nonneg (h.take (usedN xs - 1))
  have h2 := num_lt (h.take (usedN xs - 1))
  have hul := usedN_le xs
  rw [List.length_take, Nat.min_eq_left (by omega), pw_eq] at h2
  rw [pw_eq] at hn
  obtain ⟨v, hv⟩ : ∃ v, usedN xs - 1 = v := ⟨_, rfl⟩
  rw [hv] at hn h1 h2
  have q1 : (2 : Int) ^ (64 * v + l) ≤ (X : Int) * 2 ^ (64 * v) := by
    rw [Int.pow_add, Int.mul_comm]
    refine Int.mul_le_mul_of_nonneg_right ?_ (Int.le_of_lt (p2_pos _))
    have : 2 ^ l ≤ X := by rw [Nat.pow_succ] at p3; omega
    have h := Int.ofNat_le.2 this
    simpa using h
  have q2 : ((X : Int) + 1) * 2 ^ (64 * v) ≤ (2 : Int) ^ (64 * v + l + 1) := by
    rw [Nat.add_assoc, Int.pow_add, Int.mul_comm]
    refine Int.mul_le_mul_of_nonneg_left ?_ (Int.le_of_lt (p2_pos _))
    have h := Int.ofNat_le.2 (show X + 1 ≤ 2 ^ (l + 1) from p1)
    simpa using h
  rw [Int.add_mul, Int.one_mul] at q2
  exact ⟨64 * v + l, by rw [hB]; omega, by omega, by omega⟩
theorem bits_nought {xs : List Int} (hu : usedN xs = 0) : bitsN xs = 0 := by simp [bitsN, hu]
theorem bits_of {xs : List Int} (h : Limbs xs) {k : Nat} (h1 : 2 ^ k ≤ num xs) (h2 : num xs < 2 ^ (k + 1)) : bitsN xs = (k : Int) + 1 := by
  have hu : 0 < usedN xs := by
    rcases Nat.eq_zero_or_pos (usedN xs) with h0 | h0
    · have := (num_eq_zero h).2 h0; have := p2_pos k; omega
    · exact h0
  obtain ⟨j, e, j1, j2⟩ := bits_spec h hu
  rcases Nat.lt_trichotomy j k with hjk | hjk | hjk
  · have := p2_mono (show j + 1 ≤ k by omega); omega
  · subst hjk; exact e
  · have := p2_mono (show k + 1 ≤ j by omega); omega
theorem bits_moved {xs zs : List Int} (h : Limbs xs) (hz : Limbs zs) (hu : 0 < usedN xs) {t : Nat} (e : num zs = num xs * 2 ^ t) : bitsN zs = bitsN xs + t := by
  obtain ⟨k, e1, k1, k2⟩ := bits_spec h hu
  have := bits_of hz (k := k + t) (by rw [e, Int.pow_add]; exact Int.mul_le_mul_of_nonneg_right k1 (Int.le_of_lt (p2_pos t)))
    (by rw [e, Nat.add_right_comm, Int.pow_add]; exact Int.mul_lt_mul_of_pos_right k2 (p2_pos t))
  rw [this, e1]; omega

end Go.Proofs.YtblafbbnplfpjaaGreatDoor
namespace Go.Proofs.YtblafbbnplfpjaaGreatDoor

theorem num_take_congr {a b : List Int} : ∀ (k : Nat), (∀ j, j < k → a.getD j 0 = b.getD j 0) → num (a.take k) = num (b.take k)
  | 0, _ => by simp
  | k + 1, h => by rw [num_take_succ, num_take_succ, h k (by omega), num_take_congr k (fun j hj => h j (by omega))]
theorem num_set {cs : List Int} {i : Nat} (v : Int) (h : i < cs.length) : num (cs.set i v) = num cs + (v - cs.getD i 0) * pw i := by
  have e := num_above' (a := cs.set i v) (b := cs) (t := i + 1) (fun j hj => getD_set_other _ _ _ _ (by omega))
  rw [num_set_take _ _ _ h, num_take_succ] at e
  grind
theorem getD_set_self (zs : List Int) (i : Nat) (v : Int) (h : i < zs.length) : (zs.set i v).getD i 0 = v := by
  rw [List.getD_eq_getElem?_getD, List.getElem?_set_self h]; rfl
theorem getD_drop (zs : List Int) (k j : Nat) : (zs.drop k).getD j 0 = zs.getD (k + j) 0 := by
  rw [List.getD_eq_getElem?_getD, List.getElem?_drop, ← List.getD_eq_getElem?_getD]
theorem getD_seg (zs : List Int) (k n j : Nat) (h : j < n) : ((zs.drop k).take n).getD j 0 = zs.getD (k + j) 0 := by
  rw [getD_take_lt _ _ _ h, getD_drop]
theorem num_drop_congr {a b : List Int} (k : Nat) (h : ∀ j, k ≤ j → a.getD j 0 = b.getD j 0) : num (a.drop k) = num (b.drop k) :=
  num_eq_of fun j => by rw [getD_drop, getD_drop]; exact h _ (by omega)
theorem seg_length (cs : List Int) (off n : Nat) (h : off + n ≤ cs.length) : ((cs.drop off).take n).length = n := by
  rw [List.length_take, List.length_drop]; omega
theorem num_parts (cs : List Int) (off n : Nat) (h : off + n ≤ cs.length) : num cs = num (cs.take off) + num ((cs.drop off).take n) * pw off + num (cs.drop (off + n)) * pw (off + n) := by
  have h1 := num_take_drop cs off (by omega)
  have h2 := num_take_drop (cs.drop off) n (by rw [List.length_drop]; omega)
  rw [List.drop_drop] at h2
  rw [h1, h2, pw_add]
  grind
theorem num_piece {cs ds : List Int} {off n : Nat} (hl : cs.length = ds.length) (h : off + n ≤ cs.length) (hout : ∀ j, j < off ∨ off + n ≤ j → cs.getD j 0 = ds.getD j 0) :
    num cs - num ds = (num ((cs.drop off).take n) - num ((ds.drop off).take n)) * pw off := by
  have h1 := num_parts cs off n h
  have h2 := num_parts ds off n (by omega)
  rw [num_take_congr off (fun j hj => hout j (.inl hj)), num_drop_congr (off + n) (fun j hj => hout j (.inr hj))] at h1
  grind
theorem mul_cancel {a b p : Int} (hp : 0 < p) (h : a * p = b * p) : a = b := Int.eq_of_mul_eq_mul_right (by omega) h
theorem lt_cancel {a b p : Int} (hp : 0 < p) (h : a * p < b * p) : a < b := Int.lt_of_mul_lt_mul_right h (by omega)
theorem le_cancel {a b p : Int} (hp : 0 < p) (h : a * p ≤ b * p) : a ≤ b := Int.le_of_mul_le_mul_right h hp
theorem mul_le {a b p : Int} (hp : 0 ≤ p) (h : a ≤ b) : a * p ≤ b * p := Int.mul_le_mul_of_nonneg_right h hp
theorem num_top (cs : List Int) (n : Nat) (h : cs.length = n + 1) : num cs = num (cs.take n) + cs.getD n 0 * pw n := by
  have := num_take_succ cs n
  rw [List.take_of_length_le (by omega)] at this; exact this
theorem num_take_lt {cs : List Int} (h : Limbs cs) (n : Nat) : num (cs.take n) < pw n := by
  refine Int.lt_of_lt_of_le (num_lt (h.take n)) (pw_mono ?_)
  rw [List.length_take]; omega
theorem num_take_nonneg {cs : List Int} (h : Limbs cs) (n : Nat) : 0 ≤ num (cs.take n) := num_nonneg (h.take n)
end Go.Proofs.YtblafbbnplfpjaaGreatDoor

namespace Go.Proofs.YtblafbbnplfpjaaGreatDoor
open Go.RowKit Go.Shelf

def Va (w : World) (b : Nat) (t : TypeId) (cs : Array Value) : Prop := w.heap[b]? = some (.cells cs t (0, 0))
theorem Va.lt {w : World} {b : Nat} {t : TypeId} {cs : Array Value} (h : Va w b t cs) : b < w.heap.size := by
  unfold Va at h
  rcases Nat.lt_or_ge b w.heap.size with h' | h'
  · exact h'
  · rw [Array.getElem?_eq_none h'] at h; cases h
theorem Va.cell {w : World} {b : Nat} {t : TypeId} {v : Value} (h : Va w b t #[v]) : w.cell? ⟨b, 0, none⟩ = some v := by
  unfold Va at h; simp [World.cell?, h]
theorem Va.cellAt {w : World} {b : Nat} {t : TypeId} {cs : Array Value} (h : Va w b t cs) (i : Nat) : w.cell? ⟨b, i, none⟩ = cs[i]? := by
  unfold Va at h; simp [World.cell?, h]
theorem Va.frozen {w : World} {b : Nat} {t : TypeId} {cs : Array Value} (h : Va w b t cs) (i : Nat) : w.frozen? ⟨b, i, none⟩ = false := by
  unfold Va at h; simp [World.frozen?, h]
theorem Va.below {B : Nat} {w w' : World} {b : Nat} {t : TypeId} {cs : Array Value} (h : Va w b t cs) (hb : Below B w w') (hB : b < B) : Va w' b t cs := by
  unfold Va at *; rw [hb.block b hB]; exact h
theorem Va.kept {w w' : World} {b : Nat} {t : TypeId} {cs : Array Value} (h : Va w b t cs) (hb : Below w.heap.size w w') : Va w' b t cs := h.below hb h.lt
theorem Va.after {w w' : World} (hb : Below w.heap.size w w') {b : Nat} {t : TypeId} {cs : Array Value} (h : Va w b t cs) : Va w' b t cs := h.below hb h.lt
theorem Va.a {w w' : World} (hb : Below w.heap.size w w') {b : Nat} {t : TypeId} {cs : Array Value} (h : Va w b t cs) : Va w' b t cs := h.below hb h.lt
theorem Va.new (w : World) (t : TypeId) (cs : Array Value) : Va (w.alloc (.cells cs t)) w.heap.size t cs := heap_alloc_new w _
theorem Va.old {w : World} {b : Nat} {t : TypeId} {cs : Array Value} (h : Va w b t cs) (o : Obj) : Va (w.alloc o) b t cs := by
  unfold Va at *
  rw [Below.heap_alloc _ _ _ (Va.lt h)]; exact h
theorem Va.set {w : World} {b : Nat} {t : TypeId} {v : Value} (h : Va w b t #[v]) (v' : Value) : Va (w.setCell ⟨b, 0, none⟩ v') b t #[v'] := by
  unfold Va at *
  simp only [World.setCell]
  rw [Array.getElem?_modify, if_pos rfl, h]
  simp
theorem Va.other {w : World} {b : Nat} {t : TypeId} {cs : Array Value} (h : Va w b t cs) {p : Addr} (hp : b ≠ p.block) (v' : Value) : Va (w.setCell p v') b t cs := by
  unfold Va at *
  rw [Below.heap_setCell _ _ _ _ hp]; exact h
theorem size_set (w : World) (p : Addr) (v : Value) : (w.setCell p v).heap.size = w.heap.size := by simp [World.setCell]

theorem Va.stay {w w' : World} {b b' : Nat} {t : TypeId} {cs : Array Value} (h : Va w b t cs) (hk : ∀ c, c ≠ b' → w'.heap[c]? = w.heap[c]?) (hne : b ≠ b') : Va w' b t cs := by
  unfold Va at *; rw [hk b hne]; exact h

theorem ent1 (w : World) (t0 : TypeId) (c0 : Array Value) {Q : World → Prop}
    (h : ∀ w0, Below w.heap.size w w0 → w0.heap.size = w.heap.size + 1 → Va w0 (w.heap.size) t0 c0 → Q w0) : Q (w.alloc (.cells c0 t0)) := by
  refine h _ ((Below.refl _ _).alloc (Nat.le_refl _) _) (by simp) ?_
  · have := Va.new w t0 c0
    exact this
theorem ent2 (w : World) (t0 : TypeId) (c0 : Array Value) (t1 : TypeId) (c1 : Array Value) {Q : World → Prop}
    (h : ∀ w0, Below w.heap.size w w0 → w0.heap.size = w.heap.size + 2 → Va w0 (w.heap.size) t0 c0 → Va w0 (w.heap.size + 1) t1 c1 → Q w0) : Q ((w.alloc (.cells c0 t0)).alloc (.cells c1 t1)) := by
  refine h _ (((Below.refl _ _).alloc (Nat.le_refl _) _).alloc (by simp) _) (by simp) ?_ ?_
  · have := Va.new w t0 c0
    exact (Va.old this _)
  · have := Va.new (w.alloc (.cells c0 t0)) t1 c1
    simp only [World.alloc, Array.size_push] at this
    exact this
theorem ent3 (w : World) (t0 : TypeId) (c0 : Array Value) (t1 : TypeId) (c1 : Array Value) (t2 : TypeId) (c2 : Array Value) {Q : World → Prop}
    (h : ∀ w0, Below w.heap.size w w0 → w0.heap.size = w.heap.size + 3 → Va w0 (w.heap.size) t0 c0 → Va w0 (w.heap.size + 1) t1 c1 → Va w0 (w.heap.size + 1 + 1) t2 c2 → Q w0) : Q (((w.alloc (.cells c0 t0)).alloc (.cells c1 t1)).alloc (.cells c2 t2)) := by
  refine h _ ((((Below.refl _ _).alloc (Nat.le_refl _) _).alloc (by simp) _).alloc (by simp; omega) _) (by simp) ?_ ?_ ?_
  · have := Va.new w t0 c0
    exact (Va.old (Va.old this _) _)
  · have := Va.new (w.alloc (.cells c0 t0)) t1 c1
    simp only [World.alloc, Array.size_push] at this
    exact (Va.old this _)
  · have := Va.new ((w.alloc (.cells c0 t0)).alloc (.cells c1 t1)) t2 c2
    simp only [World.alloc, Array.size_push] at this
    exact this
theorem ent4 (w : World) (t0 : TypeId) (c0 : Array Value) (t1 : TypeId) (c1 : Array Value) (t2 : TypeId) (c2 : Array Value) (t3 : TypeId) (c3 : Array Value) {Q : World → Prop}
    (h : ∀ w0, Below w.heap.size w w0 → w0.heap.size = w.heap.size + 4 → Va w0 (w.heap.size) t0 c0 → Va w0 (w.heap.size + 1) t1 c1 → Va w0 (w.heap.size + 1 + 1) t2 c2 → Va w0 (w.heap.size + 1 + 1 + 1) t3 c3 → Q w0) : Q ((((w.alloc (.cells c0 t0)).alloc (.cells c1 t1)).alloc (.cells c2 t2)).alloc (.cells c3 t3)) := by
  refine h _ (((((Below.refl _ _).alloc (Nat.le_refl _) _).alloc (by simp) _).alloc (by simp; omega) _).alloc (by simp; omega) _) (by simp) ?_ ?_ ?_ ?_
  · have := Va.new w t0 c0
    exact (Va.old (Va.old (Va.old this _) _) _)
  · have := Va.new (w.alloc (.cells c0 t0)) t1 c1
    simp only [World.alloc, Array.size_push] at this
    exact (Va.old (Va.old this _) _)
  · have := Va.new ((w.alloc (.cells c0 t0)).alloc (.cells c1 t1)) t2 c2
    simp only [World.alloc, Array.size_push] at this
    exact (Va.old this _)
  · have := Va.new (((w.alloc (.cells c0 t0)).alloc (.cells c1 t1)).alloc (.cells c2 t2)) t3 c3
    simp only [World.alloc, Array.size_push] at this
    exact this
theorem ent5 (w : World) (t0 : TypeId) (c0 : Array Value) (t1 : TypeId) (c1 : Array Value) (t2 : TypeId) (c2 : Array Value) (t3 : TypeId) (c3 : Array Value) (t4 : TypeId) (c4 : Array Value) {Q : World → Prop}
    (h : ∀ w0, Below w.heap.size w w0 → w0.heap.size = w.heap.size + 5 → Va w0 (w.heap.size) t0 c0 → Va w0 (w.heap.size + 1) t1 c1 → Va w0 (w.heap.size + 1 + 1) t2 c2 → Va w0 (w.heap.size + 1 + 1 + 1) t3 c3 → Va w0 (w.heap.size + 1 + 1 + 1 + 1) t4 c4 → Q w0) : Q (((((w.alloc (.cells c0 t0)).alloc (.cells c1 t1)).alloc (.cells c2 t2)).alloc (.cells c3 t3)).alloc (.cells c4 t4)) := by
  refine h _ ((((((Below.refl _ _).alloc (Nat.le_refl _) _).alloc (by simp) _).alloc (by simp; omega) _).alloc (by simp; omega) _).alloc (by simp; omega) _) (by simp) ?_ ?_ ?_ ?_ ?_
  · have := Va.new w t0 c0
    exact (Va.old (Va.old (Va.old (Va.old this _) _) _) _)
  · have := Va.new (w.alloc (.cells c0 t0)) t1 c1
    simp only [World.alloc, Array.size_push] at this
    exact (Va.old (Va.old (Va.old this _) _) _)
  · have := Va.new ((w.alloc (.cells c0 t0)).alloc (.cells c1 t1)) t2 c2
    simp only [World.alloc, Array.size_push] at this
    exact (Va.old (Va.old this _) _)
  · have := Va.new (((w.alloc (.cells c0 t0)).alloc (.cells c1 t1)).alloc (.cells c2 t2)) t3 c3
    simp only [World.alloc, Array.size_push] at this
    exact (Va.old this _)
  · have := Va.new ((((w.alloc (.cells c0 t0)).alloc (.cells c1 t1)).alloc (.cells c2 t2)).alloc (.cells c3 t3)) t4 c4
    simp only [World.alloc, Array.size_push] at this
    exact this
end Go.Proofs.YtblafbbnplfpjaaGreatDoor

namespace Go.Proofs.YtblafbbnplfpjaaGreatDoor
open Go.RowKit Go.Shelf

theorem results_c {fn : Func} {i b : Nat} {v : Value} {tmps : Array Value} {w : World} (h : fn.results = #[.cell i 62]) (hi : tmps.getD i undef = .pointer (some ⟨b, 0, none⟩)) (hv : Va w b 62 #[v]) :
    (results fn tmps).run Tryz.prog w = .ok (.agg #[v]) w := by
  have c := hv.cell
  rw [Array.getD_eq_getD_getElem?] at hi
  simp [results, h, hi, c, go_sem]
theorem results_ct {fn : Func} {i j b : Nat} {v : Value} {tmps : Array Value} {w : World} (h : fn.results = #[.cell i 62, .tmp j]) (hi : tmps.getD i undef = .pointer (some ⟨b, 0, none⟩)) (hv : Va w b 62 #[v]) :
    (results fn tmps).run Tryz.prog w = .ok (.tuple #[.agg #[v], tmps.getD j undef]) w := by
  have c := hv.cell
  rw [Array.getD_eq_getD_getElem?] at hi
  simp [results, h, hi, c, go_sem]
theorem results_cct {fn : Func} {i j k b c : Nat} {v u : Value} {tmps : Array Value} {w : World} (h : fn.results = #[.cell i 62, .cell j 62, .tmp k]) (hi : tmps.getD i undef = .pointer (some ⟨b, 0, none⟩)) (hv : Va w b 62 #[v])
    (hj : tmps.getD j undef = .pointer (some ⟨c, 0, none⟩)) (hu : Va w c 62 #[u]) :
    (results fn tmps).run Tryz.prog w = .ok (.tuple #[.agg #[v], .agg #[u], tmps.getD k undef]) w := by
  have c := hv.cell; have d := hu.cell
  rw [Array.getD_eq_getD_getElem?] at hi hj
  simp [results, h, hi, hj, c, d, go_sem]
theorem results_cc {fn : Func} {i j b c : Nat} {v u : Value} {tmps : Array Value} {w : World} (h : fn.results = #[.cell i 62, .cell j 62]) (hi : tmps.getD i undef = .pointer (some ⟨b, 0, none⟩)) (hv : Va w b 62 #[v])
    (hj : tmps.getD j undef = .pointer (some ⟨c, 0, none⟩)) (hu : Va w c 62 #[u]) :
    (results fn tmps).run Tryz.prog w = .ok (.tuple #[.agg #[v], .agg #[u]]) w := by
  have c := hv.cell; have d := hu.cell
  rw [Array.getD_eq_getD_getElem?] at hi hj
  simp [results, h, hi, hj, c, d, go_sem]
end Go.Proofs.YtblafbbnplfpjaaGreatDoor
