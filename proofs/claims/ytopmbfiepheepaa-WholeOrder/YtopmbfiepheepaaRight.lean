/-
  Right: a list of limbs moved down by any number of binary digits; the refusal.
-/
import Derived.Test.YtopmbfiepheepaaLeft
namespace Go.Proofs.Ytopmbfiepheepaa
open Go.RowKit Go.Shelf

theorem right_neg (a : Option Addr) (la ca : Nat) (t : Int) (w : World) (ht : t < 0) :
    Calls Try.prog 81 #[.slice a la ca, .int .i64 t] w fun e w' => e = .returned (.tuple #[.slice none 0 0, .int .i64 2]) ∧ w' = w := by
  go_enter Try.func81, Try.ntmps81
  go_wp2_with fail
  go_ret2
  exact ⟨rfl, rfl⟩

theorem right_none (a : Option Addr) (la ca : Nat) (xs : List Int) (t : Nat) (w : World) (ha : Sl w a la xs) (h1 : la ≤ 20000000000000) (htb : t ≤ 9223372036854775807) (hu : usedN xs ≤ t / 64) :
    Calls Try.prog 81 #[.slice a la ca, .int .i64 t] w fun e w' => e = .returned (.tuple #[.slice none 0 0, .int .i64 0]) ∧ w' = w := by
  have U := used_any a la ca xs w ha (by omega)
  obtain ⟨n, hn⟩ : ∃ n, usedN xs = n := ⟨_, rfl⟩
  rw [hn] at U hu
  obtain ⟨p, hp⟩ : ∃ p, t / 64 = p := ⟨_, rfl⟩
  have ep : (t : Int) / 64 = p := by omega
  have hnp : (n : Int) ≤ p := by omega
  clear hn hp hu
  go_enter Try.func81, Try.ntmps81
  go_wp2_with fail
  refine U.mono ?_
  rintro e w' ⟨rfl, rfl⟩
  go_wp2_with fail
  go_ret2
  exact ⟨rfl, rfl⟩

theorem right_zero {xs : List Int} (h : Limbs xs) {t : Nat} (hu : usedN xs ≤ t / 64) : num xs / 2 ^ t = 0 := by
  have h1 := num_lt_used h
  have h2 := pw_mono hu
  rw [pw_eq (t / 64)] at h2
  have h3 : (2 : Int) ^ (64 * (t / 64)) ≤ 2 ^ t := by
    have := Nat.pow_le_pow_right (n := 2) (by decide) (show 64 * (t / 64) ≤ t by omega)
    have h := Int.ofNat_le.2 this
    simpa using h
  exact Int.ediv_eq_zero_of_lt (num_nonneg h) (by omega)

theorem Sl.drop {w : World} {b o la p : Nat} {zs : List Int} (h : Sl w (some ⟨b, o, none⟩) la zs) (hp : p ≤ la) : Sl w (some ⟨b, o + p, none⟩) (la - p) (zs.drop p) := by
  obtain ⟨h1, h2, h3⟩ := h
  refine ⟨by rw [List.length_drop]; omega, h2.drop p, fun h0 => ⟨b, o + p, rfl, fun i hi => ?_⟩⟩
  obtain ⟨b', o', e, hc⟩ := h3 (by omega)
  cases e
  rw [Nat.add_assoc, hc (p + i) (by omega), List.getD_eq_getElem?_getD, List.getD_eq_getElem?_getD, List.getElem?_drop]

theorem down_num {xs : List Int} (hx : Limbs xs) {p n : Nat} (hn : usedN xs = n) (hp : p ≤ n) : num ((xs.drop p).take (n - p)) = num xs / pw p ∧ ((xs.drop p).take (n - p)).length = n - p ∧ Limbs ((xs.drop p).take (n - p)) := by
  have hu := usedN_le xs
  refine ⟨?_, by rw [List.length_take, List.length_drop]; omega, (hx.drop p).take _⟩
  have e := num_take_drop (xs.take n) p (by rw [List.length_take]; omega)
  rw [num_take_used xs (by omega), List.take_take, Nat.min_eq_left hp, List.drop_take] at e
  have h1 := num_lt (hx.take p); have h2 := num_nonneg (hx.take p)
  rw [List.length_take, Nat.min_eq_left (by omega)] at h1
  have h3 := pw_pos p
  rw [e, Int.add_mul_ediv_right _ _ (by omega), Int.ediv_eq_zero_of_lt h2 h1, Int.zero_add]

set_option maxHeartbeats 1000000 in
theorem right_ok (a : Option Addr) (la ca : Nat) (xs : List Int) (t : Nat) (w : World) (ha : Sl w a la xs) (h1 : la ≤ 20000000000000) (hca : la ≤ ca) (htb : t ≤ 9223372036854775807) (hu : t / 64 < usedN xs) :
    Calls Try.prog 81 #[.slice a la ca, .int .i64 t] w fun e w' =>
      ∃ g m c zs, e = .returned (.tuple #[.slice (some ⟨g, 0, none⟩) m c, .int .i64 0]) ∧ m ≤ c ∧ m ≤ la ∧ Sl w' (some ⟨g, 0, none⟩) m zs ∧ usedN zs = m ∧ num zs = num xs / 2 ^ t ∧ Below w.heap.size w w' := by
  have U := used_any a la ca xs w ha (by omega)
  have hul := usedN_le xs
  have hz := ha.1
  have hLx := ha.2.1
  obtain ⟨ba, oa, rfl, hcell⟩ := ha.2.2 (by omega)
  obtain ⟨n, hn⟩ : ∃ n, usedN xs = n := ⟨_, rfl⟩
  rw [hn] at U hul hu
  have HN : Hid (usedN xs = n) := hn
  obtain ⟨p, hp⟩ : ∃ p, t / 64 = p := ⟨_, rfl⟩
  obtain ⟨s, hs⟩ : ∃ s, t % 64 = s := ⟨_, rfl⟩
  have ep : (t : Int) / 64 = p := by omega
  have es : (t : Int) % 64 = s := by omega
  have hs63 : s ≤ 63 := by omega
  have hpn : p < n := by omega
  have hnl : n ≤ la := by omega
  have HT : Hid (t = 64 * p + s) := by show t = 64 * p + s; omega
  obtain ⟨D, hD⟩ : ∃ D, D = (xs.drop p).take (n - p) := ⟨_, rfl⟩
  obtain ⟨d1, d2, d3⟩ := down_num hLx hn (Nat.le_of_lt hpn)
  rw [← hD] at d1 d2 d3
  have hmk := make_row (n - p) (by omega)
  have ec : ((n - p : Nat) : Int) = (n : Int) - p := by omega
  rw [ec] at hmk
  have f2 : ¬ ca = p := by omega
  have f4 : (n : Int) ≤ ca := by omega
  have f5 : (p : Int) ≤ n := by omega
  have HD1 : Hid (num D = num xs / pw p) := d1
  have HD2 : Hid (D.length = n - p) := d2
  have HD3 : Hid (Limbs D) := d3
  have HDD : Hid (D = (xs.drop p).take (n - p)) := hD
  clear hn hp hs ec d1 d2 d3 hD hu
  go_enter Try.func81, Try.ntmps81
  go_wp2_with fail
  refine U.mono ?_
  rintro e w' ⟨rfl, rfl⟩
  clear U
  go_wp2_with (refine wpList_copy_splice rfl (.tmp 25) (.tmp 29) 22 22 rfl 23 Try.underlying22 (by kernel_rfl) _ _ _ _ _ _ rfl rfl w'.heap.size 0 (row (List.replicate (n - p) 0)) 23 ?hg (row D) ?hn ?hpos ?hfit ?h1 w'.heap.size w' ?hb ?hBg ?_)
  case hg => exact heap_alloc_new _ _
  case hn =>
    rw [row_length, HD2.out]
    show _ = min _ _
    omega
  case hpos =>
    intro _ j v hj
    rw [HDD.out] at hj
    have hsl := ((ha.below ((Below.refl w'.heap.size w').alloc (Nat.le_refl _) (Obj.cells (row (List.replicate (n - p) 0)).toArray 23)) (Nat.le_refl _)).drop (p := p) (by omega))
    have := src_row hsl (n := n - p) (by omega) j v hj
    rw [addr_add] at this
    exact this
  case hfit => rw [row_length, row_length, HD2.out, List.length_replicate]; omega
  case h1 => exact row_one _
  case hb => exact (Below.refl _ _).alloc (Nat.le_refl _) _
  case hBg => exact Nat.le_refl _
  intro w4 hg4 hb4
  have ho : Own w4 w'.heap.size D := by
    have := hg4.out
    rw [splice_row, List.take_zero, List.nil_append, Nat.zero_add, HD2.out, List.drop_replicate, Nat.sub_self, List.replicate_zero, List.append_nil] at this
    exact this
  have HO : Hid (Own w4 w'.heap.size D) := ho
  clear ho hg4 hmk ha hcell
  go_wp2_with fail
  refine (shiftDown_any w'.heap.size (n - p) (n - p) s D w4 HO.out HD3.out HD2.out.symm (by rw [HD2.out]; omega) hs63).mono ?_
  rintro e w5 ⟨rfl, cs, ho5, hl5, hL5, hn5, hb5⟩
  rw [HD2.out] at hl5
  have hsl := ho5.sl hL5
  rw [hl5] at hsl
  have hb6 : Below w'.heap.size w' w5 := hb4.trans hb5
  have hcu := usedN_le cs
  rw [hl5] at hcu
  have HV : Hid (num cs = num xs / 2 ^ t) := by
    show num cs = num xs / 2 ^ t
    rw [hn5, HD1.out, pw_eq, Int.ediv_ediv_of_nonneg (Int.le_of_lt (Int.pow_pos (by decide))), ← Int.pow_add, ← HT.out]
  clear hl5 hL5 hn5 ho5 hb5 hb4
  go_wp2_with fail
  refine (cut_any (some ⟨w'.heap.size, 0, none⟩) (n - p) (n - p) cs _ hsl (by omega) (Nat.le_refl _)).mono ?_
  rintro e w6 ⟨rfl, rfl⟩
  go_wp2_with fail
  go_ret2
  refine ⟨w'.heap.size, usedN cs, n - p, cs.take (usedN cs), rfl, by omega, by omega, hsl.take (by omega), usedN_take cs (Nat.le_refl _), ?_, hb6⟩
  rw [num_take_used cs (Nat.le_refl _)]
  exact HV.out
end Go.Proofs.Ytopmbfiepheepaa
