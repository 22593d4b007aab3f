/-
  Left and Right told by numbers; how many binary digits a number has, by powers of two.
-/
import Derived.Test.YtopmbfiepheepaaUni
import Derived.Test.YtopmbfiepheepaaRight
namespace Go.Proofs.Ytopmbfiepheepaa
open Go.RowKit Go.Shelf

theorem right_val (a : Option Addr) (la ca : Nat) (xs : List Int) (t : Nat) (w : World) (ha : Sl w a la xs) (h1 : la ≤ 20000000000000) (hca : la ≤ ca) (htb : t ≤ 9223372036854775807) :
    Calls Try.prog 81 #[.slice a la ca, .int .i64 t] w fun e w' =>
      ∃ a' m c zs, e = .returned (.tuple #[.slice a' m c, .int .i64 0]) ∧ m ≤ c ∧ m ≤ la ∧ Sl w' a' m zs ∧ usedN zs = m ∧ num zs = num xs / 2 ^ t ∧ Below w.heap.size w w' := by
  rcases Nat.lt_or_ge (t / 64) (usedN xs) with h0 | h0
  · refine (right_ok a la ca xs t w ha h1 hca htb h0).mono ?_
    rintro e w' ⟨g, m, c, zs, rfl, r1, r2, r3, r4, r5, r6⟩
    exact ⟨_, m, c, zs, rfl, r1, r2, r3, r4, r5, r6⟩
  · refine (right_none a la ca xs t w ha h1 htb h0).mono ?_
    rintro e w' ⟨rfl, rfl⟩
    refine ⟨none, 0, 0, [], rfl, Nat.le_refl _, by omega, ⟨rfl, Limbs.nil, fun h => absurd h (by decide)⟩, rfl, ?_, Below.refl _ _⟩
    rw [right_zero ha.2.1 h0]; rfl

theorem p2_mono {m n : Nat} (h : m ≤ n) : (2 : Int) ^ m ≤ 2 ^ n := by
  have h := Int.ofNat_le.2 (Nat.pow_le_pow_right (n := 2) (by decide) h)
  simpa using h
theorem p2_pos (n : Nat) : (0 : Int) < 2 ^ n := Int.pow_pos (by decide)

/-- A number lies between two powers of two. -/
theorem bits_spec {xs : List Int} (h : Limbs xs) (hu : 0 < usedN xs) : ∃ k : Nat, bitsN xs = (k : Int) + 1 ∧ 2 ^ k ≤ num xs ∧ num xs < 2 ^ (k + 1) := by
  have ht := usedN_top xs hu
  have hw := h.getD (usedN xs - 1)
  obtain ⟨x, hx⟩ : ∃ x, xs.getD (usedN xs - 1) 0 = x := ⟨_, rfl⟩
  have hn := num_take_succ xs (usedN xs - 1)
  rw [Nat.sub_add_cancel hu, num_take_used xs (Nat.le_refl _), hx] at hn
  have hB : bitsN xs = 64 * ((usedN xs : Int) - 1) + (Lib.bitLen x.toNat : Int) := by rw [bitsN, if_neg (by omega), hx]
  rw [hx] at ht hw
  obtain ⟨X, rfl⟩ := Int.eq_ofNat_of_zero_le hw.1
  rw [Int.toNat_natCast] at hB
  obtain ⟨p1, p2⟩ := bitLen_spec 64 X (by omega) (by omega)
  have p3 := p2 (by omega)
  obtain ⟨l, hl⟩ : ∃ l, Lib.bitLen X = l + 1 := by
    cases hb : Lib.bitLen X with
    | zero => rw [hb] at p1; omega
    | succ l => exact ⟨l, rfl⟩
  rw [hl] at p1 p3 hB
  have h1 := num_nonneg (h.take (usedN xs - 1))
  have h2 := num_lt (h.take (usedN xs - 1))
  have hul := usedN_le xs
  rw [List.length_take, Nat.min_eq_left (by omega), pw_eq] at h2
  rw [pw_eq] at hn
  obtain ⟨v, hv⟩ : ∃ v, usedN xs - 1 = v := ⟨_, rfl⟩
  rw [hv] at hn h1 h2
  have q1 : (2 : Int) ^ (64 * v + l) ≤ (X : Int) * 2 ^ (64 * v) := by
    rw [Int.pow_add, Int.mul_comm]
    refine Int.mul_le_mul_of_nonneg_right ?_ (Int.le_of_lt (p2_pos _))
    have : 2 ^ l ≤ X := by rw [Nat.pow_succ] at p3; omega
    have h := Int.ofNat_le.2 this
    simpa using h
  have q2 : ((X : Int) + 1) * 2 ^ (64 * v) ≤ (2 : Int) ^ (64 * v + l + 1) := by
    rw [Nat.add_assoc, Int.pow_add, Int.mul_comm]
    refine Int.mul_le_mul_of_nonneg_left ?_ (Int.le_of_lt (p2_pos _))
    have h := Int.ofNat_le.2 (show X + 1 ≤ 2 ^ (l + 1) from p1)
    simpa using h
  rw [Int.add_mul, Int.one_mul] at q2
  exact ⟨64 * v + l, by rw [hB]; omega, by omega, by omega⟩
theorem bits_pos {xs : List Int} (h : Limbs xs) (hu : 0 < usedN xs) : 0 < bitsN xs := by
  obtain ⟨k, e, -, -⟩ := bits_spec h hu; omega
theorem bits_nought {xs : List Int} (hu : usedN xs = 0) : bitsN xs = 0 := by simp [bitsN, hu]
theorem bits_of {xs : List Int} (h : Limbs xs) {k : Nat} (h1 : 2 ^ k ≤ num xs) (h2 : num xs < 2 ^ (k + 1)) : bitsN xs = (k : Int) + 1 := by
  have hu : 0 < usedN xs := by
    rcases Nat.eq_zero_or_pos (usedN xs) with h0 | h0
    · have := (num_eq_zero h).2 h0; have := p2_pos k; omega
    · exact h0
  obtain ⟨j, e, j1, j2⟩ := bits_spec h hu
  rcases Nat.lt_trichotomy j k with hjk | hjk | hjk
  · have := p2_mono (show j + 1 ≤ k by omega); omega
  · subst hjk; exact e
  · have := p2_mono (show k + 1 ≤ j by omega); omega
theorem bits_moved {xs zs : List Int} (h : Limbs xs) (hz : Limbs zs) (hu : 0 < usedN xs) {t : Nat} (e : num zs = num xs * 2 ^ t) : bitsN zs = bitsN xs + t := by
  obtain ⟨k, e1, k1, k2⟩ := bits_spec h hu
  have := bits_of hz (k := k + t) (by rw [e, Int.pow_add]; exact Int.mul_le_mul_of_nonneg_right k1 (Int.le_of_lt (p2_pos t)))
    (by rw [e, Nat.add_right_comm, Int.pow_add]; exact Int.mul_lt_mul_of_pos_right k2 (p2_pos t))
  rw [this, e1]; omega

theorem sl_new (w : World) (cs : List Int) (hL : Limbs cs) : Sl (w.alloc (.cells (row cs).toArray 23)) (some ⟨w.heap.size, 0, none⟩) cs.length cs := Own.sl (heap_alloc_new w _) hL
end Go.Proofs.Ytopmbfiepheepaa
