/-
  Put together of: NRef7, NRef8, NRef9, NRef10, NRef11, NRef12.
-/
import Derived.Test.YtcfjgebfjgkmnaaGreatDoorBsJ
import Derived.Test.YtcfjgebfjgkmnaaGreatDoorBsF
import Derived.Test.YtcfjgebfjgkmnaaGreatDoorBsE
namespace Go.Proofs.YtcfjgebfjgkmnaaGreatDoor
open Go.RowKit Go.Shelf

theorem Hnum_drop_at (zs : List Int) (t : Nat) (h : t < zs.length) : H.num (zs.drop t) = zs.getD t 0 + 4294967296 * H.num (zs.drop (t + 1)) := by
  rw [List.drop_eq_getElem_cons h, H.num, List.getD_eq_getElem?_getD, List.getElem?_eq_getElem h]; rfl
theorem Hnum_set_drop (zs : List Int) (t : Nat) (v : Int) (h : t < zs.length) : H.num ((zs.set t v).drop t) = v + 4294967296 * H.num (zs.drop (t + 1)) := by
  rw [Hnum_drop_at _ _ (by rw [List.length_set]; exact h), List.getD_eq_getElem?_getD, List.getElem?_set_self h, List.drop_set_of_lt (by omega)]; rfl
def RvInv (zs cs : List Int) (b : Int) (t : Nat) (r : Int) : Prop :=
  cs.length = zs.length ∧ H.Limbs cs ∧ H.num (zs.drop t) = H.num (cs.drop t) * b + r ∧ 0 ≤ r ∧ r < b
theorem rv_step {zs cs : List Int} {b : Int} {t : Nat} {r : Int} (hz : H.Limbs zs) (I : RvInv zs cs b (t + 1) r) (h : t < zs.length) :
    RvInv zs (cs.set t ((4294967296 * r + zs.getD t 0) / b)) b t ((4294967296 * r + zs.getD t 0) % b) := by
  obtain ⟨i1, i2, i4, i5, i6⟩ := I
  have b1 := hz.getD t
  have hm := Int.emod_nonneg (4294967296 * r + zs.getD t 0) (b := b) (by omega)
  have hml := Int.emod_lt_of_pos (4294967296 * r + zs.getD t 0) (b := b) (by omega)
  have hd0 : 0 ≤ (4294967296 * r + zs.getD t 0) / b := Int.ediv_nonneg (by omega) (by omega)
  have hd1 : (4294967296 * r + zs.getD t 0) / b < 4294967296 := Int.ediv_lt_of_lt_mul (by omega) (by omega)
  refine ⟨by rw [List.length_set]; exact i1, i2.set t ⟨hd0, hd1⟩, ?_, hm, hml⟩
  have hdm := Int.mul_ediv_add_emod (4294967296 * r + zs.getD t 0) b
  rw [Hnum_set_drop _ _ _ (by omega), Hnum_drop_at _ _ (by omega), i4, Int.add_mul, Int.mul_assoc]
  rw [Int.mul_comm b] at hdm
  omega
theorem rv_end {zs cs : List Int} {b r : Int} (I : RvInv zs cs b 0 r) : H.num cs = H.num zs / b := by
  obtain ⟨i1, i2, i4, i5, i6⟩ := I
  rw [List.drop_zero, List.drop_zero] at i4
  rw [i4, Int.add_comm, Int.add_mul_ediv_right _ _ (by omega), Int.ediv_eq_zero_of_lt i5 i6, Int.zero_add]

theorem rv_whole {zs cs : List Int} {b r : Int} (I : RvInv zs cs b 0 r) : H.num zs = H.num cs * b + r := by
  have := I.2.2.1
  rwa [List.drop_zero, List.drop_zero] at this

/-- What holds behind so many places of a product with one digit. -/
def TmInv (xs cs : List Int) (q : Int) (n i : Nat) (c : Int) : Prop :=
  cs.length = n ∧ H.Limbs cs ∧ H.num (cs.take i) + c * H.pw i = H.num (xs.take i) * q ∧ 0 ≤ c ∧ c < 4294967296
theorem tm_word {x q c : Int} (hx : 0 ≤ x ∧ x < 4294967296) (hq : 0 ≤ q ∧ q < 4294967296) (hc : 0 ≤ c ∧ c < 4294967296) : 0 ≤ x * q ∧ x * q < 18446744073709551616 ∧ x * q + c ≤ 18446744069414584320 := by
  have h0 : 0 ≤ x * q := Int.mul_nonneg hx.1 hq.1
  have h1 : x * q ≤ 4294967295 * 4294967295 := Int.mul_le_mul (by omega) (by omega) hq.1 (by omega)
  omega
theorem tm_step {xs cs : List Int} {q : Int} {n i : Nat} {c : Int} (hx : H.Limbs xs) (hq : 0 ≤ q ∧ q < 4294967296) (I : TmInv xs cs q n i c) (h : i < n) :
    TmInv xs (cs.set i ((xs.getD i 0 * q + c) % 4294967296)) q n (i + 1) ((xs.getD i 0 * q + c) / 4294967296) := by
  obtain ⟨i1, i2, i3, i4, i5⟩ := I
  have b1 := hx.getD i
  obtain ⟨p1, p2, p3⟩ := tm_word b1 hq ⟨i4, i5⟩
  refine ⟨by rw [List.length_set]; exact i1, i2.set i ⟨by omega, by omega⟩, ?_, by omega, by omega⟩
  rw [H.num_set_take _ _ _ (by omega), H.num_take_succ, H.pw]
  have hc := H.carry_step (v := (xs.getD i 0 * q + c) % 4294967296) (c' := (xs.getD i 0 * q + c) / 4294967296) (p := H.pw i) (s := xs.getD i 0 * q + c) (by omega)
  rw [Int.add_mul] at hc
  have e1 : (H.num (xs.take i) + xs.getD i 0 * H.pw i) * q = H.num (xs.take i) * q + xs.getD i 0 * q * H.pw i := by rw [Int.add_mul, Int.mul_right_comm]
  rw [e1]
  omega
/-- All of the product is there, if it has room. -/
theorem tm_end {xs cs : List Int} {q : Int} {n : Nat} {c : Int} (I : TmInv xs cs q n n c) (hf : H.num xs * q < H.pw n) (hlen : xs.length ≤ n) : H.num cs = H.num xs * q := by
  obtain ⟨i1, i2, i3, i4, i5⟩ := I
  rw [List.take_of_length_le (by omega), List.take_of_length_le hlen] at i3
  have h1 := H.num_nonneg i2
  have hp := H.pw_pos n
  rcases Int.lt_or_le 0 c with h | h
  · have : 1 * H.pw n ≤ c * H.pw n := Int.mul_le_mul_of_nonneg_right (by omega) (Int.le_of_lt hp)
    omega
  · have : c = 0 := by omega
    rw [this] at i3; omega

end Go.Proofs.YtcfjgebfjgkmnaaGreatDoor

namespace Go.Proofs.YtcfjgebfjgkmnaaGreatDoor
open Go.RowKit Go.Shelf

/-- Block g alone of the old ones may have turned. -/
structure Near (g : Nat) (w w' : World) : Prop where
  bel : Below g w w'
  oth : ∀ k, k < w.heap.size → k ≠ g → w'.heap[k]? = w.heap[k]?
theorem Near.refl (g : Nat) (w : World) : Near g w w := ⟨Below.refl _ _, fun _ _ _ => rfl⟩
theorem Near.trans {g : Nat} {a b c : World} (h : Near g a b) (k : Near g b c) : Near g a c :=
  ⟨h.bel.trans k.bel, fun i hi hg => (k.oth i (Nat.lt_of_lt_of_le hi h.bel.size) hg).trans (h.oth i hi hg)⟩
theorem Near.of {g : Nat} {w w' : World} (b : Below w.heap.size w w') (hg : g ≤ w.heap.size) : Near g w w' := ⟨b.mono hg, fun k hk _ => b.block k hk⟩
theorem Near.set {g : Nat} {a w : World} (h : Near g a w) (i : Nat) (v : Value) : Near g a (w.setCell ⟨g, i, none⟩ v) :=
  ⟨h.bel.setCell (p := ⟨g, i, none⟩) (Nat.le_refl _) v, fun k hk hg => (Below.heap_setCell _ _ _ _ hg).trans (h.oth k hk hg)⟩
theorem Near.drewN {g : Nat} {a w : World} (h : Near g a w) (n : Nat) : Near g a (w.drewN n) := ⟨below_drewN h.bel n, h.oth⟩
theorem Own.near {g b : Nat} {w w' : World} {cs : List Int} (h : Own w b cs) (o : Near g w w') (hne : b ≠ g) : Own w' b cs := by
  have hlt : b < w.heap.size := by
    unfold Own at h
    rcases Nat.lt_or_ge b w.heap.size with h' | h'
    · exact h'
    · rw [Array.getElem?_eq_none h'] at h; cases h
  unfold Own at *
  rw [o.oth b hlt hne]; exact h
theorem Sx.near {g : Nat} {w w' : World} {a : Option Addr} {len : Nat} {zs : List Int} (h : Sx g w a len zs) (o : Near g w w') : Sx g w' a len zs := by
  have hlt := fun h0 p hp => h.1.lt h0 (p := p) hp
  obtain ⟨⟨h1, h2, h3⟩, h4⟩ := h
  refine ⟨⟨h1, h2, fun h0 => ?_⟩, h4⟩
  obtain ⟨b, off, rfl, hc⟩ := h3 h0
  refine ⟨b, off, rfl, fun i hi => ?_⟩
  rw [← hc i hi]
  exact World.cell?_of_block (w := w) (o.oth b (hlt h0 _ rfl) (h4 h0 _ rfl))

namespace H
/-- A number that is short enough: its lower digits, and a piece above. -/
theorem num_seg {us : List Int} (hL : Limbs us) {a n : Nat} (hlen : a + n + 1 ≤ us.length) (hN : num us < pw (a + n + 1)) : num us = num (us.take a) + num ((us.drop a).take (n + 1)) * pw a := by
  have e1 := num_take_drop us a (by omega)
  have e2 := num_take_drop (us.drop a) (n + 1) (by rw [List.length_drop]; omega)
  have h0 := num_nonneg (hL.take a)
  have h1 := num_nonneg ((hL.drop a).take (n + 1))
  have h2 := num_nonneg ((hL.drop a).drop (n + 1))
  have hp := pw_pos a
  have hq := pw_pos (n + 1)
  have e3 : pw (a + n + 1) = pw (n + 1) * pw a := by rw [show a + n + 1 = n + 1 + a by omega, pw_add]
  rcases Int.lt_or_le 0 (num ((us.drop a).drop (n + 1))) with h | h
  · exfalso
    have h3 : 1 * pw (n + 1) ≤ num ((us.drop a).drop (n + 1)) * pw (n + 1) := Int.mul_le_mul_of_nonneg_right (by omega) (Int.le_of_lt hq)
    have h4 : (num ((us.drop a).take (n + 1)) + num ((us.drop a).drop (n + 1)) * pw (n + 1)) * pw a ≥ pw (n + 1) * pw a := Int.mul_le_mul_of_nonneg_right (by omega) (Int.le_of_lt hp)
    rw [← e2] at h4
    omega
  · have h5 : num ((us.drop a).drop (n + 1)) = 0 := by omega
    rw [h5, Int.zero_mul, Int.add_zero] at e2
    rw [e1, e2]
end H
/-- What holds behind so many places that were taken off. -/
def LsInv (us ps ds : List Int) (a i : Nat) (c : Int) : Prop :=
  ds.length = us.length ∧ H.Limbs ds ∧ (∀ j, a + i ≤ j → ds.getD j 0 = us.getD j 0) ∧ H.num ds - c * H.pw (a + i) = H.num us - H.num (ps.take i) * H.pw a ∧ 0 ≤ c ∧ c ≤ 1
theorem ls_start {us ps : List Int} {a : Nat} (h : H.Limbs us) : LsInv us ps us a 0 0 := ⟨rfl, h, fun _ _ => rfl, by simp [H.num], by omega, by omega⟩
theorem ls_ring {N N0 T v x p c c' po pi : Int} (hd : v - 4294967296 * c' = x - p - c) (i4 : N - c * (po * pi) = N0 - T * po) : N + (v - x) * (po * pi) - c' * (4294967296 * (po * pi)) = N0 - (T + p * pi) * po := by grind
theorem ls_step {us ps ds : List Int} {a i : Nat} {c : Int} (hp : H.Limbs ps) (I : LsInv us ps ds a i c) (h : a + i < us.length) :
    LsInv us ps (ds.set (a + i) ((4294967296 + us.getD (a + i) 0 - ps.getD i 0 - c) % 4294967296)) a (i + 1) (1 - (4294967296 + us.getD (a + i) 0 - ps.getD i 0 - c) / 4294967296) := by
  obtain ⟨i1, i2, i3, i4, i5, i6⟩ := I
  have b1 := i2.getD (a + i); have b2 := hp.getD i
  rw [i3 (a + i) (Nat.le_refl _)] at b1
  refine ⟨by rw [List.length_set]; exact i1, i2.set _ ⟨by omega, by omega⟩, fun j hj => ?_, ?_, by omega, by omega⟩
  · rw [List.getD_eq_getElem?_getD, List.getElem?_set_ne (by omega), ← List.getD_eq_getElem?_getD]; exact i3 j (by omega)
  · rw [H.num_set _ _ _ (by omega), i3 (a + i) (Nat.le_refl _), H.num_take_succ, show a + (i + 1) = a + i + 1 by omega, H.pw]
    have e : H.pw (a + i) = H.pw a * H.pw i := H.pw_add a i
    rw [e] at i4 ⊢
    exact ls_ring (by omega) i4
theorem ls_end {us ps ds : List Int} {a n : Nat} {c : Int} (hL : H.Limbs us) (hN : H.num us < H.pw (a + n + 1)) (hps : ps.length = n + 1) (I : LsInv us ps ds a (n + 1) c) (hle : H.num ps * H.pw a ≤ H.num us) : H.num ds = H.num us - H.num ps * H.pw a := by
  obtain ⟨i1, i2, i3, i4, i5, i6⟩ := I
  rw [List.take_of_length_le (by omega), show a + (n + 1) = a + n + 1 by omega] at i4
  have : c = 0 ∨ c = 1 := by omega
  rcases this with rfl | rfl
  · simpa using i4
  · exfalso
    -- the digits above are as they were, and were noughts
    have hz : ∀ j, a + n + 1 ≤ j → ds.getD j 0 = 0 := by
      intro j hj
      rw [i3 j (by omega)]
      rcases Nat.lt_or_ge j (usedN us) with h | h
      · exfalso
        have h1 := H.num_ge_used hL (show 0 < usedN us by omega)
        have h2 := H.pw_mono (show a + n + 1 ≤ usedN us - 1 by omega)
        omega
      · exact usedN_beyond us j h
    have hu : usedN ds ≤ a + n + 1 := by
      rcases Nat.lt_or_ge (a + n + 1) (usedN ds) with h | h
      · have := usedN_top ds (by omega)
        exact absurd (hz _ (by omega)) this
      · exact h
    have h3 := H.num_lt_used i2
    have h4 := H.pw_mono hu
    rw [Int.one_mul] at i4
    omega
/-- The highest digit in which a row and the piece above it differ decides. -/
theorem seg_beyond {us ps : List Int} {a n : Nat} (hps : ps.length = n + 1) (j : Nat) (hj : n + 1 ≤ j) : ps.getD j 0 = ((us.drop a).take (n + 1)).getD j 0 := by
  rw [List.getD_eq_getElem?_getD, List.getElem?_eq_none (by omega), List.getD_eq_getElem?_getD, List.getElem?_eq_none (by rw [List.length_take]; omega)]
theorem seg_lt {us ps : List Int} {a n k : Nat} (hL : H.Limbs us) (hp : H.Limbs ps) (hps : ps.length = n + 1) (hk : k < n + 1) (h : ∀ j, k < j → j < n + 1 → ps.getD j 0 = us.getD (a + j) 0) (hlt : ps.getD k 0 < us.getD (a + k) 0) : H.num ps < H.num ((us.drop a).take (n + 1)) := by
  refine H.num_lt_at (t := k) hp ((hL.drop a).take _) (fun j hj => ?_) (by rw [getD_seg _ _ _ _ hk]; exact hlt)
  rcases Nat.lt_or_ge j (n + 1) with h' | h'
  · rw [getD_seg _ _ _ _ h']; exact h j hj h'
  · exact seg_beyond hps j h'
theorem seg_gt {us ps : List Int} {a n k : Nat} (hL : H.Limbs us) (hp : H.Limbs ps) (hps : ps.length = n + 1) (hk : k < n + 1) (h : ∀ j, k < j → j < n + 1 → ps.getD j 0 = us.getD (a + j) 0) (hlt : us.getD (a + k) 0 < ps.getD k 0) : H.num ((us.drop a).take (n + 1)) < H.num ps := by
  refine H.num_lt_at (t := k) ((hL.drop a).take _) hp (fun j hj => ?_) (by rw [getD_seg _ _ _ _ hk]; exact hlt)
  rcases Nat.lt_or_ge j (n + 1) with h' | h'
  · rw [getD_seg _ _ _ _ h']; exact (h j hj h').symm
  · exact (seg_beyond hps j h').symm
theorem seg_eq {us ps : List Int} {a n : Nat} (hps : ps.length = n + 1) (h : ∀ j, j < n + 1 → ps.getD j 0 = us.getD (a + j) 0) : H.num ps = H.num ((us.drop a).take (n + 1)) := by
  refine H.num_eq_of fun j => ?_
  rcases Nat.lt_or_ge j (n + 1) with h' | h'
  · rw [getD_seg _ _ _ _ h']; exact h j h'
  · exact seg_beyond hps j h'
theorem seg_le {us : List Int} {a n : Nat} {T : Int} (hL : H.Limbs us) (hlen : a + n + 1 ≤ us.length) (hN : H.num us < H.pw (a + n + 1)) (h : T ≤ H.num ((us.drop a).take (n + 1))) : T * H.pw a ≤ H.num us := by
  have e := H.num_seg hL hlen hN
  have h0 := H.num_nonneg (hL.take a)
  have h1 : T * H.pw a ≤ H.num ((us.drop a).take (n + 1)) * H.pw a := Int.mul_le_mul_of_nonneg_right h (Int.le_of_lt (H.pw_pos a))
  omega
theorem seg_above {us : List Int} {a n : Nat} {T : Int} (hL : H.Limbs us) (hlen : a + n + 1 ≤ us.length) (hN : H.num us < H.pw (a + n + 1)) (h : H.num ((us.drop a).take (n + 1)) < T) : H.num us < T * H.pw a := by
  have e := H.num_seg hL hlen hN
  have h0 := H.num_lt (hL.take a)
  rw [List.length_take, Nat.min_eq_left (by omega)] at h0
  have h1 : (H.num ((us.drop a).take (n + 1)) + 1) * H.pw a ≤ T * H.pw a := Int.mul_le_mul_of_nonneg_right (by omega) (Int.le_of_lt (H.pw_pos a))
  rw [Int.add_mul, Int.one_mul] at h1
  omega
theorem mul_digit {vs : List Int} {q : Int} {n : Nat} (hv : H.Limbs vs) (hl : vs.length = n) (hq : 0 ≤ q ∧ q < 4294967296) : H.num vs * q < H.pw (n + 1) := by
  have h0 := H.num_nonneg hv
  have h1 := H.num_lt hv
  rw [hl] at h1
  have hp := H.pw_pos n
  have h2 : H.num vs * q ≤ (H.pw n - 1) * 4294967295 := Int.mul_le_mul (by omega) (by omega) hq.1 (by omega)
  rw [H.pw]
  have e : (H.pw n - 1) * 4294967295 = H.pw n * 4294967295 - 4294967295 := by rw [Int.sub_mul, Int.one_mul]
  rw [e] at h2
  omega
end Go.Proofs.YtcfjgebfjgkmnaaGreatDoor

namespace Go.Proofs.YtcfjgebfjgkmnaaGreatDoor
open Go.RowKit Go.Shelf

theorem Own.far {w : World} {g b : Nat} {cs : List Int} (h : Own w b cs) (hne : b ≠ g) (i : Nat) (v : Value) : Own (w.setCell ⟨g, i, none⟩ v) b cs := by
  unfold Own at *
  rw [Below.heap_setCell _ _ _ _ hne]; exact h

end Go.Proofs.YtcfjgebfjgkmnaaGreatDoor

namespace Go.Proofs.YtcfjgebfjgkmnaaGreatDoor
open Go.RowKit Go.Shelf

/-- The factor by which both are made greater. -/
theorem scale_facts {y s : Int} (h0 : 0 < y) (h1 : y < 4294967296) (hs : s = 4294967296 / (y + 1)) : 1 ≤ s ∧ s < 4294967296 ∧ s * (y + 1) ≤ 4294967296 := by
  have hm := Int.mul_ediv_add_emod 4294967296 (y + 1)
  have hr := Int.emod_nonneg 4294967296 (show y + 1 ≠ 0 by omega)
  have hl := Int.emod_lt_of_pos 4294967296 (show 0 < y + 1 by omega)
  rw [← hs] at hm
  have e : (y + 1) * s = s * (y + 1) := Int.mul_comm _ _
  have h2 : 1 ≤ s := by
    rcases Int.lt_or_le s 1 with h | h
    · have : s * (y + 1) ≤ 0 * (y + 1) := Int.mul_le_mul_of_nonneg_right (by omega) (by omega)
      omega
    · exact h
  have h3 : s * 2 ≤ s * (y + 1) := Int.mul_le_mul_of_nonneg_left (by omega) (by omega)
  exact ⟨h2, by omega, by omega⟩
theorem Htop (ys : List Int) (n : Nat) (h : ys.length = n + 1) : H.num ys = H.num (ys.take n) + ys.getD n 0 * H.pw n := by
  have := H.num_take_succ ys n
  rwa [List.take_of_length_le (by omega)] at this
theorem Htake_lt {cs : List Int} (h : H.Limbs cs) (n : Nat) : H.num (cs.take n) < H.pw n := by
  have h1 := H.num_lt (h.take n)
  have h2 := H.pw_mono (show (cs.take n).length ≤ n from List.length_take_le _ _)
  omega
theorem scaled_fits {ys : List Int} {n : Nat} {s : Int} (hy : H.Limbs ys) (hl : ys.length = n + 1) (hs0 : 1 ≤ s) (hs : s * (ys.getD n 0 + 1) ≤ 4294967296) : H.num ys * s < H.pw (n + 1) := by
  have e := Htop ys n hl
  have h1 := Htake_lt hy n
  have hp := H.pw_pos n
  have h2 : H.num ys < (ys.getD n 0 + 1) * H.pw n := by rw [Int.add_mul, Int.one_mul]; omega
  have h3 : H.num ys * s < (ys.getD n 0 + 1) * H.pw n * s := Int.mul_lt_mul_of_pos_right h2 (by omega)
  have h4 : (ys.getD n 0 + 1) * H.pw n * s = s * (ys.getD n 0 + 1) * H.pw n := by grind
  have h5 : s * (ys.getD n 0 + 1) * H.pw n ≤ 4294967296 * H.pw n := Int.mul_le_mul_of_nonneg_right hs (Int.le_of_lt hp)
  rw [H.pw]; omega
/-- What holds ahead of the place t - 1. -/
def LgInv (X V : Int) (us os : List Int) (l k t : Nat) : Prop :=
  us.length = l ∧ H.Limbs us ∧ os.length = k ∧ H.Limbs os ∧ H.num us + H.num (os.drop t) * H.pw t * V = X ∧ H.num us < V * H.pw t
theorem lg_start {xs ys us vs : List Int} {la n k : Nat} {s : Int} (hx : H.Limbs xs) (hy : H.Limbs ys) (hxl : xs.length = la) (hyu : usedN ys = n) (hn : 0 < n) (hk : k = la - n + 1) (hnl : n ≤ la) (hs0 : 1 ≤ s)
    (hu : H.num us = H.num xs * s) (hv : H.num vs = H.num ys * s) (hul : us.length = la + 1) (huL : H.Limbs us) : LgInv (H.num xs * s) (H.num vs) us (List.replicate k 0) (la + 1) k k := by
  have e2 : (List.replicate k (0 : Int)).drop k = [] := List.drop_eq_nil_of_le (by simp)
  refine ⟨hul, huL, by simp, H.Limbs.zeros _, by rw [e2]; simp [H.num, hu], ?_⟩
  have h1 := H.num_lt hx
  rw [hxl] at h1
  have h2 := H.num_ge_used hy (by omega)
  rw [hyu] at h2
  have e3 : H.pw la = H.pw (n - 1) * H.pw k := by rw [← H.pw_add]; congr 1; omega
  have hp := H.pw_pos k
  have h3 : H.pw (n - 1) * H.pw k ≤ H.num ys * H.pw k := Int.mul_le_mul_of_nonneg_right h2 (Int.le_of_lt hp)
  have h4 : H.num xs * s < H.num ys * H.pw k * s := Int.mul_lt_mul_of_pos_right (by omega) (by omega)
  rw [hu, hv]
  have e4 : H.num ys * s * H.pw k = H.num ys * H.pw k * s := Int.mul_right_comm _ _ _
  omega
/-- The place's digit, and that it is not above the guess. -/
theorem lg_digit {N V P : Int} (hN : 0 ≤ N) (hV : 0 < V) (hP : 0 < P) (hlt : N < V * (4294967296 * P)) :
    ∃ Q : Int, 0 ≤ Q ∧ Q < 4294967296 ∧ V * Q * P ≤ N ∧ N < V * (Q + 1) * P ∧ (∀ q : Int, V * q * P ≤ N → q ≤ Q) := by
  have hVP : 0 < V * P := Int.mul_pos hV hP
  have hm := Int.mul_ediv_add_emod N (V * P)
  have hr := Int.emod_nonneg N (show V * P ≠ 0 by omega)
  have hl := Int.emod_lt_of_pos N hVP
  have e1 : ∀ q : Int, V * q * P = V * P * q := fun q => by grind
  refine ⟨N / (V * P), Int.ediv_nonneg hN (Int.le_of_lt hVP), ?_, ?_, ?_, ?_⟩
  · apply Int.ediv_lt_of_lt_mul hVP
    have : 4294967296 * (V * P) = V * (4294967296 * P) := by grind
    omega
  · rw [e1]; omega
  · rw [e1, Int.mul_add, Int.mul_one]; omega
  · intro q hq
    rw [e1] at hq
    apply Int.le_ediv_of_mul_le hVP
    rw [Int.mul_comm]; exact hq
theorem lg_guess {us vs : List Int} {k n : Nat} {Q : Int} (hL : H.Limbs us) (hv : H.Limbs vs) (hvl : vs.length = n + 1) (hlen : k + n + 2 ≤ us.length) (hN : H.num us < H.pw (k + (n + 1) + 1)) (hQ0 : 0 ≤ Q) (hQ : H.num vs * Q * H.pw k ≤ H.num us) (htop : 0 < vs.getD n 0) :
    Q ≤ (us.getD (k + (n + 1)) 0 * 4294967296 + us.getD (k + (n + 1) - 1) 0) / vs.getD n 0 := by
  have e := H.num_seg (us := us) (a := k + n) (n := 1) hL (by omega) (by rw [show k + n + 1 + 1 = k + (n + 1) + 1 by omega]; exact hN)
  have h0 := Htake_lt hL (k + n)
  have e2 : H.num ((us.drop (k + n)).take (1 + 1)) = us.getD (k + (n + 1)) 0 * 4294967296 + us.getD (k + (n + 1) - 1) 0 := by
    have e3 := H.num_take_succ (us.drop (k + n)) 1
    have e4 := H.num_take_succ (us.drop (k + n)) 0
    rw [e3, e4, getD_drop, getD_drop]
    simp only [List.take_zero, H.num, H.pw]
    rw [show k + n + 0 = k + (n + 1) - 1 by omega, show k + n + 1 = k + (n + 1) by omega]
    omega
  rw [e2] at e
  obtain ⟨T, hT⟩ : ∃ T, us.getD (k + (n + 1)) 0 * 4294967296 + us.getD (k + (n + 1) - 1) 0 = T := ⟨_, rfl⟩
  rw [hT] at e ⊢
  have e5 := Htop vs n hvl
  have h5 := H.num_nonneg (hv.take n)
  have hpk := H.pw_pos k
  have hpn := H.pw_pos n
  have h6 : vs.getD n 0 * H.pw n * (Q * H.pw k) ≤ H.num vs * (Q * H.pw k) := Int.mul_le_mul_of_nonneg_right (by omega) (Int.mul_nonneg hQ0 (Int.le_of_lt hpk))
  have e6 : vs.getD n 0 * H.pw n * (Q * H.pw k) = Q * vs.getD n 0 * H.pw (k + n) := by rw [H.pw_add]; grind
  have e7 : H.num vs * (Q * H.pw k) = H.num vs * Q * H.pw k := by grind
  have h7 : Q * vs.getD n 0 * H.pw (k + n) < (T + 1) * H.pw (k + n) := by rw [Int.add_mul, Int.one_mul]; omega
  have h8 := Int.lt_of_mul_lt_mul_right h7 (Int.le_of_lt (H.pw_pos (k + n)))
  apply Int.le_ediv_of_mul_le htop
  omega
theorem lg_step {X V : Int} {us ds os : List Int} {l m k : Nat} {Q : Int} (I : LgInv X V us os l m (k + 1)) (hk : k < m) (hdl : ds.length = l) (hdL : H.Limbs ds) (hd : H.num ds = H.num us - V * Q * H.pw k) (hQ : 0 ≤ Q ∧ Q < 4294967296) (hlt : H.num us < V * (Q + 1) * H.pw k) :
    LgInv X V ds (os.set k Q) l m k := by
  obtain ⟨i1, i2, i3, i4, i5, i6⟩ := I
  refine ⟨hdl, hdL, by rw [List.length_set]; exact i3, i4.set k hQ, ?_, ?_⟩
  · rw [Hnum_set_drop _ _ _ (by omega), hd, ← i5, H.pw]
    grind
  · have : V * (Q + 1) * H.pw k = V * Q * H.pw k + V * H.pw k := by grind
    omega
theorem lg_end {x y s q r : Int} (hs : 1 ≤ s) (h1 : r + q * 1 * (y * s) = x * s) (h2 : r < y * s * 1) (h0 : 0 ≤ r) : x = q * y + r / s ∧ r / s < y ∧ 0 ≤ r / s ∧ r % s = 0 := by
  have e : r = (x - q * y) * s := by grind
  have e2 : r / s = x - q * y := by rw [e, Int.mul_ediv_cancel _ (by omega)]
  rw [e2]
  refine ⟨by omega, ?_, ?_, by rw [e]; exact Int.mul_emod_left _ _⟩
  · rw [e, Int.mul_one] at h2; exact Int.lt_of_mul_lt_mul_right h2 (by omega)
  · rcases Int.lt_or_le (x - q * y) 0 with h | h
    · have : (x - q * y) * s < 0 := Int.mul_neg_of_neg_of_pos h (by omega)
      omega
    · exact h
end Go.Proofs.YtcfjgebfjgkmnaaGreatDoor

namespace Go.Proofs.YtcfjgebfjgkmnaaGreatDoor
open Go.RowKit Go.Shelf
set_option linter.unusedVariables false

theorem Own.aft {w w' : World} {b : Nat} {cs : List Int} (h : Own w b cs) (hb : Below w.heap.size w w') : Own w' b cs := by
  have hlt : b < w.heap.size := by
    unfold Own at h
    rcases Nat.lt_or_ge b w.heap.size with h' | h'
    · exact h'
    · rw [Array.getElem?_eq_none h'] at h; cases h
  unfold Own at *
  rw [hb.block b hlt]; exact h
theorem Own.blt {w : World} {b : Nat} {cs : List Int} (h : Own w b cs) : b < w.heap.size := by
  unfold Own at h
  rcases Nat.lt_or_ge b w.heap.size with h' | h'
  · exact h'
  · rw [Array.getElem?_eq_none h'] at h; cases h
theorem Own.sx {w : World} {b g n : Nat} {cs : List Int} (h : Own w b cs) (hL : H.Limbs cs) (hl : cs.length = n) (hne : b ≠ g) : Sx g w (some ⟨b, 0, none⟩) n cs :=
  ⟨by rw [← hl]; exact h.sl hL.up, fun _ p hp => by cases hp; exact hne⟩

end Go.Proofs.YtcfjgebfjgkmnaaGreatDoor

namespace Go.Proofs.YtcfjgebfjgkmnaaGreatDoor
open Go.RowKit Go.Shelf
set_option linter.unusedVariables false

end Go.Proofs.YtcfjgebfjgkmnaaGreatDoor
