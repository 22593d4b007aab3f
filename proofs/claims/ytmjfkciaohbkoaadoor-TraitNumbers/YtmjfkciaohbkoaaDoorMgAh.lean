/-
  Put together of: RowsP, AddT, Prod.
-/
import Derived.Test.YtmjfkciaohbkoaaDoorMgAc
import Derived.Test.YtmjfkciaohbkoaaDoorMgAd
import Derived.Deep.RegionWith
import Derived.Test.YtmjfkciaohbkoaaDoorMgAa
import Derived.Test.YtmjfkciaohbkoaaDoorBsA
import Derived.Lib.SliceRun
import Derived.BigFrame
import Derived.Test.YtmjfkciaohbkoaaDoorBsL
namespace Go.Proofs.YtmjfkciaohbkoaaDoor

/-- Behind k places of adding. -/
def BInv (cs0 ls : List Int) (b : Int) (off k : Nat) (c : Int) (cs : List Int) : Prop :=
  cs.length = cs0.length ∧ Limbs cs ∧ (∀ j, j < off ∨ off + k ≤ j → cs.getD j 0 = cs0.getD j 0) ∧ num cs + c * pw (off + k) = num cs0 + num (ls.take k) * b * pw off ∧ 0 ≤ c ∧ c < 18446744073709551616
/-- Behind k places of taking off. -/
def RInv (cs0 ls : List Int) (b : Int) (off k : Nat) (c : Int) (cs : List Int) : Prop :=
  cs.length = cs0.length ∧ Limbs cs ∧ (∀ j, j < off ∨ off + k ≤ j → cs.getD j 0 = cs0.getD j 0) ∧ num cs - c * pw (off + k) = num cs0 - num (ls.take k) * b * pw off ∧ 0 ≤ c ∧ c < 18446744073709551616
theorem binv_start {cs ls : List Int} {b : Int} {off : Nat} (h : Limbs cs) : BInv cs ls b off 0 0 cs := ⟨rfl, h, fun _ _ => rfl, by simp [num], by decide, by decide⟩
theorem rinv_start {cs ls : List Int} {b : Int} {off : Nat} (h : Limbs cs) : RInv cs ls b off 0 0 cs := ⟨rfl, h, fun _ _ => rfl, by simp [num], by decide, by decide⟩
theorem mul_word {x b : Int} (hx : 0 ≤ x ∧ x < 18446744073709551616) (hb : 0 ≤ b ∧ b < 18446744073709551616) : 0 ≤ x * b ∧ x * b ≤ 18446744073709551615 * 18446744073709551615 :=
  ⟨Int.mul_nonneg hx.1 hb.1, Int.mul_le_mul (by omega) (by omega) hb.1 (by decide)⟩
theorem ring_add {N N0 T v y c q x b po pk p : Int} (hd : v + 18446744073709551616 * q = x * b + y + c) (i4 : N + c * p = N0 + T * b * po) (hp : p = po * pk) :
    N + (v - y) * p + q * (18446744073709551616 * p) = N0 + (T + x * pk) * b * po := by grind
theorem ring_sub {N N0 T v y c q x b po pk p : Int} (hd : v + 18446744073709551616 * q = y - x * b - c) (i4 : N - c * p = N0 - T * b * po) (hp : p = po * pk) :
    N + (v - y) * p - -q * (18446744073709551616 * p) = N0 - (T + x * pk) * b * po := by grind
theorem binv_step {cs0 ls cs : List Int} {b : Int} {off k : Nat} {c : Int} (hl : Limbs ls) (hb : 0 ≤ b ∧ b < 18446744073709551616) (I : BInv cs0 ls b off k c cs) (h : off + k < cs0.length) :
    BInv cs0 ls b off (k + 1) ((ls.getD k 0 * b + cs.getD (off + k) 0 + c) / 18446744073709551616) (cs.set (off + k) ((ls.getD k 0 * b + cs.getD (off + k) 0 + c) % 18446744073709551616)) := by
  obtain ⟨i1, i2, i3, i4, i5, i6⟩ := I
  have b1 := i2.getD (off + k); have b2 := hl.getD k
  obtain ⟨p1, p2⟩ := mul_word b2 hb
  have hs := num_set (cs := cs) (i := off + k) ((ls.getD k 0 * b + cs.getD (off + k) 0 + c) % 18446744073709551616) (by omega)
  have ht := num_take_succ ls k
  have hpw : pw (off + (k + 1)) = 18446744073709551616 * pw (off + k) := rfl
  have hpa := pw_add off k
  generalize ls.getD k 0 = x at *
  generalize cs.getD (off + k) 0 = y at *
  have hd : (x * b + y + c) % 18446744073709551616 + 18446744073709551616 * ((x * b + y + c) / 18446744073709551616) = x * b + y + c := by omega
  refine ⟨by rw [List.length_set]; exact i1, i2.set _ ⟨by omega, by omega⟩, fun j hj => by rw [getD_set_other _ _ _ _ (by omega)]; exact i3 j (by omega), ?_, by omega, by omega⟩
  rw [hs, hpw, ht]
  exact ring_add hd i4 hpa
theorem rinv_step {cs0 ls cs : List Int} {b : Int} {off k : Nat} {c : Int} (hl : Limbs ls) (hb : 0 ≤ b ∧ b < 18446744073709551616) (I : RInv cs0 ls b off k c cs) (h : off + k < cs0.length) :
    RInv cs0 ls b off (k + 1) (-((cs.getD (off + k) 0 - ls.getD k 0 * b - c) / 18446744073709551616)) (cs.set (off + k) ((cs.getD (off + k) 0 - ls.getD k 0 * b - c) % 18446744073709551616)) := by
  obtain ⟨i1, i2, i3, i4, i5, i6⟩ := I
  have b1 := i2.getD (off + k); have b2 := hl.getD k
  obtain ⟨p1, p2⟩ := mul_word b2 hb
  have hs := num_set (cs := cs) (i := off + k) ((cs.getD (off + k) 0 - ls.getD k 0 * b - c) % 18446744073709551616) (by omega)
  have ht := num_take_succ ls k
  have hpw : pw (off + (k + 1)) = 18446744073709551616 * pw (off + k) := rfl
  have hpa := pw_add off k
  generalize ls.getD k 0 = x at *
  generalize cs.getD (off + k) 0 = y at *
  have hd : (y - x * b - c) % 18446744073709551616 + 18446744073709551616 * ((y - x * b - c) / 18446744073709551616) = y - x * b - c := by omega
  refine ⟨by rw [List.length_set]; exact i1, i2.set _ ⟨by omega, by omega⟩, fun j hj => by rw [getD_set_other _ _ _ _ (by omega)]; exact i3 j (by omega), ?_, by omega, by omega⟩
  rw [hs, hpw, ht]
  exact ring_sub hd i4 hpa
end Go.Proofs.YtmjfkciaohbkoaaDoor

namespace Go.Proofs.YtmjfkciaohbkoaaDoor
open Go.RowKit Go.Shelf

end Go.Proofs.YtmjfkciaohbkoaaDoor

namespace Go.Proofs.YtmjfkciaohbkoaaDoor
open Go.RowKit Go.Shelf

/-- Behind i limbs of the second list. -/
def PrInv (xs ys : List Int) (la lb i : Nat) (cs : List Int) : Prop :=
  cs.length = la + lb ∧ Limbs cs ∧ (∀ j, i + la ≤ j → cs.getD j 0 = 0) ∧ num cs = num xs * num (ys.take i)
theorem prinv_start {xs ys : List Int} {la lb : Nat} : PrInv xs ys la lb 0 (List.replicate (la + lb) 0) :=
  ⟨by simp, Limbs.zeros _, fun j _ => by rw [List.getD_eq_getElem?_getD, List.getElem?_replicate]; split <;> rfl, by rw [num_zeros]; simp [num]⟩
theorem prinv_step {xs ys cs ds : List Int} {la lb i : Nat} {c : Int} (hx : xs.length = la) (I : PrInv xs ys la lb i cs) (h : i < lb) (B : BInv cs xs (ys.getD i 0) i la c ds) : PrInv xs ys la lb (i + 1) (ds.set (i + la) c) := by
  obtain ⟨i1, i2, i3, i4⟩ := I
  obtain ⟨b1, b2, b3, b4, b5, b6⟩ := B
  have z : ds.getD (i + la) 0 = 0 := by rw [b3 _ (.inr (Nat.le_refl _))]; exact i3 _ (Nat.le_refl _)
  refine ⟨by rw [List.length_set]; omega, b2.set _ ⟨b5, b6⟩, fun j hj => ?_, ?_⟩
  · rw [getD_set_other _ _ _ _ (by omega), b3 j (.inr (by omega))]; exact i3 j (by omega)
  · rw [num_set c (by omega), z, num_take_succ]
    rw [List.take_of_length_le (by omega), i4] at b4
    rw [Int.sub_zero, b4]
    grind

/-- What is long by more than one bit. -/
theorem long_by_bits {xs ys : List Int} (hx : Limbs xs) (hy : Limbs ys) (h : 262145 < bitsN xs + bitsN ys) (h1 : bitsN xs ≤ 262144) (h2 : bitsN ys ≤ 262144) : (2 : Int) ^ 262144 ≤ num xs * num ys := by
  have ux : 0 < usedN xs := by
    rcases Nat.eq_zero_or_pos (usedN xs) with h' | h'
    · have := bits_nought h'; omega
    · exact h'
  have uy : 0 < usedN ys := by
    rcases Nat.eq_zero_or_pos (usedN ys) with h' | h'
    · have := bits_nought h'; omega
    · exact h'
  obtain ⟨i, e1, i1, i2⟩ := bits_spec hx ux
  obtain ⟨j, e2, j1, j2⟩ := bits_spec hy uy
  have h3 : (2 : Int) ^ i * 2 ^ j ≤ num xs * num ys := Int.mul_le_mul i1 j1 (Int.le_of_lt (p2_pos _)) (num_nonneg hx)
  rw [← Int.pow_add] at h3
  exact Int.le_trans (p2_mono (by omega)) h3
theorem pw_4096 : pw 4096 = 2 ^ 262144 := by rw [pw_eq]

end Go.Proofs.YtmjfkciaohbkoaaDoor
namespace Go.Proofs.YtmjfkciaohbkoaaDoor
open Go.RowKit Go.Shelf

end Go.Proofs.YtmjfkciaohbkoaaDoor

namespace Go.Proofs.YtmjfkciaohbkoaaDoor

/-- The guess is never too small: the piece's three highest limbs, the divisor's two highest. -/
structure Guess (p v q : Int) (u2 u1 u0 h l : Int) (n : Nat) : Prop where
  lo : p < (u2 * 18446744073709551616 * 18446744073709551616 + u1 * 18446744073709551616 + u0 + 1) * pw n
  hi : (h * 18446744073709551616 + l) * pw n ≤ v
  qv : q * v ≤ p
  v0 : 0 < v
  q0 : 0 ≤ q

theorem Guess.start {p v q u2 u1 u0 h l : Int} {n : Nat} (G : Guess p v q u2 u1 u0 h l n) (h0 : 0 < h) (l0 : 0 ≤ l) (hu0 : 0 ≤ u0) (hu0' : u0 < 18446744073709551616) {t r : Int} (hr : r < h) (e : t * h + r = u2 * 18446744073709551616 + u1) : q ≤ t := by
  obtain ⟨lo, hi, qv, v0, q0⟩ := G
  have hp := pw_pos n
  have a1 : q * ((h * 18446744073709551616 + l) * pw n) ≤ q * v := Int.mul_le_mul_of_nonneg_left hi q0
  have a2 : q * (h * 18446744073709551616 + l) * pw n < (u2 * 18446744073709551616 * 18446744073709551616 + u1 * 18446744073709551616 + u0 + 1) * pw n := by
    rw [Int.mul_assoc]; omega
  have a3 := lt_cancel hp a2
  have a4 : 0 ≤ q * l := Int.mul_nonneg q0 l0
  have a5 : q * (h * 18446744073709551616 + l) = (q * h) * 18446744073709551616 + q * l := by grind
  rw [a5] at a3
  have a6 : q * h < t * h + h := by omega
  have a7 : q * h < (t + 1) * h := by rw [Int.add_mul, Int.one_mul]; exact a6
  have := lt_cancel h0 a7
  omega
/-- What is too much is above the quotient. -/
theorem Guess.less {p v q u2 u1 u0 h l : Int} {n : Nat} (G : Guess p v q u2 u1 u0 h l n) {t r : Int} (ht : 0 ≤ t) (e : t * h + r = u2 * 18446744073709551616 + u1) (hm : r * 18446744073709551616 + u0 < t * l) : q + 1 ≤ t := by
  obtain ⟨lo, hi, qv, v0, q0⟩ := G
  have hp := pw_pos n
  have a1 : u2 * 18446744073709551616 * 18446744073709551616 + u1 * 18446744073709551616 + u0 + 1 ≤ t * (h * 18446744073709551616 + l) := by
    have : t * (h * 18446744073709551616 + l) = (t * h) * 18446744073709551616 + t * l := by grind
    rw [this]; omega
  have a2 := mul_le (Int.le_of_lt hp) a1
  have a3 : t * ((h * 18446744073709551616 + l) * pw n) ≤ t * v := Int.mul_le_mul_of_nonneg_left hi ht
  rw [← Int.mul_assoc] at a3
  have a4 : q * v < t * v := by omega
  have := lt_cancel v0 a4
  omega

/-- The piece and the divisor, by their limbs. -/
theorem guess_of {us vs : List Int} {n : Nat} (hu : Limbs us) (hv : Limbs vs) (lu : us.length = n + 3) (lv : vs.length = n + 2) {q : Int} (q0 : 0 ≤ q) (hq : q * num vs ≤ num us) (hpos : 0 < num vs) :
    Guess (num us) (num vs) q (us.getD (n + 2) 0) (us.getD (n + 1) 0) (us.getD n 0) (vs.getD (n + 1) 0) (vs.getD n 0) n := by
  refine ⟨?_, ?_, hq, hpos, q0⟩
  · have e2 := num_top us (n + 2) lu
    have e1 := num_take_succ us (n + 1)
    have e0 := num_take_succ us n
    have := num_take_lt hu n
    rw [e2, e1, e0]; simp only [pw]; grind
  · have e1 := num_top vs (n + 1) lv
    have e0 := num_take_succ vs n
    have := num_take_nonneg hv n
    rw [e1, e0]; simp only [pw]; grind
theorem quot_facts {p v : Int} (hv : 0 < v) (hp : 0 ≤ p) : 0 ≤ p / v ∧ p / v * v ≤ p ∧ p < (p / v + 1) * v := by
  refine ⟨Int.ediv_nonneg hp (by omega), Int.ediv_mul_le p (by omega), ?_⟩
  have h1 := Int.emod_lt_of_pos p hv
  have h2 := Int.mul_ediv_add_emod p v
  grind
/-- The piece is below 2^64 times the divisor: its highest limb is not above the divisor's. -/
theorem top_le {us vs : List Int} {n : Nat} (hu : Limbs us) (hv : Limbs vs) (lu : us.length = n + 2) (lv : vs.length = n + 1) (h : num us < num vs * 18446744073709551616) : us.getD (n + 1) 0 ≤ vs.getD n 0 := by
  have e1 := num_top us (n + 1) lu
  have e2 := num_top vs n lv
  have b1 := num_take_nonneg hu (n + 1)
  have b2 := num_take_lt hv n
  have hp := pw_pos n
  have : us.getD (n + 1) 0 * pw (n + 1) < (vs.getD n 0 + 1) * pw (n + 1) := by
    have : num vs * 18446744073709551616 < (vs.getD n 0 + 1) * pw (n + 1) := by
      simp only [pw]; rw [e2]; grind
    omega
  have := lt_cancel (pw_pos _) this
  omega

/-- One step of the long division: the piece loses t times the divisor, and t stands at its top. -/
theorem rest_top {us vs : List Int} {n : Nat} (hu : Limbs us) (lu : us.length = n + 1) (hV : num vs ≤ pw n) (h : num us < num vs) : us.getD n 0 = 0 := by
  have e1 := num_top us n lu
  have b1 := num_take_nonneg hu n
  have b2 := hu.getD n
  have hp := pw_pos n
  have : us.getD n 0 * pw n < 1 * pw n := by omega
  have := lt_cancel hp this
  omega

/-- What holds of the row behind some places of the quotient: e is how many limbs are not divided yet. -/
def KInv (A V : Int) (n m e : Nat) (cs : List Int) : Prop :=
  cs.length = m + 1 ∧ Limbs cs ∧ num (cs.take e) + num (cs.drop e) * pw (e - n) * V = A ∧ num (cs.take e) < V * pw (e - n)

theorem kinv_piece {A V : Int} {n m e : Nat} {cs : List Int} (I : KInv A V n m (e + 1) cs) (hn : n ≤ e) (hm : e ≤ m) : num ((cs.drop (e - n)).take (n + 1)) < V * 18446744073709551616 := by
  obtain ⟨h1, h2, h3, h4⟩ := I
  have e1 := num_take_drop (cs.take (e + 1)) (e - n) (by rw [List.length_take]; omega)
  rw [List.take_take, Nat.min_eq_left (by omega), List.drop_take, show e + 1 - (e - n) = n + 1 by omega] at e1
  have b1 := num_take_nonneg h2 (e - n)
  have : num ((cs.drop (e - n)).take (n + 1)) * pw (e - n) < V * 18446744073709551616 * pw (e - n) := by
    have : V * 18446744073709551616 * pw (e - n) = V * pw (e + 1 - n) := by
      rw [show e + 1 - n = (e - n) + 1 by omega, pw]; grind
    omega
  exact lt_cancel (pw_pos _) this
theorem kinv_step {A V t : Int} {n m e : Nat} {cs ds : List Int} (I : KInv A V n m (e + 1) cs) (hn : n ≤ e) (hm : e ≤ m) (hl : ds.length = cs.length) (hL : Limbs ds) (hout : ∀ j, j < e - n ∨ e + 1 ≤ j → ds.getD j 0 = cs.getD j 0)
    (hpc : num ((ds.drop (e - n)).take (n + 1)) = num ((cs.drop (e - n)).take (n + 1)) - t * V) (hlt : num ((ds.drop (e - n)).take (n + 1)) < V) (htop : ds.getD e 0 = 0) (ht : 0 ≤ t ∧ t < 18446744073709551616) : KInv A V n m e (ds.set e t) := by
  obtain ⟨h1, h2, h3, h4⟩ := I
  have hle : e < ds.length := by omega
  refine ⟨by rw [List.length_set]; omega, hL.set e ht, ?_, ?_⟩
  · have e1 := num_parts cs (e - n) (n + 1) (by omega)
    have e2 := num_parts ds (e - n) (n + 1) (by omega)
    have e3 := num_take_congr (a := ds) (b := cs) (e - n) (fun j hj => hout j (.inl hj))
    have e4 := num_drop_congr (a := ds) (b := cs) (e + 1) (fun j hj => hout j (.inr hj))
    rw [show e - n + (n + 1) = e + 1 by omega] at e1 e2
    have e5 := num_take_drop cs (e + 1) (by omega)
    have e6 := num_take_drop ds (e + 1) (by omega)
    have e7 := num_take_succ ds e
    rw [htop] at e7
    have e8 : num ((ds.set e t).take e) = num (ds.take e) := num_take_congr e (fun j hj => getD_set_other _ _ _ _ (by omega))
    have e9 := num_set_drop ds e t hle
    have e10 : pw (e + 1 - n) = 18446744073709551616 * pw (e - n) := by rw [show e + 1 - n = (e - n) + 1 by omega, pw]
    rw [e10] at h3
    rw [e8, e9, e4]
    rw [e3, e4, hpc] at e2
    rw [e4] at e6
    have e11 : num (ds.take (e + 1)) = num (cs.take (e + 1)) - t * V * pw (e - n) := by
      have := e1; have := e2; grind
    grind
  · have e8 : num ((ds.set e t).take e) = num (ds.take e) := num_take_congr e (fun j hj => getD_set_other _ _ _ _ (by omega))
    have e7 := num_take_succ ds e
    rw [htop] at e7
    have e1 := num_take_drop (ds.take (e + 1)) (e - n) (by rw [List.length_take]; omega)
    rw [List.take_take, Nat.min_eq_left (by omega), List.drop_take, show e + 1 - (e - n) = n + 1 by omega] at e1
    have b1 := num_take_lt hL (e - n)
    have b2 : (num ((ds.drop (e - n)).take (n + 1)) + 1) * pw (e - n) ≤ V * pw (e - n) := mul_le (Int.le_of_lt (pw_pos _)) (by omega)
    rw [e8]
    rw [Int.add_mul, Int.one_mul] at b2
    omega
theorem kinv_end {A V : Int} {n m : Nat} {cs : List Int} (I : KInv A V n m n cs) : num (cs.take n) + num (cs.drop n) * V = A ∧ num (cs.take n) < V := by
  obtain ⟨h1, h2, h3, h4⟩ := I
  rw [Nat.sub_self] at h3 h4
  simp only [pw, Int.mul_one] at h3 h4
  exact ⟨h3, h4⟩
end Go.Proofs.YtmjfkciaohbkoaaDoor

namespace Go.Proofs.YtmjfkciaohbkoaaDoor
open Go.RowKit Go.Shelf

/-- Whether a product of two limbs is above a number of two limbs. -/
def above2 (t l h u : Int) : Bool := decide (h * 18446744073709551616 + u < t * l)
end Go.Proofs.YtmjfkciaohbkoaaDoor

namespace Go.Proofs.YtmjfkciaohbkoaaDoor
open Go.RowKit Go.Shelf
end Go.Proofs.YtmjfkciaohbkoaaDoor

namespace Go.Proofs.YtmjfkciaohbkoaaDoor

/-- The piece has lost t times the divisor; b: what was borrowed from beyond it. -/
def SInv (V : Int) (cs0 : List Int) (off n : Nat) (t b : Int) (ds : List Int) : Prop :=
  ds.length = cs0.length ∧ Limbs ds ∧ (∀ j, j < off ∨ off + n + 1 ≤ j → ds.getD j 0 = cs0.getD j 0) ∧ num ds = num cs0 - V * t * pw off + b * pw (off + n + 1) ∧ 0 ≤ b ∧ b ≤ 1

theorem ring_first {N N0 V t y c v q po p : Int} (h1 : N - c * p = N0 - V * t * po) (h2 : v + 18446744073709551616 * q = y - c) : N + (v - y) * p = N0 - V * t * po + -q * (18446744073709551616 * p) := by grind
theorem ring_more {N N0 M V t y c v q po p : Int} (h0 : N = N0 - V * t * po + 1 * (18446744073709551616 * p)) (h1 : M + c * p = N + V * 1 * po) (h2 : v + 18446744073709551616 * q = y + c) : M + (v - y) * p = N0 - V * (t - 1) * po + (1 - q) * (18446744073709551616 * p) := by grind

theorem sinv_first {cs0 vs ds : List Int} {off n : Nat} {t c : Int} (hv : vs.length = n) (hf : off + n < cs0.length) (R : RInv cs0 vs t off n c ds) :
    SInv (num vs) cs0 off n t (-((cs0.getD (off + n) 0 - c) / 18446744073709551616)) (ds.set (off + n) ((cs0.getD (off + n) 0 - c) % 18446744073709551616)) := by
  obtain ⟨r1, r2, r3, r4, r5, r6⟩ := R
  have hy : ds.getD (off + n) 0 = cs0.getD (off + n) 0 := r3 _ (.inr (Nat.le_refl _))
  have hb := r2.getD (off + n)
  rw [hy] at hb
  rw [List.take_of_length_le (by omega)] at r4
  have hs := num_set (cs := ds) (i := off + n) ((cs0.getD (off + n) 0 - c) % 18446744073709551616) (by omega)
  rw [hy] at hs
  generalize cs0.getD (off + n) 0 = y at *
  refine ⟨by rw [List.length_set]; exact r1, r2.set _ ⟨by omega, by omega⟩, fun j hj => by rw [getD_set_other _ _ _ _ (by omega)]; exact r3 j (by omega), ?_, by omega, by omega⟩
  rw [hs]
  exact ring_first r4 (by omega)
theorem sinv_more {cs0 vs ds es : List Int} {off n : Nat} {t c : Int} (hv : vs.length = n) (hf : off + n < cs0.length) (S : SInv (num vs) cs0 off n t 1 ds) (B : BInv ds vs 1 off n c es) :
    SInv (num vs) cs0 off n (t - 1) (1 - (ds.getD (off + n) 0 + c) / 18446744073709551616) (es.set (off + n) ((ds.getD (off + n) 0 + c) % 18446744073709551616)) := by
  obtain ⟨s1, s2, s3, s4, s5, s6⟩ := S
  obtain ⟨r1, r2, r3, r4, r5, r6⟩ := B
  have hy : es.getD (off + n) 0 = ds.getD (off + n) 0 := r3 _ (.inr (Nat.le_refl _))
  have hb := r2.getD (off + n)
  rw [hy] at hb
  rw [List.take_of_length_le (by omega)] at r4
  have hs := num_set (cs := es) (i := off + n) ((ds.getD (off + n) 0 + c) % 18446744073709551616) (by omega)
  rw [hy] at hs
  generalize ds.getD (off + n) 0 = y at *
  refine ⟨by rw [List.length_set]; omega, r2.set _ ⟨by omega, by omega⟩, fun j hj => ?_, ?_, by omega, by omega⟩
  · rw [getD_set_other _ _ _ _ (by omega), r3 j (by omega)]; exact s3 j hj
  · rw [hs]
    exact ring_more s4 r4 (by omega)
theorem sinv_seg {V : Int} {cs0 ds : List Int} {off n : Nat} {t b : Int} (hf : off + n < cs0.length) (S : SInv V cs0 off n t b ds) :
    num ((ds.drop off).take (n + 1)) = num ((cs0.drop off).take (n + 1)) - t * V + b * pw (n + 1) := by
  obtain ⟨s1, s2, s3, s4, s5, s6⟩ := S
  have h := num_piece (cs := ds) (ds := cs0) (off := off) (n := n + 1) s1 (by omega) (fun j hj => s3 j (by omega))
  have hp : pw (off + n + 1) = pw off * pw (n + 1) := by rw [Nat.add_assoc, pw_add]
  rw [s4, hp] at h
  refine mul_cancel (pw_pos off) ?_
  generalize num ((ds.drop off).take (n + 1)) = D at *
  generalize num ((cs0.drop off).take (n + 1)) = C at *
  grind
theorem sinv_neg {V : Int} {cs0 ds : List Int} {off n : Nat} {t : Int} (hV : 0 < V) (hL : Limbs cs0) (hf : off + n < cs0.length) (S : SInv V cs0 off n t 1 ds) : num ((cs0.drop off).take (n + 1)) / V + 1 ≤ t := by
  have h := sinv_seg hf S
  have h1 := num_take_lt (S.2.1.drop off) (n + 1)
  obtain ⟨q0, q1, q2⟩ := quot_facts hV (num_take_nonneg (hL.drop off) (n + 1))
  generalize num ((ds.drop off).take (n + 1)) = D at *
  generalize num ((cs0.drop off).take (n + 1)) = C at *
  have : C / V * V < t * V := by omega
  have := lt_cancel hV this
  omega
theorem sinv_end {V : Int} {cs0 ds : List Int} {off n : Nat} {t : Int} (hV : 0 < V) (hL : Limbs cs0) (hf : off + n < cs0.length) (S : SInv V cs0 off n t 0 ds) (hq : num ((cs0.drop off).take (n + 1)) / V ≤ t) :
    num ((ds.drop off).take (n + 1)) = num ((cs0.drop off).take (n + 1)) - t * V ∧ num ((ds.drop off).take (n + 1)) < V := by
  have h := sinv_seg hf S
  obtain ⟨q0, q1, q2⟩ := quot_facts hV (num_take_nonneg (hL.drop off) (n + 1))
  generalize num ((ds.drop off).take (n + 1)) = D at *
  generalize num ((cs0.drop off).take (n + 1)) = C at *
  have h2 : C / V * V ≤ t * V := mul_le (by omega) hq
  rw [Int.zero_mul] at h
  rw [Int.add_mul] at q2
  exact ⟨by omega, by omega⟩
end Go.Proofs.YtmjfkciaohbkoaaDoor

namespace Go.Proofs.YtmjfkciaohbkoaaDoor
open Go.RowKit Go.Shelf

end Go.Proofs.YtmjfkciaohbkoaaDoor

namespace Go.Proofs.YtmjfkciaohbkoaaDoor
open Go.RowKit Go.Shelf

/-- What holds of the row behind k places. -/
def TInv (xs cs : List Int) (by' more : Int) (n k : Nat) (c : Int) : Prop :=
  cs.length = n + 1 ∧ Limbs cs ∧ (∀ j, k ≤ j → cs.getD j 0 = xs.getD j 0) ∧ num (cs.take k) + c * pw k = num (xs.take k) * by' + more ∧ 0 ≤ c ∧ c < 18446744073709551616

theorem tinv_start {xs : List Int} {b m : Int} (hx : Limbs xs) (hm : 0 ≤ m ∧ m < 18446744073709551616) : TInv xs (xs.take (usedN xs) ++ List.replicate (usedN xs + 1 - usedN xs) 0) b m (usedN xs) 0 m :=
  ⟨wide_length xs _ (by omega), wide_limbs hx _, fun j _ => wide_getD xs _ j, by simp [num, pw], hm.1, hm.2⟩
theorem prod_bd {x b c : Int} (hx : 0 ≤ x ∧ x < 18446744073709551616) (hb : 0 ≤ b ∧ b < 18446744073709551616) (hc : 0 ≤ c ∧ c < 18446744073709551616) :
    0 ≤ (x * b + c) / 18446744073709551616 ∧ (x * b + c) / 18446744073709551616 < 18446744073709551616 := by
  have h1 : 0 ≤ x * b := Int.mul_nonneg hx.1 hb.1
  have h2 : x * b ≤ 18446744073709551615 * b := Int.mul_le_mul_of_nonneg_right (by omega) hb.1
  generalize x * b = p at *
  omega
theorem tinv_step {xs cs : List Int} {b m : Int} {n k : Nat} {c : Int} (hb : 0 ≤ b ∧ b < 18446744073709551616) (I : TInv xs cs b m n k c) (h : k < n) :
    TInv xs (cs.set k ((cs.getD k 0 * b + c) % 18446744073709551616)) b m n (k + 1) ((cs.getD k 0 * b + c) / 18446744073709551616) := by
  obtain ⟨i1, i2, i3, i4, i5, i6⟩ := I
  have b1 := i2.getD k
  have e := i3 k (Nat.le_refl _)
  obtain ⟨p1, p2⟩ := prod_bd b1 hb ⟨i5, i6⟩
  refine ⟨by rw [List.length_set]; exact i1, i2.set k ⟨by omega, by omega⟩, fun j hj => by rw [getD_set_other _ _ _ _ (by omega)]; exact i3 j (by omega), ?_, p1, p2⟩
  have hc := carry_step (v := (cs.getD k 0 * b + c) % 18446744073709551616) (c' := (cs.getD k 0 * b + c) / 18446744073709551616) (p := pw k) (s := cs.getD k 0 * b + c) (by omega)
  rw [num_set_take _ _ _ (by omega), num_take_succ, pw, ← e, Int.add_mul]
  rw [Int.add_mul, Int.mul_right_comm] at hc
  omega
theorem tinv_end {xs cs : List Int} {b m : Int} {n : Nat} {c : Int} (I : TInv xs cs b m n n c) (hn : n = usedN xs) :
    (cs.set n c).length = n + 1 ∧ Limbs (cs.set n c) ∧ num (cs.set n c) = num xs * b + m := by
  obtain ⟨i1, i2, i3, i4, i5, i6⟩ := I
  refine ⟨by rw [List.length_set]; exact i1, i2.set n ⟨i5, i6⟩, ?_⟩
  have e := num_set_take cs n c (by omega)
  rw [List.take_of_length_le (by rw [List.length_set]; omega)] at e
  rw [num_take_used xs (by omega)] at i4
  omega

end Go.Proofs.YtmjfkciaohbkoaaDoor

namespace Go.Proofs.YtmjfkciaohbkoaaDoor
open Go.RowKit Go.Shelf

/-- A row with noughts from a place on, so many. -/
def wiped : Nat → Nat → List Int → List Int
  | 0, _, cs => cs
  | k + 1, o, cs => wiped k (o + 1) (cs.set o 0)
theorem wiped_length : ∀ (k o : Nat) (cs : List Int), (wiped k o cs).length = cs.length
  | 0, _, _ => rfl
  | k + 1, o, cs => by rw [wiped, wiped_length, List.length_set]
theorem wiped_limbs : ∀ (k o : Nat) {cs : List Int}, Limbs cs → Limbs (wiped k o cs)
  | 0, _, _, h => h
  | k + 1, o, _, h => wiped_limbs k (o + 1) (h.set o ⟨by decide, by decide⟩)
theorem wiped_low : ∀ (k o : Nat) (cs : List Int) (j : Nat), j < o → (wiped k o cs).getD j 0 = cs.getD j 0
  | 0, _, _, _, _ => rfl
  | k + 1, o, cs, j, h => by rw [wiped, wiped_low k (o + 1) _ j (by omega), getD_set_other _ _ _ _ (by omega)]
theorem wiped_high : ∀ (k o : Nat) (cs : List Int) (j : Nat), o ≤ j → j < o + k → j < cs.length → (wiped k o cs).getD j 0 = 0
  | 0, o, cs, j, h1, h2, _ => absurd h2 (by omega)
  | k + 1, o, cs, j, h1, h2, h3 => by
    rw [wiped]
    by_cases h : j = o
    · subst h
      rw [wiped_low k (j + 1) _ j (by omega), getD_set_self _ _ _ h3]
    · exact wiped_high k (o + 1) _ j (by omega) (by omega) (by rw [List.length_set]; exact h3)
theorem num_wiped {cs : List Int} {n k : Nat} (h : n + k = cs.length) : num (wiped k n cs) = num (cs.take n) := by
  have hl := wiped_length k n cs
  have e := num_take_of_zeros (zs := wiped k n cs) (u := n) (fun i hi => by
    rcases Nat.lt_or_ge i cs.length with h' | h'
    · exact wiped_high k n cs i hi (by omega) h'
    · rw [List.getD_eq_getElem?_getD, List.getElem?_eq_none (by omega)]; rfl) k
  rw [h, ← hl, List.take_of_length_le (Nat.le_refl _)] at e
  rw [e]
  exact num_take_congr n (fun j hj => wiped_low k n cs j hj)
theorem Only.wipe {g : Nat} {a : World} : ∀ (k o : Nat) {w : World}, Only g a w → Only g a (w.setCells g o (List.replicate k (.int .u64 0)))
  | 0, _, _, h => h
  | k + 1, o, _, h => Only.wipe k (o + 1) (h.set o _)
/-- The shift that lifts the divisor's highest bit. -/
theorem shift_facts {ys : List Int} (hy : Limbs ys) {n : Nat} (hu : usedN ys = n) : 0 ≤ 64 * (n : Int) - bitsN ys ∧ 64 * (n : Int) - bitsN ys ≤ 63 := by
  obtain ⟨q0, q1, q2⟩ := bits_limbs hy
  rw [hu] at q1 q2
  omega
theorem lifted_used {ys zs : List Int} (hy : Limbs ys) (hz : Limbs zs) {n s : Nat} (hu : usedN ys = n) (hn : 0 < n) (hs : (s : Int) = 64 * (n : Int) - bitsN ys) (e : num zs = num ys * 2 ^ s) : usedN zs = n := by
  have hb := bits_moved hy hz (by omega) e
  obtain ⟨q0, q1, q2⟩ := bits_limbs hz
  omega
theorem kinv_start {xs ys zs : List Int} {la n s : Nat} (hx : Limbs xs) (hy : Limbs ys) (hz : Limbs zs) (hlx : xs.length = la) (hu : usedN ys = n) (hn : 0 < n) (hnl : n ≤ la) (hm : zs.length ≤ la + 1) (e : num zs = num xs * 2 ^ s) :
    KInv (num xs * 2 ^ s) (num ys * 2 ^ s) n la (la + 1) (zs ++ List.replicate (la + 1 - zs.length) 0) := by
  have hl : (zs ++ List.replicate (la + 1 - zs.length) 0).length = la + 1 := by rw [List.length_append, List.length_replicate]; omega
  have hnum : num (zs ++ List.replicate (la + 1 - zs.length) 0) = num xs * 2 ^ s := by rw [num_append, num_zeros]; omega
  refine ⟨hl, hz.append (Limbs.zeros _), ?_, ?_⟩
  · rw [List.take_of_length_le (by omega), List.drop_of_length_le (by omega), hnum]; simp [num]
  · rw [List.take_of_length_le (by omega), hnum]
    have h1 := num_lt hx
    have h2 := num_ge_used hy (by omega)
    rw [hu] at h2
    rw [hlx] at h1
    have h3 : pw la = pw (n - 1) * pw (la + 1 - n) := by rw [← pw_add]; congr 1; omega
    have h4 : pw (n - 1) * pw (la + 1 - n) ≤ num ys * pw (la + 1 - n) := mul_le (Int.le_of_lt (pw_pos _)) h2
    have h5 : num xs * 2 ^ s < num ys * pw (la + 1 - n) * 2 ^ s := Int.mul_lt_mul_of_pos_right (by omega) (p2_pos s)
    have h6 : num ys * 2 ^ s * pw (la + 1 - n) = num ys * pw (la + 1 - n) * 2 ^ s := Int.mul_right_comm _ _ _
    omega
/-- What comes out, without the shift. -/
theorem unshift {x y q r P : Int} (hP : 0 < P) (h1 : r + q * (y * P) = x * P) (h2 : r < y * P) (h0 : 0 ≤ r) : x = q * y + r / P ∧ r / P < y ∧ 0 ≤ r / P := by
  have e : r = (x - q * y) * P := by grind
  have e2 : r / P = x - q * y := by rw [e, Int.mul_ediv_cancel _ (by omega)]
  rw [e2]
  refine ⟨by omega, ?_, ?_⟩
  · rw [e] at h2; exact lt_cancel hP h2
  · rw [e] at h0
    have : 0 * P ≤ (x - q * y) * P := by omega
    exact le_cancel hP this
end Go.Proofs.YtmjfkciaohbkoaaDoor

namespace Go.Proofs.YtmjfkciaohbkoaaDoor
open Go.RowKit Go.Shelf

theorem Sl.lower {w w' : World} {a : Option Addr} {len : Nat} {zs : List Int} {B : Nat} (h : Sl w a len zs) (hl : ∀ p, a = some p → p.block < B) (b : Below B w w') : Sl w' a len zs := by
  obtain ⟨h1, h2, h3⟩ := h
  refine ⟨h1, h2, fun h0 => ?_⟩
  obtain ⟨bb, off, rfl, hc⟩ := h3 h0
  refine ⟨bb, off, rfl, fun i hi => ?_⟩
  rw [b.cell (p := ⟨bb, off + i, none⟩) (show bb < B from hl ⟨bb, off, none⟩ rfl)]; exact hc i hi

end Go.Proofs.YtmjfkciaohbkoaaDoor

namespace Go.Proofs.YtmjfkciaohbkoaaDoor
open Go.RowKit Go.Shelf

theorem two_vars {w : World} {b c : Nat} {t : TypeId} {x y : Value} (V : Va w b t #[x]) (U : Va w c t #[y]) (hne : b ≠ c) (u v : Value) :
    Va ((w.setCell ⟨b, 0, none⟩ u).setCell ⟨c, 0, none⟩ v) b t #[u] ∧ Va ((w.setCell ⟨b, 0, none⟩ u).setCell ⟨c, 0, none⟩ v) c t #[v] :=
  ⟨(V.set u).other hne v, (U.other (p := ⟨b, 0, none⟩) hne.symm u).set v⟩
theorem Nt.store2 {w : World} {a : Option Addr} {len cap : Nat} {zs : List Int} (h : Nt w a len cap zs) {b c : Nat} {t : TypeId} {x x' : Option Addr} {y z y' z' : Nat} (V : Va w b t #[.slice x y z]) (U : Va w c t #[.slice x' y' z']) (hne : b ≠ c) (u v : Value) :
    Nt ((w.setCell ⟨b, 0, none⟩ u).setCell ⟨c, 0, none⟩ v) a len cap zs := (h.store V u).store (U.other (p := ⟨b, 0, none⟩) hne.symm u) v
theorem below_two {B : Nat} {a w : World} (h : Below B a w) {b c : Nat} (hb : B ≤ b) (hc : B ≤ c) (u v : Value) : Below B a ((w.setCell ⟨b, 0, none⟩ u).setCell ⟨c, 0, none⟩ v) :=
  (h.setCell (p := ⟨b, 0, none⟩) hb u).setCell (p := ⟨c, 0, none⟩) hc v

end Go.Proofs.YtmjfkciaohbkoaaDoor
namespace Go.Proofs.YtmjfkciaohbkoaaDoor
open Go.RowKit Go.Shelf

/-- What is still to be taken off stands from place i on. -/
def CInv (N : Int) (L i : Nat) (c : Int) (cs : List Int) : Prop := cs.length = L ∧ Limbs cs ∧ num cs - c * pw i = N ∧ 0 ≤ c ∧ c < 18446744073709551616
theorem ring_c {M c v y q p N : Int} (h : M - c * p = N) (h2 : v + 18446744073709551616 * q = y - c) : M + (v - y) * p - -q * (18446744073709551616 * p) = N := by grind
theorem cinv_in {N : Int} {L i : Nat} {c : Int} {cs : List Int} (I : CInv N L i c cs) (h0 : 0 ≤ N) (hc : 0 < c) : i < L := by
  obtain ⟨h1, h2, h3, h4, h5⟩ := I
  have h6 := num_lt h2
  rw [h1] at h6
  have h7 : 1 * pw i ≤ c * pw i := mul_le (Int.le_of_lt (pw_pos i)) (by omega)
  rcases Nat.lt_or_ge i L with h | h
  · exact h
  · have := pw_mono h; omega
theorem cinv_step {N : Int} {L i : Nat} {c : Int} {cs : List Int} (I : CInv N L i c cs) (h : i < L) :
    CInv N L (i + 1) (-((cs.getD i 0 - c) / 18446744073709551616)) (cs.set i ((cs.getD i 0 - c) % 18446744073709551616)) := by
  obtain ⟨h1, h2, h3, h4, h5⟩ := I
  have hb := h2.getD i
  have hs := num_set (cs := cs) (i := i) ((cs.getD i 0 - c) % 18446744073709551616) (by omega)
  have hpw : pw (i + 1) = 18446744073709551616 * pw i := rfl
  generalize cs.getD i 0 = y at *
  refine ⟨by rw [List.length_set]; exact h1, h2.set _ ⟨by omega, by omega⟩, ?_, by omega, by omega⟩
  rw [hs, hpw]
  exact ring_c h3 (by omega)
theorem cinv_end {N : Int} {L i : Nat} {cs : List Int} (I : CInv N L i 0 cs) : num cs = N := by
  have := I.2.2.1
  rw [Int.zero_mul] at this; omega

theorem apart_first {xs ds : List Int} {p c : Int} {lx L : Nat} (hx : xs.length = lx) (hl : lx < L) (B : BInv (List.replicate L 0) xs p 0 lx c ds) : (ds.set lx c).length = L ∧ Limbs (ds.set lx c) ∧ num (ds.set lx c) = num xs * p := by
  obtain ⟨b1, b2, b3, b4, b5, b6⟩ := B
  rw [List.length_replicate] at b1
  have z : ds.getD lx 0 = 0 := by
    rw [b3 lx (.inr (by omega)), List.getD_eq_getElem?_getD, List.getElem?_replicate]; split <;> rfl
  refine ⟨by rw [List.length_set]; exact b1, b2.set _ ⟨b5, b6⟩, ?_⟩
  rw [num_set c (by omega), z, Int.sub_zero]
  rw [num_zeros, List.take_of_length_le (by omega), Nat.zero_add] at b4
  simp only [pw, Int.mul_one] at b4
  omega
theorem apart_next {cs ys ds : List Int} {X q c N : Int} {ly L : Nat} (hy : ys.length = ly) (hl : cs.length = L) (hn : num cs = X) (hN : X - num ys * q = N) (R : RInv cs ys q 0 ly c ds) : CInv N L ly c ds := by
  obtain ⟨r1, r2, r3, r4, r5, r6⟩ := R
  rw [List.take_of_length_le (by omega), Nat.zero_add, hn] at r4
  simp only [pw, Int.mul_one] at r4
  exact ⟨by omega, r2, by omega, r5, r6⟩

end Go.Proofs.YtmjfkciaohbkoaaDoor

namespace Go.Proofs.YtmjfkciaohbkoaaDoor
open Go.RowKit Go.Shelf

end Go.Proofs.YtmjfkciaohbkoaaDoor

namespace Go.Proofs.YtmjfkciaohbkoaaDoor
open Go.RowKit Go.Shelf

theorem Va.other3 {w : World} {b c : Nat} {t : TypeId} {cs : Array Value} (h : Va w b t cs) (hne : b ≠ c) (x' y' z' : Value) : Va (((w.setCell ⟨c, 0, none⟩ x').setCell ⟨c, 1, none⟩ y').setCell ⟨c, 2, none⟩ z') b t cs :=
  ((h.other (p := ⟨c, 0, none⟩) hne x').other (p := ⟨c, 1, none⟩) hne y').other (p := ⟨c, 2, none⟩) hne z'
theorem below_3 {B : Nat} {a w : World} (h : Below B a w) {c : Nat} (hc : B ≤ c) (x y z : Value) : Below B a (((w.setCell ⟨c, 0, none⟩ x).setCell ⟨c, 1, none⟩ y).setCell ⟨c, 2, none⟩ z) :=
  ((h.setCell (p := ⟨c, 0, none⟩) hc x).setCell (p := ⟨c, 1, none⟩) hc y).setCell (p := ⟨c, 2, none⟩) hc z
theorem Va.drw {w : World} {b : Nat} {t : TypeId} {cs : Array Value} (h : Va w b t cs) : Va w.drew b t cs := h
end Go.Proofs.YtmjfkciaohbkoaaDoor
