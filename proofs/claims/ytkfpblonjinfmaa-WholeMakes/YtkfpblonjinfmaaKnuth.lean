/-
  Long division by guessing a limb of the quotient from the highest limbs: plain arithmetic.
-/
import Derived.Test.YtkfpblonjinfmaaRowp
namespace Go.Proofs.Ytkfpblonjinfmaa

/-- The guess is never too small: the piece's three highest limbs, the divisor's two highest. -/
structure Guess (p v q : Int) (u2 u1 u0 h l : Int) (n : Nat) : Prop where
  lo : p < (u2 * 18446744073709551616 * 18446744073709551616 + u1 * 18446744073709551616 + u0 + 1) * pw n
  hi : (h * 18446744073709551616 + l) * pw n ≤ v
  qv : q * v ≤ p
  v0 : 0 < v
  q0 : 0 ≤ q

theorem Guess.start {p v q u2 u1 u0 h l : Int} {n : Nat} (G : Guess p v q u2 u1 u0 h l n) (h0 : 0 < h) (l0 : 0 ≤ l) (hu0 : 0 ≤ u0) (hu0' : u0 < 18446744073709551616) {t r : Int} (hr : r < h) (e : t * h + r = u2 * 18446744073709551616 + u1) : q ≤ t := by
  obtain ⟨lo, hi, qv, v0, q0⟩ := G
  have hp := pw_pos n
  have a1 : q * ((h * 18446744073709551616 + l) * pw n) ≤ q * v := Int.mul_le_mul_of_nonneg_left hi q0
  have a2 : q * (h * 18446744073709551616 + l) * pw n < (u2 * 18446744073709551616 * 18446744073709551616 + u1 * 18446744073709551616 + u0 + 1) * pw n := by
    rw [Int.mul_assoc]; omega
  have a3 := lt_cancel hp a2
  have a4 : 0 ≤ q * l := Int.mul_nonneg q0 l0
  have a5 : q * (h * 18446744073709551616 + l) = (q * h) * 18446744073709551616 + q * l := by grind
  rw [a5] at a3
  have a6 : q * h < t * h + h := by omega
  have a7 : q * h < (t + 1) * h := by rw [Int.add_mul, Int.one_mul]; exact a6
  have := lt_cancel h0 a7
  omega
/-- What is too much is above the quotient. -/
theorem Guess.less {p v q u2 u1 u0 h l : Int} {n : Nat} (G : Guess p v q u2 u1 u0 h l n) {t r : Int} (ht : 0 ≤ t) (e : t * h + r = u2 * 18446744073709551616 + u1) (hm : r * 18446744073709551616 + u0 < t * l) : q + 1 ≤ t := by
  obtain ⟨lo, hi, qv, v0, q0⟩ := G
  have hp := pw_pos n
  have a1 : u2 * 18446744073709551616 * 18446744073709551616 + u1 * 18446744073709551616 + u0 + 1 ≤ t * (h * 18446744073709551616 + l) := by
    have : t * (h * 18446744073709551616 + l) = (t * h) * 18446744073709551616 + t * l := by grind
    rw [this]; omega
  have a2 := mul_le (Int.le_of_lt hp) a1
  have a3 : t * ((h * 18446744073709551616 + l) * pw n) ≤ t * v := Int.mul_le_mul_of_nonneg_left hi ht
  rw [← Int.mul_assoc] at a3
  have a4 : q * v < t * v := by omega
  have := lt_cancel v0 a4
  omega

/-- The piece and the divisor, by their limbs. -/
theorem guess_of {us vs : List Int} {n : Nat} (hu : Limbs us) (hv : Limbs vs) (lu : us.length = n + 3) (lv : vs.length = n + 2) {q : Int} (q0 : 0 ≤ q) (hq : q * num vs ≤ num us) (hpos : 0 < num vs) :
    Guess (num us) (num vs) q (us.getD (n + 2) 0) (us.getD (n + 1) 0) (us.getD n 0) (vs.getD (n + 1) 0) (vs.getD n 0) n := by
  refine ⟨?_, ?_, hq, hpos, q0⟩
  · have e2 := num_top us (n + 2) lu
    have e1 := num_take_succ us (n + 1)
    have e0 := num_take_succ us n
    have := num_take_lt hu n
    rw [e2, e1, e0]; simp only [pw]; grind
  · have e1 := num_top vs (n + 1) lv
    have e0 := num_take_succ vs n
    have := num_take_nonneg hv n
    rw [e1, e0]; simp only [pw]; grind
theorem quot_facts {p v : Int} (hv : 0 < v) (hp : 0 ≤ p) : 0 ≤ p / v ∧ p / v * v ≤ p ∧ p < (p / v + 1) * v := by
  refine ⟨Int.ediv_nonneg hp (by omega), Int.ediv_mul_le p (by omega), ?_⟩
  have h1 := Int.emod_lt_of_pos p hv
  have h2 := Int.mul_ediv_add_emod p v
  grind
/-- The piece is below 2^64 times the divisor: its highest limb is not above the divisor's. -/
theorem top_le {us vs : List Int} {n : Nat} (hu : Limbs us) (hv : Limbs vs) (lu : us.length = n + 2) (lv : vs.length = n + 1) (h : num us < num vs * 18446744073709551616) : us.getD (n + 1) 0 ≤ vs.getD n 0 := by
  have e1 := num_top us (n + 1) lu
  have e2 := num_top vs n lv
  have b1 := num_take_nonneg hu (n + 1)
  have b2 := num_take_lt hv n
  have hp := pw_pos n
  have : us.getD (n + 1) 0 * pw (n + 1) < (vs.getD n 0 + 1) * pw (n + 1) := by
    have : num vs * 18446744073709551616 < (vs.getD n 0 + 1) * pw (n + 1) := by
      simp only [pw]; rw [e2]; grind
    omega
  have := lt_cancel (pw_pos _) this
  omega

/-- One step of the long division: the piece loses t times the divisor, and t stands at its top. -/
theorem rest_top {us vs : List Int} {n : Nat} (hu : Limbs us) (lu : us.length = n + 1) (hV : num vs ≤ pw n) (h : num us < num vs) : us.getD n 0 = 0 := by
  have e1 := num_top us n lu
  have b1 := num_take_nonneg hu n
  have b2 := hu.getD n
  have hp := pw_pos n
  have : us.getD n 0 * pw n < 1 * pw n := by omega
  have := lt_cancel hp this
  omega

/-- What holds of the row behind some places of the quotient: e is how many limbs are not divided yet. -/
def KInv (A V : Int) (n m e : Nat) (cs : List Int) : Prop :=
  cs.length = m + 1 ∧ Limbs cs ∧ num (cs.take e) + num (cs.drop e) * pw (e - n) * V = A ∧ num (cs.take e) < V * pw (e - n)

theorem kinv_piece {A V : Int} {n m e : Nat} {cs : List Int} (I : KInv A V n m (e + 1) cs) (hn : n ≤ e) (hm : e ≤ m) : num ((cs.drop (e - n)).take (n + 1)) < V * 18446744073709551616 := by
  obtain ⟨h1, h2, h3, h4⟩ := I
  have e1 := num_take_drop (cs.take (e + 1)) (e - n) (by rw [List.length_take]; omega)
  rw [List.take_take, Nat.min_eq_left (by omega), List.drop_take, show e + 1 - (e - n) = n + 1 by omega] at e1
  have b1 := num_take_nonneg h2 (e - n)
  have : num ((cs.drop (e - n)).take (n + 1)) * pw (e - n) < V * 18446744073709551616 * pw (e - n) := by
    have : V * 18446744073709551616 * pw (e - n) = V * pw (e + 1 - n) := by
      rw [show e + 1 - n = (e - n) + 1 by omega, pw]; grind
    omega
  exact lt_cancel (pw_pos _) this
theorem kinv_step {A V t : Int} {n m e : Nat} {cs ds : List Int} (I : KInv A V n m (e + 1) cs) (hn : n ≤ e) (hm : e ≤ m) (hl : ds.length = cs.length) (hL : Limbs ds) (hout : ∀ j, j < e - n ∨ e + 1 ≤ j → ds.getD j 0 = cs.getD j 0)
    (hpc : num ((ds.drop (e - n)).take (n + 1)) = num ((cs.drop (e - n)).take (n + 1)) - t * V) (hlt : num ((ds.drop (e - n)).take (n + 1)) < V) (htop : ds.getD e 0 = 0) (ht : 0 ≤ t ∧ t < 18446744073709551616) : KInv A V n m e (ds.set e t) := by
  obtain ⟨h1, h2, h3, h4⟩ := I
  have hle : e < ds.length := by omega
  refine ⟨by rw [List.length_set]; omega, hL.set e ht, ?_, ?_⟩
  · have e1 := num_parts cs (e - n) (n + 1) (by omega)
    have e2 := num_parts ds (e - n) (n + 1) (by omega)
    have e3 := num_take_congr (a := ds) (b := cs) (e - n) (fun j hj => hout j (.inl hj))
    have e4 := num_drop_congr (a := ds) (b := cs) (e + 1) (fun j hj => hout j (.inr hj))
    rw [show e - n + (n + 1) = e + 1 by omega] at e1 e2
    have e5 := num_take_drop cs (e + 1) (by omega)
    have e6 := num_take_drop ds (e + 1) (by omega)
    have e7 := num_take_succ ds e
    rw [htop] at e7
    have e8 : num ((ds.set e t).take e) = num (ds.take e) := num_take_congr e (fun j hj => getD_set_other _ _ _ _ (by omega))
    have e9 := num_set_drop ds e t hle
    have e10 : pw (e + 1 - n) = 18446744073709551616 * pw (e - n) := by rw [show e + 1 - n = (e - n) + 1 by omega, pw]
    rw [e10] at h3
    rw [e8, e9, e4]
    rw [e3, e4, hpc] at e2
    rw [e4] at e6
    have e11 : num (ds.take (e + 1)) = num (cs.take (e + 1)) - t * V * pw (e - n) := by
      have := e1; have := e2; grind
    grind
  · have e8 : num ((ds.set e t).take e) = num (ds.take e) := num_take_congr e (fun j hj => getD_set_other _ _ _ _ (by omega))
    have e7 := num_take_succ ds e
    rw [htop] at e7
    have e1 := num_take_drop (ds.take (e + 1)) (e - n) (by rw [List.length_take]; omega)
    rw [List.take_take, Nat.min_eq_left (by omega), List.drop_take, show e + 1 - (e - n) = n + 1 by omega] at e1
    have b1 := num_take_lt hL (e - n)
    have b2 : (num ((ds.drop (e - n)).take (n + 1)) + 1) * pw (e - n) ≤ V * pw (e - n) := mul_le (Int.le_of_lt (pw_pos _)) (by omega)
    rw [e8]
    rw [Int.add_mul, Int.one_mul] at b2
    omega
theorem kinv_end {A V : Int} {n m : Nat} {cs : List Int} (I : KInv A V n m n cs) : num (cs.take n) + num (cs.drop n) * V = A ∧ num (cs.take n) < V := by
  obtain ⟨h1, h2, h3, h4⟩ := I
  rw [Nat.sub_self] at h3 h4
  simp only [pw, Int.mul_one] at h3 h4
  exact ⟨h3, h4⟩
end Go.Proofs.Ytkfpblonjinfmaa
