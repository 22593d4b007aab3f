/-
  Put together of: LessT, Knuth, Guess, Guess2, TakeP, TakeOff, Times, Divided, Divide2, DivMod.
-/
import Derived.Test.YtblafbbnplfpjaaGreatDoorMgAd
import Derived.Test.YtblafbbnplfpjaaGreatDoorMgAe
import Derived.Deep.RegionWith
import Derived.Test.YtblafbbnplfpjaaGreatDoorMgAa
import Derived.Test.YtblafbbnplfpjaaGreatDoorBsA
import Derived.Lib.SliceRun
import Derived.BigFrame
namespace Go.Proofs.YtblafbbnplfpjaaGreatDoor
open Go.RowKit Go.Shelf

set_option maxHeartbeats 1000000 in
theorem lessTimes_any (g off n cr cl : Nat) (cs0 ls : List Int) (l : Option Addr) (b : Int) (w : World) (ho : Own w g cs0) (hL : Limbs cs0) (hf : off + n ≤ cs0.length) (hl : Sx g w l n ls) (hn : n ≤ 40000000000000) (hb : Word b) :
    Calls Tryz.prog 205 #[.slice (some ⟨g, off, none⟩) n cr, .slice l n cl, .int .u64 b] w fun e w' =>
      ∃ c ds, e = .returned (.int .u64 c) ∧ Own w' g ds ∧ RInv cs0 ls b off n c ds ∧ Only g w w' := by
  have HI0 : Hid (RInv cs0 ls b off 0 0 cs0) := rinv_start hL
  have HO0 : Hid (Own w g cs0) := ho
  have HSX : Hid (Sx g w l n ls) := hl
  have hLl := hl.1.2.1
  have HLL : Hid (Limbs ls) := hLl
  clear ho hl hLl
  go_enter Tryz.func205, Tryz.ntmps205
  go_wp2_with fail
  go_loopw [7, 16] (fun cc i wr => ∃ (k : Nat) (c : Int) (cs : List Int), k ≤ n ∧ i = .int .i64 k ∧ cc = .int .u64 c ∧ Hid (RInv cs0 ls b off k c cs) ∧ Hid (Own wr g cs) ∧ Hid (Only g w wr)) (fun _ i _ => n - (intOf i).toNat)
  case atStart => exact ⟨0, 0, _, Nat.zero_le _, rfl, rfl, HI0, HO0, Only.refl _ _⟩
  case round =>
    obtain ⟨k, c, cs, hk, rfl, rfl, hI, ho, hbl⟩ := hrel
    by_cases hlt : k < n
    · have hlen := hI.out.1
      have hcx := ho.out.cell (off + k) (by omega)
      have hfx := ho.out.frozen (off + k)
      obtain ⟨⟨hz, -, hs3⟩, -⟩ := HSX.out.only hbl.out
      obtain ⟨lb, lo, rfl, hcl⟩ := hs3 (by omega)
      have hcy := hcl k hlt
      have hw1 := hI.out.2.1.getD (off + k)
      have hw2 := HLL.out.getD k
      have hc0 := hI.out.2.2.2.2.1
      have hc1 := hI.out.2.2.2.2.2
      have hstep := rinv_step HLL.out hb hI.out (show off + k < cs0.length by omega)
      obtain ⟨x, hx⟩ : ∃ x, ls.getD k 0 = x := ⟨_, rfl⟩
      obtain ⟨y, hy⟩ : ∃ y, cs.getD (off + k) 0 = y := ⟨_, rfl⟩
      rw [hx] at hcy hw2
      rw [hy] at hcx hw1
      rw [hx, hy] at hstep
      have M := mul_any x b hw2 hb wr
      obtain ⟨hh, hh1⟩ : ∃ h, x * b / 18446744073709551616 = h := ⟨_, rfl⟩
      obtain ⟨ll, ll1⟩ : ∃ l, x * b % 18446744073709551616 = l := ⟨_, rfl⟩
      have hxb : x * b = hh * 18446744073709551616 + ll := by omega
      rw [hh1, ll1] at M
      have hlw : Word ll := by rw [← ll1]; exact word_mod _
      have hlw' := hlw
      obtain ⟨l1, l2⟩ := hlw'
      have A := sub_any y ll c hw1 hlw ⟨hc0, hc1⟩ wr
      have q1 : (y - x * b - c) % 18446744073709551616 = (y - ll - c) % 18446744073709551616 := by rw [hxb]; omega
      have q2 : -((y - x * b - c) / 18446744073709551616) = hh - (y - ll - c) / 18446744073709551616 := by rw [hxb]; omega
      rw [q1, q2] at hstep
      have p1 := hstep.2.2.2.2.1
      have p2 := hstep.2.2.2.2.2
      have hh0 : 0 ≤ hh := by rw [← hh1]; exact Int.ediv_nonneg (Int.mul_nonneg hw2.1 hb.1) (by omega)
      obtain ⟨V, hV⟩ : ∃ V, (y - ll - c) % 18446744073709551616 = V := ⟨_, rfl⟩
      obtain ⟨E, hE⟩ : ∃ E, -((y - ll - c) / 18446744073709551616) = E := ⟨_, rfl⟩
      rw [hV, hE] at A
      rw [hV] at hstep
      have hcc : hh - (y - ll - c) / 18446744073709551616 = hh + E := by omega
      rw [hcc] at hstep p1 p2
      have he0 : 0 ≤ E := by omega
      have HS : Hid (RInv cs0 ls b off (k + 1) (hh + E) (cs.set (off + k) V)) := hstep
      clear hstep hx hy hh1 ll1 hxb q1 q2 hV hE hcc hcl hs3 hz
      go_wp2_with fail
      refine M.mono ?_
      rintro e w2 ⟨rfl, rfl⟩
      go_wp2_with fail
      refine A.mono ?_
      rintro e w2 ⟨rfl, rfl⟩
      go_wp2_with fail
      go_roundw
      case rel => exact ⟨k + 1, _, _, by omega, by go_num, rfl, HS, Own.set ho.out (off + k) _, Only.set hbl.out (off + k) _⟩
      case measure => simp [intOf]; omega
    · obtain rfl : k = n := by omega
      go_wp2_with fail
      go_ret
      exact ⟨c, cs, rfl, ho.out, hI.out, hbl.out⟩
end Go.Proofs.YtblafbbnplfpjaaGreatDoor

namespace Go.Proofs.YtblafbbnplfpjaaGreatDoor

/-- The guess is never too small: the piece's three highest limbs, the divisor's two highest. -/
structure Guess (p v q : Int) (u2 u1 u0 h l : Int) (n : Nat) : Prop where
  lo : p < (u2 * 18446744073709551616 * 18446744073709551616 + u1 * 18446744073709551616 + u0 + 1) * pw n
  hi : (h * 18446744073709551616 + l) * pw n ≤ v
  qv : q * v ≤ p
  v0 : 0 < v
  q0 : 0 ≤ q

theorem Guess.start {p v q u2 u1 u0 h l : Int} {n : Nat} (G : Guess p v q u2 u1 u0 h l n) (h0 : 0 < h) (l0 : 0 ≤ l) (hu0 : 0 ≤ u0) (hu0' : u0 < 18446744073709551616) {t r : Int} (hr : r < h) (e : t * h + r = u2 * 18446744073709551616 + u1) : q ≤ t := by
  obtain ⟨lo, hi, qv, v0, q0⟩ := G
  have hp := pw_pos n
  have a1 : q * ((h * 18446744073709551616 + l) * pw n) ≤ q * v := Int.mul_le_mul_of_nonneg_left hi q0
  have a2 : q * (h * 18446744073709551616 + l) * pw n < (u2 * 18446744073709551616 * 18446744073709551616 + u1 * 18446744073709551616 + u0 + 1) * pw n := by
    rw [Int.mul_assoc]; omega
  have a3 := lt_cancel hp a2
  have a4 : 0 ≤ q * l := Int.mul_nonneg q0 l0
  have a5 : q * (h * 18446744073709551616 + l) = (q * h) * 18446744073709551616 + q * l := by grind
  rw [a5] at a3
  have a6 : q * h < t * h + h := by omega
  have a7 : q * h < (t + 1) * h := by rw [Int.add_mul, Int.one_mul]; exact a6
  have := lt_cancel h0 a7
  omega
/-- What is too much is above the quotient. -/
theorem Guess.less {p v q u2 u1 u0 h l : Int} {n : Nat} (G : Guess p v q u2 u1 u0 h l n) {t r : Int} (ht : 0 ≤ t) (e : t * h + r = u2 * 18446744073709551616 + u1) (hm : r * 18446744073709551616 + u0 < t * l) : q + 1 ≤ t := by
  obtain ⟨lo, hi, qv, v0, q0⟩ := G
  have hp := pw_pos n
  have a1 : u2 * 18446744073709551616 * 18446744073709551616 + u1 * 18446744073709551616 + u0 + 1 ≤ t * (h * 18446744073709551616 + l) := by
    have : t * (h * 18446744073709551616 + l) = (t * h) * 18446744073709551616 + t * l := by grind
    rw [this]; omega
  have a2 := mul_le (Int.le_of_lt hp) a1
  have a3 : t * ((h * 18446744073709551616 + l) * pw n) ≤ t * v := Int.mul_le_mul_of_nonneg_left hi ht
  rw [← Int.mul_assoc] at a3
  have a4 : q * v < t * v := by omega
  have := lt_cancel v0 a4
  omega

/-- The piece and the divisor, by their limbs. -/
theorem guess_of {us vs : List Int} {n : Nat} (hu : Limbs us) (hv : Limbs vs) (lu : us.length = n + 3) (lv : vs.length = n + 2) {q : Int} (q0 : 0 ≤ q) (hq : q * num vs ≤ num us) (hpos : 0 < num vs) :
    Guess (num us) (num vs) q (us.getD (n + 2) 0) (us.getD (n + 1) 0) (us.getD n 0) (vs.getD (n + 1) 0) (vs.getD n 0) n := by
  refine ⟨?_, ?_, hq, hpos, q0⟩
  · have e2 := num_top us (n + 2) lu
    have e1 := num_take_succ us (n + 1)
    have e0 := num_take_succ us n
    have := num_take_lt hu n
    rw [e2, e1, e0]; simp only [pw]; grind
  · have e1 := num_top vs (n + 1) lv
    have e0 := num_take_succ vs n
    have := num_take_nonneg hv n
    rw [e1, e0]; simp only [pw]; grind
theorem quot_facts {p v : Int} (hv : 0 < v) (hp : 0 ≤ p) : 0 ≤ p / v ∧ p / v * v ≤ p ∧ p < (p / v + 1) * v := by
  refine ⟨Int.ediv_nonneg hp (by omega), Int.ediv_mul_le p (by omega), ?_⟩
  have h1 := Int.emod_lt_of_pos p hv
  have h2 := Int.mul_ediv_add_emod p v
  grind
/-- The piece is below 2^64 times the divisor: its highest limb is not above the divisor's. -/
theorem top_le {us vs : List Int} {n : Nat} (hu : Limbs us) (hv : Limbs vs) (lu : us.length = n + 2) (lv : vs.length = n + 1) (h : num us < num vs * 18446744073709551616) : us.getD (n + 1) 0 ≤ vs.getD n 0 := by
  have e1 := num_top us (n + 1) lu
  have e2 := num_top vs n lv
  have b1 := num_take_nonneg hu (n + 1)
  have b2 := num_take_lt hv n
  have hp := pw_pos n
  have : us.getD (n + 1) 0 * pw (n + 1) < (vs.getD n 0 + 1) * pw (n + 1) := by
    have : num vs * 18446744073709551616 < (vs.getD n 0 + 1) * pw (n + 1) := by
      simp only [pw]; rw [e2]; grind
    omega
  have := lt_cancel (pw_pos _) this
  omega

/-- One step of the long division: the piece loses t times the divisor, and t stands at its top. -/
theorem rest_top {us vs : List Int} {n : Nat} (hu : Limbs us) (lu : us.length = n + 1) (hV : num vs ≤ pw n) (h : num us < num vs) : us.getD n 0 = 0 := by
  have e1 := num_top us n lu
  have b1 := num_take_nonneg hu n
  have b2 := hu.getD n
  have hp := pw_pos n
  have : us.getD n 0 * pw n < 1 * pw n := by omega
  have := lt_cancel hp this
  omega

/-- What holds of the row behind some places of the quotient: e is how many limbs are not divided yet. -/
def KInv (A V : Int) (n m e : Nat) (cs : List Int) : Prop :=
  cs.length = m + 1 ∧ Limbs cs ∧ num (cs.take e) + num (cs.drop e) * pw (e - n) * V = A ∧ num (cs.take e) < V * pw (e - n)

theorem kinv_piece {A V : Int} {n m e : Nat} {cs : List Int} (I : KInv A V n m (e + 1) cs) (hn : n ≤ e) (hm : e ≤ m) : num ((cs.drop (e - n)).take (n + 1)) < V * 18446744073709551616 := by
  obtain ⟨h1, h2, h3, h4⟩ := I
  have e1 := num_take_drop (cs.take (e + 1)) (e - n) (by rw [List.length_take]; omega)
  rw [List.take_take, Nat.min_eq_left (by omega), List.drop_take, show e + 1 - (e - n) = n + 1 by omega] at e1
  have b1 := num_take_nonneg h2 (e - n)
  have : num ((cs.drop (e - n)).take (n + 1)) * pw (e - n) < V * 18446744073709551616 * pw (e - n) := by
    have : V * 18446744073709551616 * pw (e - n) = V * pw (e + 1 - n) := by
      rw [show e + 1 - n = (e - n) + 1 by omega, pw]; grind
    omega
  exact lt_cancel (pw_pos _) this
theorem kinv_step {A V t : Int} {n m e : Nat} {cs ds : List Int} (I : KInv A V n m (e + 1) cs) (hn : n ≤ e) (hm : e ≤ m) (hl : ds.length = cs.length) (hL : Limbs ds) (hout : ∀ j, j < e - n ∨ e + 1 ≤ j → ds.getD j 0 = cs.getD j 0)
    (hpc : num ((ds.drop (e - n)).take (n + 1)) = num ((cs.drop (e - n)).take (n + 1)) - t * V) (hlt : num ((ds.drop (e - n)).take (n + 1)) < V) (htop : ds.getD e 0 = 0) (ht : 0 ≤ t ∧ t < 18446744073709551616) : KInv A V n m e (ds.set e t) := by
  obtain ⟨h1, h2, h3, h4⟩ := I
  have hle : e < ds.length := by omega
  refine ⟨by rw [List.length_set]; omega, hL.set e ht, ?_, ?_⟩
  · have e1 := num_parts cs (e - n) (n + 1) (by omega)
    have e2 := num_parts ds (e - n) (n + 1) (by omega)
    have e3 := num_take_congr (a := ds) (b := cs) (e - n) (fun j hj => hout j (.inl hj))
    have e4 := num_drop_congr (a := ds) (b := cs) (e + 1) (fun j hj => hout j (.inr hj))
    rw [show e - n + (n + 1) = e + 1 by omega] at e1 e2
    have e5 := num_take_drop cs (e + 1) (by omega)
    have e6 := num_take_drop ds (e + 1) (by omega)
    have e7 := num_take_succ ds e
    rw [htop] at e7
    have e8 : num ((ds.set e t).take e) = num (ds.take e) := num_take_congr e (fun j hj => getD_set_other _ _ _ _ (by omega))
    have e9 := num_set_drop ds e t hle
    have e10 : pw (e + 1 - n) = 18446744073709551616 * pw (e - n) := by rw [show e + 1 - n = (e - n) + 1 by omega, pw]
    rw [e10] at h3
    rw [e8, e9, e4]
    rw [e3, e4, hpc] at e2
    rw [e4] at e6
    have e11 : num (ds.take (e + 1)) = num (cs.take (e + 1)) - t * V * pw (e - n) := by
      have := e1; have := e2; grind
    grind
  · have e8 : num ((ds.set e t).take e) = num (ds.take e) := num_take_congr e (fun j hj => getD_set_other _ _ _ _ (by omega))
    have e7 := num_take_succ ds e
    rw [htop] at e7
    have e1 := num_take_drop (ds.take (e + 1)) (e - n) (by rw [List.length_take]; omega)
    rw [List.take_take, Nat.min_eq_left (by omega), List.drop_take, show e + 1 - (e - n) = n + 1 by omega] at e1
    have b1 := num_take_lt hL (e - n)
    have b2 : (num ((ds.drop (e - n)).take (n + 1)) + 1) * pw (e - n) ≤ V * pw (e - n) := mul_le (Int.le_of_lt (pw_pos _)) (by omega)
    rw [e8]
    rw [Int.add_mul, Int.one_mul] at b2
    omega
theorem kinv_end {A V : Int} {n m : Nat} {cs : List Int} (I : KInv A V n m n cs) : num (cs.take n) + num (cs.drop n) * V = A ∧ num (cs.take n) < V := by
  obtain ⟨h1, h2, h3, h4⟩ := I
  rw [Nat.sub_self] at h3 h4
  simp only [pw, Int.mul_one] at h3 h4
  exact ⟨h3, h4⟩
end Go.Proofs.YtblafbbnplfpjaaGreatDoor

namespace Go.Proofs.YtblafbbnplfpjaaGreatDoor
open Go.RowKit Go.Shelf

/-- Whether a product of two limbs is above a number of two limbs. -/
def above2 (t l h u : Int) : Bool := decide (h * 18446744073709551616 + u < t * l)
theorem tooMuch_any (t l h u : Int) (ht : Word t) (hl : Word l) (hh : Word h) (hu : Word u) (w : World) :
    Calls Tryz.prog 213 #[.int .u64 t, .int .u64 l, .int .u64 h, .int .u64 u] w fun e w' => e = .returned (.bool (above2 t l h u)) ∧ ∃ n, w' = w.drewN n := by
  have M := mul_any t l ht hl w
  obtain ⟨p, hp⟩ : ∃ p, t * l / 18446744073709551616 = p := ⟨_, rfl⟩
  obtain ⟨q, hq⟩ : ∃ q, t * l % 18446744073709551616 = q := ⟨_, rfl⟩
  have hA : above2 t l h u = decide (h < p ∨ p = h ∧ u < q) := by
    obtain ⟨h1, h2⟩ := hh; obtain ⟨u1, u2⟩ := hu
    unfold above2
    rw [decide_eq_decide]
    generalize t * l = x at *
    omega
  rw [hp, hq] at M
  clear hp hq
  rcases Int.lt_trichotomy h p with hc | hc | hc
  · have hr : above2 t l h u = true := by rw [hA]; simp [hc]
    rw [hr]
    clear hA hr
    go_enter Tryz.func213, Tryz.ntmps213
    go_wp2_with fail
    refine M.mono ?_
    rintro e w' ⟨rfl, rfl⟩
    go_wp2_with fail
    go_ret
    exact ⟨rfl, 0, rfl⟩
  · subst hc
    have hr : above2 t l h u = decide (u < q) := by rw [hA]; simp
    rw [hr]
    clear hA hr
    go_enter Tryz.func213, Tryz.ntmps213
    go_wp2_with fail
    refine M.mono ?_
    rintro e w' ⟨rfl, rfl⟩
    go_wp2_with fail
    go_ret
    exact ⟨rfl, 0, rfl⟩
  · have hr : above2 t l h u = decide (h < p) := by rw [hA, decide_eq_decide]; omega
    rw [hr]
    have g1 : (p == h) = false := by simp; omega
    clear hA hr
    go_enter Tryz.func213, Tryz.ntmps213
    go_wp2_with fail
    refine M.mono ?_
    rintro e w' ⟨rfl, rfl⟩
    go_wp2_with fail
    go_ret
    exact ⟨rfl, 0, rfl⟩
end Go.Proofs.YtblafbbnplfpjaaGreatDoor

namespace Go.Proofs.YtblafbbnplfpjaaGreatDoor
open Go.RowKit Go.Shelf
set_option maxHeartbeats 1000000 in
theorem guess_any (pb po vb vo n k cp cv : Nat) (us vs : List Int) (w : World) (hk : k = n + 1) (hu : Sl w (some ⟨pb, po, none⟩) k us) (hv : Sl w (some ⟨vb, vo, none⟩) n vs) (hm : n ≤ 10000000000000) (hn2 : 2 ≤ n)
    (hlt : num us < num vs * 18446744073709551616) (htop : 0 < vs.getD (n - 1) 0) :
    Calls Tryz.prog 208 #[.slice (some ⟨pb, po, none⟩) k cp, .slice (some ⟨vb, vo, none⟩) n cv] w fun e w' => ∃ t, e = .returned (.int .u64 t) ∧ Word t ∧ num us / num vs ≤ t ∧ ∃ n, w' = w.drewN n := by
  have cu : ∀ i, i < k → w.cell? ⟨pb, po + i, none⟩ = some (.int .u64 (us.getD i 0)) := by
    obtain ⟨b, o, e, h⟩ := hu.2.2 (by omega)
    cases e; exact h
  have cv' : ∀ i, i < n → w.cell? ⟨vb, vo + i, none⟩ = some (.int .u64 (vs.getD i 0)) := by
    obtain ⟨b, o, e, h⟩ := hv.2.2 (by omega)
    cases e; exact h
  have cu2 := cu n (by omega)
  have cu1 := cu (n - 1) (by omega)
  have cu0 := cu (n - 2) (by omega)
  have cv1 := cv' (n - 1) (by omega)
  have cv0 := cv' (n - 2) (by omega)
  have wu2 := hu.2.1.getD n; have wu1 := hu.2.1.getD (n - 1); have wu0 := hu.2.1.getD (n - 2)
  have wv1 := hv.2.1.getD (n - 1); have wv0 := hv.2.1.getD (n - 2)
  obtain ⟨u2, hu2⟩ : ∃ x, us.getD n 0 = x := ⟨_, rfl⟩
  obtain ⟨u1, hu1⟩ : ∃ x, us.getD (n - 1) 0 = x := ⟨_, rfl⟩
  obtain ⟨u0, hu0⟩ : ∃ x, us.getD (n - 2) 0 = x := ⟨_, rfl⟩
  obtain ⟨v1, hv1⟩ : ∃ x, vs.getD (n - 1) 0 = x := ⟨_, rfl⟩
  obtain ⟨v0, hv0⟩ : ∃ x, vs.getD (n - 2) 0 = x := ⟨_, rfl⟩
  rw [hu2] at cu2 wu2
  rw [hu1] at cu1 wu1
  rw [hu0] at cu0 wu0
  rw [hv1] at cv1 wv1 htop
  rw [hv0] at cv0 wv0
  clear cu cv'
  have e1 : ((n : Int) - 1).toNat = n - 1 := by omega
  have e2 : ((n : Int) - 2).toNat = n - 2 := by omega
  have ew1 : IntKind.i64.wrap ((n : Int) - 1) = n - 1 := by rw [IntKind.wrap_i64]; omega
  have ew2 : IntKind.i64.wrap ((n : Int) - 2) = n - 2 := by rw [IntKind.wrap_i64]; omega
  have hz := hu.1
  have hzv := hv.1
  have hpos : 0 < num vs := by
    have e := num_top vs (n - 1) (by omega)
    have h1 := num_take_nonneg hv.2.1 (n - 1)
    have h2 := pw_pos (n - 1)
    rw [hv1] at e
    have : 1 * pw (n - 1) ≤ v1 * pw (n - 1) := mul_le (by omega) (by omega)
    omega
  obtain ⟨q0, q1, q2⟩ := quot_facts hpos (num_nonneg hu.2.1)
  have hG := guess_of (n := n - 2) hu.2.1 hv.2.1 (by omega) (by omega) q0 q1 hpos
  have hle := top_le (n := n - 1) hu.2.1 hv.2.1 (by omega) (by omega) hlt
  rw [show n - 2 + 2 = n by omega, show n - 2 + 1 = n - 1 by omega] at hG
  rw [show n - 1 + 1 = n by omega] at hle
  rw [hu2, hu1, hu0, hv1, hv0] at hG
  rw [hu2, hv1] at hle
  obtain ⟨Q, hQ⟩ : ∃ Q, num us / num vs = Q := ⟨_, rfl⟩
  rw [hQ] at hG q0 q1 q2 ⊢
  have hQB : Q < 18446744073709551616 := by
    have : Q * num vs < 18446744073709551616 * num vs := by rw [Int.mul_comm 18446744073709551616]; omega
    exact lt_cancel hpos this
  have GU : Hid (Guess (num us) (num vs) Q u2 u1 u0 v1 v0 (n - 2)) := hG
  have hk1 : n < k := by omega
  have hk2 : n - 1 < k := by omega
  have hk3 : n - 2 < k := by omega
  have hk4 : k ≤ 10000000000001 := by omega
  have q3 : decide (n < k) = true := by simp; omega
  have q4 : decide (k ≤ n) = false := by simp; omega
  have q5 : decide ((n : Int) < k) = true := by simp; omega
  have q6 : decide ((k : Int) ≤ n) = false := by simp; omega
  have q7 : (n : Int) - 1 < k := by omega
  have q8 : 0 ≤ (n : Int) - 1 := by omega
  have q9 : n - 1 < k := by omega
  have q10 : 1 ≤ (n : Int) := by omega
  have q11 : 2 ≤ (n : Int) := by omega
  have HQ00 : Hid (0 ≤ Q) := q0
  clear hk hu hv hz hzv hpos q0 q1 q2 hG hQ hlt hu2 hu1 hu0 hv1 hv0
  by_cases hc : u2 < v1
  · obtain ⟨tt, htt⟩ : ∃ t, (u2 * 18446744073709551616 + u1) / v1 = t := ⟨_, rfl⟩
    obtain ⟨rr, hrr⟩ : ∃ r, (u2 * 18446744073709551616 + u1) % v1 = r := ⟨_, rfl⟩
    have d1 := Int.mul_ediv_add_emod (u2 * 18446744073709551616 + u1) v1
    have d2 := Int.emod_nonneg (u2 * 18446744073709551616 + u1) (show v1 ≠ 0 by omega)
    have d3 := Int.emod_lt_of_pos (u2 * 18446744073709551616 + u1) (show 0 < v1 by omega)
    have d4 : 0 ≤ (u2 * 18446744073709551616 + u1) / v1 := Int.ediv_nonneg (by omega) (by omega)
    have D := fun W => div_ok u2 u1 v1 wu2 wu1 wv1 hc W
    simp only [htt, hrr] at D
    rw [htt] at d1 d4
    rw [hrr] at d1 d2 d3
    have e7 : tt * v1 + rr = u2 * 18446744073709551616 + u1 := by rw [Int.mul_comm]; omega
    have d5 : tt < 18446744073709551616 := by
      have h1 : (u2 + 1) * 18446744073709551616 ≤ v1 * 18446744073709551616 := mul_le (by decide) (by omega)
      have : tt * v1 < 18446744073709551616 * v1 := by rw [Int.mul_comm 18446744073709551616]; omega
      exact lt_cancel (show 0 < v1 by omega) this
    have hqt : Q ≤ tt := GU.out.start (by omega) wv0.1 wu0.1 wu0.2 d3 e7
    have HT0 : Hid (Word tt) := ⟨d4, d5⟩
    have HR0 : Hid (Word rr) := ⟨d2, by omega⟩
    have HE0 : Hid (tt * v1 + (0 * 18446744073709551616 + rr) = u2 * 18446744073709551616 + u1) := by show _ = _; omega
    have HQ0 : Hid (Q ≤ tt) := hqt
    have HD : Hid (∀ W, Calls Tryz.prog 182 #[.int .u64 u2, .int .u64 u1, .int .u64 v1] W fun e w' => e = .returned (.tuple #[.int .u64 tt, .int .u64 rr, .int .i64 0]) ∧ ∃ n, w' = W.drewN n) := D
    clear d1 d2 d3 d4 d5 D htt hrr e7 hqt
    go_enter Tryz.func208, Tryz.ntmps208
    go_wp2_with fail
    go_quiet (fail)
    go_wp2_with fail
    go_quiet ((go_at_call 182; refine (HD.out _).mono ?_; rintro e w2 ⟨rfl, x, rfl⟩; exact ⟨rfl, _, by rw [World.drewN_drewN, Nat.add_assoc]⟩))
    go_wp2_with fail
    go_loopw [8, 9, 10] (fun tt rr oo wr => ∃ (t r o : Int) (q : Nat), tt = .int .u64 t ∧ rr = .int .u64 r ∧ oo = .int .u64 o ∧ wr = w.drewN q ∧ Hid (Word t) ∧ Hid (Word r) ∧ 0 ≤ o ∧ o ≤ 1 ∧ Hid (t * v1 + (o * 18446744073709551616 + r) = u2 * 18446744073709551616 + u1) ∧ Hid (Q ≤ t)) (fun tt _ _ _ => (intOf tt).toNat)
    case atStart => exact ⟨_, _, _, _, rfl, rfl, rfl, by first | rfl | rw [World.drewN_drewN], HT0, HR0, by decide, by decide, HE0, HQ0⟩
    case round =>
      obtain ⟨t, r, o, k, rfl, rfl, rfl, rfl, ht, hr, ho0, ho1, he, hq⟩ := hrel
      have ho : o = 0 ∨ o = 1 := by omega
      clear ho0 ho1
      rcases ho with rfl | rfl
      · have T := tooMuch_any t v0 r u0 ht.out wv0 hr.out wu0
        by_cases hab : above2 t v0 r u0 = true
        · rw [hab] at T
          have h1 : Q + 1 ≤ t := GU.out.less ht.out.1 (by have := he.out; omega) (by simpa [above2] using hab)
          have HT : Hid (∀ W, Calls Tryz.prog 213 #[.int .u64 t, .int .u64 v0, .int .u64 r, .int .u64 u0] W fun e w' => e = .returned (.bool true) ∧ ∃ n, w' = W.drewN n) := T
          clear T hab
          go_wp2_with fail
          refine (HT.out _).mono ?_
          rintro e w2 ⟨rfl, x, rfl⟩
          go_wp2_with fail
          have A := fun W => add_any r v1 0 hr.out wv1 ⟨by decide, by decide⟩ W
          obtain ⟨r2, hr2⟩ : ∃ x, (r + v1 + 0) % 18446744073709551616 = x := ⟨_, rfl⟩
          obtain ⟨o2, ho2⟩ : ∃ x, (r + v1 + 0) / 18446744073709551616 = x := ⟨_, rfl⟩
          simp only [hr2, ho2] at A
          have hrw := hr.out
          have htw := ht.out
          have hrw1 := hrw.1; have hrw2 := hrw.2; have htw1 := htw.1; have htw2 := htw.2
          have Wv1 := wv1
          have HR2 : Hid (Word r2) := ⟨by omega, by omega⟩
          have p0 : 0 ≤ o2 := by omega
          have p1 : o2 ≤ 1 := by omega
          have HE2 : Hid ((t - 1) * v1 + (o2 * 18446744073709551616 + r2) = u2 * 18446744073709551616 + u1) := by
            show _ = _
            have := he.out
            rw [Int.sub_mul, Int.one_mul]; omega
          have hq00 := HQ00.out
          have HT2 : Hid (Word (t - 1)) := ⟨by omega, by omega⟩
          have HQ2 : Hid (Q ≤ t - 1) := by show _ ≤ _; omega
          have ewt : IntKind.u64.wrap (t - 1) = t - 1 := by rw [IntKind.wrap_u64]; omega
          clear hr2 ho2 hrw htw
          refine (A _).mono ?_
          rintro e w3 ⟨rfl, rfl⟩
          go_wp2_with fail
          go_roundw
          case rel => exact ⟨t - 1, r2, o2, _, rfl, rfl, rfl, rfl, HT2, HR2, p0, p1, HE2, HQ2⟩
          case measure => simp [intOf]; omega
        · have hab' : above2 t v0 r u0 = false := by simpa using hab
          rw [hab'] at T
          clear hab hab'
          go_wp2_with fail
          refine (T _).mono ?_
          rintro e w2 ⟨rfl, x, rfl⟩
          go_wp2_with fail
          go_ret
          exact ⟨t, rfl, ht.out, hq.out, _, rfl⟩
      · go_wp2_with fail
        go_ret
        exact ⟨t, rfl, ht.out, hq.out, k, rfl⟩
  · obtain rfl : u2 = v1 := by omega
    have A := fun W => add_any u1 u2 0 wu1 wu2 ⟨by decide, by decide⟩ W
    obtain ⟨rr, hrr⟩ : ∃ r, (u1 + u2 + 0) % 18446744073709551616 = r := ⟨_, rfl⟩
    obtain ⟨oo, hoo⟩ : ∃ o, (u1 + u2 + 0) / 18446744073709551616 = o := ⟨_, rfl⟩
    simp only [hrr, hoo] at A
    have HT0 : Hid (Word 18446744073709551615) := ⟨by decide, by decide⟩
    have HR0 : Hid (Word rr) := ⟨by omega, by omega⟩
    have o0 : 0 ≤ oo := by omega
    have o1 : oo ≤ 1 := by omega
    have HE0 : Hid (18446744073709551615 * u2 + (oo * 18446744073709551616 + rr) = u2 * 18446744073709551616 + u1) := by show _ = _; omega
    have HQ0 : Hid (Q ≤ 18446744073709551615) := by show _ ≤ _; omega
    have HA : Hid (∀ W, Calls Tryz.prog 203 #[.int .u64 u1, .int .u64 u2, .int .u64 0] W fun e w' => e = .returned (.tuple #[.int .u64 rr, .int .u64 oo]) ∧ w' = W) := A
    clear A hrr hoo
    go_enter Tryz.func208, Tryz.ntmps208
    go_wp2_with fail
    go_quiet (fail)
    go_wp2_with fail
    refine (HA.out _).mono ?_
    rintro e w2 ⟨rfl, hw2⟩
    rw [hw2]
    clear hw2
    go_wp2_with fail
    go_loopw [8, 9, 10] (fun tt rr oo wr => ∃ (t r o : Int) (q : Nat), tt = .int .u64 t ∧ rr = .int .u64 r ∧ oo = .int .u64 o ∧ wr = w.drewN q ∧ Hid (Word t) ∧ Hid (Word r) ∧ 0 ≤ o ∧ o ≤ 1 ∧ Hid (t * u2 + (o * 18446744073709551616 + r) = u2 * 18446744073709551616 + u1) ∧ Hid (Q ≤ t)) (fun tt _ _ _ => (intOf tt).toNat)
    case atStart => exact ⟨_, _, _, _, rfl, rfl, rfl, by first | rfl | rw [World.drewN_drewN], HT0, HR0, o0, o1, HE0, HQ0⟩
    case round =>
      obtain ⟨t, r, o, k, rfl, rfl, rfl, rfl, ht, hr, ho0, ho1, he, hq⟩ := hrel
      have ho : o = 0 ∨ o = 1 := by omega
      clear ho0 ho1
      rcases ho with rfl | rfl
      · have T := tooMuch_any t v0 r u0 ht.out wv0 hr.out wu0
        by_cases hab : above2 t v0 r u0 = true
        · rw [hab] at T
          have h1 : Q + 1 ≤ t := GU.out.less ht.out.1 (by have := he.out; omega) (by simpa [above2] using hab)
          have HT : Hid (∀ W, Calls Tryz.prog 213 #[.int .u64 t, .int .u64 v0, .int .u64 r, .int .u64 u0] W fun e w' => e = .returned (.bool true) ∧ ∃ n, w' = W.drewN n) := T
          clear T hab
          go_wp2_with fail
          refine (HT.out _).mono ?_
          rintro e w2 ⟨rfl, x, rfl⟩
          go_wp2_with fail
          have A := fun W => add_any r u2 0 hr.out wv1 ⟨by decide, by decide⟩ W
          obtain ⟨r2, hr2⟩ : ∃ x, (r + u2 + 0) % 18446744073709551616 = x := ⟨_, rfl⟩
          obtain ⟨o2, ho2⟩ : ∃ x, (r + u2 + 0) / 18446744073709551616 = x := ⟨_, rfl⟩
          simp only [hr2, ho2] at A
          have hrw := hr.out
          have htw := ht.out
          have hrw1 := hrw.1; have hrw2 := hrw.2; have htw1 := htw.1; have htw2 := htw.2
          have Wu2 := wv1
          have HR2 : Hid (Word r2) := ⟨by omega, by omega⟩
          have p0 : 0 ≤ o2 := by omega
          have p1 : o2 ≤ 1 := by omega
          have HE2 : Hid ((t - 1) * u2 + (o2 * 18446744073709551616 + r2) = u2 * 18446744073709551616 + u1) := by
            show _ = _
            have := he.out
            rw [Int.sub_mul, Int.one_mul]; omega
          have hq00 := HQ00.out
          have HT2 : Hid (Word (t - 1)) := ⟨by omega, by omega⟩
          have HQ2 : Hid (Q ≤ t - 1) := by show _ ≤ _; omega
          have ewt : IntKind.u64.wrap (t - 1) = t - 1 := by rw [IntKind.wrap_u64]; omega
          clear hr2 ho2 hrw htw
          refine (A _).mono ?_
          rintro e w3 ⟨rfl, rfl⟩
          go_wp2_with fail
          go_roundw
          case rel => exact ⟨t - 1, r2, o2, _, rfl, rfl, rfl, rfl, HT2, HR2, p0, p1, HE2, HQ2⟩
          case measure => simp [intOf]; omega
        · have hab' : above2 t v0 r u0 = false := by simpa using hab
          rw [hab'] at T
          clear hab hab'
          go_wp2_with fail
          refine (T _).mono ?_
          rintro e w2 ⟨rfl, x, rfl⟩
          go_wp2_with fail
          go_ret
          exact ⟨t, rfl, ht.out, hq.out, _, rfl⟩
      · go_wp2_with fail
        go_ret
        exact ⟨t, rfl, ht.out, hq.out, k, rfl⟩
end Go.Proofs.YtblafbbnplfpjaaGreatDoor

namespace Go.Proofs.YtblafbbnplfpjaaGreatDoor

/-- The piece has lost t times the divisor; b: what was borrowed from beyond it. -/
def SInv (V : Int) (cs0 : List Int) (off n : Nat) (t b : Int) (ds : List Int) : Prop :=
  ds.length = cs0.length ∧ Limbs ds ∧ (∀ j, j < off ∨ off + n + 1 ≤ j → ds.getD j 0 = cs0.getD j 0) ∧ num ds = num cs0 - V * t * pw off + b * pw (off + n + 1) ∧ 0 ≤ b ∧ b ≤ 1

theorem ring_first {N N0 V t y c v q po p : Int} (h1 : N - c * p = N0 - V * t * po) (h2 : v + 18446744073709551616 * q = y - c) : N + (v - y) * p = N0 - V * t * po + -q * (18446744073709551616 * p) := by grind
theorem ring_more {N N0 M V t y c v q po p : Int} (h0 : N = N0 - V * t * po + 1 * (18446744073709551616 * p)) (h1 : M + c * p = N + V * 1 * po) (h2 : v + 18446744073709551616 * q = y + c) : M + (v - y) * p = N0 - V * (t - 1) * po + (1 - q) * (18446744073709551616 * p) := by grind

theorem sinv_first {cs0 vs ds : List Int} {off n : Nat} {t c : Int} (hv : vs.length = n) (hf : off + n < cs0.length) (R : RInv cs0 vs t off n c ds) :
    SInv (num vs) cs0 off n t (-((cs0.getD (off + n) 0 - c) / 18446744073709551616)) (ds.set (off + n) ((cs0.getD (off + n) 0 - c) % 18446744073709551616)) := by
  obtain ⟨r1, r2, r3, r4, r5, r6⟩ := R
  have hy : ds.getD (off + n) 0 = cs0.getD (off + n) 0 := r3 _ (.inr (Nat.le_refl _))
  have hb := r2.getD (off + n)
  rw [hy] at hb
  rw [List.take_of_length_le (by omega)] at r4
  have hs := num_set (cs := ds) (i := off + n) ((cs0.getD (off + n) 0 - c) % 18446744073709551616) (by omega)
  rw [hy] at hs
  generalize cs0.getD (off + n) 0 = y at *
  refine ⟨by rw [List.length_set]; exact r1, r2.set _ ⟨by omega, by omega⟩, fun j hj => by rw [getD_set_other _ _ _ _ (by omega)]; exact r3 j (by omega), ?_, by omega, by omega⟩
  rw [hs]
  exact ring_first r4 (by omega)
theorem sinv_more {cs0 vs ds es : List Int} {off n : Nat} {t c : Int} (hv : vs.length = n) (hf : off + n < cs0.length) (S : SInv (num vs) cs0 off n t 1 ds) (B : BInv ds vs 1 off n c es) :
    SInv (num vs) cs0 off n (t - 1) (1 - (ds.getD (off + n) 0 + c) / 18446744073709551616) (es.set (off + n) ((ds.getD (off + n) 0 + c) % 18446744073709551616)) := by
  obtain ⟨s1, s2, s3, s4, s5, s6⟩ := S
  obtain ⟨r1, r2, r3, r4, r5, r6⟩ := B
  have hy : es.getD (off + n) 0 = ds.getD (off + n) 0 := r3 _ (.inr (Nat.le_refl _))
  have hb := r2.getD (off + n)
  rw [hy] at hb
  rw [List.take_of_length_le (by omega)] at r4
  have hs := num_set (cs := es) (i := off + n) ((ds.getD (off + n) 0 + c) % 18446744073709551616) (by omega)
  rw [hy] at hs
  generalize ds.getD (off + n) 0 = y at *
  refine ⟨by rw [List.length_set]; omega, r2.set _ ⟨by omega, by omega⟩, fun j hj => ?_, ?_, by omega, by omega⟩
  · rw [getD_set_other _ _ _ _ (by omega), r3 j (by omega)]; exact s3 j hj
  · rw [hs]
    exact ring_more s4 r4 (by omega)
theorem sinv_seg {V : Int} {cs0 ds : List Int} {off n : Nat} {t b : Int} (hf : off + n < cs0.length) (S : SInv V cs0 off n t b ds) :
    num ((ds.drop off).take (n + 1)) = num ((cs0.drop off).take (n + 1)) - t * V + b * pw (n + 1) := by
  obtain ⟨s1, s2, s3, s4, s5, s6⟩ := S
  have h := num_piece (cs := ds) (ds := cs0) (off := off) (n := n + 1) s1 (by omega) (fun j hj => s3 j (by omega))
  have hp : pw (off + n + 1) = pw off * pw (n + 1) := by rw [Nat.add_assoc, pw_add]
  rw [s4, hp] at h
  refine mul_cancel (pw_pos off) ?_
  generalize num ((ds.drop off).take (n + 1)) = D at *
  generalize num ((cs0.drop off).take (n + 1)) = C at *
  grind
theorem sinv_neg {V : Int} {cs0 ds : List Int} {off n : Nat} {t : Int} (hV : 0 < V) (hL : Limbs cs0) (hf : off + n < cs0.length) (S : SInv V cs0 off n t 1 ds) : num ((cs0.drop off).take (n + 1)) / V + 1 ≤ t := by
  have h := sinv_seg hf S
  have h1 := num_take_lt (S.2.1.drop off) (n + 1)
  obtain ⟨q0, q1, q2⟩ := quot_facts hV (num_take_nonneg (hL.drop off) (n + 1))
  generalize num ((ds.drop off).take (n + 1)) = D at *
  generalize num ((cs0.drop off).take (n + 1)) = C at *
  have : C / V * V < t * V := by omega
  have := lt_cancel hV this
  omega
theorem sinv_end {V : Int} {cs0 ds : List Int} {off n : Nat} {t : Int} (hV : 0 < V) (hL : Limbs cs0) (hf : off + n < cs0.length) (S : SInv V cs0 off n t 0 ds) (hq : num ((cs0.drop off).take (n + 1)) / V ≤ t) :
    num ((ds.drop off).take (n + 1)) = num ((cs0.drop off).take (n + 1)) - t * V ∧ num ((ds.drop off).take (n + 1)) < V := by
  have h := sinv_seg hf S
  obtain ⟨q0, q1, q2⟩ := quot_facts hV (num_take_nonneg (hL.drop off) (n + 1))
  generalize num ((ds.drop off).take (n + 1)) = D at *
  generalize num ((cs0.drop off).take (n + 1)) = C at *
  have h2 : C / V * V ≤ t * V := mul_le (by omega) hq
  rw [Int.zero_mul] at h
  rw [Int.add_mul] at q2
  exact ⟨by omega, by omega⟩
end Go.Proofs.YtblafbbnplfpjaaGreatDoor

namespace Go.Proofs.YtblafbbnplfpjaaGreatDoor
open Go.RowKit Go.Shelf

set_option maxHeartbeats 4000000 in
theorem takeOff_any (g off n k cp vb vo cv : Nat) (cs vs : List Int) (w : World) (hk : k = n + 1) (ho : Own w g cs) (hL : Limbs cs) (hf : off + n < cs.length) (hv : Sx g w (some ⟨vb, vo, none⟩) n vs) (hn : n ≤ 10000000000000) (hn2 : 2 ≤ n)
    (hlt : num ((cs.drop off).take (n + 1)) < num vs * 18446744073709551616) (htop : 0 < vs.getD (n - 1) 0) (hkc : k ≤ cp) :
    Calls Tryz.prog 200 #[.slice (some ⟨g, off, none⟩) k cp, .slice (some ⟨vb, vo, none⟩) n cv] w fun e w' =>
      ∃ t ds, e = .returned (.int .u64 t) ∧ Word t ∧ Own w' g ds ∧ SInv (num vs) cs off n t 0 ds ∧ num ((cs.drop off).take (n + 1)) / num vs ≤ t ∧ Only g w w' := by
  have hzv := hv.1.1
  have hpos : 0 < num vs := by
    have e := num_top vs (n - 1) (by omega)
    have h1 := num_take_nonneg hv.1.2.1 (n - 1)
    have h2 := pw_pos (n - 1)
    have : 1 * pw (n - 1) ≤ vs.getD (n - 1) 0 * pw (n - 1) := mul_le (by omega) (by omega)
    omega
  have G := guess_any g off vb vo n k cp cv ((cs.drop off).take (n + 1)) vs w hk (by rw [hk]; exact ho.piece hL (by omega)) hv.1 hn hn2 hlt htop
  have NEG := fun t ds => sinv_neg (ds := ds) (t := t) hpos hL hf
  have FST := fun t c ds => sinv_first (t := t) (c := c) (ds := ds) hzv hf
  have MOR := fun t c ds es => sinv_more (cs0 := cs) (t := t) (c := c) (ds := ds) (es := es) hzv hf
  obtain ⟨V, hV⟩ : ∃ V, num vs = V := ⟨_, rfl⟩
  obtain ⟨Q, hQ⟩ : ∃ Q, num ((cs.drop off).take (n + 1)) / num vs = Q := ⟨_, rfl⟩
  rw [hQ] at G ⊢
  rw [hV]
  simp only [hV] at FST MOR hQ
  simp only [hV, hQ] at NEG
  have HO0 : Hid (Own w g cs) := ho
  have HQ0 : Hid (0 ≤ Q) := by rw [← hQ, ← hV]; exact (quot_facts hpos (num_take_nonneg (hL.drop off) (n + 1))).1
  have HSX : Hid (Sx g w (some ⟨vb, vo, none⟩) n vs) := hv
  have HNEG : Hid (∀ t ds, SInv V cs off n t 1 ds → Q + 1 ≤ t) := NEG
  have HFST : Hid (∀ t c ds, RInv cs vs t off n c ds → SInv V cs off n t (-((cs.getD (off + n) 0 - c) / 18446744073709551616)) (ds.set (off + n) ((cs.getD (off + n) 0 - c) % 18446744073709551616))) := FST
  have HMOR : Hid (∀ t c ds es, SInv V cs off n t 1 ds → BInv ds vs 1 off n c es → SInv V cs off n (t - 1) (1 - (ds.getD (off + n) 0 + c) / 18446744073709551616) (es.set (off + n) ((ds.getD (off + n) 0 + c) % 18446744073709551616))) := MOR
  have hy := hL.getD (off + n)
  have hcy := ho.cell (off + n) hf
  have hk1 : n < k := by omega
  have hk2 : n ≤ k := by omega
  have hk3 : k ≤ 10000000000001 := by omega
  have HL : Hid (Limbs cs) := hL
  have HLEN : Hid (off + n < cs.length) := hf
  have hkc2 : n ≤ cp := by omega
  clear NEG FST MOR ho hv hk hlt htop hzv hpos hV hQ hL hf
  go_enter Tryz.func200, Tryz.ntmps200
  go_wp2_with fail
  refine G.mono ?_
  rintro e w1 ⟨t, rfl, ht, hQt, q, hw1⟩
  clear G
  have HON1 : Hid (Only g w w1) := by rw [hw1]; exact (Only.refl g w).drewN q
  have HO1 : Hid (Own w1 g cs) := by rw [hw1]; exact HO0.out
  have HSX1 := HSX.out.only HON1.out
  have hcy1 := HO1.out.cell (off + n) HLEN.out
  have hfy1 := HO1.out.frozen (off + n)
  obtain ⟨y, hyy⟩ : ∃ y, cs.getD (off + n) 0 = y := ⟨_, rfl⟩
  rw [hyy] at hy hcy hcy1 HFST
  clear hw1
  go_wp2_with fail
  go_cut [7] (fun bb wx => ∃ (b : Int) (ds : List Int), bb = .int .u64 b ∧ Hid (SInv V cs off n t b ds) ∧ Hid (Own wx g ds) ∧ Hid (Only g w wx))
  case first =>
    go_region_with (first
      | (go_at_call 205; refine (lessTimes_any g off n cp cv cs vs (some ⟨vb, vo, none⟩) t w1.drew HO1.out HL.out (by have := HLEN.out; omega) HSX1 (by omega) ht).mono ?_; rintro e wl ⟨c, ds, rfl, hol, hR, honl⟩; have hcl := hol.cell (off + n) (by have := HLEN.out; have := hR.1; omega); rw [hR.2.2.1 _ (.inr (Nat.le_refl _)), hyy] at hcl; have hfl := hol.frozen (off + n); have hS := HFST.out t c ds hR; have hcw : Word c := ⟨hR.2.2.2.2.1, hR.2.2.2.2.2⟩; have HOL : Hid (Own wl g ds) := hol; have HONL : Hid (Only g w wl) := HON1.out.drew.trans honl; have HSS : Hid (SInv V cs off n t (-((y - c) / 18446744073709551616)) (ds.set (off + n) ((y - c) % 18446744073709551616))) := hS; clear hol hR honl hS)
      | (go_at_call 206; refine (sub_any y c 0 hy hcw ⟨by decide, by decide⟩ _).mono ?_; rintro e w3 ⟨rfl, rfl⟩))
    all_goals
      go_wp2_with fail
      go_meet
      exact ⟨_, _, rfl, HSS, Own.set HOL.out (off + n) _, Only.set HONL.out (off + n) _⟩
  case rest =>
    obtain ⟨b0, ds0, rfl, hS0, hO0, hON0⟩ := hcut
    go_wp2_with fail
    go_loopw [6, 7] (fun tt bb wr => ∃ (t b : Int) (ds : List Int), tt = .int .u64 t ∧ bb = .int .u64 b ∧ Hid (Word t) ∧ Hid (Q ≤ t) ∧ Hid (SInv V cs off n t b ds) ∧ Hid (Own wr g ds) ∧ Hid (Only g w wr)) (fun tt _ _ => (intOf tt).toNat)
    case atStart => exact ⟨t, b0, ds0, rfl, rfl, ht, hQt, hS0, hO0, hON0⟩
    case round =>
      clear hQt ht hS0 hO0 hON0 HSX1 hfy1 hcy1 HON1 HO1 HFST
      obtain ⟨t2, b, ds, rfl, rfl, ht2, hq2, hS, hO, hON⟩ := hrel
      have hb0 := hS.out.2.2.2.2.1
      have hb1 := hS.out.2.2.2.2.2
      have hb : b = 0 ∨ b = 1 := by omega
      clear hb0 hb1
      rcases hb with rfl | rfl
      · go_wp2_with fail
        go_ret
        exact ⟨t2, ds, rfl, ht2.out, hO.out, hS.out, hq2.out, hON.out⟩
      · have hge := HNEG.out t2 ds hS.out
        have htw1 := ht2.out.1; have htw2 := ht2.out.2
        have hq0 := HQ0.out
        have hlen := hS.out.1
        have hy2 := hS.out.2.1.getD (off + n)
        have hcx := hO.out.cell (off + n) (by have := HLEN.out; omega)
        have hfx := hO.out.frozen (off + n)
        obtain ⟨y2, hyy2⟩ : ∃ y, ds.getD (off + n) 0 = y := ⟨_, rfl⟩
        rw [hyy2] at hy2 hcx
        have ewt : IntKind.u64.wrap (t2 - 1) = t2 - 1 := by rw [IntKind.wrap_u64]; omega
        go_wp2_with fail
        have hM := fun c es => HMOR.out t2 c ds es hS.out
        simp only [hyy2] at hM
        have HM : Hid (∀ c es, BInv ds vs 1 off n c es → SInv V cs off n (t2 - 1) (1 - (y2 + c) / 18446744073709551616) (es.set (off + n) ((y2 + c) % 18446744073709551616))) := hM
        have hsx := HSX.out.only hON.out
        clear hM
        go_cut [8] (fun oo wx => ∃ (o : Int) (es : List Int), oo = .int .u64 o ∧ 0 ≤ o ∧ o ≤ 1 ∧ Hid (SInv V cs off n (t2 - 1) (1 - o) es) ∧ Hid (Own wx g es) ∧ Hid (Only g w wx))
        case first =>
          go_region_with (first
            | (go_at_call 187; refine (addTimes_any g off n cp cv ds vs (some ⟨vb, vo, none⟩) 1 wr.drew hO.out hS.out.2.1 (by have := HLEN.out; omega) hsx (by omega) ⟨by decide, by decide⟩).mono ?_; rintro e wl ⟨c, es, rfl, hol, hB, honl⟩; have hcl := hol.cell (off + n) (by have := HLEN.out; have := hB.1; omega); rw [hB.2.2.1 _ (.inr (Nat.le_refl _)), hyy2] at hcl; have hfl := hol.frozen (off + n); have hSS := HM.out c es hB; have hcw : Word c := ⟨hB.2.2.2.2.1, hB.2.2.2.2.2⟩; have HOL : Hid (Own wl g es) := hol; have HONL : Hid (Only g w wl) := hON.out.drew.trans honl; have HSS : Hid (SInv V cs off n (t2 - 1) (1 - (y2 + c) / 18446744073709551616) (es.set (off + n) ((y2 + c) % 18446744073709551616))) := hSS; clear hol hB honl hSS)
            | (go_at_call 203; refine (add_any y2 c 0 hy2 hcw ⟨by decide, by decide⟩ _).mono ?_; rintro e w3 ⟨rfl, rfl⟩))
          all_goals
            obtain ⟨hc1, hc2⟩ := hcw
            have o1 : 0 ≤ (y2 + c) / 18446744073709551616 := by omega
            have o2 : (y2 + c) / 18446744073709551616 ≤ 1 := by omega
            go_wp2_with fail
            go_meet
            exact ⟨_, _, rfl, o1, o2, HSS, Own.set HOL.out (off + n) _, Only.set HONL.out (off + n) _⟩
        case rest =>
          obtain ⟨o, es, rfl, o1, o2, hS3, hO3, hON3⟩ := hcut
          have HT3 : Hid (Word (t2 - 1)) := ⟨by omega, by omega⟩
          have HQ3 : Hid (Q ≤ t2 - 1) := by show _ ≤ _; omega
          have ewo : IntKind.u64.wrap (1 - o) = 1 - o := by rw [IntKind.wrap_u64]; omega
          clear hS hO hON hcx hfx hyy2 HM hsx
          go_wp2_with fail
          go_roundw
          case rel => exact ⟨t2 - 1, 1 - o, es, rfl, rfl, HT3, HQ3, hS3, hO3, hON3⟩
          case measure => simp [intOf]; omega
end Go.Proofs.YtblafbbnplfpjaaGreatDoor

namespace Go.Proofs.YtblafbbnplfpjaaGreatDoor
open Go.RowKit Go.Shelf

/-- What holds of the row behind k places. -/
def TInv (xs cs : List Int) (by' more : Int) (n k : Nat) (c : Int) : Prop :=
  cs.length = n + 1 ∧ Limbs cs ∧ (∀ j, k ≤ j → cs.getD j 0 = xs.getD j 0) ∧ num (cs.take k) + c * pw k = num (xs.take k) * by' + more ∧ 0 ≤ c ∧ c < 18446744073709551616

theorem tinv_start {xs : List Int} {b m : Int} (hx : Limbs xs) (hm : 0 ≤ m ∧ m < 18446744073709551616) : TInv xs (xs.take (usedN xs) ++ List.replicate (usedN xs + 1 - usedN xs) 0) b m (usedN xs) 0 m :=
  ⟨wide_length xs _ (by omega), wide_limbs hx _, fun j _ => wide_getD xs _ j, by simp [num, pw], hm.1, hm.2⟩
theorem prod_bd {x b c : Int} (hx : 0 ≤ x ∧ x < 18446744073709551616) (hb : 0 ≤ b ∧ b < 18446744073709551616) (hc : 0 ≤ c ∧ c < 18446744073709551616) :
    0 ≤ (x * b + c) / 18446744073709551616 ∧ (x * b + c) / 18446744073709551616 < 18446744073709551616 := by
  have h1 : 0 ≤ x * b := Int.mul_nonneg hx.1 hb.1
  have h2 : x * b ≤ 18446744073709551615 * b := Int.mul_le_mul_of_nonneg_right (by omega) hb.1
  generalize x * b = p at *
  omega
theorem tinv_step {xs cs : List Int} {b m : Int} {n k : Nat} {c : Int} (hb : 0 ≤ b ∧ b < 18446744073709551616) (I : TInv xs cs b m n k c) (h : k < n) :
    TInv xs (cs.set k ((cs.getD k 0 * b + c) % 18446744073709551616)) b m n (k + 1) ((cs.getD k 0 * b + c) / 18446744073709551616) := by
  obtain ⟨i1, i2, i3, i4, i5, i6⟩ := I
  have b1 := i2.getD k
  have e := i3 k (Nat.le_refl _)
  obtain ⟨p1, p2⟩ := prod_bd b1 hb ⟨i5, i6⟩
  refine ⟨by rw [List.length_set]; exact i1, i2.set k ⟨by omega, by omega⟩, fun j hj => by rw [getD_set_other _ _ _ _ (by omega)]; exact i3 j (by omega), ?_, p1, p2⟩
  have hc := carry_step (v := (cs.getD k 0 * b + c) % 18446744073709551616) (c' := (cs.getD k 0 * b + c) / 18446744073709551616) (p := pw k) (s := cs.getD k 0 * b + c) (by omega)
  rw [num_set_take _ _ _ (by omega), num_take_succ, pw, ← e, Int.add_mul]
  rw [Int.add_mul, Int.mul_right_comm] at hc
  omega
theorem tinv_end {xs cs : List Int} {b m : Int} {n : Nat} {c : Int} (I : TInv xs cs b m n n c) (hn : n = usedN xs) :
    (cs.set n c).length = n + 1 ∧ Limbs (cs.set n c) ∧ num (cs.set n c) = num xs * b + m := by
  obtain ⟨i1, i2, i3, i4, i5, i6⟩ := I
  refine ⟨by rw [List.length_set]; exact i1, i2.set n ⟨i5, i6⟩, ?_⟩
  have e := num_set_take cs n c (by omega)
  rw [List.take_of_length_le (by rw [List.length_set]; omega)] at e
  rw [num_take_used xs (by omega)] at i4
  omega

set_option maxHeartbeats 1000000 in
theorem times_any (a : Option Addr) (la ca : Nat) (xs : List Int) (b m : Int) (w : World) (ha : Sl w a la xs) (h1 : la ≤ 20000000000000) (hca : la ≤ ca) (hb : Word b) (hm : Word m) :
    Calls Tryz.prog 199 #[.slice a la ca, .int .u64 b, .int .u64 m] w fun e w' =>
      ∃ g n c zs, e = .returned (.slice (some ⟨g, 0, none⟩) n c) ∧ w.heap.size ≤ g ∧ n ≤ c ∧ n ≤ usedN xs + 1 ∧ Sl w' (some ⟨g, 0, none⟩) n zs ∧ usedN zs = n ∧ num zs = num xs * b + m ∧ Below w.heap.size w w' := by
  have hux := usedN_le xs
  have hza := ha.1
  have hLx := ha.2.1
  have U := used_any a la ca xs w ha (by omega)
  have W := widened_any a la ca (usedN xs + 1) xs w ha h1 hca (by omega) (by omega)
  have I0 := tinv_start (b := b) hLx hm
  obtain ⟨n, hn⟩ : ∃ n, usedN xs = n := ⟨_, rfl⟩
  rw [hn] at U W I0 hux
  rw [hn]
  have HN : Hid (n = usedN xs) := hn.symm
  have en : ((n + 1 : Nat) : Int) = (n : Int) + 1 := by omega
  rw [en] at W
  have HI0 : Hid (TInv xs (xs.take n ++ List.replicate (n + 1 - n) 0) b m n 0 m) := I0
  clear hn I0 en
  go_enter Tryz.func199, Tryz.ntmps199
  go_wp2_with fail
  refine U.mono ?_
  rintro e w' ⟨rfl, rfl⟩
  go_wp2_with fail
  refine W.mono ?_
  rintro e w1 ⟨g, rfl, hg, hown, hbel⟩
  clear U W ha
  go_wp2_with fail
  go_loopw [9, 23] (fun cc i wr => ∃ (k : Nat) (c : Int) (cs : List Int), k ≤ n ∧ i = .int .i64 k ∧ cc = .int .u64 c ∧ Hid (TInv xs cs b m n k c) ∧ Hid (Own wr g cs) ∧ Below w'.heap.size w' wr) (fun _ i _ => n - (intOf i).toNat)
  case atStart => exact ⟨0, m, _, Nat.zero_le _, rfl, rfl, HI0, hown, hbel⟩
  case round =>
    obtain ⟨k, c, cs, hk, rfl, rfl, hI, ho, hbl⟩ := hrel
    by_cases hlt : k < n
    · have hcx := ho.out.cell k (by rw [hI.out.1]; omega)
      have hfx := ho.out.frozen k
      have hw1 := hI.out.2.1.getD k
      have hc0 := hI.out.2.2.2.2.1
      have hc1 := hI.out.2.2.2.2.2
      have hstep := tinv_step hb hI.out hlt
      obtain ⟨x, hx⟩ : ∃ x, cs.getD k 0 = x := ⟨_, rfl⟩
      rw [hx] at hcx hw1 hstep
      obtain ⟨p1, p2⟩ := prod_bd hw1 hb ⟨hc0, hc1⟩
      have M := mul_any x b hw1 hb wr
      obtain ⟨hh, hh1⟩ : ∃ h, x * b / 18446744073709551616 = h := ⟨_, rfl⟩
      obtain ⟨ll, ll1⟩ : ∃ l, x * b % 18446744073709551616 = l := ⟨_, rfl⟩
      have hxb : x * b = hh * 18446744073709551616 + ll := by omega
      rw [hh1, ll1] at M
      have hlw : Word ll := by rw [← ll1]; exact word_mod _
      have hlw' := hlw
      obtain ⟨l1, l2⟩ := hlw'
      have A := add_any ll c 0 hlw ⟨hc0, hc1⟩ ⟨by omega, by omega⟩ wr
      rw [Int.add_zero] at A
      have e1 : (x * b + c) % 18446744073709551616 = (ll + c) % 18446744073709551616 := by omega
      have e2 : (x * b + c) / 18446744073709551616 = hh + (ll + c) / 18446744073709551616 := by omega
      rw [e2] at p1 p2
      rw [e1, e2] at hstep
      have hh0 : 0 ≤ hh := by rw [← hh1]; exact Int.ediv_nonneg (Int.mul_nonneg hw1.1 hb.1) (by omega)
      have HS : Hid (TInv xs (cs.set k ((ll + c) % 18446744073709551616)) b m n (k + 1) (hh + (ll + c) / 18446744073709551616)) := hstep
      clear hstep hx hh1 ll1 hxb e1 e2
      go_wp2_with fail
      refine M.mono ?_
      rintro e w2 ⟨rfl, rfl⟩
      go_wp2_with fail
      refine A.mono ?_
      rintro e w2 ⟨rfl, rfl⟩
      go_wp2_with fail
      go_roundw
      case rel => exact ⟨k + 1, _, _, by omega, by go_num, rfl, HS, Own.set ho.out k _, hbl.setCell (by exact hg) _⟩
      case measure => simp [intOf]; omega
    · obtain rfl : k = n := by omega
      obtain ⟨t1, t2, t3⟩ := tinv_end hI.out HN.out
      have hfx := ho.out.frozen k
      have hcx := ho.out.cell k (by rw [hI.out.1]; omega)
      have ho2 := Own.set ho.out k c
      have hb2 := hbl.setCell (p := ⟨g, k, none⟩) (by exact hg) (.int .u64 c)
      have hsl := ho2.sl t2
      rw [t1] at hsl
      have C := cut_any (some ⟨g, 0, none⟩) (k + 1) (k + 1) (cs.set k c) _ hsl (by omega) (Nat.le_refl _)
      have hcu := usedN_le (cs.set k c)
      rw [t1] at hcu
      go_wp2_with fail
      refine C.mono ?_
      rintro e w2 ⟨rfl, rfl⟩
      go_wp2_with fail
      go_ret
      refine ⟨g, usedN (cs.set k c), k + 1, (cs.set k c).take (usedN (cs.set k c)), rfl, hg, by omega, by omega, hsl.take (by omega), usedN_take _ (Nat.le_refl _), ?_, hb2⟩
      rw [num_take_used _ (Nat.le_refl _)]
      exact t3
end Go.Proofs.YtblafbbnplfpjaaGreatDoor

namespace Go.Proofs.YtblafbbnplfpjaaGreatDoor
open Go.RowKit Go.Shelf

/-- A row with noughts from a place on, so many. -/
def wiped : Nat → Nat → List Int → List Int
  | 0, _, cs => cs
  | k + 1, o, cs => wiped k (o + 1) (cs.set o 0)
theorem wiped_length : ∀ (k o : Nat) (cs : List Int), (wiped k o cs).length = cs.length
  | 0, _, _ => rfl
  | k + 1, o, cs => by rw [wiped, wiped_length, List.length_set]
theorem wiped_limbs : ∀ (k o : Nat) {cs : List Int}, Limbs cs → Limbs (wiped k o cs)
  | 0, _, _, h => h
  | k + 1, o, _, h => wiped_limbs k (o + 1) (h.set o ⟨by decide, by decide⟩)
theorem wiped_low : ∀ (k o : Nat) (cs : List Int) (j : Nat), j < o → (wiped k o cs).getD j 0 = cs.getD j 0
  | 0, _, _, _, _ => rfl
  | k + 1, o, cs, j, h => by rw [wiped, wiped_low k (o + 1) _ j (by omega), getD_set_other _ _ _ _ (by omega)]
theorem wiped_high : ∀ (k o : Nat) (cs : List Int) (j : Nat), o ≤ j → j < o + k → j < cs.length → (wiped k o cs).getD j 0 = 0
  | 0, o, cs, j, h1, h2, _ => absurd h2 (by omega)
  | k + 1, o, cs, j, h1, h2, h3 => by
    rw [wiped]
    by_cases h : j = o
    · subst h
      rw [wiped_low k (j + 1) _ j (by omega), getD_set_self _ _ _ h3]
    · exact wiped_high k (o + 1) _ j (by omega) (by omega) (by rw [List.length_set]; exact h3)
theorem num_wiped {cs : List Int} {n k : Nat} (h : n + k = cs.length) : num (wiped k n cs) = num (cs.take n) := by
  have hl := wiped_length k n cs
  have e := num_take_of_zeros (zs := wiped k n cs) (u := n) (fun i hi => by
    rcases Nat.lt_or_ge i cs.length with h' | h'
    · exact wiped_high k n cs i hi (by omega) h'
    · rw [List.getD_eq_getElem?_getD, List.getElem?_eq_none (by omega)]; rfl) k
  rw [h, ← hl, List.take_of_length_le (Nat.le_refl _)] at e
  rw [e]
  exact num_take_congr n (fun j hj => wiped_low k n cs j hj)
theorem Own.wipe {g : Nat} : ∀ (k o : Nat) {w : World} {cs : List Int}, Own w g cs → Own (w.setCells g o (List.replicate k (.int .u64 0))) g (wiped k o cs)
  | 0, _, _, _, h => h
  | k + 1, o, _, _, h => Own.wipe k (o + 1) (h.set o 0)
theorem Only.wipe {g : Nat} {a : World} : ∀ (k o : Nat) {w : World}, Only g a w → Only g a (w.setCells g o (List.replicate k (.int .u64 0)))
  | 0, _, _, h => h
  | k + 1, o, _, h => Only.wipe k (o + 1) (h.set o _)
theorem zero_u64 (w : World) : (zeroValue 124).run Tryz.prog w = .ok (.int .u64 0) w := by kernel_rfl
theorem run_wipe {w : World} {g : Nat} {cs : List Int} (h : Own w g cs) (o n c : Nat) (hn : 0 < n) (hf : o + n ≤ cs.length) (ty : TypeId) :
    (Builtin.clear_ #[60] ty #[.slice (some ⟨g, o, none⟩) n c]).run Tryz.prog w = .ok (.tuple #[]) (w.setCells g o (List.replicate n (.int .u64 0))) :=
  Lib.run_clear_slice w 60 124 ty (.int .u64 0) Tryz.underlying60 zero_u64 rfl rfl g o n c hn (fun j hj => by rw [h.cell (o + j) (by omega)]; rfl) (fun j _ => h.frozen (o + j))

/-- The shift that lifts the divisor's highest bit. -/
theorem shift_facts {ys : List Int} (hy : Limbs ys) {n : Nat} (hu : usedN ys = n) : 0 ≤ 64 * (n : Int) - bitsN ys ∧ 64 * (n : Int) - bitsN ys ≤ 63 := by
  obtain ⟨q0, q1, q2⟩ := bits_limbs hy
  rw [hu] at q1 q2
  omega
theorem lifted_used {ys zs : List Int} (hy : Limbs ys) (hz : Limbs zs) {n s : Nat} (hu : usedN ys = n) (hn : 0 < n) (hs : (s : Int) = 64 * (n : Int) - bitsN ys) (e : num zs = num ys * 2 ^ s) : usedN zs = n := by
  have hb := bits_moved hy hz (by omega) e
  obtain ⟨q0, q1, q2⟩ := bits_limbs hz
  omega
theorem kinv_start {xs ys zs : List Int} {la n s : Nat} (hx : Limbs xs) (hy : Limbs ys) (hz : Limbs zs) (hlx : xs.length = la) (hu : usedN ys = n) (hn : 0 < n) (hnl : n ≤ la) (hm : zs.length ≤ la + 1) (e : num zs = num xs * 2 ^ s) :
    KInv (num xs * 2 ^ s) (num ys * 2 ^ s) n la (la + 1) (zs ++ List.replicate (la + 1 - zs.length) 0) := by
  have hl : (zs ++ List.replicate (la + 1 - zs.length) 0).length = la + 1 := by rw [List.length_append, List.length_replicate]; omega
  have hnum : num (zs ++ List.replicate (la + 1 - zs.length) 0) = num xs * 2 ^ s := by rw [num_append, num_zeros]; omega
  refine ⟨hl, hz.append (Limbs.zeros _), ?_, ?_⟩
  · rw [List.take_of_length_le (by omega), List.drop_of_length_le (by omega), hnum]; simp [num]
  · rw [List.take_of_length_le (by omega), hnum]
    have h1 := num_lt hx
    have h2 := num_ge_used hy (by omega)
    rw [hu] at h2
    rw [hlx] at h1
    have h3 : pw la = pw (n - 1) * pw (la + 1 - n) := by rw [← pw_add]; congr 1; omega
    have h4 : pw (n - 1) * pw (la + 1 - n) ≤ num ys * pw (la + 1 - n) := mul_le (Int.le_of_lt (pw_pos _)) h2
    have h5 : num xs * 2 ^ s < num ys * pw (la + 1 - n) * 2 ^ s := Int.mul_lt_mul_of_pos_right (by omega) (p2_pos s)
    have h6 : num ys * 2 ^ s * pw (la + 1 - n) = num ys * pw (la + 1 - n) * 2 ^ s := Int.mul_right_comm _ _ _
    omega
/-- What comes out, without the shift. -/
theorem unshift {x y q r P : Int} (hP : 0 < P) (h1 : r + q * (y * P) = x * P) (h2 : r < y * P) (h0 : 0 ≤ r) : x = q * y + r / P ∧ r / P < y ∧ 0 ≤ r / P := by
  have e : r = (x - q * y) * P := by grind
  have e2 : r / P = x - q * y := by rw [e, Int.mul_ediv_cancel _ (by omega)]
  rw [e2]
  refine ⟨by omega, ?_, ?_⟩
  · rw [e] at h2; exact lt_cancel hP h2
  · rw [e] at h0
    have : 0 * P ≤ (x - q * y) * P := by omega
    exact le_cancel hP this
end Go.Proofs.YtblafbbnplfpjaaGreatDoor

namespace Go.Proofs.YtblafbbnplfpjaaGreatDoor
open Go.RowKit Go.Shelf

theorem Sl.lower {w w' : World} {a : Option Addr} {len : Nat} {zs : List Int} {B : Nat} (h : Sl w a len zs) (hl : ∀ p, a = some p → p.block < B) (b : Below B w w') : Sl w' a len zs := by
  obtain ⟨h1, h2, h3⟩ := h
  refine ⟨h1, h2, fun h0 => ?_⟩
  obtain ⟨bb, off, rfl, hc⟩ := h3 h0
  refine ⟨bb, off, rfl, fun i hi => ?_⟩
  rw [b.cell (p := ⟨bb, off + i, none⟩) (show bb < B from hl ⟨bb, off, none⟩ rfl)]; exact hc i hi

set_option maxHeartbeats 4000000 in
theorem divided_any (a b : Option Addr) (la ca lb cb : Nat) (xs ys : List Int) (w : World) (ha : Sl w a la xs) (hb : Sl w b lb ys) (hua : usedN xs = la) (hub : usedN ys = lb) (hca : la ≤ ca) (hcb : lb ≤ cb) (hla : la ≤ 4096) (hlb : 2 ≤ lb) (hle : lb ≤ la) :
    Calls Tryz.prog 185 #[.slice a la ca, .slice b lb cb] w fun e w' =>
      ∃ g1 m1 c1 a2 m2 c2 qs rs, e = .returned (.tuple #[.slice (some ⟨g1, 0, none⟩) m1 c1, .slice a2 m2 c2]) ∧ Sl w' (some ⟨g1, 0, none⟩) m1 qs ∧ usedN qs = m1 ∧ m1 ≤ c1 ∧ m1 ≤ la + 1 ∧ Sl w' a2 m2 rs ∧ usedN rs = m2 ∧ m2 ≤ c2 ∧
        num xs = num qs * num ys + num rs ∧ num rs < num ys ∧ Below w.heap.size w w' := by
  have hx := ha.2.1; have hy := hb.2.1
  have hlx := ha.1; have hly := hb.1
  obtain ⟨s0, s1⟩ := shift_facts hy hub
  have BT := bits_any b lb cb ys w hb (by omega)
  obtain ⟨bt, hbt⟩ : ∃ x, bitsN ys = x := ⟨_, rfl⟩
  obtain ⟨s, hs⟩ : ∃ s : Nat, (s : Int) = 64 * (lb : Int) - bitsN ys := ⟨(64 * (lb : Int) - bitsN ys).toNat, by omega⟩
  have HS : Hid ((s : Int) = 64 * (lb : Int) - bitsN ys) := hs
  rw [hbt] at BT hs s0 s1
  have hs63 : s ≤ 63 := by omega
  have es : 64 * (lb : Int) - bt = s := by omega
  obtain ⟨P, hP⟩ : ∃ P : Int, 2 ^ s = P := ⟨_, rfl⟩
  have hP0 : 0 < P := by rw [← hP]; exact p2_pos s
  have hP1 : P < 18446744073709551616 := by
    rw [← hP]
    exact Int.lt_of_le_of_lt (p2_mono hs63) (by decide)
  have eP : IntKind.u64.wrap (2 ^ s) = P := by rw [hP, IntKind.wrap_u64]; omega
  have HP : Hid ((2 : Int) ^ s = P) := hP
  have HX : Hid (Sl w a la xs) := ha
  have HY : Hid (Sl w b lb ys) := hb
  have HUB : Hid (usedN ys = lb) := hub
  have HUA : Hid (usedN xs = la) := hua
  have HLX : Hid (xs.length = la) := hlx
  clear hbt hs s0 s1 hP ha hb hub hua hlx hly
  go_enter Tryz.func185, Tryz.ntmps185
  go_wp2_with fail
  refine BT.mono ?_
  rintro e w0 ⟨rfl, hw0⟩
  rw [hw0]
  clear hw0 BT
  go_wp2_with fail
  refine (times_any b lb cb ys P 0 w HY.out (by omega) hcb ⟨by omega, hP1⟩ ⟨by decide, by decide⟩).mono ?_
  rintro e w1 ⟨gv, mv, cv, vs, rfl, hgv, hmv, -, hv, huv, hnv, hb1⟩
  rw [Int.add_zero] at hnv
  obtain rfl : mv = lb := by
    rw [← huv]
    exact lifted_used hy hv.2.1 HUB.out (by omega) HS.out (by rw [HP.out]; exact hnv)
  have HV : Hid (Sl w1 (some ⟨gv, 0, none⟩) mv vs) := hv
  have HVN : Hid (num vs = num ys * P) := hnv
  have HVU : Hid (usedN vs = mv) := huv
  have hgv1 : gv < w1.heap.size := Sl.lt hv (by omega) rfl
  clear hv hnv huv
  have hmk := make_row (la + 1) (by omega)
  have en : ((la + 1 : Nat) : Int) = (la : Int) + 1 := by omega
  rw [en] at hmk
  clear en
  go_wp2_with fail
  have HO2 : Hid (Own (w1.alloc (Obj.cells (row (List.replicate (la + 1) 0)).toArray 124)) w1.heap.size (List.replicate (la + 1) 0)) := heap_alloc_new w1 _
  have hB2 : Below w1.heap.size w1 (w1.alloc (Obj.cells (row (List.replicate (la + 1) 0)).toArray 124)) := (Below.refl _ _).alloc (Nat.le_refl _) _
  have hsz2 : (w1.alloc (Obj.cells (row (List.replicate (la + 1) 0)).toArray 124)).heap.size = w1.heap.size + 1 := by simp
  generalize (w1.alloc (Obj.cells (row (List.replicate (la + 1) 0)).toArray 124)) = w2 at *
  have hx2 := HX.out.below (step hb1 hB2) (Nat.le_refl _)
  clear hmk
  refine (times_any a la ca xs P 0 w2 hx2 (by omega) hca ⟨by omega, hP1⟩ ⟨by decide, by decide⟩).mono ?_
  rintro e w3 ⟨gz, mz, cz, zs, rfl, hgz, hmz, hmz2, hz, huz, hnz, hb3⟩
  rw [Int.add_zero] at hnz
  rw [HUA.out] at hmz2
  have HO3 : Hid (Own w3 w1.heap.size (List.replicate (la + 1) 0)) := HO2.out.below hb3 (by omega)
  have HB3 : Hid (Below w1.heap.size w1 w3) := hB2.trans (hb3.mono (by omega))
  have HZ : Hid (Sl w3 (some ⟨gz, 0, none⟩) mz zs) := hz
  have HZN : Hid (num zs = num xs * P) := hnz
  have hzl := hz.1
  clear HO2 hB2 hb3 hx2 hz hnz huz
  go_wp2_with (refine wpList_copy_splice rfl (.tmp 27) (.tmp 31) 60 60 rfl 124 Tryz.underlying60 (by kernel_rfl) _ _ _ _ _ _ rfl rfl w1.heap.size 0 (row (List.replicate (la + 1) 0)) 124 ?hg (row zs) ?hn ?hpos ?hfit ?h1 w1.heap.size w1 ?hb ?hBg ?_)
  case hg => exact HO3.out
  case hn => rw [row_length]; show _ = min _ _; omega
  case hpos =>
    intro h0
    rw [row_length] at h0
    obtain ⟨b', off', e, hc'⟩ := HZ.out.2.2 (by omega)
    cases e
    intro j v hj
    have hj' : j < (row zs).length := by
      rcases Nat.lt_or_ge j (row zs).length with h' | h'
      · exact h'
      · rw [List.getElem?_eq_none h'] at hj; cases hj
    rw [row_length] at hj'
    rw [row_getElem? _ _ hj'] at hj
    cases hj
    have hcj := hc' j (by omega)
    rw [Nat.zero_add] at hcj
    exact hcj
  case hfit => rw [row_length, row_length, List.length_replicate]; omega
  case h1 =>
    intro v hv
    simp only [row, List.mem_map] at hv
    obtain ⟨x, -, rfl⟩ := hv
    rfl
  case hb => exact HB3.out
  case hBg => exact Nat.le_refl _
  intro w4 hg4 hb4
  have esp : splice (row (List.replicate (la + 1) 0)) 0 (row zs) = row (zs ++ List.replicate (la + 1 - zs.length) 0) := by
    simp only [splice, row, List.take_zero, List.nil_append, Nat.zero_add, List.length_map, List.map_append]
    rw [← List.map_drop, List.drop_replicate]
  have HO4 : Hid (Own w4 w1.heap.size (zs ++ List.replicate (la + 1 - zs.length) 0)) := by
    have := hg4.out
    rw [esp] at this
    exact this
  have HI4 : Hid (KInv (num xs * P) (num ys * P) mv la (la + 1) (zs ++ List.replicate (la + 1 - zs.length) 0)) := by
    have := kinv_start (s := s) hx hy HZ.out.2.1 HLX.out HUB.out (by omega) hle (by omega) (by rw [HP.out]; exact HZN.out)
    rw [HP.out] at this
    exact this
  have HX4 : Hid (Sx w1.heap.size w4 (some ⟨gv, 0, none⟩) mv vs) := ⟨HV.out.lower (fun p hp => by cases hp; exact hgv1) hb4, fun _ p hp => by cases hp; exact Nat.ne_of_lt hgv1⟩
  clear esp hg4 HO3 HB3 HZ HZN hzl hmz hmz2 hgz HV
  go_wp2_with fail
  have htop : 0 < vs.getD (mv - 1) 0 := by
    have h1 := usedN_top vs (by rw [HVU.out]; omega)
    rw [HVU.out] at h1
    have h2 := HX4.out.1.2.1.getD (mv - 1)
    omega
  have hvl := HX4.out.1.1
  have hvlt := num_lt HX4.out.1.2.1
  rw [hvl] at hvlt
  have hvpos : 0 < num vs := by
    have h1 := num_top vs (mv - 1) (by omega)
    have h2 := num_take_nonneg HX4.out.1.2.1 (mv - 1)
    have h3 : 1 * pw (mv - 1) ≤ vs.getD (mv - 1) 0 * pw (mv - 1) := mul_le (Int.le_of_lt (pw_pos _)) (by omega)
    have h4 := pw_pos (mv - 1)
    omega
  have HTOP : Hid (0 < vs.getD (mv - 1) 0) := htop
  have HVLT : Hid (num vs ≤ pw mv) := Int.le_of_lt hvlt
  have HVPOS : Hid (0 < num vs) := hvpos
  have HVL : Hid (vs.length = mv) := hvl
  rw [← HVN.out] at HI4
  clear htop hvl hvlt hvpos
  go_loopw [10] (fun ee wr => ∃ (k : Nat) (cs : List Int), mv ≤ k + 1 ∧ k ≤ la ∧ ee = .int .i64 k ∧ Hid (KInv (num xs * P) (num vs) mv la (k + 1) cs) ∧ Hid (Own wr w1.heap.size cs) ∧ Hid (Only w1.heap.size w4 wr)) (fun ee _ => (intOf ee).toNat)
  case atStart => exact ⟨la, _, by omega, Nat.le_refl _, rfl, HI4, HO4, Only.refl _ _⟩
  case round =>
    obtain ⟨k, cs, hk1, hk2, rfl, hI, hO, hON⟩ := hrel
    by_cases hge : mv ≤ k
    · have hlen := hI.out.1
      have hpl := kinv_piece hI.out hge hk2
      obtain ⟨kk, hkk⟩ : ∃ kk, kk = mv + 1 := ⟨_, rfl⟩
      have T := takeOff_any w1.heap.size (k - mv) mv kk (la + 1 - (k - mv)) gv 0 cv cs vs wr hkk hO.out hI.out.2.1 (by omega) (HX4.out.only hON.out) (by omega) hlb hpl HTOP.out (by omega)
      have e1 : ((k : Int) - mv).toNat = k - mv := by omega
      have e2 : ((k : Int) + 1).toNat = k + 1 := by omega
      have e3 : k + 1 - (k - mv) = kk := by omega
      have e5 : k - mv + mv = k := by omega
      have e6 : mv < kk := by omega
      have e7 : kk ≤ la + 1 := by omega
      have e8 : (mv : Int) ≤ k := by omega
      have e9 : (0 : Int) ≤ (k : Int) - mv := by omega
      clear hkk hpl
      go_wp2_with fail
      refine T.mono ?_
      rintro e w5 ⟨tq, ds, rfl, htq, hO5, hS5, hQ5, hON5⟩
      obtain ⟨p1, p2⟩ := sinv_end HVPOS.out hI.out.2.1 (by omega) hS5 hQ5
      have hsl := seg_length ds (k - mv) (mv + 1) (by have := hS5.1; omega)
      have htz := rest_top ((hS5.2.1.drop (k - mv)).take (mv + 1)) hsl HVLT.out p2
      rw [getD_seg _ _ _ _ (by omega), e5] at htz
      have HI5 : Hid (KInv (num xs * P) (num vs) mv la k (ds.set k tq)) :=
        kinv_step hI.out hge hk2 hS5.1 hS5.2.1 (fun j hj => hS5.2.2.1 j (by omega)) p1 p2 htz htq
      have hcx := hO5.cell k (by have := hS5.1; omega)
      have hfx := hO5.frozen k
      have HO5 : Hid (Own w5 w1.heap.size ds) := hO5
      have HON5 : Hid (Only w1.heap.size w4 w5) := hON.out.trans hON5
      clear T hO5 hS5 hQ5 hON5 p1 p2 hsl htz hI hO hON
      go_wp2_with fail
      go_roundw
      case rel => exact ⟨k - 1, _, by omega, by omega, by rw [show ((k - 1 : Nat) : Int) = (k : Int) - 1 by omega], by rw [show k - 1 + 1 = k by omega]; exact HI5, Own.set HO5.out k _, Only.set HON5.out k _⟩
      case measure => simp [intOf]; omega
    · have hkm : k + 1 = mv := by omega
      rw [hkm] at hI
      obtain ⟨r1, r2⟩ := kinv_end hI.out
      have hlen := hI.out.1
      have hLc := hI.out.2.1
      obtain ⟨lq, hlq⟩ : ∃ lq, la + 1 - mv = lq := ⟨_, rfl⟩
      have hpc := hO.out.piece hLc (off := mv) (n := lq) (by omega)
      rw [List.take_of_length_le (by rw [List.length_drop]; omega)] at hpc
      have TR := trim_any (some ⟨w1.heap.size, mv, none⟩) lq lq _ wr hpc (by omega) (Nat.le_refl _)
      have hul := usedN_le (cs.drop mv)
      rw [List.length_drop, hlen] at hul
      obtain ⟨uq, huq⟩ : ∃ uq, usedN (cs.drop mv) = uq := ⟨_, rfl⟩
      rw [huq] at TR hul
      have r0 := num_take_nonneg hLc mv
      rw [HVN.out, ← HP.out] at r1 r2
      obtain ⟨z1, z2, z3⟩ := unshift (p2_pos s) r1 r2 r0
      have HZ1 : Hid (num xs = num (cs.drop mv) * num ys + num (cs.take mv) / 2 ^ s) := z1
      have HZ2 : Hid (num (cs.take mv) / 2 ^ s < num ys) := z2
      have HUQ : Hid (usedN (cs.drop mv) = uq) := huq
      have HLC : Hid (Limbs cs) := hLc
      have HLEN : Hid (cs.length = la + 1) := hlen
      have hlq2 : mv + lq = la + 1 := by omega
      have hlq3 : 0 < lq := by omega
      clear z1 z2 z3 r0 r1 r2 huq hlen hLc hkm
      go_wp2_with fail
      refine TR.mono ?_
      rintro e w5 ⟨gq, rfl, hgq, hOq, hbq⟩
      have HO5 : Hid (Own w5 w1.heap.size cs) := hO.out.below hbq hO.out.lt
      have HOQ : Hid (Own w5 gq ((cs.drop mv).take uq)) := hOq
      have hcl := run_wipe HO5.out mv lq lq hlq3 (by rw [HLEN.out]; omega)
      have hgn : gq ≠ w1.heap.size := by have := hO.out.lt; omega
      have HB5 : Hid (Below w1.heap.size w1 w5) := (hb4.trans (hON.out.below (Nat.le_refl _))).trans (hbq.mono (Nat.le_of_lt hO.out.lt))
      clear TR hpc hOq hbq
      go_wp2_with fail
      have HO6 : Hid (Own (w5.setCells w1.heap.size mv (List.replicate lq (.int .u64 0))) w1.heap.size (wiped lq mv cs)) := Own.wipe lq mv HO5.out
      have HN6 : Hid (Only w1.heap.size w5 (w5.setCells w1.heap.size mv (List.replicate lq (.int .u64 0)))) := Only.wipe lq mv (Only.refl _ _)
      generalize w5.setCells w1.heap.size mv (List.replicate lq (.int .u64 0)) = w6 at *
      have HOQ6 : Hid (Own w6 gq ((cs.drop mv).take uq)) := HOQ.out.only HN6.out hgn
      have HB6 : Hid (Below w1.heap.size w1 w6) := HB5.out.trans (HN6.out.below (Nat.le_refl _))
      have s6 := HO6.out.sl (wiped_limbs lq mv HLC.out)
      rw [wiped_length, HLEN.out] at s6
      clear hcl HO5 HOQ HB5 HN6
      refine (right_val (some ⟨w1.heap.size, 0, none⟩) (la + 1) (la + 1) _ s w6 s6 (by omega) (Nat.le_refl _) (by omega)).mono ?_
      rintro e w7 ⟨a7, m7, c7, rs, rfl, hmc7, -, hs7, hu7, hn7, hb7⟩
      rw [num_wiped (by rw [HLEN.out]; exact hlq2)] at hn7
      have sq := (HOQ6.out.below hb7 HOQ6.out.lt).sl ((HLC.out.drop mv).take uq)
      have hlu : ((cs.drop mv).take uq).length = uq := by rw [List.length_take, List.length_drop, HLEN.out]; omega
      rw [hlu] at sq
      have hlt7 : w1.heap.size ≤ w6.heap.size := HB6.out.size
      have B7 : Below w.heap.size w w7 := (hb1.trans (HB6.out.mono hb1.size)).trans (hb7.mono (Nat.le_trans hb1.size hlt7))
      go_wp2_with fail
      go_ret2
      refine ⟨gq, uq, uq, a7, m7, c7, _, rs, rfl, sq, ?_, Nat.le_refl _, by omega, hs7, hu7, hmc7, ?_, ?_, B7⟩
      · rw [← HUQ.out]; exact usedN_take _ (Nat.le_refl _)
      · rw [hn7, ← HUQ.out, num_take_used _ (Nat.le_refl _)]; exact HZ1.out
      · rw [hn7]; exact HZ2.out
end Go.Proofs.YtblafbbnplfpjaaGreatDoor

namespace Go.Proofs.YtblafbbnplfpjaaGreatDoor
open Go.RowKit Go.Shelf

theorem two_vars {w : World} {b c : Nat} {t : TypeId} {x y : Value} (V : Va w b t #[x]) (U : Va w c t #[y]) (hne : b ≠ c) (u v : Value) :
    Va ((w.setCell ⟨b, 0, none⟩ u).setCell ⟨c, 0, none⟩ v) b t #[u] ∧ Va ((w.setCell ⟨b, 0, none⟩ u).setCell ⟨c, 0, none⟩ v) c t #[v] :=
  ⟨(V.set u).other hne v, (U.other (p := ⟨b, 0, none⟩) hne.symm u).set v⟩
theorem Nt.store2 {w : World} {a : Option Addr} {len cap : Nat} {zs : List Int} (h : Nt w a len cap zs) {b c : Nat} {t : TypeId} {x x' : Option Addr} {y z y' z' : Nat} (V : Va w b t #[.slice x y z]) (U : Va w c t #[.slice x' y' z']) (hne : b ≠ c) (u v : Value) :
    Nt ((w.setCell ⟨b, 0, none⟩ u).setCell ⟨c, 0, none⟩ v) a len cap zs := (h.store V u).store (U.other (p := ⟨b, 0, none⟩) hne.symm u) v
theorem below_two {B : Nat} {a w : World} (h : Below B a w) {b c : Nat} (hb : B ≤ b) (hc : B ≤ c) (u v : Value) : Below B a ((w.setCell ⟨b, 0, none⟩ u).setCell ⟨c, 0, none⟩ v) :=
  (h.setCell (p := ⟨b, 0, none⟩) hb u).setCell (p := ⟨c, 0, none⟩) hc v

set_option maxHeartbeats 2000000 in
theorem ndiv_less (a b : Option Addr) (la ca lb cb : Nat) (xs ys : List Int) (w : World) (ha : Nt w a la ca xs) (hb : Nt w b lb cb ys) (h0 : num ys ≠ 0) (hlt : num xs < num ys) :
    Calls Tryz.prog 162 #[.agg #[.slice a la ca], .agg #[.slice b lb cb]] w fun e w' =>
      ∃ a1 m1 c1 a2 m2 c2 qs rs, e = .returned (.tuple #[.agg #[.slice a1 m1 c1], .agg #[.slice a2 m2 c2], .int .i64 0]) ∧ Nt w' a1 m1 c1 qs ∧ Nt w' a2 m2 c2 rs ∧ num xs = num qs * num ys + num rs ∧ num rs < num ys ∧ Below w.heap.size w w' := by
  have hlb : ((lb : Int) == 0) = false := by rw [hb.zero]; simpa using h0
  have hcmp := cmp3_lt hlt
  go_enter Tryz.func162, Tryz.ntmps162
  go_wp2_with fail
  refine ent4 w _ _ _ _ _ _ _ _ (Q := fun W => Calls Tryz.prog _ _ W _) ?_
  intro w0 B0 hs V0 V1 V2 V3
  replace ha := Nt.after B0 ha
  replace hb := Nt.after B0 hb
  refine (isZero_any b lb cb w0).mono ?_
  rintro e w1 ⟨rfl, hb1⟩
  rw [hlb]
  replace V0 := V0.kept hb1
  replace V1 := V1.kept hb1
  replace V2 := V2.kept hb1
  replace V3 := V3.kept hb1
  replace B0 := step B0 hb1
  replace ha := Nt.after hb1 ha
  replace hb := Nt.after hb1 hb
  clear hb1
  have c0 := V0.cell
  have c1 := V1.cell
  have c2 := V2.cell
  have c3 := V3.cell
  have f2 := V2.frozen 0
  have f3 := V3.frozen 0
  go_wp2_with fail
  refine (ncompare_any a b la ca lb cb xs ys w1 ha hb).mono ?_
  rintro e w2 ⟨rfl, hb2⟩
  rw [hcmp]
  replace V0 := V0.kept hb2
  replace V1 := V1.kept hb2
  replace V2 := V2.kept hb2
  replace V3 := V3.kept hb2
  replace B0 := step B0 hb2
  replace ha := Nt.after hb2 ha
  replace hb := Nt.after hb2 hb
  clear hb2
  replace c0 := V0.cell
  replace c1 := V1.cell
  replace c2 := V2.cell
  replace c3 := V3.cell
  replace f2 := V2.frozen 0
  replace f3 := V3.frozen 0
  go_wp2_with fail
  have hne : w.heap.size + 1 + 1 ≠ w.heap.size + 1 + 1 + 1 := by omega
  obtain ⟨T2, T3⟩ := two_vars (w := w2.drew) V2 V3 hne (.slice none 0 0) (.slice a la ca)
  have BF := below_two B0.drew (b := w.heap.size + 1 + 1) (c := w.heap.size + 1 + 1 + 1) (by omega) (by omega) (.slice none 0 0) (.slice a la ca)
  have hF := Nt.store2 (w := w2.drew) ha V2 V3 hne (.slice none 0 0) (.slice a la ca)
  go_region
  all_goals
    go_wp2_with fail
    refine bodyPost_ret (results_cct rfl rfl T2 rfl T3) rfl ?_
    exact ⟨_, _, _, _, _, _, [], xs, rfl, Nt.nil _, hF, by simp [num], hlt, BF⟩

set_option maxHeartbeats 2000000 in
theorem ndiv_small (a b : Option Addr) (la ca lb cb : Nat) (xs ys : List Int) (w : World) (ha : Nt w a la ca xs) (hb : Nt w b lb cb ys) (h0 : num ys ≠ 0) (hle : num ys ≤ num xs) (hw : num ys < 18446744073709551616) :
    Calls Tryz.prog 162 #[.agg #[.slice a la ca], .agg #[.slice b lb cb]] w fun e w' =>
      ∃ a1 m1 c1 a2 m2 c2 qs rs, e = .returned (.tuple #[.agg #[.slice a1 m1 c1], .agg #[.slice a2 m2 c2], .int .i64 0]) ∧ Nt w' a1 m1 c1 qs ∧ Nt w' a2 m2 c2 rs ∧ num xs = num qs * num ys + num rs ∧ num rs < num ys ∧ Below w.heap.size w w' := by
  have hlb : ((lb : Int) == 0) = false := by rw [hb.zero]; simpa using h0
  have hy0 := hb.nonneg
  have l1 := ha.2
  obtain ⟨cc, hcc⟩ : ∃ c, cmp3 (num xs) (num ys) = c := ⟨_, rfl⟩
  have hcn : ¬ cc < 0 := by rw [← hcc, cmp3_neg_iff]; omega
  have hcmp := hcc
  clear hcc
  go_enter Tryz.func162, Tryz.ntmps162
  go_wp2_with fail
  refine ent4 w _ _ _ _ _ _ _ _ (Q := fun W => Calls Tryz.prog _ _ W _) ?_
  intro w0 B0 hs V0 V1 V2 V3
  replace ha := Nt.after B0 ha
  replace hb := Nt.after B0 hb
  refine (isZero_any b lb cb w0).mono ?_
  rintro e w1 ⟨rfl, hb1⟩
  rw [hlb]
  replace V0 := V0.kept hb1
  replace V1 := V1.kept hb1
  replace V2 := V2.kept hb1
  replace V3 := V3.kept hb1
  replace B0 := step B0 hb1
  replace ha := Nt.after hb1 ha
  replace hb := Nt.after hb1 hb
  clear hb1
  have c0 := V0.cell
  have c1 := V1.cell
  have c2 := V2.cell
  have c3 := V3.cell
  have f2 := V2.frozen 0
  have f3 := V3.frozen 0
  go_wp2_with fail
  refine (ncompare_any a b la ca lb cb xs ys w1 ha hb).mono ?_
  rintro e w2 ⟨rfl, hb2⟩
  rw [hcmp]
  replace V0 := V0.kept hb2
  replace V1 := V1.kept hb2
  replace V2 := V2.kept hb2
  replace V3 := V3.kept hb2
  replace B0 := step B0 hb2
  replace ha := Nt.after hb2 ha
  replace hb := Nt.after hb2 hb
  clear hb2
  replace c0 := V0.cell
  replace c1 := V1.cell
  replace c2 := V2.cell
  replace c3 := V3.cell
  replace f2 := V2.frozen 0
  replace f3 := V3.frozen 0
  go_wp2_with fail
  refine (uint64_small b lb cb ys w2 hb hw).mono ?_
  rintro e w3 ⟨rfl, hb3⟩
  replace V0 := V0.kept hb3
  replace V1 := V1.kept hb3
  replace V2 := V2.kept hb3
  replace V3 := V3.kept hb3
  replace B0 := step B0 hb3
  replace ha := Nt.after hb3 ha
  replace hb := Nt.after hb3 hb
  clear hb3
  replace c0 := V0.cell
  replace c1 := V1.cell
  replace c2 := V2.cell
  replace c3 := V3.cell
  replace f2 := V2.frozen 0
  replace f3 := V3.frozen 0
  go_wp2_with fail
  obtain ⟨y, hy⟩ : ∃ y, num ys = y := ⟨_, rfl⟩
  rw [hy] at hy0 hw h0 ⊢
  have OV := over_ok a la ca xs y w3 ha.1 (by omega) ha.2.2.1 ⟨hy0, hw⟩ (by omega)
  refine OV.mono ?_
  rintro e w4 ⟨g, m, c, qs, r, rfl, hg, hmc, hml, hsl, hu, hn, r0, r1, hb4⟩
  replace V0 := V0.kept hb4
  replace V1 := V1.kept hb4
  replace V2 := V2.kept hb4
  replace V3 := V3.kept hb4
  replace B0 := step B0 hb4
  have hq : Nt w4 (some ⟨g, 0, none⟩) m c qs := ⟨hsl, hu, hmc, by omega⟩
  clear hb4 OV
  replace c2 := V2.cell
  replace c3 := V3.cell
  replace f2 := V2.frozen 0
  replace f3 := V3.frozen 0
  go_wp2_with fail
  refine (small_any r ⟨r0, by omega⟩ w4).mono ?_
  rintro e w5 ⟨a5, l5, k5, rs, rfl, h5, hn5, hb5⟩
  replace V2 := V2.kept hb5
  replace V3 := V3.kept hb5
  replace B0 := step B0 hb5
  replace hq := Nt.after hb5 hq
  clear hb5
  replace c2 := V2.cell
  replace c3 := V3.cell
  replace f2 := V2.frozen 0
  replace f3 := V3.frozen 0
  go_wp2_with fail
  have hne : w.heap.size + 1 + 1 ≠ w.heap.size + 1 + 1 + 1 := by omega
  obtain ⟨T2, T3⟩ := two_vars V2 V3 hne (.slice (some ⟨g, 0, none⟩) m c) (.slice a5 l5 k5)
  refine bodyPost_ret (results_cct rfl rfl T2 rfl T3) rfl ?_
  have BF := below_two B0 (b := w.heap.size + 1 + 1) (c := w.heap.size + 1 + 1 + 1) (by omega) (by omega) (.slice (some ⟨g, 0, none⟩) m c) (.slice a5 l5 k5)
  exact ⟨_, _, _, _, _, _, qs, rs, rfl, hq.store2 V2 V3 hne _ _, h5.store2 V2 V3 hne _ _, by rw [hn5, hy]; exact hn, by rw [hn5, hy]; exact r1, BF⟩

set_option maxHeartbeats 2000000 in
theorem ndiv_great (a b : Option Addr) (la ca lb cb : Nat) (xs ys : List Int) (w : World) (ha : Nt w a la ca xs) (hb : Nt w b lb cb ys) (hle : num ys ≤ num xs) (hw : 18446744073709551616 ≤ num ys) :
    Calls Tryz.prog 162 #[.agg #[.slice a la ca], .agg #[.slice b lb cb]] w fun e w' =>
      ∃ a1 m1 c1 a2 m2 c2 qs rs, e = .returned (.tuple #[.agg #[.slice a1 m1 c1], .agg #[.slice a2 m2 c2], .int .i64 0]) ∧ Nt w' a1 m1 c1 qs ∧ Nt w' a2 m2 c2 rs ∧ num xs = num qs * num ys + num rs ∧ num rs < num ys ∧ Below w.heap.size w w' := by
  have hlb : ((lb : Int) == 0) = false := by rw [hb.zero]; simp; omega
  have l1 := ha.2
  have l2 := hb.2
  have hl2 : 2 ≤ lb := by
    rcases Nat.lt_or_ge 1 lb with h | h
    · exact h
    · have := lt_of_used hb.limbs (n := 1) (by rw [hb.2.1]; exact h)
      simp [pw] at this; omega
  have hll : lb ≤ la := by
    rcases Nat.lt_or_ge la lb with h | h
    · have := num_lt_len ha.limbs hb.limbs (by rw [ha.2.1, hb.2.1]; exact h)
      omega
    · exact h
  obtain ⟨cc, hcc⟩ : ∃ c, cmp3 (num xs) (num ys) = c := ⟨_, rfl⟩
  have hcn : ¬ cc < 0 := by rw [← hcc, cmp3_neg_iff]; omega
  have hcmp := hcc
  clear hcc
  go_enter Tryz.func162, Tryz.ntmps162
  go_wp2_with fail
  refine ent4 w _ _ _ _ _ _ _ _ (Q := fun W => Calls Tryz.prog _ _ W _) ?_
  intro w0 B0 hs V0 V1 V2 V3
  replace ha := Nt.after B0 ha
  replace hb := Nt.after B0 hb
  refine (isZero_any b lb cb w0).mono ?_
  rintro e w1 ⟨rfl, hb1⟩
  rw [hlb]
  replace V0 := V0.kept hb1
  replace V1 := V1.kept hb1
  replace V2 := V2.kept hb1
  replace V3 := V3.kept hb1
  replace B0 := step B0 hb1
  replace ha := Nt.after hb1 ha
  replace hb := Nt.after hb1 hb
  clear hb1
  have c0 := V0.cell
  have c1 := V1.cell
  have c2 := V2.cell
  have c3 := V3.cell
  have f2 := V2.frozen 0
  have f3 := V3.frozen 0
  go_wp2_with fail
  refine (ncompare_any a b la ca lb cb xs ys w1 ha hb).mono ?_
  rintro e w2 ⟨rfl, hb2⟩
  rw [hcmp]
  replace V0 := V0.kept hb2
  replace V1 := V1.kept hb2
  replace V2 := V2.kept hb2
  replace V3 := V3.kept hb2
  replace B0 := step B0 hb2
  replace ha := Nt.after hb2 ha
  replace hb := Nt.after hb2 hb
  clear hb2
  replace c0 := V0.cell
  replace c1 := V1.cell
  replace c2 := V2.cell
  replace c3 := V3.cell
  replace f2 := V2.frozen 0
  replace f3 := V3.frozen 0
  go_wp2_with fail
  refine (uint64_great b lb cb ys w2 hb hw).mono ?_
  rintro e w3 ⟨rfl, hb3⟩
  replace V0 := V0.kept hb3
  replace V1 := V1.kept hb3
  replace V2 := V2.kept hb3
  replace V3 := V3.kept hb3
  replace B0 := step B0 hb3
  replace ha := Nt.after hb3 ha
  replace hb := Nt.after hb3 hb
  clear hb3
  replace c0 := V0.cell
  replace c1 := V1.cell
  replace c2 := V2.cell
  replace c3 := V3.cell
  replace f2 := V2.frozen 0
  replace f3 := V3.frozen 0
  go_wp2_with fail
  refine (divided_any a b la ca lb cb xs ys w3 ha.1 hb.1 ha.2.1 hb.2.1 ha.2.2.1 hb.2.2.1 (by omega) hl2 hll).mono ?_
  rintro e w4 ⟨g1, m1, k1, a2, m2, k2, qs, rs, rfl, hs1, hu1, hc1, hm1, hs2, hu2, hc2, hn, hr, hb4⟩
  replace V2 := V2.kept hb4
  replace V3 := V3.kept hb4
  replace B0 := step B0 hb4
  have hq : Nt w4 (some ⟨g1, 0, none⟩) m1 k1 qs := by
    refine ⟨hs1, hu1, hc1, ?_⟩
    rw [← hu1]
    refine used_of_lt hs1.2.1 (Int.lt_of_le_of_lt ?_ (Nt.lt ha))
    have h1 := num_nonneg hs1.2.1; have h2 := num_nonneg hs2.2.1
    have : num qs * 1 ≤ num qs * num ys := Int.mul_le_mul_of_nonneg_left (by omega) h1
    omega
  have hr2 : Nt w4 a2 m2 k2 rs := by
    refine ⟨hs2, hu2, hc2, ?_⟩
    rw [← hu2]
    exact used_of_lt hs2.2.1 (Int.lt_trans hr (Nt.lt hb))
  clear hb4
  replace c2 := V2.cell
  replace c3 := V3.cell
  replace f2 := V2.frozen 0
  replace f3 := V3.frozen 0
  go_wp2_with fail
  have hne : w.heap.size + 1 + 1 ≠ w.heap.size + 1 + 1 + 1 := by omega
  obtain ⟨T2, T3⟩ := two_vars V2 V3 hne (.slice (some ⟨g1, 0, none⟩) m1 k1) (.slice a2 m2 k2)
  refine bodyPost_ret (results_cct rfl rfl T2 rfl T3) rfl ?_
  have BF := below_two B0 (b := w.heap.size + 1 + 1) (c := w.heap.size + 1 + 1 + 1) (by omega) (by omega) (.slice (some ⟨g1, 0, none⟩) m1 k1) (.slice a2 m2 k2)
  exact ⟨_, _, _, _, _, _, qs, rs, rfl, hq.store2 V2 V3 hne _ _, hr2.store2 V2 V3 hne _ _, hn, hr, BF⟩

theorem ndiv_ok (a b : Option Addr) (la ca lb cb : Nat) (xs ys : List Int) (w : World) (ha : Nt w a la ca xs) (hb : Nt w b lb cb ys) (h0 : num ys ≠ 0) :
    Calls Tryz.prog 162 #[.agg #[.slice a la ca], .agg #[.slice b lb cb]] w fun e w' =>
      ∃ a1 m1 c1 a2 m2 c2 qs rs, e = .returned (.tuple #[.agg #[.slice a1 m1 c1], .agg #[.slice a2 m2 c2], .int .i64 0]) ∧ Nt w' a1 m1 c1 qs ∧ Nt w' a2 m2 c2 rs ∧ num xs = num qs * num ys + num rs ∧ num rs < num ys ∧ Below w.heap.size w w' := by
  rcases Int.lt_or_le (num xs) (num ys) with h | h
  · exact ndiv_less a b la ca lb cb xs ys w ha hb h0 h
  · rcases Int.lt_or_le (num ys) 18446744073709551616 with h' | h'
    · exact ndiv_small a b la ca lb cb xs ys w ha hb h0 h h'
    · exact ndiv_great a b la ca lb cb xs ys w ha hb h h'
end Go.Proofs.YtblafbbnplfpjaaGreatDoor
