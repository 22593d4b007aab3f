import Derived.Test.YtblafbbnplfpjaaGreatDoorMgAe
import Derived.Test.YtblafbbnplfpjaaGreatDoorMgAd
import Derived.Test.YtblafbbnplfpjaaGreatDoorBsI
import Derived.Test.YtblafbbnplfpjaaGreatDoorBsK
namespace Go.Proofs.YtblafbbnplfpjaaGreatDoor
open Go.RowKit Go.Shelf

def readNum (w : World) (b : Nat) : Nat → Nat → Int
  | _, 0 => 0
  | o, n + 1 => (match w.cell? ⟨b, o, none⟩ with | some (.int _ z) => z | _ => 0) + 18446744073709551616 * readNum w b (o + 1) n
def varNum (w : World) (b : Nat) : Nat :=
  match w.cell? ⟨b, 0, none⟩ with
  | some (.slice (some p) len _) => (readNum w p.block p.off len).toNat
  | _ => 0
theorem readNum_eq (w : World) (b : Nat) : ∀ (zs : List Int) (o : Nat), (∀ i, i < zs.length → w.cell? ⟨b, o + i, none⟩ = some (.int .u64 (zs.getD i 0))) → readNum w b o zs.length = num zs
  | [], _, _ => rfl
  | z :: r, o, h => by
    have h0 := h 0 (by simp)
    have hr := readNum_eq w b r (o + 1) (fun i hi => by
      have := h (i + 1) (by simpa using hi)
      rw [show o + 1 + i = o + (i + 1) by omega, this]; simp)
    simp only [Nat.add_zero, List.getD_cons_zero] at h0
    simp only [List.length_cons, readNum, h0, hr, num]
theorem varNum_eq {w : World} {v : Nat} {t : TypeId} {a : Option Addr} {len cap : Nat} {zs : List Int} (V : Va w v t #[.slice a len cap]) (h : Nt w a len cap zs) : varNum w v = (num zs).toNat := by
  have hz := h.1.1
  unfold varNum
  rw [V.cell]
  cases a with
  | none =>
    simp only
    rcases Nat.eq_zero_or_pos len with h0 | h0
    · have : zs = [] := List.eq_nil_of_length_eq_zero (by omega)
      rw [this]; rfl
    · obtain ⟨b, off, e, -⟩ := h.1.2.2 h0
      cases e
  | some p =>
    simp only
    rcases Nat.eq_zero_or_pos len with h0 | h0
    · have : zs = [] := List.eq_nil_of_length_eq_zero (by omega)
      rw [this, h0]; rfl
    · obtain ⟨b, off, e, hc⟩ := h.1.2.2 h0
      cases e
      have := readNum_eq w b zs off (fun i hi => hc i (by omega))
      rw [hz] at this
      rw [this]
end Go.Proofs.YtblafbbnplfpjaaGreatDoor

namespace Go.Proofs.YtblafbbnplfpjaaGreatDoor

def sg (o : Bool) : Int := if o then -1 else 1
theorem sg_not (o : Bool) : sg (!o) = -sg o := by cases o <;> rfl

structure EInv (x0 y0 x y u1 v1 u2 v2 : Int) (o : Bool) : Prop where
  ex : x = sg o * (u1 * x0 - v1 * y0)
  ey : y = -(sg o * (u2 * x0 - v2 * y0))
  det : u1 * v2 - u2 * v1 = sg o
  y0 : 0 ≤ y
  yx : y ≤ x
  nu1 : 0 ≤ u1
  nv1 : 0 ≤ v1
  nu2 : 0 ≤ u2
  pv2 : 1 ≤ v2
  uv2 : u2 ≤ v2
  top : v2 * x + v1 * y = x0
  way : (u1 = 1 ∧ v1 = 0 ∧ u2 = 0 ∧ v2 = 1) ∨ (u1 ≤ v1 ∧ 1 ≤ u2 ∧ 1 ≤ v1)

theorem EInv.start {x0 y0 : Int} (h0 : 0 ≤ y0) (h1 : y0 ≤ x0) : EInv x0 y0 x0 y0 1 0 0 1 false :=
  ⟨by simp [sg], by simp [sg], by simp [sg], h0, h1, by omega, by omega, by omega, by omega, by omega, by omega, .inl ⟨rfl, rfl, rfl, rfl⟩⟩
theorem EInv.step {x0 y0 x y u1 v1 u2 v2 : Int} {o : Bool} (I : EInv x0 y0 x y u1 v1 u2 v2 o) (hy : 1 ≤ y) :
    EInv x0 y0 y (x % y) u2 v2 (u1 + x / y * u2) (v1 + x / y * v2) (!o) := by
  obtain ⟨ex, ey, det, h0, yx, nu1, nv1, nu2, pv2, uv2, top, way⟩ := I
  have hm := Int.mul_ediv_add_emod x y
  have hr0 := Int.emod_nonneg x (show y ≠ 0 by omega)
  have hr1 := Int.emod_lt_of_pos x (show 0 < y by omega)
  have hq : 1 ≤ x / y := by
    rcases Int.lt_or_le (x / y) 1 with h | h
    · have : y * (x / y) ≤ y * 0 := Int.mul_le_mul_of_nonneg_left (by omega) h0
      omega
    · exact h
  generalize x / y = q at *
  generalize x % y = r at *
  have a1 : 0 ≤ q * u2 := Int.mul_nonneg (by omega) nu2
  have a2 : 1 * 1 ≤ q * v2 := Int.mul_le_mul hq pv2 (by decide) (by omega)
  have a3 : q * u2 ≤ q * v2 := Int.mul_le_mul_of_nonneg_left uv2 (by omega)
  have a4 : 1 * u2 ≤ q * u2 := Int.mul_le_mul_of_nonneg_right hq nu2
  refine ⟨?_, ?_, ?_, hr0, by omega, nu2, by omega, by omega, by omega, ?_, ?_, ?_⟩
  · rw [sg_not]; grind
  · rw [sg_not]; grind
  · rw [sg_not]; grind
  · rcases way with ⟨rfl, rfl, rfl, rfl⟩ | ⟨w1, w2, w3⟩
    · omega
    · omega
  · grind
  · rcases way with ⟨rfl, rfl, rfl, rfl⟩ | ⟨w1, w2, w3⟩
    · right; exact ⟨by omega, by omega, by omega⟩
    · right; exact ⟨by omega, by omega, by omega⟩
theorem EInv.fits {x0 y0 x y u1 v1 u2 v2 : Int} {o : Bool} (I : EInv x0 y0 x y u1 v1 u2 v2 o) (hy : 1 ≤ y) : v1 + v2 ≤ x0 ∧ v1 + x / y * v2 ≤ x0 := by
  obtain ⟨ex, ey, det, h0, yx, nu1, nv1, nu2, pv2, uv2, top, way⟩ := I
  have a1 : v2 * 1 ≤ v2 * x := Int.mul_le_mul_of_nonneg_left (by omega) (by omega)
  have a2 : v1 * 1 ≤ v1 * y := Int.mul_le_mul_of_nonneg_left hy nv1
  have hm := Int.mul_ediv_add_emod x y
  have hr0 := Int.emod_nonneg x (show y ≠ 0 by omega)
  have a3 : v2 * (y * (x / y)) ≤ v2 * x := Int.mul_le_mul_of_nonneg_left (by omega) (by omega)
  have hq : 0 ≤ x / y := Int.ediv_nonneg (by omega) h0
  have a4 : 1 * (x / y * v2) ≤ y * (x / y * v2) := Int.mul_le_mul_of_nonneg_right hy (Int.mul_nonneg hq (by omega))
  have a5 : y * (x / y * v2) = v2 * (y * (x / y)) := by grind
  exact ⟨by omega, by omega⟩

structure Sure (x0 y0 u0 v0 u1 v1 : Int) (o : Bool) : Prop where
  det : u0 * v1 - u1 * v0 = -sg o
  n0 : 0 ≤ u0
  m0 : 0 ≤ v0
  n1 : 0 ≤ u1
  m1 : 1 ≤ v1
  uv1 : u1 ≤ v1
  way : v0 = 0 ∨ (u0 ≤ v0 ∧ 1 ≤ u1)
  low : v1 ≤ sg o * (u1 * x0 - v1 * y0)
  gap : v0 + v1 ≤ -(sg o * (u0 * x0 - v0 * y0)) - sg o * (u1 * x0 - v1 * y0)

theorem EInv.sure {x0 y0 x y u1 v1 u2 v2 : Int} {o : Bool} (I : EInv x0 y0 x y u1 v1 u2 v2 o) (h1 : v2 ≤ y) (h2 : v1 + v2 ≤ x - y) : Sure x0 y0 u1 v1 u2 v2 (!o) := by
  obtain ⟨ex, ey, det, h0, yx, nu1, nv1, nu2, pv2, uv2, top, way⟩ := I
  refine ⟨by rw [sg_not]; omega, nu1, nv1, nu2, pv2, uv2, ?_, ?_, ?_⟩
  · rcases way with ⟨rfl, rfl, rfl, rfl⟩ | ⟨w1, w2, w3⟩
    · exact .inl rfl
    · exact .inr ⟨w1, w2⟩
  · rw [sg_not]; grind
  · rw [sg_not]; grind

theorem Sure.later {x0 y0 u0 v0 u1 v1 : Int} {o : Bool} (S : Sure x0 y0 u0 v0 u1 v1 o) (hv : v0 ≠ 0) {A B P A1 B1 : Int} (hA : A = x0 * P + A1) (hB : B = y0 * P + B1) (hP : 0 < P) (a0 : 0 ≤ A1) (a1 : A1 < P) (b0 : 0 ≤ B1) (b1 : B1 < P)
    {a b : Int} (ea : a = -(sg o * (u0 * A - v0 * B))) (eb : b = sg o * (u1 * A - v1 * B)) :
    0 ≤ b ∧ b < a ∧ a ≤ B ∧ A = v1 * a + v0 * b ∧ B = u1 * a + u0 * b := by
  obtain ⟨det, n0, m0, n1, m1, uv1, way, low, gap⟩ := S
  obtain ⟨uv0, pu1⟩ : u0 ≤ v0 ∧ 1 ≤ u1 := by rcases way with h | h; exact absurd h hv; exact h
  have p1 : 0 ≤ u1 * A1 := Int.mul_nonneg n1 a0
  have p2 : 0 ≤ v1 * B1 := Int.mul_nonneg (by omega) b0
  have p3 : u1 * A1 ≤ v1 * (P - 1) := Int.le_trans (Int.mul_le_mul_of_nonneg_right uv1 a0) (Int.mul_le_mul_of_nonneg_left (by omega) (by omega))
  have p4 : v1 * B1 ≤ v1 * (P - 1) := Int.mul_le_mul_of_nonneg_left (by omega) (by omega)
  have q1 : 0 ≤ u0 * A1 := Int.mul_nonneg n0 a0
  have q2 : 0 ≤ v0 * B1 := Int.mul_nonneg m0 b0
  have q3 : u0 * A1 ≤ v0 * (P - 1) := Int.le_trans (Int.mul_le_mul_of_nonneg_right uv0 a0) (Int.mul_le_mul_of_nonneg_left (by omega) m0)
  have q4 : v0 * B1 ≤ v0 * (P - 1) := Int.mul_le_mul_of_nonneg_left (by omega) m0
  have lowP : v1 * P ≤ sg o * (u1 * x0 - v1 * y0) * P := Int.mul_le_mul_of_nonneg_right low (by omega)
  have gapP : (v0 + v1) * P ≤ (-(sg o * (u0 * x0 - v0 * y0)) - sg o * (u1 * x0 - v1 * y0)) * P := Int.mul_le_mul_of_nonneg_right gap (by omega)
  have hb0 : 0 ≤ b := by
    have e1 : b = sg o * (u1 * x0 - v1 * y0) * P + sg o * (u1 * A1 - v1 * B1) := by rw [eb, hA, hB]; grind
    have e2 : -(v1 * (P - 1)) ≤ sg o * (u1 * A1 - v1 * B1) := by
      cases o
      · simp only [sg, Bool.false_eq_true, if_false]; omega
      · simp only [sg, if_true]; omega
    have e3 : v1 * (P - 1) = v1 * P - v1 := by grind
    omega
  have hab : b < a := by
    have e1 : a - b = (-(sg o * (u0 * x0 - v0 * y0)) - sg o * (u1 * x0 - v1 * y0)) * P + (-(sg o * (u0 * A1 - v0 * B1)) - sg o * (u1 * A1 - v1 * B1)) := by rw [ea, eb, hA, hB]; grind
    have e2 : -((v0 + v1) * (P - 1)) ≤ -(sg o * (u0 * A1 - v0 * B1)) - sg o * (u1 * A1 - v1 * B1) := by
      have : (v0 + v1) * (P - 1) = v0 * (P - 1) + v1 * (P - 1) := by grind
      cases o
      · simp only [sg, Bool.false_eq_true, if_false]; omega
      · simp only [sg, if_true]; omega
    have e3 : (v0 + v1) * (P - 1) = (v0 + v1) * P - (v0 + v1) := by grind
    omega
  have hss : sg o * sg o = 1 := by cases o <;> rfl
  have eA : A = v1 * a + v0 * b := by
    have : v1 * a + v0 * b = -(sg o) * (u0 * v1 - u1 * v0) * A := by rw [ea, eb]; grind
    rw [this, det]; grind
  have eB : B = u1 * a + u0 * b := by
    have : u1 * a + u0 * b = -(sg o) * (u0 * v1 - u1 * v0) * B := by rw [ea, eb]; grind
    rw [this, det]; grind
  refine ⟨hb0, hab, ?_, eA, eB⟩
  have r1 : 1 * a ≤ u1 * a := Int.mul_le_mul_of_nonneg_right pu1 (by omega)
  have r2 : 0 ≤ u0 * b := Int.mul_nonneg n0 hb0
  omega

theorem gcd_two {A B a b p q r s t u v z : Int} (hA : A = p * a + q * b) (hB : B = r * a + s * b) (ha : a = t * A + u * B) (hb : b = v * A + z * B) : Int.gcd A B = Int.gcd a b := by
  apply Nat.dvd_antisymm
  · have h1 := Int.gcd_dvd_left A B; have h2 := Int.gcd_dvd_right A B
    apply Int.ofNat_dvd.1
    apply Int.dvd_coe_gcd
    · rw [ha]; exact Int.dvd_add (Int.dvd_mul_of_dvd_right h1) (Int.dvd_mul_of_dvd_right h2)
    · rw [hb]; exact Int.dvd_add (Int.dvd_mul_of_dvd_right h1) (Int.dvd_mul_of_dvd_right h2)
  · have h1 := Int.gcd_dvd_left a b; have h2 := Int.gcd_dvd_right a b
    apply Int.ofNat_dvd.1
    apply Int.dvd_coe_gcd
    · rw [hA]; exact Int.dvd_add (Int.dvd_mul_of_dvd_right h1) (Int.dvd_mul_of_dvd_right h2)
    · rw [hB]; exact Int.dvd_add (Int.dvd_mul_of_dvd_right h1) (Int.dvd_mul_of_dvd_right h2)
theorem gcd_mod (A B : Int) : Int.gcd A B = Int.gcd B (A % B) := by
  have h := Int.mul_ediv_add_emod A B
  exact gcd_two (p := A / B) (q := 1) (r := 1) (s := 0) (t := 0) (u := 1) (v := 1) (z := -(A / B)) (by grind) (by grind) (by grind) (by grind)
theorem sure_gcd {u0 v0 u1 v1 : Int} {o : Bool} {A B a b : Int} (ea : a = -(sg o * (u0 * A - v0 * B))) (eb : b = sg o * (u1 * A - v1 * B)) (eA : A = v1 * a + v0 * b) (eB : B = u1 * a + u0 * b) : Int.gcd A B = Int.gcd a b :=
  gcd_two eA eB (t := -(sg o * u0)) (u := sg o * v0) (v := sg o * u1) (z := -(sg o * v1)) (by rw [ea]; grind) (by rw [eb]; grind)
end Go.Proofs.YtblafbbnplfpjaaGreatDoor

namespace Go.Proofs.YtblafbbnplfpjaaGreatDoor
open Go.RowKit Go.Shelf

set_option maxHeartbeats 2000000 in
theorem rcompare_any (a b : Option Addr) (la ca lb cb : Nat) (xs ys : List Int) (w : World) (ha : Sl w a la xs) (hb : Sl w b lb ys) (na : a = none → la = 0 ∧ ca = 0) (nb : b = none → lb = 0 ∧ cb = 0) (h1 : la ≤ 17592186044416) (h2 : lb ≤ 17592186044416) (hca : la ≤ ca) (hcb : lb ≤ cb) :
    Calls Tryz.prog 104 #[.slice a la ca, .slice b lb cb] w fun e w' => e = .returned (.int .i64 (cmp3 (num xs) (num ys))) ∧ Below w.heap.size w w' := by
  have hux := usedN_le xs; have huy := usedN_le ys
  have hza := ha.1; have hzb := hb.1
  have hLx := ha.2.1; have hLy := hb.2.1
  have TA := rtrim_any a la ca xs w ha na h1 hca
  have TB := fun W h => rtrim_any b lb cb ys W h nb h2 hcb
  obtain ⟨n, hn⟩ : ∃ n, usedN xs = n := ⟨_, rfl⟩
  obtain ⟨m, hm⟩ : ∃ m, usedN ys = m := ⟨_, rfl⟩
  have HXS : Hid (num (xs.take n) = num xs) := by rw [← hn]; exact num_take_used xs (Nat.le_refl _)
  have HYS : Hid (num (ys.take m) = num ys) := by rw [← hm]; exact num_take_used ys (Nat.le_refl _)
  have HUX : Hid (usedN (xs.take n) = n) := by rw [← hn]; exact usedN_take xs (Nat.le_refl _)
  have HUY : Hid (usedN (ys.take m) = m) := by rw [← hm]; exact usedN_take ys (Nat.le_refl _)
  have hLX := hLx.take n
  have hLY := hLy.take m
  rw [hn] at TA
  simp only [hm] at TB
  have hnl : n ≤ 17592186044416 := by omega
  have hml : m ≤ 17592186044416 := by omega
  rw [← HXS.out, ← HYS.out]
  obtain ⟨X, hX⟩ : ∃ X, xs.take n = X := ⟨_, rfl⟩
  obtain ⟨Y, hY⟩ : ∃ Y, ys.take m = Y := ⟨_, rfl⟩
  rw [hX] at TA HUX hLX ⊢
  rw [hY] at HUY hLY ⊢
  simp only [hY] at TB
  have HTB : Hid (∀ W, Sl W b lb ys → Calls Tryz.prog 141 #[.slice b lb cb] W fun e w' => ∃ a' c', e = .returned (.slice a' m c') ∧ Sl w' a' m Y ∧ m ≤ c' ∧ Below W.heap.size W w') := TB
  have HB : Hid (Sl w b lb ys) := hb
  clear TB hb ha na nb hX hY HXS HYS hn hm hux huy hza hzb hLx hLy hca hcb h1 h2
  go_enter Tryz.func104, Tryz.ntmps104
  go_wp2_with fail
  refine TA.mono ?_
  rintro e wa ⟨a1, c1, rfl, sa, hc1, ba⟩
  clear TA
  go_wp2_with fail
  refine (HTB.out wa (HB.out.below ba (Nat.le_refl _))).mono ?_
  rintro e wb ⟨b1, d1, rfl, sb, hd1, bb⟩
  replace sa := sa.below bb (Nat.le_refl _)
  have B0 := step ba bb
  have HBB : Hid (Below w.heap.size w wb) := B0
  clear ba bb B0 HTB HB
  have hzX := sa.1; have hzY := sb.1
  by_cases hne : n = m
  · subst hne
    have g1 : ((n : Int) != n) = false := by simp
    go_wp2_with fail
    go_loopw [7] (fun i wr => ∃ t : Nat, t ≤ n ∧ i = .int .i64 ((t : Int) - 1) ∧ Hid (∀ j, t ≤ j → X.getD j 0 = Y.getD j 0) ∧ ∃ q, wr = wb.drewN q) (fun i _ => (intOf i + 1).toNat)
    case atStart =>
      refine ⟨n, Nat.le_refl _, rfl, fun j hj => ?_, 0, rfl⟩
      rw [List.getD_eq_getElem?_getD, List.getD_eq_getElem?_getD, List.getElem?_eq_none (by omega), List.getElem?_eq_none (by omega)]
    case round =>
      obtain ⟨t, ht, rfl, hI, q, rfl⟩ := hrel
      by_cases hlt : 0 < t
      · obtain ⟨ba, oa, rfl, hca⟩ := sa.2.2 (by omega)
        obtain ⟨bb, ob, rfl, hcb⟩ := sb.2.2 (by omega)
        have hcx := hca (t - 1) (by omega)
        have hcy := hcb (t - 1) (by omega)
        have ex : ((t : Int) - 1).toNat = t - 1 := by omega
        have ht1 : 1 ≤ (t : Int) := by omega
        obtain ⟨x, hx⟩ : ∃ x, X.getD (t - 1) 0 = x := ⟨_, rfl⟩
        obtain ⟨y, hy⟩ : ∃ y, Y.getD (t - 1) 0 = y := ⟨_, rfl⟩
        rw [hx] at hcx
        rw [hy] at hcy
        have HX : Hid (X.getD (t - 1) 0 = x) := hx
        have HY : Hid (Y.getD (t - 1) 0 = y) := hy
        have HJ : Hid (∀ j, t - 1 < j → X.getD j 0 = Y.getD j 0) := fun j hj => hI.out j (by omega)
        clear hx hy hca hcb sa sb hI
        by_cases hxy : x < y
        · have e1 : cmp3 (num X) (num Y) = -1 := cmp3_lt (num_lt_at hLX hLY HJ.out (by rw [HX.out, HY.out]; omega))
          have E1 : Hid (cmp3 (num X) (num Y) = -1) := e1
          clear e1
          go_wp2_with fail
          go_quiet (fail)
          go_wp2_with fail
          go_ret
          exact ⟨ret_int E1.out.symm, below_drewN (below_drewN HBB.out _) _⟩
        · by_cases hyx : y < x
          · have e1 : cmp3 (num X) (num Y) = 1 := cmp3_gt (num_lt_at hLY hLX (fun j hj => (HJ.out j hj).symm) (by rw [HX.out, HY.out]; exact hyx))
            have E1 : Hid (cmp3 (num X) (num Y) = 1) := e1
            clear e1
            go_wp2_with fail
            go_quiet (fail)
            go_wp2_with fail
            go_quiet (fail)
            go_wp2_with fail
            go_ret
            exact ⟨ret_int E1.out.symm, below_drewN (below_drewN (below_drewN HBB.out _) _) _⟩
          · have HXY : Hid (x = y) := (by omega : x = y)
            go_wp2_with fail
            go_quiet (fail)
            go_wp2_with fail
            go_quiet (fail)
            go_wp2_with fail
            go_roundw
            case rel =>
              refine ⟨t - 1, by omega, by rw [show ((t - 1 : Nat) : Int) - 1 = (t : Int) - 1 - 1 by omega], ?_, _, rfl⟩
              intro j hj
              by_cases hjt : j = t - 1
              · rw [hjt, HX.out, HY.out, HXY.out]
              · exact HJ.out j (by omega)
            case measure => simp [intOf]; omega
      · obtain rfl : t = 0 := by omega
        have e1 : cmp3 (num X) (num Y) = 0 := cmp3_eq (num_eq_of fun j => hI.out j (by omega))
        have E1 : Hid (cmp3 (num X) (num Y) = 0) := e1
        clear e1
        go_wp2_with fail
        go_ret
        exact ⟨ret_int E1.out.symm, below_drewN HBB.out _⟩
  · have g1 : ((n : Int) != m) = true := by simp; omega
    by_cases hgt : m < n
    · have e1 : cmp3 (num X) (num Y) = 1 := cmp3_gt (num_lt_len hLY hLX (by rw [HUX.out, HUY.out]; exact hgt))
      have E1 : Hid (cmp3 (num X) (num Y) = 1) := e1
      clear e1
      go_wp2_with fail
      go_ret
      exact ⟨ret_int E1.out.symm, HBB.out⟩
    · have e1 : cmp3 (num X) (num Y) = -1 := cmp3_lt (num_lt_len hLX hLY (by rw [HUX.out, HUY.out]; omega))
      have E1 : Hid (cmp3 (num X) (num Y) = -1) := e1
      clear e1
      have hlt : n < m := by omega
      go_wp2_with fail
      go_ret
      exact ⟨ret_int E1.out.symm, HBB.out⟩
end Go.Proofs.YtblafbbnplfpjaaGreatDoor

namespace Go.Proofs.YtblafbbnplfpjaaGreatDoor
open Go.RowKit Go.Shelf

def slNum (v : Value) (w : World) : Nat :=
  match v with
  | .slice (some p) len _ => (readNum w p.block p.off len).toNat
  | _ => 0
theorem slNum_eq {w : World} {a : Option Addr} {len cap : Nat} {zs : List Int} (h : Sl w a len zs) : slNum (.slice a len cap) w = (num zs).toNat := by
  have hz := h.1
  unfold slNum
  cases a with
  | none =>
    simp only
    rcases Nat.eq_zero_or_pos len with h0 | h0
    · have : zs = [] := List.eq_nil_of_length_eq_zero (by omega)
      rw [this]; rfl
    · obtain ⟨b, off, e, -⟩ := h.2.2 h0
      cases e
  | some p =>
    simp only
    rcases Nat.eq_zero_or_pos len with h0 | h0
    · have : zs = [] := List.eq_nil_of_length_eq_zero (by omega)
      rw [this, h0]; rfl
    · obtain ⟨b, off, e, hc⟩ := h.2.2 h0
      cases e
      have := readNum_eq w b zs off (fun i hi => hc i (by omega))
      rw [hz] at this
      rw [this]

end Go.Proofs.YtblafbbnplfpjaaGreatDoor

namespace Go.Proofs.YtblafbbnplfpjaaGreatDoor
open Go.RowKit Go.Shelf
set_option linter.unusedVariables false

theorem rtrim_m (a : Option Addr) (len cap : Nat) (zs : List Int) (w : World) (h : Sl w a len zs) (hl : len ≤ 17592186044416) (hcap : len ≤ cap) :
    Calls Tryz.prog 141 #[.slice a len cap] w fun e w' => ∃ a' c', e = .returned (.slice a' (usedN zs) c') ∧ Sl w' a' (usedN zs) (zs.take (usedN zs)) ∧ usedN zs ≤ c' ∧ Below w.heap.size w w' := by
  refine (rtrim_n a len cap zs w h hl hcap).mono ?_
  rintro e w' ⟨a', c', h1, h2, h3, -, h4⟩
  exact ⟨a', c', h1, h2, h3, h4⟩

set_option maxHeartbeats 2000000 in
theorem rcompare_n (a b : Option Addr) (la ca lb cb : Nat) (xs ys : List Int) (w : World) (ha : Sl w a la xs) (hb : Sl w b lb ys) (h1 : la ≤ 17592186044416) (h2 : lb ≤ 17592186044416) (hca : la ≤ ca) (hcb : lb ≤ cb) :
    Calls Tryz.prog 104 #[.slice a la ca, .slice b lb cb] w fun e w' => e = .returned (.int .i64 (cmp3 (num xs) (num ys))) ∧ Below w.heap.size w w' := by
  have hux := usedN_le xs; have huy := usedN_le ys
  have hza := ha.1; have hzb := hb.1
  have hLx := ha.2.1; have hLy := hb.2.1
  have TA := rtrim_m a la ca xs w ha h1 hca
  have TB := fun W h => rtrim_m b lb cb ys W h h2 hcb
  obtain ⟨n, hn⟩ : ∃ n, usedN xs = n := ⟨_, rfl⟩
  obtain ⟨m, hm⟩ : ∃ m, usedN ys = m := ⟨_, rfl⟩
  have HXS : Hid (num (xs.take n) = num xs) := by rw [← hn]; exact num_take_used xs (Nat.le_refl _)
  have HYS : Hid (num (ys.take m) = num ys) := by rw [← hm]; exact num_take_used ys (Nat.le_refl _)
  have HUX : Hid (usedN (xs.take n) = n) := by rw [← hn]; exact usedN_take xs (Nat.le_refl _)
  have HUY : Hid (usedN (ys.take m) = m) := by rw [← hm]; exact usedN_take ys (Nat.le_refl _)
  have hLX := hLx.take n
  have hLY := hLy.take m
  rw [hn] at TA
  simp only [hm] at TB
  have hnl : n ≤ 17592186044416 := by omega
  have hml : m ≤ 17592186044416 := by omega
  rw [← HXS.out, ← HYS.out]
  obtain ⟨X, hX⟩ : ∃ X, xs.take n = X := ⟨_, rfl⟩
  obtain ⟨Y, hY⟩ : ∃ Y, ys.take m = Y := ⟨_, rfl⟩
  rw [hX] at TA HUX hLX ⊢
  rw [hY] at HUY hLY ⊢
  simp only [hY] at TB
  have HTB : Hid (∀ W, Sl W b lb ys → Calls Tryz.prog 141 #[.slice b lb cb] W fun e w' => ∃ a' c', e = .returned (.slice a' m c') ∧ Sl w' a' m Y ∧ m ≤ c' ∧ Below W.heap.size W w') := TB
  have HB : Hid (Sl w b lb ys) := hb
  clear TB hb ha hX hY HXS HYS hn hm hux huy hza hzb hLx hLy hca hcb h1 h2
  go_enter Tryz.func104, Tryz.ntmps104
  go_wp2_with fail
  refine TA.mono ?_
  rintro e wa ⟨a1, c1, rfl, sa, hc1, ba⟩
  clear TA
  go_wp2_with fail
  refine (HTB.out wa (HB.out.below ba (Nat.le_refl _))).mono ?_
  rintro e wb ⟨b1, d1, rfl, sb, hd1, bb⟩
  replace sa := sa.below bb (Nat.le_refl _)
  have B0 := step ba bb
  have HBB : Hid (Below w.heap.size w wb) := B0
  clear ba bb B0 HTB HB
  have hzX := sa.1; have hzY := sb.1
  by_cases hne : n = m
  · subst hne
    have g1 : ((n : Int) != n) = false := by simp
    go_wp2_with fail
    go_loopw [7] (fun i wr => ∃ t : Nat, t ≤ n ∧ i = .int .i64 ((t : Int) - 1) ∧ Hid (∀ j, t ≤ j → X.getD j 0 = Y.getD j 0) ∧ ∃ q, wr = wb.drewN q) (fun i _ => (intOf i + 1).toNat)
    case atStart =>
      refine ⟨n, Nat.le_refl _, rfl, fun j hj => ?_, 0, rfl⟩
      rw [List.getD_eq_getElem?_getD, List.getD_eq_getElem?_getD, List.getElem?_eq_none (by omega), List.getElem?_eq_none (by omega)]
    case round =>
      obtain ⟨t, ht, rfl, hI, q, rfl⟩ := hrel
      by_cases hlt : 0 < t
      · obtain ⟨ba, oa, rfl, hca⟩ := sa.2.2 (by omega)
        obtain ⟨bb, ob, rfl, hcb⟩ := sb.2.2 (by omega)
        have hcx := hca (t - 1) (by omega)
        have hcy := hcb (t - 1) (by omega)
        have ex : ((t : Int) - 1).toNat = t - 1 := by omega
        have ht1 : 1 ≤ (t : Int) := by omega
        obtain ⟨x, hx⟩ : ∃ x, X.getD (t - 1) 0 = x := ⟨_, rfl⟩
        obtain ⟨y, hy⟩ : ∃ y, Y.getD (t - 1) 0 = y := ⟨_, rfl⟩
        rw [hx] at hcx
        rw [hy] at hcy
        have HX : Hid (X.getD (t - 1) 0 = x) := hx
        have HY : Hid (Y.getD (t - 1) 0 = y) := hy
        have HJ : Hid (∀ j, t - 1 < j → X.getD j 0 = Y.getD j 0) := fun j hj => hI.out j (by omega)
        clear hx hy hca hcb sa sb hI
        by_cases hxy : x < y
        · have e1 : cmp3 (num X) (num Y) = -1 := cmp3_lt (num_lt_at hLX hLY HJ.out (by rw [HX.out, HY.out]; omega))
          have E1 : Hid (cmp3 (num X) (num Y) = -1) := e1
          clear e1
          go_wp2_with fail
          go_quiet (fail)
          go_wp2_with fail
          go_ret
          exact ⟨ret_int E1.out.symm, below_drewN (below_drewN HBB.out _) _⟩
        · by_cases hyx : y < x
          · have e1 : cmp3 (num X) (num Y) = 1 := cmp3_gt (num_lt_at hLY hLX (fun j hj => (HJ.out j hj).symm) (by rw [HX.out, HY.out]; exact hyx))
            have E1 : Hid (cmp3 (num X) (num Y) = 1) := e1
            clear e1
            go_wp2_with fail
            go_quiet (fail)
            go_wp2_with fail
            go_quiet (fail)
            go_wp2_with fail
            go_ret
            exact ⟨ret_int E1.out.symm, below_drewN (below_drewN (below_drewN HBB.out _) _) _⟩
          · have HXY : Hid (x = y) := (by omega : x = y)
            go_wp2_with fail
            go_quiet (fail)
            go_wp2_with fail
            go_quiet (fail)
            go_wp2_with fail
            go_roundw
            case rel =>
              refine ⟨t - 1, by omega, by rw [show ((t - 1 : Nat) : Int) - 1 = (t : Int) - 1 - 1 by omega], ?_, _, rfl⟩
              intro j hj
              by_cases hjt : j = t - 1
              · rw [hjt, HX.out, HY.out, HXY.out]
              · exact HJ.out j (by omega)
            case measure => simp [intOf]; omega
      · obtain rfl : t = 0 := by omega
        have e1 : cmp3 (num X) (num Y) = 0 := cmp3_eq (num_eq_of fun j => hI.out j (by omega))
        have E1 : Hid (cmp3 (num X) (num Y) = 0) := e1
        clear e1
        go_wp2_with fail
        go_ret
        exact ⟨ret_int E1.out.symm, below_drewN HBB.out _⟩
  · have g1 : ((n : Int) != m) = true := by simp; omega
    by_cases hgt : m < n
    · have e1 : cmp3 (num X) (num Y) = 1 := cmp3_gt (num_lt_len hLY hLX (by rw [HUX.out, HUY.out]; exact hgt))
      have E1 : Hid (cmp3 (num X) (num Y) = 1) := e1
      clear e1
      go_wp2_with fail
      go_ret
      exact ⟨ret_int E1.out.symm, HBB.out⟩
    · have e1 : cmp3 (num X) (num Y) = -1 := cmp3_lt (num_lt_len hLX hLY (by rw [HUX.out, HUY.out]; omega))
      have E1 : Hid (cmp3 (num X) (num Y) = -1) := e1
      clear e1
      have hlt : n < m := by omega
      go_wp2_with fail
      go_ret
      exact ⟨ret_int E1.out.symm, HBB.out⟩

set_option maxHeartbeats 2000000 in
theorem rdivmod_n (a0 a1 : Option Addr) (l0 k0 l1 k1 : Nat) (z0 z1 : List Int) (w : World) (ha0 : Sl w a0 l0 z0) (hb0 : Sl w a1 l1 z1) (c0 : l0 ≤ k0) (h1 : l0 ≤ 1000000000000) (h2 : l1 ≤ 1000000000000) (hz : num z1 ≠ 0) :
    Calls Tryz.prog 112 #[.slice a0 l0 k0, .slice a1 l1 k1] w fun e w' =>
      ∃ a1 m1 c1 qs a2 m2 c2 rs, e = .returned (.tuple #[.slice a1 m1 c1, .slice a2 m2 c2]) ∧ Sl w' a1 m1 qs ∧ usedN qs = m1 ∧ m1 ≤ c1 ∧ Sl w' a2 m2 rs ∧ usedN rs = m2 ∧ m2 ≤ c2 ∧ num z0 = num qs * num z1 + num rs ∧ 0 ≤ num rs ∧ num rs < num z1 ∧ m1 ≤ 2 * l0 ∧ m2 ≤ 2 * l0 + 1 ∧ Below w.heap.size w w' := by
  have HS0 : Hid (Sl w a0 l0 z0) := ha0
  go_enter Tryz.func112, Tryz.ntmps112
  go_wp2_with fail
  refine (digits_any a0 l0 k0 z0 w ha0 (by omega)).mono ?_
  rintro e wa ⟨a, la, ca, xs, rfl, -, hla, ha, hx, ux, nx, ba⟩
  go_wp2_with fail
  refine (digits_any a1 l1 k1 z1 wa (hb0.below ba (Nat.le_refl _)) (by omega)).mono ?_
  rintro e wb ⟨b, lb, cb, ys, rfl, -, hlb, hb, hy, uy, ny, bb⟩
  replace ha := ha.below bb (Nat.le_refl _)
  have HB : Hid (Below w.heap.size w wb) := step ba bb
  have HNX : Hid (H.num xs = num z0) := nx
  have HNY : Hid (H.num ys = num z1) := ny
  have hza := ha.1; have hzb := hb.1
  have hlb0 : lb ≠ 0 := by
    intro h
    have := (H.num_eq_zero hy).2 (by omega)
    rw [ny] at this; exact hz this
  have HUX : Hid (usedN xs = la) := ux
  have HUY : Hid (usedN ys = lb) := uy
  clear ba bb ha0 hb0 nx ny ux uy hz
  by_cases hlt : la < lb
  · have HLT : Hid (num z0 < num z1) := by
      show _ < _
      rw [← HNX.out, ← HNY.out]
      exact H.num_lt_len hx hy (by rw [HUX.out, HUY.out]; exact hlt)
    have hlt' : (la : Int) < lb := by omega
    go_wp2_with fail
    refine (rtrim_m a0 l0 k0 z0 wb (HS0.out.below HB.out (Nat.le_refl _)) (by omega) c0).mono ?_
    rintro e w5 ⟨a5, c5, rfl, s5, hc5, b5⟩
    have hu := usedN_le z0
    have hl0 := HS0.out.1
    have hp := num_nonneg HS0.out.2.1
    go_wp2_with fail
    go_ret2
    exact ⟨none, 0, 0, [], a5, usedN z0, c5, z0.take (usedN z0), rfl, ⟨rfl, Limbs.nil, fun h => absurd h (by decide)⟩, rfl, Nat.le_refl _, s5, usedN_take z0 (Nat.le_refl _), hc5, by rw [num_take_used z0 (Nat.le_refl _)]; simp [num], by rw [num_take_used z0 (Nat.le_refl _)]; exact hp, by rw [num_take_used z0 (Nat.le_refl _)]; exact HLT.out, by omega, by omega, step HB.out b5⟩
  · have hlt' : ¬ (la : Int) < lb := by omega
    by_cases h1' : lb = 1
    · subst h1'
      obtain ⟨bb, ob, rfl, hcb⟩ := hb.2.2 (by omega)
      have hcy := hcb 0 (by omega)
      rw [Nat.add_zero] at hcy
      have hyb := hy.getD 0
      have hyt0 : ys.getD 0 0 ≠ 0 := by have := usedN_top ys (by rw [HUY.out]; omega); rwa [HUY.out] at this
      have hyn : H.num ys = ys.getD 0 0 := by
        have := Htop ys 0 hzb
        simpa [H.num, H.pw] using this
      obtain ⟨y, hyy⟩ : ∃ y, ys.getD 0 0 = y := ⟨_, rfl⟩
      rw [hyy] at hcy hyb hyt0 hyn
      have HYN : Hid (H.num ys = y) := hyn
      clear hyn hyy hcb
      go_wp2_with fail
      refine (rshort_any a la ca xs y wb ha hx (by omega) (by omega) hyb.2).mono ?_
      rintro e w5 ⟨a5, m5, c5, d5, r, rfl, k5, l5, s5, L5, u5, n5, r0, r1, b5⟩
      have N5 : Hid (H.num xs = H.num d5 * y + r) := n5
      clear n5
      go_wp2_with fail
      refine (limbsr_any a5 m5 c5 d5 w5 s5 L5 (by omega)).mono ?_
      rintro e w6 ⟨a6, m6, c6, z6, rfl, k6, l6, s6, u6, n6, b6⟩
      go_wp2_with fail
      refine (rsmall_any r ⟨r0, by omega⟩ w6).mono ?_
      rintro e w7 ⟨a7, m7, c7, z7, rfl, k7, l7, s7, u7, n7, b7⟩
      replace s6 := s6.below b7 (Nat.le_refl _)
      go_wp2_with fail
      go_ret2
      exact ⟨a6, m6, c6, z6, a7, m7, c7, z7, rfl, s6, u6, k6, s7, u7, k7, by rw [← HNX.out, ← HNY.out, HYN.out, N5.out, n6, n7], by omega, by rw [← HNY.out, HYN.out, n7]; exact r1, by omega, by omega, step (step (step HB.out b5) b6) b7⟩
    · obtain ⟨n, rfl⟩ : ∃ n, lb = n + 1 := ⟨lb - 1, by omega⟩
      have g1 : ((n : Int) + 1 == 1) = false := by simp; omega
      have LG := rlongd_any a b la ca n cb xs ys wb ha hb hx hy HUY.out (by omega) (by omega)
      have HLG : Hid (Calls Tryz.prog _ _ _ _) := LG
      clear LG
      go_wp2_with fail
      refine HLG.out.mono ?_
      rintro e w5 ⟨a5, m5, c5, d5, a6, m6, c6, d6, rfl, s5, L5, l5, s6, L6, l6, n5, r0, r1, b5⟩
      clear HLG
      go_wp2_with fail
      refine (limbsr_any a5 m5 c5 d5 w5 s5 L5 (by omega)).mono ?_
      rintro e w7 ⟨a7, m7, c7, z7, rfl, k7, l7, s7, u7, n7, b7⟩
      replace s6 := s6.below b7 (Nat.le_refl _)
      go_wp2_with fail
      refine (limbsr_any a6 m6 c6 d6 w7 s6 L6 (by omega)).mono ?_
      rintro e w8 ⟨a8, m8, c8, z8, rfl, k8, l8, s8, u8, n8, b8⟩
      replace s7 := s7.below b8 (Nat.le_refl _)
      go_wp2_with fail
      go_ret2
      exact ⟨a7, m7, c7, z7, a8, m8, c8, z8, rfl, s7, u7, k7, s8, u8, k8, by rw [← HNX.out, ← HNY.out, n7, n8]; exact n5, by rw [n8]; exact r0, by rw [n8, ← HNY.out]; exact r1, by omega, by omega, step (step (step HB.out b5) b7) b8⟩

set_option maxHeartbeats 2000000 in
theorem rgcd_n (a0 a1 : Option Addr) (l0 k0 l1 k1 : Nat) (z0 z1 : List Int) (w : World) (ha0 : Sl w a0 l0 z0) (hb0 : Sl w a1 l1 z1) (c0 : l0 ≤ k0) (c1 : l1 ≤ k1) (h1 : l0 ≤ 17592186044416) (h2 : l1 ≤ 17592186044416) (u0 : usedN z0 ≤ 4096) (u1 : usedN z1 ≤ 4096) :
    Calls Tryz.prog 111 #[.slice a0 l0 k0, .slice a1 l1 k1] w fun e w' =>
      ∃ a m c zs, e = .returned (.slice a m c) ∧ m ≤ c ∧ Sl w' a m zs ∧ usedN zs = m ∧ num zs = (Int.gcd (num z0) (num z1) : Nat) ∧ Below w.heap.size w w' := by
  obtain ⟨G, hG⟩ : ∃ G, Int.gcd (num z0) (num z1) = G := ⟨_, rfl⟩
  rw [hG]
  have HG0 : Hid (Int.gcd (num z0) (num z1) = G) := hG
  clear hG
  go_enter Tryz.func111, Tryz.ntmps111
  go_wp2_with fail
  refine (rtrim_n a0 l0 k0 z0 w ha0 h1 c0).mono ?_
  rintro e wa ⟨a2, k2, rfl, s2, hk2, n2, ba⟩
  go_wp2_with fail
  refine (rtrim_n a1 l1 k1 z1 wa (hb0.below ba (Nat.le_refl _)) h2 c1).mono ?_
  rintro e wb ⟨a3, k3, rfl, s3, hk3, n3, bb⟩
  replace s2 := s2.below bb (Nat.le_refl _)
  have HB0 : Hid (Below w.heap.size w wb) := step ba bb
  have t2 := usedN_take z0 (Nat.le_refl _)
  have t3 := usedN_take z1 (Nat.le_refl _)
  have HG1 : Hid (Int.gcd (num (z0.take (usedN z0))) (num (z1.take (usedN z1))) = G) := by
    show _ = _
    rw [num_take_used z0 (Nat.le_refl _), num_take_used z1 (Nat.le_refl _)]; exact HG0.out
  have HS2 : Hid (Sl wb a2 (usedN z0) (z0.take (usedN z0))) := s2
  have HS3 : Hid (Sl wb a3 (usedN z1) (z1.take (usedN z1))) := s3
  have HN2 : Hid (a2 = none → usedN z0 = 0 ∧ k2 = 0) := n2
  have HT2 : Hid (usedN (z0.take (usedN z0)) = usedN z0) := t2
  have HT3 : Hid (usedN (z1.take (usedN z1)) = usedN z1) := t3
  clear s2 s3 n2 n3 ba bb t2 t3 ha0 hb0
  go_wp2_with fail
  go_loopw [5, 6] (fun x y wr => ∃ (a : Option Addr) (la ca : Nat) (xs : List Int) (b : Option Addr) (lb cb : Nat) (ys : List Int), x = .slice a la ca ∧ y = .slice b lb cb ∧ Hid (Sl wr a la xs) ∧ Hid (Sl wr b lb ys) ∧ la ≤ ca ∧ lb ≤ cb ∧ la ≤ 4096 ∧ lb ≤ 4096 ∧ Hid (usedN xs = la) ∧ Hid (usedN ys = lb) ∧ Hid (a = none → la = 0 ∧ ca = 0) ∧ Hid (Int.gcd (num xs) (num ys) = G) ∧ Hid (Below w.heap.size w wr)) (fun _ y wr => slNum y wr)
  case atStart => exact ⟨a2, usedN z0, k2, _, a3, usedN z1, k3, _, rfl, rfl, HS2, HS3, hk2, hk3, u0, u1, HT2, HT3, HN2, HG1, HB0⟩
  case round =>
    clear HS2 HS3 HT2 HT3 HN2 HG1 HB0
    obtain ⟨a, la, ca, xs, b, lb, cb, ys, rfl, rfl, hs, ht, hca, hcb, hla, hlb, hux, huy, hn, hg, hB⟩ := hrel
    have hx0 := num_nonneg hs.out.2.1
    have hy0 := num_nonneg ht.out.2.1
    have hzy := num_eq_zero ht.out.2.1
    rw [huy.out] at hzy
    by_cases hl : 0 < lb
    · have hyz : num ys ≠ 0 := fun h => by have := hzy.1 h; omega
      have hl' : (0 : Int) < lb := by omega
      have D := rdivmod_any a b la ca lb cb xs ys wr hs.out ht.out hn.out hca (by omega) (by omega) hyz
      have HD : Hid (Calls Tryz.prog _ _ _ _) := D
      have hme := slNum_eq (cap := cb) ht.out
      have HME : Hid (slNum (.slice b lb cb) wr = (num ys).toNat) := hme
      clear D hyz hzy hme
      go_wp2_with fail
      refine HD.out.mono ?_
      rintro e w5 ⟨a5, m5, c5, z5, a6, m6, c6, z6, rfl, s5, u5, k5, s6, u6, k6, n5, r0, r1, -, -, b5⟩
      have ht5 := ht.out.below b5 (Nat.le_refl _)
      have HG5 : Hid (Int.gcd (num ys) (num z6) = G) := by
        have em : num xs % num ys = num z6 := by
          rw [n5, Int.add_comm, Int.add_mul_emod_self_right]
          exact Int.emod_eq_of_lt r0 r1
        show _ = _
        rw [← em, ← gcd_mod]; exact hg.out
      have hm6 : m6 ≤ 4096 := by
        have h5 := lt_of_used ht.out.2.1 (n := 4096) (by rw [huy.out]; exact hlb)
        have := used_of_lt s6.2.1 (n := 4096) (Int.lt_trans r1 h5)
        omega
      have HNB : Hid (b = none → lb = 0 ∧ cb = 0) := fun h => by
        obtain ⟨bb, off, e, -⟩ := ht.out.2.2 hl
        rw [h] at e; cases e
      have HB5 : Hid (Below w.heap.size w w5) := step hB.out b5
      have hme6 := slNum_eq (cap := c6) s6
      have HM6 : Hid (slNum (.slice a6 m6 c6) w5 = (num z6).toNat) := hme6
      have HR1 : Hid (0 ≤ num z6 ∧ num z6 < num ys) := ⟨r0, r1⟩
      have HT5 : Hid (Sl w5 b lb ys) := ht5
      have HS6 : Hid (Sl w5 a6 m6 z6) := s6
      have HU6 : Hid (usedN z6 = m6) := u6
      clear n5 r0 r1 hme6 ht5 s5 s6 u5 u6 HD b5 hx0 hy0
      go_wp2_with fail
      go_roundw
      case rel => exact ⟨b, lb, cb, ys, a6, m6, c6, z6, rfl, rfl, HT5, HS6, hcb, k6, hlb, hm6, huy, HU6, HNB, HG5, HB5⟩
      case measure =>
        have := HR1.out
        show slNum _ _ < slNum _ _
        rw [HM6.out, HME.out]; omega
    · have hl' : ¬ (0 : Int) < lb := by omega
      have hyz : num ys = 0 := hzy.2 (by omega)
      have HE : Hid (num xs = (G : Nat)) := by
        show _ = _
        rw [← hg.out, hyz, Int.gcd_zero_right]; omega
      clear hzy hyz
      go_wp2_with fail
      go_ret
      exact ⟨a, la, ca, rfl, hca, xs, hs.out, hux.out, HE.out, hB.out⟩
end Go.Proofs.YtblafbbnplfpjaaGreatDoor
