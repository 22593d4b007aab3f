import Derived.Test.YtenmkbofpmbedaaGreatDoorWh3
import Derived.Test.YtenmkbofpmbedaaGreatDoorBsO
import Derived.Test.YtenmkbofpmbedaaGreatDoorMgAg
import Derived.Test.YtenmkbofpmbedaaGreatDoorMgAa
import Derived.Test.YtenmkbofpmbedaaGreatDoorBsJ
import Derived.Test.YtenmkbofpmbedaaGreatDoorRt16
import Derived.Test.YtenmkbofpmbedaaGreatDoorBsM
import Derived.Laws.EntriesVeiled
import Derived.Shelf.Abstract
namespace Go.Proofs.YtenmkbofpmbedaaGreatDoor
open Go.RowKit Go.Shelf
set_option linter.unusedVariables false

end Go.Proofs.YtenmkbofpmbedaaGreatDoor
namespace Go.Proofs.YtenmkbofpmbedaaGreatDoor
open Go.RowKit Go.Shelf
set_option linter.unusedVariables false

end Go.Proofs.YtenmkbofpmbedaaGreatDoor
namespace Go.Proofs.YtenmkbofpmbedaaGreatDoor
open Go.RowKit Go.Shelf

end Go.Proofs.YtenmkbofpmbedaaGreatDoor
namespace Go.Proofs.YtenmkbofpmbedaaGreatDoor
open Go.RowKit Go.Shelf

def RPrInv (xs ys cs : List Int) (n lb i : Nat) : Prop :=
  cs.length = n ∧ H.Limbs cs ∧ (∀ j, i + lb ≤ j → cs.getD j 0 = 0) ∧ H.num cs = H.num (xs.take i) * H.num ys
def InInv (ys cs : List Int) (n lb i k : Nat) (T x c : Int) : Prop :=
  cs.length = n ∧ H.Limbs cs ∧ (∀ j, i + lb ≤ j → cs.getD j 0 = 0) ∧ H.num cs + c * H.pw (i + k) = T + x * H.num (ys.take k) * H.pw i ∧ 0 ≤ c ∧ c < 4294967296

theorem in_start {xs ys cs : List Int} {n lb i : Nat} (x : Int) (I : RPrInv xs ys cs n lb i) : InInv ys cs n lb i 0 (H.num (xs.take i) * H.num ys) x 0 := by
  obtain ⟨i1, i2, i3, i4⟩ := I
  exact ⟨i1, i2, i3, by rw [i4]; simp [H.num], by omega, by omega⟩
theorem in_word {o x y c : Int} (ho : 0 ≤ o ∧ o < 4294967296) (hx : 0 ≤ x ∧ x < 4294967296) (hy : 0 ≤ y ∧ y < 4294967296) (hc : 0 ≤ c ∧ c < 4294967296) :
    0 ≤ x * y ∧ x * y ≤ 18446744065119617025 ∧ (o + x * y + c) / 4294967296 < 4294967296 := by
  have h1 : 0 ≤ x * y := Int.mul_nonneg hx.1 hy.1
  have h2 : x * y ≤ 4294967295 * y := Int.mul_le_mul_of_nonneg_right (by omega) hy.1
  generalize x * y = p at *
  omega
theorem in_step {ys cs : List Int} {n lb i k : Nat} {T x c : Int} (hx : 0 ≤ x ∧ x < 4294967296) (hy : H.Limbs ys) (hk : k < lb) (hn : i + lb ≤ n) (I : InInv ys cs n lb i k T x c) :
    InInv ys (cs.set (i + k) ((cs.getD (i + k) 0 + x * ys.getD k 0 + c) % 4294967296)) n lb i (k + 1) T x ((cs.getD (i + k) 0 + x * ys.getD k 0 + c) / 4294967296) := by
  obtain ⟨i1, i2, i3, i4, i5, i6⟩ := I
  have b1 := i2.getD (i + k); have b2 := hy.getD k
  obtain ⟨p1, p2, p3⟩ := in_word b1 hx b2 ⟨i5, i6⟩
  refine ⟨by rw [List.length_set]; exact i1, i2.set _ ⟨by omega, by omega⟩, fun j hj => by rw [getD_set_other _ _ _ _ (by omega)]; exact i3 j hj, ?_, by omega, p3⟩
  have hc := H.carry_step (v := (cs.getD (i + k) 0 + x * ys.getD k 0 + c) % 4294967296) (c' := (cs.getD (i + k) 0 + x * ys.getD k 0 + c) / 4294967296) (p := H.pw (i + k)) (s := cs.getD (i + k) 0 + x * ys.getD k 0 + c) (by omega)
  rw [Int.add_mul (cs.getD (i + k) 0 + x * ys.getD k 0), Int.add_mul (cs.getD (i + k) 0)] at hc
  rw [H.num_set _ _ _ (by omega), H.num_take_succ, ← Nat.add_assoc, H.pw, Int.sub_mul, Int.mul_add x, Int.add_mul (x * H.num (ys.take k))]
  have e : x * (ys.getD k 0 * H.pw k) * H.pw i = x * ys.getD k 0 * H.pw (i + k) := by
    rw [H.pw_add, Int.mul_comm (H.pw i), Int.mul_assoc, Int.mul_assoc, Int.mul_assoc]
  rw [e]
  omega
theorem in_end {xs ys cs : List Int} {n lb i : Nat} {c : Int} (hlb : ys.length = lb) (hn : i + lb < n) (I : InInv ys cs n lb i lb (H.num (xs.take i) * H.num ys) (xs.getD i 0) c) : RPrInv xs ys (cs.set (i + lb) c) n lb (i + 1) := by
  obtain ⟨i1, i2, i3, i4, i5, i6⟩ := I
  refine ⟨by rw [List.length_set]; exact i1, i2.set _ ⟨i5, i6⟩, fun j hj => by rw [getD_set_other _ _ _ _ (by omega)]; exact i3 j (by omega), ?_⟩
  have et : ys.take lb = ys := List.take_of_length_le (by omega)
  rw [et] at i4
  rw [H.num_set _ _ _ (by omega), i3 (i + lb) (Nat.le_refl _), Int.sub_zero, H.num_take_succ, Int.add_mul, Int.mul_right_comm (xs.getD i 0)]
  exact i4

set_option maxHeartbeats 2000000 in
theorem rproduct_any (a b : Option Addr) (la ca lb cb : Nat) (xs ys : List Int) (w : World) (ha : Sl w a la xs) (hb : Sl w b lb ys) (hx : H.Limbs xs) (hy : H.Limbs ys) (h1 : la ≤ 8000000000000) (h2 : lb ≤ 8000000000000) :
    Calls Tryz.prog 121 #[.slice a la ca, .slice b lb cb] w fun e w' => DRes w w' e (H.num xs * H.num ys) (la + lb) := by
  have hza := ha.1; have hzb := hb.1
  have hmk := make_row (la + lb) (by omega)
  rw [show ((la + lb : Nat) : Int) = (la : Int) + lb by omega] at hmk
  have I0 : Hid (RPrInv xs ys (List.replicate (la + lb) 0) (la + lb) lb 0) :=
    ⟨by simp, fun z hz => by rw [List.eq_of_mem_replicate hz]; decide, fun j _ => by rw [List.getD_eq_getElem?_getD, List.getElem?_replicate]; split <;> rfl, by rw [H.num_zeros]; simp [H.num]⟩
  have O0 : Hid (Own (w.alloc (.cells (row (List.replicate (la + lb) 0)).toArray 125)) w.heap.size (List.replicate (la + lb) 0)) := heap_alloc_new _ _
  go_enter Tryz.func121, Tryz.ntmps121
  go_wp2_with fail
  clear hmk
  go_loopw [6] (fun ii wr => ∃ (i : Nat) (cs : List Int), ii = .int .i64 i ∧ i ≤ la ∧ Hid (RPrInv xs ys cs (la + lb) lb i) ∧ Hid (Own wr w.heap.size cs) ∧ Below w.heap.size w wr) (fun ii _ => la - (intOf ii).toNat)
  case atStart => exact ⟨0, _, rfl, by omega, I0, O0, (Below.refl _ _).alloc (Nat.le_refl _) _⟩
  case round =>
    obtain ⟨i, cs, rfl, hi, hI, hO, hbl⟩ := hrel
    by_cases hlt : i < la
    · obtain ⟨x, hxx⟩ : ∃ x, xs.getD i 0 = x := ⟨_, rfl⟩
      have hxw := hx.getD i
      rw [hxx] at hxw
      have HXX : Hid (xs.getD i 0 = x) := hxx
      have IN0 : Hid (InInv ys cs (la + lb) lb i 0 (H.num (xs.take i) * H.num ys) x 0) := in_start x hI.out
      obtain ⟨ba, oa, rfl, hca⟩ := ha.2.2 (by omega)
      have hcax := hca i hlt
      rw [hxx] at hcax
      have hba : ba < w.heap.size := by
        rcases Nat.lt_or_ge ba w.heap.size with h' | h'
        · exact h'
        · simp [World.cell?, Array.getElem?_eq_none h'] at hcax
      obtain ⟨wo, hwo⟩ : ∃ wo : World, wo = wr := ⟨_, rfl⟩
      rw [← hwo] at hO hbl
      clear hxx hca
      go_wp2_with fail
      rw [← hwo]
      clear hwo
      go_loopw [7, 8] (fun cc kk wq => ∃ (k : Nat) (c : Int) (ds : List Int), kk = .int .i64 k ∧ cc = .int .u64 c ∧ k ≤ lb ∧ Hid (InInv ys ds (la + lb) lb i k (H.num (xs.take i) * H.num ys) x c) ∧ Hid (Own wq w.heap.size ds) ∧ Below w.heap.size w wq) (fun _ kk _ => lb - (intOf kk).toNat)
      case atStart => exact ⟨0, 0, cs, rfl, rfl, by omega, IN0, hO, hbl⟩
      case round =>
        obtain ⟨k, c, ds, rfl, rfl, hk, hJ, hP, hbq⟩ := hrel
        by_cases hkl : k < lb
        · obtain ⟨bb, ob, rfl, hcb⟩ := hb.2.2 (by omega)
          have hcbx := hcb k hkl
          have hbb : bb < w.heap.size := by
            rcases Nat.lt_or_ge bb w.heap.size with h' | h'
            · exact h'
            · simp [World.cell?, Array.getElem?_eq_none h'] at hcbx
          obtain ⟨y, hyy⟩ : ∃ y, ys.getD k 0 = y := ⟨_, rfl⟩
          have hyw := hy.getD k
          have hstep := in_step hxw hy hkl (by omega) hJ.out
          have hcx := hP.out.cell (i + k) (by rw [hJ.out.1]; omega)
          have hfx := hP.out.frozen (i + k)
          have how := hJ.out.2.1.getD (i + k)
          have hc0 := hJ.out.2.2.2.2.1
          have hc1 := hJ.out.2.2.2.2.2
          obtain ⟨o, hoo⟩ : ∃ o, ds.getD (i + k) 0 = o := ⟨_, rfl⟩
          rw [hyy] at hcbx hyw hstep
          rw [hoo] at hcx how hstep
          obtain ⟨p1, p2, p3⟩ := in_word how hxw hyw ⟨hc0, hc1⟩
          obtain ⟨p, hp⟩ : ∃ p, x * y = p := ⟨_, rfl⟩
          rw [hp] at p1 p2 p3 hstep
          obtain ⟨o1, o2⟩ := how
          have ca1 : wr.cell? ⟨ba, oa + i, none⟩ = some (.int .u64 x) := (hbq.cell (p := ⟨ba, oa + i, none⟩) hba).trans hcax
          have cb1 : wr.cell? ⟨bb, ob + k, none⟩ = some (.int .u64 y) := (hbq.cell (p := ⟨bb, ob + k, none⟩) hbb).trans hcbx
          obtain ⟨t, ht⟩ : ∃ t, o + p + c = t := ⟨_, rfl⟩
          rw [ht] at hstep p3
          have t0 : 0 ≤ t := by omega
          have t1 : t < 18446744073709551616 := by omega
          have m0 : IntKind.i64.wrap ((i : Int) + k) = i + k := by rw [IntKind.wrap_i64]; omega
          have m1 : IntKind.u64.wrap (x * y) = p := by rw [hp, IntKind.wrap_u64]; omega
          have m2 : IntKind.u64.wrap (p + o) = p + o := by rw [IntKind.wrap_u64]; omega
          have m3 : IntKind.u64.wrap (p + o + c) = t := by rw [IntKind.wrap_u64]; omega
          have m4 : ((i : Int) + k).toNat = i + k := by omega
          have m5 : (i : Int) + k < la + lb := by omega
          have HS : Hid (InInv ys (ds.set (i + k) (t % 4294967296)) (la + lb) lb i (k + 1) (H.num (xs.take i) * H.num ys) x (t / 4294967296)) := hstep
          clear hstep hyy hoo hp ht hcb hcbx hcax hyw p3
          go_wp2_with fail
          go_quiet (fail)
          clear m1 m2 m3
          go_wp2_with fail
          go_roundw
          case rel => exact ⟨k + 1, _, _, by go_num, rfl, by omega, HS, Own.set (w := wr.drewN nq) hP.out (i + k) _, (below_drewN hbq nq).setCell (Nat.le_refl _) _⟩
          case measure => simp [intOf]; omega
        · obtain rfl : k = lb := by omega
          have hJ' := hJ.out
          rw [← HXX.out] at hJ'
          have HE : Hid (RPrInv xs ys (ds.set (i + k) c) (la + k) k (i + 1)) := in_end hzb (by omega) hJ'
          have hcx := hP.out.cell (i + k) (by rw [hJ.out.1]; omega)
          have hfx := hP.out.frozen (i + k)
          have m4 : ((i : Int) + k).toNat = i + k := by omega
          have m5 : (i : Int) + k < la + k := by omega
          clear hJ' hcax
          go_wp2_with fail
          go_roundw
          case rel => exact ⟨i + 1, _, by go_num, by omega, HE, Own.set hP.out (i + k) _, hbq.setCell (Nat.le_refl _) _⟩
          case measure => simp [intOf]; omega
    · obtain rfl : i = la := by omega
      obtain ⟨i1, i2, i3, i4⟩ := hI.out
      have et : xs.take i = xs := List.take_of_length_le (by omega)
      rw [et] at i4
      have hsl := hO.out.sl i2.up
      rw [i1] at hsl
      have hu := usedN_le cs
      have hle : usedN cs ≤ i + lb := by omega
      clear i1 et
      go_wp2_with fail
      refine (cutr_any (some ⟨w.heap.size, 0, none⟩) (i + lb) (i + lb) cs _ hsl (by omega) (Nat.le_refl _)).mono ?_
      rintro e w2 ⟨rfl, rfl⟩
      go_wp2_with fail
      go_ret
      exact ⟨_, usedN cs, i + lb, cs.take (usedN cs), rfl, hle, hle, hsl.take hle, i2.take _, usedN_take cs (Nat.le_refl _), by rw [H.num_take_used cs (Nat.le_refl _)]; exact i4, hbl⟩

theorem rmul_any (a0 a1 : Option Addr) (l0 k0 l1 k1 : Nat) (z0 z1 : List Int) (w : World) (ha0 : Sl w a0 l0 z0) (hb0 : Sl w a1 l1 z1) (h1 : l0 ≤ 2000000000000) (h2 : l1 ≤ 2000000000000) :
    Calls Tryz.prog 82 #[.slice a0 l0 k0, .slice a1 l1 k1] w fun e w' => LRes w w' e (num z0 * num z1) (2 * l0 + 2 * l1) := by
  go_enter Tryz.func82, Tryz.ntmps82
  go_wp2_with fail
  refine (digits_any a0 l0 k0 z0 w ha0 (by omega)).mono ?_
  rintro e wa ⟨a, la, ca, xs, rfl, -, hla, ha, hx, ux, nx, ba⟩
  go_wp2_with fail
  refine (digits_any a1 l1 k1 z1 wa (hb0.below ba (Nat.le_refl _)) (by omega)).mono ?_
  rintro e wb ⟨b, lb, cb, ys, rfl, -, hlb, hb, hy, uy, ny, bb⟩
  replace ha := ha.below bb (Nat.le_refl _)
  have HB : Hid (Below w.heap.size w wb) := step ba bb
  go_wp2_with fail
  refine (rproduct_any a b la ca lb cb xs ys wb ha hb hx hy (by omega) (by omega)).mono ?_
  rintro e wd ⟨ad, md, cd, ds, rfl, -, hmd, sd, hd, ud, nd, bd⟩
  go_wp2_with fail
  refine (limbsr_any ad md cd ds wd sd hd (by omega)).mono ?_
  rintro e w4 ⟨a4, m4, c4, z4, rfl, k4, k5, s4, u4, n4, b4⟩
  go_wp2_with fail
  go_ret
  exact ⟨a4, m4, c4, z4, rfl, k4, by omega, s4, u4, by rw [n4, nd, nx, ny], step (step HB.out bd) b4⟩
end Go.Proofs.YtenmkbofpmbedaaGreatDoor
namespace Go.Proofs.YtenmkbofpmbedaaGreatDoor
open Go.RowKit Go.Shelf
set_option linter.unusedVariables false

theorem Rr.len {w : World} {s : Bool} {a : Option Addr} {l c : Nat} {zs : List Int} {b : Option Addr} {m d : Nat} {ys : List Int} {v : Rat} (h : Rr w s a l c zs b m d ys v) (hs : Short v) : l ≤ 1024 ∧ m ≤ 1024 := by
  have := h.long.2 hs
  omega
end Go.Proofs.YtenmkbofpmbedaaGreatDoor
namespace Go.Proofs.YtenmkbofpmbedaaGreatDoor
open Go.RowKit Go.Shelf
set_option linter.unusedVariables false

def rise (m half : Int) (odd : Bool) : Bool :=
  if m = 1 then false else if m = 2 then true else if m = 3 then decide (0 ≤ half) else if m = 4 then decide (0 < half) else (decide (0 < half) || (decide (half = 0) && odd))
end Go.Proofs.YtenmkbofpmbedaaGreatDoor
namespace Go.Proofs.YtenmkbofpmbedaaGreatDoor
open Go.RowKit Go.Shelf
set_option linter.unusedVariables false

end Go.Proofs.YtenmkbofpmbedaaGreatDoor
namespace Go.Proofs.YtenmkbofpmbedaaGreatDoor
open Go.RowKit Go.Shelf
set_option linter.unusedVariables false

end Go.Proofs.YtenmkbofpmbedaaGreatDoor
namespace Go.Proofs.YtenmkbofpmbedaaGreatDoor
open Go.RowKit Go.Shelf
set_option linter.unusedVariables false

theorem sign_mul_pos {x d : Int} (h : 0 < d) : Int.sign (x * d) = Int.sign x := by rw [Int.sign_mul, Int.sign_eq_one_of_pos h, Int.mul_one]
theorem cmp_signs {x y : Int} (h : Int.sign x ≠ Int.sign y) : cmp3 x y = if Int.sign x < Int.sign y then -1 else 1 := by
  rcases Int.lt_trichotomy x 0 with a | a | a <;> rcases Int.lt_trichotomy y 0 with b | b | b <;> (try subst a) <;> (try subst b) <;> (try rw [Int.sign_eq_neg_one_of_neg a]) <;> (try rw [Int.sign_eq_neg_one_of_neg b]) <;> (try rw [Int.sign_eq_one_of_pos a]) <;> (try rw [Int.sign_eq_one_of_pos b]) <;> (try simp only [Int.sign_zero]) <;> first | (rw [cmp3_lt (by omega)]; rfl) | (rw [cmp3_gt (by omega)]; rfl) | (exfalso; apply h; first | rfl | (rw [Int.sign_eq_neg_one_of_neg a, Int.sign_eq_neg_one_of_neg b]) | (rw [Int.sign_eq_one_of_pos a, Int.sign_eq_one_of_pos b]))
theorem qcmp_signs {u v : Rat} (h : Int.sign u.num ≠ Int.sign v.num) : qcmp u v = if Int.sign u.num < Int.sign v.num then -1 else 1 := by
  have h1 := u.den_pos
  have h2 := v.den_pos
  unfold qcmp
  rw [cmp_signs (by rw [sign_mul_pos (by omega), sign_mul_pos (by omega)]; exact h), sign_mul_pos (by omega), sign_mul_pos (by omega)]
theorem cmp3_anti (x y : Int) : cmp3 (-x) (-y) = - cmp3 x y := by
  rcases Int.lt_trichotomy x y with h | h | h
  · rw [cmp3_lt h, cmp3_gt (by omega)]; rfl
  · rw [cmp3_eq h, cmp3_eq (by omega)]; rfl
  · rw [cmp3_gt h, cmp3_lt (by omega)]
theorem cmp3_vals7 (x y : Int) : cmp3 x y = -1 ∨ cmp3 x y = 0 ∨ cmp3 x y = 1 := by unfold cmp3; grind
theorem qcmp_side {s1 s2 : Bool} {z1 z2 y1 y2 : List Int} {u v : Rat} (e1 : iv s1 z1 = u.num) (f1 : num y1 = u.den) (e2 : iv s2 z2 = v.num) (f2 : num y2 = v.den) (p1 : 0 ≤ num z1) (p2 : 0 ≤ num z2) (n1 : s1 = true → num z1 ≠ 0) (n2 : s2 = true → num z2 ≠ 0) (h : Int.sign u.num = Int.sign v.num) :
    qcmp u v = if Int.sign u.num < 0 then - cmp3 (num z1 * num y2) (num z2 * num y1) else cmp3 (num z1 * num y2) (num z2 * num y1) := by
  have sg : ∀ x : Int, 0 ≤ x → ¬ Int.sign x < 0 := fun x hx => by
    rcases Int.lt_trichotomy x 0 with a | a | a
    · omega
    · rw [a]; decide
    · rw [Int.sign_eq_one_of_pos a]; decide
  have key : (0 ≤ u.num ∧ u.num = num z1 ∧ v.num = num z2) ∨ (u.num < 0 ∧ u.num = - num z1 ∧ v.num = - num z2) := by
    cases s1
    · rw [iv_f] at e1
      cases s2
      · rw [iv_f] at e2; exact Or.inl ⟨by omega, e1.symm, e2.symm⟩
      · rw [iv_t] at e2
        have := n2 rfl
        have h3 := sg u.num (by omega)
        rw [h, Int.sign_eq_neg_one_of_neg (show v.num < 0 by omega)] at h3
        exact absurd (by decide) h3
    · rw [iv_t] at e1
      have := n1 rfl
      cases s2
      · rw [iv_f] at e2
        have h3 := sg v.num (by omega)
        rw [← h, Int.sign_eq_neg_one_of_neg (show u.num < 0 by omega)] at h3
        exact absurd (by decide) h3
      · rw [iv_t] at e2; exact Or.inr ⟨by omega, e1.symm, e2.symm⟩
  have e5 : qcmp u v = cmp3 (u.num * num y2) (v.num * num y1) := by unfold qcmp; rw [f1, f2]
  rw [e5]
  rcases key with ⟨k0, k1, k2⟩ | ⟨k0, k1, k2⟩
  · rw [if_neg (sg _ k0), k1, k2]
  · rw [if_pos (by rw [Int.sign_eq_neg_one_of_neg k0]; decide), k1, k2, Int.neg_mul, Int.neg_mul, cmp3_anti]

set_option maxHeartbeats 4000000 in
theorem rcompare7 (s1 : Bool) (a1 : Option Addr) (l1 c1 : Nat) (z1 : List Int) (b1 : Option Addr) (m1 d1 : Nat) (y1 : List Int) (u : Rat) (s2 : Bool) (a2 : Option Addr) (l2 c2 : Nat) (z2 : List Int) (b2 : Option Addr) (m2 d2 : Nat) (y2 : List Int) (v : Rat) (w : World) (h1 : Rr w s1 a1 l1 c1 z1 b1 m1 d1 y1 u) (h2 : Rr w s2 a2 l2 c2 z2 b2 m2 d2 y2 v) (t1 : Short u) (t2 : Short v) :
  Calls Tryz.prog 53 #[.agg #[.bool s1, .slice a1 l1 c1, .slice b1 m1 d1], .agg #[.bool s2, .slice a2 l2 c2, .slice b2 m2 d2]] w fun e w' => e = .returned (.int .i64 (qcmp u v)) ∧ Below w.heap.size w w' := by
 obtain ⟨u1, u2⟩ := h1.len t1; obtain ⟨u3, u4⟩ := h2.len t2; have HL : Hid (l1 ≤ 1024 ∧ m1 ≤ 1024 ∧ l2 ≤ 1024 ∧ m2 ≤ 1024) := ⟨u1, u2, u3, u4⟩; clear t1 t2 u1 u2 u3 u4; have HD : Hid (Int.sign u.num ≠ Int.sign v.num → qcmp u v = if Int.sign u.num < Int.sign v.num then -1 else 1) := qcmp_signs; have HE : Hid (Int.sign u.num = Int.sign v.num → qcmp u v = if Int.sign u.num < 0 then - cmp3 (num z1 * num y2) (num z2 * num y1) else cmp3 (num z1 * num y2) (num z2 * num y1)) := qcmp_side h1.2.2.2.2.2.1 h1.2.2.2.2.2.2.1 h2.2.2.2.2.2.1 h2.2.2.2.2.2.2.1 (num_nonneg h1.1.2.1) (num_nonneg h2.1.2.1) h1.2.2.2.2.2.2.2 h2.2.2.2.2.2.2.2; (obtain ⟨x, hx⟩ : ∃ x, Int.sign u.num = x := ⟨_, rfl⟩); (obtain ⟨y, hy⟩ : ∃ y, Int.sign v.num = y := ⟨_, rfl⟩); rw [hx, hy] at HD; rw [hx, hy] at HE; have EX : Hid (Int.sign u.num = x) := hx; have EY : Hid (Int.sign v.num = y) := hy; clear hx hy; have B0 : Below w.heap.size w w := Below.refl _ _
 go_enter Tryz.func53, Tryz.ntmps53
 (go_wp2_with fail); refine ent2 w _ _ _ _ (Q := fun W => Code.wp Tryz.prog _ _ _ W) ?_; intro x1 hb hs_x1 V0 V1; replace h1 := Rr.after hb h1; replace h2 := Rr.after hb h2; replace B0 := step B0 hb; clear hb hs_x1; refine wp_region_noPanic ?_; replace V0 : Va x1.drew _ _ _ := V0; replace V1 : Va x1.drew _ _ _ := V1; replace h1 := h1.drw; replace h2 := h2.drw; replace B0 := Below.drew B0; refine wp_region_held_drew (S := (fun W => W.cell? ⟨w.heap.size, 0, none⟩ = some (.bool s1) ∧ W.cell? ⟨w.heap.size, 1, none⟩ = some (.slice a1 l1 c1) ∧ W.cell? ⟨w.heap.size, 2, none⟩ = some (.slice b1 m1 d1) ∧ W.cell? ⟨w.heap.size + 1, 0, none⟩ = some (.bool s2) ∧ W.cell? ⟨w.heap.size + 1, 1, none⟩ = some (.slice a2 l2 c2) ∧ W.cell? ⟨w.heap.size + 1, 2, none⟩ = some (.slice b2 m2 d2))) (by kernel_rfl) ⟨V0.d0, V0.d1, V0.d2, V1.d0, V1.d1, V1.d2⟩ (fun hHeld => ?_); (obtain ⟨x2, hxd⟩ : ∃ xd, xd = x1.drew := ⟨_, rfl⟩); rw [← hxd] at V0 V1 h1 h2 B0 hHeld ⊢
 clear hxd; refine tjz 0 hHeld ?_; refine tjz 2 hHeld ?_; refine ryz 1 (fun K hK => ?_); simp only [gA, gB, gC]; (go_simp); refine (rsign5 s1 a1 l1 c1 z1 b1 m1 d1 y1 u _ h1).mono ?_; rintro e x3 ⟨rfl, hb⟩; replace V0 := V0.a hb; replace V1 := V1.a hb; replace h1 := Rr.after hb h1; replace h2 := Rr.after hb h2; replace B0 := step B0 hb; clear hb; rw [EX.out]; (try go_wp2_with fail); refine hK.out _ _ ⟨V0.d0, V0.d1, V0.d2, V1.d0, V1.d1, V1.d2⟩ (fun hHeld => ?_); clear hK K; refine ryz 3 (fun K hK => ?_); simp only [gA, gB, gC]; (go_simp); refine (rsign5 s2 a2 l2 c2 z2 b2 m2 d2 y2 v _ h2).mono ?_; rintro e x4 ⟨rfl, hb⟩; replace V0 := V0.a hb; replace V1 := V1.a hb
 replace h1 := Rr.after hb h1; replace h2 := Rr.after hb h2; replace B0 := step B0 hb; clear hb; rw [EY.out]; (try go_wp2_with fail); refine hK.out _ _ ⟨V0.d0, V0.d1, V0.d2, V1.d0, V1.d1, V1.d2⟩ (fun hHeld => ?_); clear hK K; refine tjz 4 hHeld ?_; refine tjz 5 hHeld ?_; refine dnz ?_; clear hHeld
 by_cases hs : x = y
 ·
  subst hs; (go_wp2_with fail); refine wp_region_noPanic ?_; replace V0 : Va x4.drew _ _ _ := V0; replace V1 : Va x4.drew _ _ _ := V1; replace h1 := h1.drw; replace h2 := h2.drw; replace B0 := Below.drew B0; refine wp_region_held_drew (S := (fun W => W.cell? ⟨w.heap.size, 0, none⟩ = some (.bool s1) ∧ W.cell? ⟨w.heap.size, 1, none⟩ = some (.slice a1 l1 c1) ∧ W.cell? ⟨w.heap.size, 2, none⟩ = some (.slice b1 m1 d1) ∧ W.cell? ⟨w.heap.size + 1, 0, none⟩ = some (.bool s2) ∧ W.cell? ⟨w.heap.size + 1, 1, none⟩ = some (.slice a2 l2 c2) ∧ W.cell? ⟨w.heap.size + 1, 2, none⟩ = some (.slice b2 m2 d2))) (by kernel_rfl) ⟨V0.d0, V0.d1, V0.d2, V1.d0, V1.d1, V1.d2⟩ (fun hHeld => ?_); (obtain ⟨x5, hxd⟩ : ∃ xd, xd = x4.drew := ⟨_, rfl⟩); rw [← hxd] at V0 V1 h1 h2 B0 hHeld ⊢; clear hxd; refine tjz 0 hHeld ?_; refine tjz 1 hHeld ?_; refine tk 2 rfl hHeld ?_
  simp only [gA, gB, gC, Act.put, gD, gE, gF]; refine tjz 3 hHeld ?_; refine tjz 5 hHeld ?_; refine tjz 6 hHeld ?_; refine tjz 7 hHeld ?_; refine tjz 8 hHeld ?_; refine ryz 4 (fun K hK => ?_); simp only [gA, gB, gC]; (go_simp); refine (rmul_any a1 b2 l1 c1 m2 d2 z1 y2 _ h1.1 h2.2.1 (by have := HL.out; omega) (by have := HL.out; omega)).mono ?_; rintro e x6 ⟨a5, l5, c5, z5, rfl, k5, t5, h5, u5, e5, hb⟩; replace V0 := V0.a hb; replace V1 := V1.a hb; replace h1 := Rr.after hb h1; replace h2 := Rr.after hb h2; replace B0 := step B0 hb; clear hb; (try go_wp2_with fail); refine hK.out _ _ ⟨V0.d0, V0.d1, V0.d2, V1.d0, V1.d1, V1.d2⟩ (fun hHeld => ?_)
  clear hK K; refine ryz 9 (fun K hK => ?_); simp only [gA, gB, gC]; (go_simp); refine (rmul_any a2 b1 l2 c2 m1 d1 z2 y1 _ h2.1 h1.2.1 (by have := HL.out; omega) (by have := HL.out; omega)).mono ?_; rintro e x7 ⟨a6, l6, c6, z6, rfl, k6, t6, h6, u6, e6, hb⟩; replace V0 := V0.a hb; replace V1 := V1.a hb; replace h1 := Rr.after hb h1; replace h2 := Rr.after hb h2; replace h5 := Sl.after hb h5; replace B0 := step B0 hb; clear hb; (try go_wp2_with fail); refine hK.out _ _ ⟨V0.d0, V0.d1, V0.d2, V1.d0, V1.d1, V1.d2⟩ (fun hHeld => ?_); clear hK K; refine ryz 10 (fun K hK => ?_); simp only [gA, gB, gC]; (go_simp); refine (rcompare_n a5 a6 l5 c5 l6 c6 z5 z6 _ h5 h6 (by have := HL.out; omega) (by have := HL.out; omega) k5 k6).mono ?_; rintro e x8 ⟨rfl, hb⟩
  replace V0 := V0.a hb; replace V1 := V1.a hb; replace h1 := Rr.after hb h1; replace h2 := Rr.after hb h2; replace h5 := Sl.after hb h5; replace h6 := Sl.after hb h6; replace B0 := step B0 hb; clear hb; rw [e5, e6]; (obtain ⟨c, hc⟩ : ∃ c, cmp3 (num z1 * num y2) (num z2 * num y1) = c := ⟨_, rfl⟩); rw [hc]; have HC := HE.out (by first | rfl | trivial); rw [hc] at HC; have hcv := cmp3_vals7 (num z1 * num y2) (num z2 * num y1); rw [hc] at hcv; have HV : Hid (c = -1 ∨ c = 0 ∨ c = 1) := hcv; have HCC : Hid (qcmp u v = if x < 0 then -c else c) := HC; clear hc HC hcv e5 e6 u5 u6 t5 t6; (try go_wp2_with fail); refine hK.out _ _ ⟨V0.d0, V0.d1, V0.d2, V1.d0, V1.d1, V1.d2⟩ (fun hHeld => ?_); clear hK K; refine tjz 11 hHeld ?_; refine dnz ?_; clear hHeld
  by_cases hn : x < 0
  ·
   have hv : Hid (qcmp u v = -c) := HCC.out.trans (if_pos hn); (have nl : decide (x < 0) = true := by simpa using hn); (have nw : IntKind.i64.wrap (-c) = -c := by rw [IntKind.wrap_i64]; have := HV.out; omega); (go_wp2_with fail)
   go_ret
   exact ⟨by rw [hv.out]; rfl, B0⟩
  ·
   have hv : Hid (qcmp u v = c) := HCC.out.trans (if_neg hn); (have nl : decide (x < 0) = false := by simpa using hn); (have nw : IntKind.i64.wrap (-c) = -c := by rw [IntKind.wrap_i64]; have := HV.out; omega); (go_wp2_with fail)
   go_ret
   exact ⟨by rw [hv.out]; rfl, B0⟩
 ·
  (have ns : (x == y) = false := by simpa using hs); (have nt : (x != y) = true := by simpa using hs)
  by_cases hl : x < y
  ·
   have hv : Hid (qcmp u v = -1) := (HD.out hs).trans (if_pos hl); (have nl : decide (x < y) = true := by simpa using hl); (go_wp2_with fail)
   go_ret
   exact ⟨by rw [hv.out]; rfl, B0⟩
  ·
   have hv : Hid (qcmp u v = 1) := (HD.out hs).trans (if_neg hl); (have nl : decide (x < y) = false := by simpa using hl); (go_wp2_with fail)
   go_ret
   exact ⟨by rw [hv.out]; rfl, B0⟩

end Go.Proofs.YtenmkbofpmbedaaGreatDoor
