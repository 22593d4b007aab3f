/-
  Put together of: Apart, Member, Fore2.
-/
import Derived.Test.YtblafbbnplfpjaaGreatDoorMgAe
import Derived.Test.YtblafbbnplfpjaaGreatDoorBsO
import Derived.Test.YtblafbbnplfpjaaGreatDoorMgAk
import Derived.Test.YtblafbbnplfpjaaGreatDoorMgAd
namespace Go.Proofs.YtblafbbnplfpjaaGreatDoor
open Go.RowKit Go.Shelf

/-- What is still to be taken off stands from place i on. -/
def CInv (N : Int) (L i : Nat) (c : Int) (cs : List Int) : Prop := cs.length = L ∧ Limbs cs ∧ num cs - c * pw i = N ∧ 0 ≤ c ∧ c < 18446744073709551616
theorem ring_c {M c v y q p N : Int} (h : M - c * p = N) (h2 : v + 18446744073709551616 * q = y - c) : M + (v - y) * p - -q * (18446744073709551616 * p) = N := by grind
theorem cinv_in {N : Int} {L i : Nat} {c : Int} {cs : List Int} (I : CInv N L i c cs) (h0 : 0 ≤ N) (hc : 0 < c) : i < L := by
  obtain ⟨h1, h2, h3, h4, h5⟩ := I
  have h6 := num_lt h2
  rw [h1] at h6
  have h7 : 1 * pw i ≤ c * pw i := mul_le (Int.le_of_lt (pw_pos i)) (by omega)
  rcases Nat.lt_or_ge i L with h | h
  · exact h
  · have := pw_mono h; omega
theorem cinv_step {N : Int} {L i : Nat} {c : Int} {cs : List Int} (I : CInv N L i c cs) (h : i < L) :
    CInv N L (i + 1) (-((cs.getD i 0 - c) / 18446744073709551616)) (cs.set i ((cs.getD i 0 - c) % 18446744073709551616)) := by
  obtain ⟨h1, h2, h3, h4, h5⟩ := I
  have hb := h2.getD i
  have hs := num_set (cs := cs) (i := i) ((cs.getD i 0 - c) % 18446744073709551616) (by omega)
  have hpw : pw (i + 1) = 18446744073709551616 * pw i := rfl
  generalize cs.getD i 0 = y at *
  refine ⟨by rw [List.length_set]; exact h1, h2.set _ ⟨by omega, by omega⟩, ?_, by omega, by omega⟩
  rw [hs, hpw]
  exact ring_c h3 (by omega)
theorem cinv_end {N : Int} {L i : Nat} {cs : List Int} (I : CInv N L i 0 cs) : num cs = N := by
  have := I.2.2.1
  rw [Int.zero_mul] at this; omega

theorem apart_first {xs ds : List Int} {p c : Int} {lx L : Nat} (hx : xs.length = lx) (hl : lx < L) (B : BInv (List.replicate L 0) xs p 0 lx c ds) : (ds.set lx c).length = L ∧ Limbs (ds.set lx c) ∧ num (ds.set lx c) = num xs * p := by
  obtain ⟨b1, b2, b3, b4, b5, b6⟩ := B
  rw [List.length_replicate] at b1
  have z : ds.getD lx 0 = 0 := by
    rw [b3 lx (.inr (by omega)), List.getD_eq_getElem?_getD, List.getElem?_replicate]; split <;> rfl
  refine ⟨by rw [List.length_set]; exact b1, b2.set _ ⟨b5, b6⟩, ?_⟩
  rw [num_set c (by omega), z, Int.sub_zero]
  rw [num_zeros, List.take_of_length_le (by omega), Nat.zero_add] at b4
  simp only [pw, Int.mul_one] at b4
  omega
theorem apart_next {cs ys ds : List Int} {X q c N : Int} {ly L : Nat} (hy : ys.length = ly) (hl : cs.length = L) (hn : num cs = X) (hN : X - num ys * q = N) (R : RInv cs ys q 0 ly c ds) : CInv N L ly c ds := by
  obtain ⟨r1, r2, r3, r4, r5, r6⟩ := R
  rw [List.take_of_length_le (by omega), Nat.zero_add, hn] at r4
  simp only [pw, Int.mul_one] at r4
  exact ⟨by omega, r2, by omega, r5, r6⟩

set_option maxHeartbeats 4000000 in
theorem apart_any (x y : Option Addr) (lx kx ly ky : Nat) (xs ys : List Int) (p q : Int) (w : World) (hx : Sl w x lx xs) (hy : Sl w y ly ys) (h1 : lx ≤ 4096) (h2 : ly ≤ 4096) (hp : Word p) (hq : Word q) (N : Int) (hN : num xs * p - num ys * q = N) (h0 : 0 ≤ N)
    (hfit : ∀ cs, Limbs cs → num cs = N → usedN cs ≤ 4096) :
    Calls Tryz.prog 196 #[.slice x lx kx, .slice y ly ky, .int .u64 p, .int .u64 q] w fun e w' => ∃ a' l' c' zs, e = .returned (.agg #[.slice a' l' c']) ∧ Nt w' a' l' c' zs ∧ num zs = N ∧ Below w.heap.size w w' := by
  obtain ⟨L, hL⟩ : ∃ L, L = max lx ly + 1 := ⟨_, rfl⟩
  have hmk := make_row L (by omega)
  have en : max (lx : Int) (ly : Int) + 1 = (L : Int) := by omega
  have hlx : lx < L := by omega
  have hly : ly < L := by omega
  have hL2 : L ≤ 4097 := by omega
  have hzx := hx.1; have hzy := hy.1
  have HX : Hid (Sl w x lx xs) := hx
  have HY : Hid (Sl w y ly ys) := hy
  have HNN : Hid (num xs * p - num ys * q = N) := hN
  clear hx hy hN hL
  go_enter Tryz.func196, Tryz.ntmps196
  go_wp2_with fail
  refine ent2 w _ _ _ _ (Q := fun W => Calls Tryz.prog _ _ W _) ?_
  intro w0 B0 hs V0 V1
  have HO0 : Hid (Own w0 (w.heap.size + 1) (List.replicate L 0)) := V1
  have HXX : Hid (Sx (w.heap.size + 1) w0 x lx xs) := HX.out.apart B0 (by omega)
  have HYY : Hid (Sx (w.heap.size + 1) w0 y ly ys) := HY.out.apart B0 (by omega)
  have HV : Hid (Va w0 w.heap.size 62 #[.slice none 0 0]) := V0
  have HB : Hid (Below w.heap.size w w0) := B0
  clear V0 V1 B0 hmk HX HY hs
  refine (addTimes_any (w.heap.size + 1) 0 lx L kx (List.replicate L 0) xs x p w0 HO0.out (Limbs.zeros _) (by simp; omega) HXX.out (by omega) hp).mono ?_
  rintro e w1 ⟨cc1, ds1, rfl, ho1, hB1, hon1⟩
  obtain ⟨q1, q2, q3⟩ := apart_first hzx hlx hB1
  have hlen1 := hB1.1
  rw [List.length_replicate] at hlen1
  have hc1 := ho1.cell lx (by omega)
  have hf1 := ho1.frozen lx
  have HO1 : Hid (Own w1 (w.heap.size + 1) ds1) := ho1
  have HON1 : Hid (Only (w.heap.size + 1) w0 w1) := hon1
  have HQ1 : Hid ((ds1.set lx cc1).length = L) := q1
  have HQ2 : Hid (Limbs (ds1.set lx cc1)) := q2
  have HQ3 : Hid (num (ds1.set lx cc1) = num xs * p) := q3
  clear ho1 hon1 hB1 q1 q2 q3 hlen1 HO0
  go_wp2_with fail
  have HO2 : Hid (Own (w1.setCell ⟨w.heap.size + 1, lx, none⟩ (.int .u64 cc1)) (w.heap.size + 1) (ds1.set lx cc1)) := Own.set HO1.out lx cc1
  have HON2 : Hid (Only (w.heap.size + 1) w0 (w1.setCell ⟨w.heap.size + 1, lx, none⟩ (.int .u64 cc1))) := Only.set HON1.out lx _
  generalize w1.setCell ⟨w.heap.size + 1, lx, none⟩ (.int .u64 cc1) = w2 at *
  refine (lessTimes_any (w.heap.size + 1) 0 ly L ky (ds1.set lx cc1) ys y q w2 HO2.out HQ2.out (by rw [HQ1.out]; omega) (HYY.out.only HON2.out) (by omega) hq).mono ?_
  rintro e w3 ⟨cc3, ds3, rfl, ho3, hR3, hon3⟩
  have HC3 : Hid (CInv N L ly cc3 ds3) := apart_next hzy HQ1.out HQ3.out HNN.out hR3
  have HO3 : Hid (Own w3 (w.heap.size + 1) ds3) := ho3
  have HON3 : Hid (Only (w.heap.size + 1) w0 w3) := HON2.out.trans hon3
  clear ho3 hon3 hR3 HO1 HO2 HON1 HON2 hc1 hf1 HQ1 HQ2 HQ3
  go_wp2_with fail
  go_loopw [10, 11] (fun cc ii wr => ∃ (k : Nat) (c : Int) (cs : List Int), k ≤ L ∧ ii = .int .i64 k ∧ cc = .int .u64 c ∧ Hid (CInv N L k c cs) ∧ Hid (Own wr (w.heap.size + 1) cs) ∧ Hid (Only (w.heap.size + 1) w0 wr)) (fun _ ii _ => L - (intOf ii).toNat)
  case atStart => exact ⟨ly, cc3, ds3, by omega, rfl, rfl, HC3, HO3, HON3⟩
  case round =>
    clear HC3 HO3 HON3
    obtain ⟨k, c, cs, hk, rfl, rfl, hI, hO, hON⟩ := hrel
    have hcn := hI.out.2.2.2.1
    have hcw := hI.out.2.2.2.2
    by_cases hc : c = 0
    · subst hc
      have hnum := cinv_end hI.out
      have hlen := hI.out.1
      have hsl := hO.out.sl hI.out.2.1
      rw [hlen] at hsl
      have V4 := HV.out.only hON.out (by omega)
      have B4 := HB.out.trans (hON.out.below (show w.heap.size ≤ w.heap.size + 1 by omega))
      have hu := hfit cs hI.out.2.1 hnum
      go_wp2_with fail
      refine (made_ok _ L L cs wr hsl (by omega) (Nat.le_refl _) hu).mono ?_
      rintro e w5 ⟨rfl, hb5⟩
      have hnt := nt_made (hsl.below hb5 (Nat.le_refl _)) (Nat.le_refl _) hu
      replace V4 := V4.kept hb5
      replace B4 := step B4 hb5
      have c4 := V4.cell
      have f4 := V4.frozen 0
      have l4 := V4.lt
      go_wp2_with fail
      refine bodyPost_ret (results_c rfl rfl ((V4.set _).old _)) rfl ?_
      have B5 := B4.setCell (p := ⟨w.heap.size, 0, none⟩) (Nat.le_refl _) (.slice (some ⟨w.heap.size + 1, 0, none⟩) (usedN cs) L)
      exact ⟨_, _, _, _, rfl, (hnt.store V4 _).al _, (num_take_used cs (Nat.le_refl _)).trans hnum, B5.alloc (by rw [size_set]; omega) _⟩
    · have hlt := cinv_in hI.out h0 (by omega)
      have hlen := hI.out.1
      have hstep := cinv_step hI.out hlt
      have hw1 := hI.out.2.1.getD k
      have hcx := hO.out.cell k (by omega)
      have hfx := hO.out.frozen k
      obtain ⟨v, hv⟩ : ∃ v, cs.getD k 0 = v := ⟨_, rfl⟩
      rw [hv] at hstep hw1 hcx
      have A := sub_any v c 0 hw1 ⟨hcn, hcw⟩ ⟨by decide, by decide⟩ wr
      simp only [Int.sub_zero] at A
      have HS : Hid (CInv N L (k + 1) (-((v - c) / 18446744073709551616)) (cs.set k ((v - c) % 18446744073709551616))) := hstep
      have hcp : 0 < c := by omega
      clear hstep hv hc
      go_wp2_with fail
      refine A.mono ?_
      rintro e w4 ⟨rfl, rfl⟩
      go_wp2_with fail
      go_roundw
      case rel => exact ⟨k + 1, _, _, by omega, by go_num, rfl, HS, Own.set hO.out k _, Only.set hON.out k _⟩
      case measure => simp [intOf]; omega
end Go.Proofs.YtblafbbnplfpjaaGreatDoor

namespace Go.Proofs.YtblafbbnplfpjaaGreatDoor
open Go.RowKit Go.Shelf

theorem results_m {fn : Func} {i b : Nat} {x y z : Value} {tmps : Array Value} {w : World} (h : fn.results = #[.cell i 206]) (hi : tmps.getD i undef = .pointer (some ⟨b, 0, none⟩)) (hv : Va w b 206 #[x, y, z]) :
    (results fn tmps).run Tryz.prog w = .ok (.agg #[x, y, z]) w := by
  have c0 := hv.cellAt 0
  have c1 := hv.cellAt 1
  have c2 := hv.cellAt 2
  simp at c0 c1 c2
  rw [Array.getD_eq_getD_getElem?] at hi
  simp [results, h, hi, c0, c1, c2, go_sem]

set_option maxHeartbeats 1000000 in
theorem next_any (u1 v1 u2 v2 q : Int) (o o2 : Bool) (w : World) (h1 : 0 ≤ u1) (h2 : 0 ≤ v1) (h3 : 0 ≤ u2) (h4 : 0 ≤ v2) (h5 : 0 ≤ q) (h6 : u1 + q * u2 < 18446744073709551616) (h7 : v1 + q * v2 < 18446744073709551616) :
    Calls Tryz.prog 194 #[.agg #[.int .u64 u1, .int .u64 v1, .bool o], .agg #[.int .u64 u2, .int .u64 v2, .bool o2], .int .u64 q] w fun e w' =>
      e = .returned (.agg #[.int .u64 (u1 + q * u2), .int .u64 (v1 + q * v2), .bool o]) ∧ Below w.heap.size w w' := by
  have p1 : 0 ≤ q * u2 := Int.mul_nonneg h5 h3
  have p2 : 0 ≤ q * v2 := Int.mul_nonneg h5 h4
  have e1 : IntKind.u64.wrap (q * u2) = q * u2 := by rw [IntKind.wrap_u64]; omega
  have e2 : IntKind.u64.wrap (q * v2) = q * v2 := by rw [IntKind.wrap_u64]; omega
  obtain ⟨a, ha⟩ : ∃ a, q * u2 = a := ⟨_, rfl⟩
  obtain ⟨b, hb⟩ : ∃ b, q * v2 = b := ⟨_, rfl⟩
  rw [ha] at e1 p1 h6 ⊢
  rw [hb] at e2 p2 h7 ⊢
  have e3 : IntKind.u64.wrap (u1 + a) = u1 + a := by rw [IntKind.wrap_u64]; omega
  have e4 : IntKind.u64.wrap (v1 + b) = v1 + b := by rw [IntKind.wrap_u64]; omega
  go_enter Tryz.func194, Tryz.ntmps194
  go_wp2_with fail
  refine ent3 w _ _ _ _ _ _ (Q := fun W => bodyPost Tryz.prog _ _ _ _ W) ?_
  intro w0 B0 hs V0 V1 V2
  exact bodyPost_ret (results_m rfl rfl V2) rfl ⟨rfl, B0⟩

set_option maxHeartbeats 1000000 in
theorem from_any (u v : Int) (o : Bool) (a b : Option Addr) (la ca lb cb : Nat) (xs ys : List Int) (w : World) (hu : Word u) (hv : Word v) (ha : Nt w a la ca xs) (hb : Nt w b lb cb ys) (N : Int) (hN : sg o * (u * num xs - v * num ys) = N) (h0 : 0 ≤ N) (hfit : ∀ cs, Limbs cs → num cs = N → usedN cs ≤ 4096) :
    Calls Tryz.prog 180 #[.agg #[.int .u64 u, .int .u64 v, .bool o], .agg #[.slice a la ca], .agg #[.slice b lb cb]] w fun e w' =>
      ∃ a' l' c' zs, e = .returned (.agg #[.slice a' l' c']) ∧ Nt w' a' l' c' zs ∧ num zs = N ∧ Below w.heap.size w w' := by
  have l1 := ha.2; have l2 := hb.2
  cases o with
  | false =>
    simp only [sg, Bool.false_eq_true, if_false, Int.one_mul] at hN
    go_enter Tryz.func180, Tryz.ntmps180
    go_wp2_with fail
    refine ent4 w _ _ _ _ _ _ _ _ (Q := fun W => Calls Tryz.prog _ _ W _) ?_
    intro w0 B0 hs V0 V1 V2 V3
    replace ha := Nt.after B0 ha
    replace hb := Nt.after B0 hb
    refine (apart_any a b la ca lb cb xs ys u v w0 ha.1 hb.1 (by omega) (by omega) hu hv N (by rw [Int.mul_comm (num xs), Int.mul_comm (num ys)]; exact hN) h0 hfit).mono ?_
    rintro e w1 ⟨a', l', c', zs, rfl, h1, n1, hb1⟩
    replace V3 := V3.kept hb1
    replace B0 := step B0 hb1
    have c3 := V3.cell
    have f3 := V3.frozen 0
    go_wp2_with fail
    refine bodyPost_ret (results_c rfl rfl (V3.set _)) rfl ?_
    exact ⟨_, _, _, zs, rfl, h1.store V3 _, n1, B0.setCell (p := ⟨w.heap.size + 1 + 1 + 1, 0, none⟩) (by show _ ≤ w.heap.size + 1 + 1 + 1; omega) _⟩
  | true =>
    simp only [sg, if_true] at hN
    go_enter Tryz.func180, Tryz.ntmps180
    go_wp2_with fail
    refine ent4 w _ _ _ _ _ _ _ _ (Q := fun W => Calls Tryz.prog _ _ W _) ?_
    intro w0 B0 hs V0 V1 V2 V3
    replace ha := Nt.after B0 ha
    replace hb := Nt.after B0 hb
    refine (apart_any b a lb cb la ca ys xs v u w0 hb.1 ha.1 (by omega) (by omega) hv hu N (by rw [Int.mul_comm (num xs), Int.mul_comm (num ys)]; omega) h0 hfit).mono ?_
    rintro e w1 ⟨a', l', c', zs, rfl, h1, n1, hb1⟩
    replace V3 := V3.kept hb1
    replace B0 := step B0 hb1
    have c3 := V3.cell
    have f3 := V3.frozen 0
    go_wp2_with fail
    refine bodyPost_ret (results_c rfl rfl (V3.set _)) rfl ?_
    exact ⟨_, _, _, zs, rfl, h1.store V3 _, n1, B0.setCell (p := ⟨w.heap.size + 1 + 1 + 1, 0, none⟩) (by show _ ≤ w.heap.size + 1 + 1 + 1; omega) _⟩

theorem highest_any (a : Option Addr) (la ca : Nat) (xs : List Int) (t : Nat) (w : World) (ha : Nt w a la ca xs) (ht : t ≤ 9223372036854775807) (hlt : num xs / 2 ^ t < 18446744073709551616) :
    Calls Tryz.prog 179 #[.agg #[.slice a la ca], .int .i64 t] w fun e w' => e = .returned (.int .u64 (num xs / 2 ^ t)) ∧ Below w.heap.size w w' := by
  go_enter Tryz.func179, Tryz.ntmps179
  go_wp2_with fail
  refine ent1 w _ _ (Q := fun W => Calls Tryz.prog _ _ W _) ?_
  intro w0 B0 hs V0
  replace ha := Nt.after B0 ha
  refine (nright_ok a la ca xs t w0 ha ht).mono ?_
  rintro e w1 ⟨a1, l1, c1, zs, rfl, h1, n1, hb1⟩
  replace B0 := step B0 hb1
  go_wp2_with fail
  refine ent1 w1 _ _ (Q := fun W => Calls Tryz.prog _ _ W _) ?_
  intro w2 B2 hs2 V2
  replace h1 := Nt.after B2 h1
  replace B0 := step B0 B2
  refine (uint64_small a1 l1 c1 zs w2 h1 (by rw [n1]; exact hlt)).mono ?_
  rintro e w3 ⟨rfl, hb3⟩
  rw [n1]
  go_wp2_with fail
  go_ret
  exact ⟨rfl, step B0 hb3⟩
end Go.Proofs.YtblafbbnplfpjaaGreatDoor

namespace Go.Proofs.YtblafbbnplfpjaaGreatDoor
open Go.RowKit Go.Shelf

theorem Va.other3 {w : World} {b c : Nat} {t : TypeId} {cs : Array Value} (h : Va w b t cs) (hne : b ≠ c) (x' y' z' : Value) : Va (((w.setCell ⟨c, 0, none⟩ x').setCell ⟨c, 1, none⟩ y').setCell ⟨c, 2, none⟩ z') b t cs :=
  ((h.other (p := ⟨c, 0, none⟩) hne x').other (p := ⟨c, 1, none⟩) hne y').other (p := ⟨c, 2, none⟩) hne z'
theorem below_3 {B : Nat} {a w : World} (h : Below B a w) {c : Nat} (hc : B ≤ c) (x y z : Value) : Below B a (((w.setCell ⟨c, 0, none⟩ x).setCell ⟨c, 1, none⟩ y).setCell ⟨c, 2, none⟩ z) :=
  ((h.setCell (p := ⟨c, 0, none⟩) hc x).setCell (p := ⟨c, 1, none⟩) hc y).setCell (p := ⟨c, 2, none⟩) hc z
theorem results_mm {fn : Func} {i j b c : Nat} {x y z x' y' z' : Value} {tmps : Array Value} {w : World} (h : fn.results = #[.cell i 206, .cell j 206]) (hi : tmps.getD i undef = .pointer (some ⟨b, 0, none⟩)) (hv : Va w b 206 #[x, y, z])
    (hj : tmps.getD j undef = .pointer (some ⟨c, 0, none⟩)) (hu : Va w c 206 #[x', y', z']) :
    (results fn tmps).run Tryz.prog w = .ok (.tuple #[.agg #[x, y, z], .agg #[x', y', z']]) w := by
  have c0 := hv.cellAt 0
  have c1 := hv.cellAt 1
  have c2 := hv.cellAt 2
  have d0 := hu.cellAt 0
  have d1 := hu.cellAt 1
  have d2 := hu.cellAt 2
  simp at c0 c1 c2 d0 d1 d2
  rw [Array.getD_eq_getD_getElem?] at hi hj
  simp [results, h, hi, hj, c0, c1, c2, d0, d1, d2, go_sem]
/-- The five variables: the results, and three members. -/
def Five (w W : World) (u0 v0 : Int) (p : Bool) (u1 v1 : Int) (o : Bool) (u2 v2 : Int) (o2 : Bool) : Prop :=
  Va W w.heap.size 206 #[.int .u64 0, .int .u64 0, .bool false] ∧ Va W (w.heap.size + 1) 206 #[.int .u64 0, .int .u64 0, .bool false] ∧
  Va W (w.heap.size + 1 + 1) 206 #[.int .u64 u0, .int .u64 v0, .bool p] ∧ Va W (w.heap.size + 1 + 1 + 1) 206 #[.int .u64 u1, .int .u64 v1, .bool o] ∧ Va W (w.heap.size + 1 + 1 + 1 + 1) 206 #[.int .u64 u2, .int .u64 v2, .bool o2] ∧ Below w.heap.size w W
theorem Five.after {w W W' : World} {u0 v0 : Int} {p : Bool} {u1 v1 : Int} {o : Bool} {u2 v2 : Int} {o2 : Bool} (hb : Below W.heap.size W W') (h : Five w W u0 v0 p u1 v1 o u2 v2 o2) : Five w W' u0 v0 p u1 v1 o u2 v2 o2 :=
  ⟨Va.after hb h.1, Va.after hb h.2.1, Va.after hb h.2.2.1, Va.after hb h.2.2.2.1, Va.after hb h.2.2.2.2.1, step h.2.2.2.2.2 hb⟩

theorem Va.drw {w : World} {b : Nat} {t : TypeId} {cs : Array Value} (h : Va w b t cs) : Va w.drew b t cs := h
theorem Five.put {w W : World} {u0 v0 : Int} {p : Bool} {u1 v1 : Int} {o : Bool} {u2 v2 : Int} {o2 : Bool} (h : Five w W u0 v0 p u1 v1 o u2 v2 o2) (a b : Int) (c : Bool) :
    Five w (((((((((W.setCell ⟨w.heap.size + 1 + 1, 0, none⟩ (.int .u64 u1)).setCell ⟨w.heap.size + 1 + 1, 1, none⟩ (.int .u64 v1)).setCell ⟨w.heap.size + 1 + 1, 2, none⟩ (.bool o)).setCell ⟨w.heap.size + 1 + 1 + 1, 0, none⟩ (.int .u64 u2)).setCell ⟨w.heap.size + 1 + 1 + 1, 1, none⟩ (.int .u64 v2)).setCell ⟨w.heap.size + 1 + 1 + 1, 2, none⟩ (.bool o2)).setCell ⟨w.heap.size + 1 + 1 + 1 + 1, 0, none⟩ (.int .u64 a)).setCell ⟨w.heap.size + 1 + 1 + 1 + 1, 1, none⟩ (.int .u64 b)).setCell ⟨w.heap.size + 1 + 1 + 1 + 1, 2, none⟩ (.bool c)) u1 v1 o u2 v2 o2 a b c :=
  ⟨((h.1.other3 (by omega) _ _ _).other3 (by omega) _ _ _).other3 (by omega) _ _ _, ((h.2.1.other3 (by omega) _ _ _).other3 (by omega) _ _ _).other3 (by omega) _ _ _,
   ((h.2.2.1.set3 _ _ _).other3 (by omega) _ _ _).other3 (by omega) _ _ _, ((h.2.2.2.1.other3 (by omega) _ _ _).set3 _ _ _).other3 (by omega) _ _ _, ((h.2.2.2.2.1.other3 (by omega) _ _ _).other3 (by omega) _ _ _).set3 _ _ _,
   below_3 (below_3 (below_3 h.2.2.2.2.2 (by omega) _ _ _) (by omega) _ _ _) (by omega) _ _ _⟩
theorem Five.drewN {w W : World} {u0 v0 : Int} {p : Bool} {u1 v1 : Int} {o : Bool} {u2 v2 : Int} {o2 : Bool} (h : Five w W u0 v0 p u1 v1 o u2 v2 o2) (n : Nat) : Five w (W.drewN n) u0 v0 p u1 v1 o u2 v2 o2 :=
  ⟨h.1, h.2.1, h.2.2.1, h.2.2.2.1, h.2.2.2.2.1, below_drewN h.2.2.2.2.2 n⟩

set_option maxHeartbeats 4000000 in
theorem foreseen_any (x0 y0 : Int) (w : World) (hx : Word x0) (hy : Word y0) (hle : y0 ≤ x0) :
    Calls Tryz.prog 178 #[.int .u64 x0, .int .u64 y0] w fun e w' =>
      ∃ u0 v0 p u1 v1 o, e = .returned (.tuple #[.agg #[.int .u64 u0, .int .u64 v0, .bool p], .agg #[.int .u64 u1, .int .u64 v1, .bool o]]) ∧ Word u0 ∧ Word v0 ∧ Word u1 ∧ Word v1 ∧ (v0 ≠ 0 → p = !o ∧ Sure x0 y0 u0 v0 u1 v1 o) ∧ Below w.heap.size w w' := by
  go_enter Tryz.func178, Tryz.ntmps178
  go_wp2_with fail
  refine ent5 w _ _ _ _ _ _ _ _ _ _ (Q := fun W => Code.wp Tryz.prog _ _ _ W) ?_
  intro w0 B0 hs V0 V1 V2 V3 V4
  have HF0 : Hid (Five w w0 0 0 false 1 0 false 0 1 true) := ⟨V0, V1, V2, V3, V4, B0⟩
  have HE0 : Hid (EInv x0 y0 x0 y0 1 0 0 1 false) := EInv.start hy.1 hle
  clear V0 V1 V2 V3 V4 B0 hs
  go_loopw [0, 1] (fun sx sy wr => ∃ (x y u0 v0 : Int) (p : Bool) (u1 v1 : Int) (o : Bool) (u2 v2 : Int), sx = .int .u64 x ∧ sy = .int .u64 y ∧ Hid (Word x) ∧ Hid (Word u0) ∧ Hid (Word v0) ∧ Hid (Word u1) ∧ Hid (Word v1) ∧ Hid (Word u2) ∧ Hid (Word v2) ∧ Hid (EInv x0 y0 x y u1 v1 u2 v2 o) ∧ Hid (v0 ≠ 0 → p = !o ∧ Sure x0 y0 u0 v0 u1 v1 o) ∧ Hid (Five w wr u0 v0 p u1 v1 o u2 v2 (!o))) (fun _ sy _ => (intOf sy).toNat)
  case atStart => exact ⟨x0, y0, 0, 0, false, 1, 0, false, 0, 1, rfl, rfl, hx, ⟨by decide, by decide⟩, ⟨by decide, by decide⟩, ⟨by decide, by decide⟩, ⟨by decide, by decide⟩, ⟨by decide, by decide⟩, ⟨by decide, by decide⟩, HE0, fun h => absurd rfl h, HF0⟩
  case round =>
    clear HF0 HE0
    obtain ⟨x, y, u0, v0, p, u1, v1, o, u2, v2, rfl, rfl, hwx, hu0, hv0, hu1, hv1, hu2, hv2, hE, hS, hF⟩ := hrel
    have k2 := hF.out.2.2.1
    have k3 := hF.out.2.2.2.1
    have k4 := hF.out.2.2.2.2.1
    have c30 := k3.cellAt 0
    have c31 := k3.cellAt 1
    have c32 := k3.cellAt 2
    have c40 := k4.cellAt 0
    have c41 := k4.cellAt 1
    have c42 := k4.cellAt 2
    simp at c30 c31 c32 c40 c41 c42
    have y0' := hE.out.y0
    have yx := hE.out.yx
    have pv2 := hE.out.pv2
    have nv1 := hE.out.nv1
    have hx2 := hwx.out.2
    by_cases hc1 : v2 ≤ y
    · obtain ⟨ft1, ft2⟩ := hE.out.fits (by omega)
      have hx02 := hx.2
      have ew1 : IntKind.u64.wrap (x - y) = x - y := by rw [IntKind.wrap_u64]; omega
      have ew2 : IntKind.u64.wrap (v1 + v2) = v1 + v2 := by rw [IntKind.wrap_u64]; omega
      by_cases hc2 : v1 + v2 ≤ x - y
      · have HE2 : Hid (EInv x0 y0 y (x % y) u2 v2 (u1 + x / y * u2) (v1 + x / y * v2) (!o)) := hE.out.step (by omega)
        have HSU : Hid (Sure x0 y0 u1 v1 u2 v2 (!o)) := hE.out.sure hc1 hc2
        have huv := HE2.out.uv2
        have nu1 := hE.out.nu1
        have nu2 := hE.out.nu2
        have hyw : Word y := ⟨y0', by omega⟩
        have hq0 : 0 ≤ x / y := Int.ediv_nonneg (by omega) y0'
        have gy : (y == 0) = false := by simp; omega
        have hm1 := Int.emod_nonneg x (show y ≠ 0 by omega)
        have hm2 := Int.emod_lt_of_pos x (show 0 < y by omega)
        obtain ⟨s, hs⟩ : ∃ s, x % y = s := ⟨_, rfl⟩
        obtain ⟨q, hq⟩ : ∃ q, x / y = q := ⟨_, rfl⟩
        rw [hs] at HE2 hm1 hm2
        rw [hq] at HE2 ft2 huv hq0
        have htm : x.tmod y = s := by rw [Int.tmod_eq_emod_of_nonneg (by omega)]; exact hs
        have hyp : 0 < y := by omega
        go_wp2_with fail
        go_quiet (fail)
        have hF5 := hF.out.drewN nq
        go_wp2_with fail
        generalize wr.drewN nq = w5 at *
        clear hF k2 k3 k4 c30 c31 c32 c40 c41 c42
        have k2 := hF5.2.2.1
        have k3 := hF5.2.2.2.1
        have k4 := hF5.2.2.2.2.1
        have c30 := k3.cellAt 0
        have c31 := k3.cellAt 1
        have c32 := k3.cellAt 2
        have c40 := k4.cellAt 0
        have c41 := k4.cellAt 1
        have c42 := k4.cellAt 2
        simp at c30 c31 c32 c40 c41 c42
        have k0 := hF5.1
        have k1 := hF5.2.1
        have f20 := k2.frozen 0
        have f21 := k2.frozen 1
        have f22 := k2.frozen 2
        have f30 := k3.frozen 0
        have f31 := k3.frozen 1
        have f32 := k3.frozen 2
        have f40 := k4.frozen 0
        have f41 := k4.frozen 1
        have f42 := k4.frozen 2
        have HF5 : Hid (Five w w5 u0 v0 p u1 v1 o u2 v2 (!o)) := hF5
        have NX := next_any u1 v1 u2 v2 q o (!o) w5.drew nu1 nv1 nu2 (by omega) hq0 (by omega) (by omega)
        clear hF5 k0 k1 k2 k3 k4
        have hSu : v1 ≠ 0 → o = !(!o) ∧ Sure x0 y0 u1 v1 u2 v2 (!o) := fun _ => ⟨by simp, HSU.out⟩
        have HSu : Hid (v1 ≠ 0 → o = !(!o) ∧ Sure x0 y0 u1 v1 u2 v2 (!o)) := hSu
        have HW1 : Hid (Word (u1 + q * u2)) := ⟨HE2.out.nu2, by omega⟩
        have HW2 : Hid (Word (v1 + q * v2)) := ⟨by have := HE2.out.pv2; omega, by omega⟩
        clear hSu
        go_region_with (go_at_call 194; refine NX.mono ?_; rintro e y1 ⟨rfl, b10⟩; have b1 : Below w5.heap.size w5 y1 := ⟨b10.os, b10.tape, b10.output, b10.size, b10.block⟩; clear b10; have G5 := HF5.out.after b1; have P5 := G5.put (u1 + q * u2) (v1 + q * v2) o; have HP5 : Hid _ := P5; clear P5; have m2 := G5.2.2.1; have m3 := G5.2.2.2.1; have m4 := G5.2.2.2.2.1; have d20 := m2.cellAt 0; have d21 := m2.cellAt 1; have d22 := m2.cellAt 2; have d30 := m3.cellAt 0; have d31 := m3.cellAt 1; have d32 := m3.cellAt 2; have d40 := m4.cellAt 0; have d41 := m4.cellAt 1; have d42 := m4.cellAt 2; simp at d20 d21 d22 d30 d31 d32 d40 d41 d42; have g20 := m2.frozen 0; have g21 := m2.frozen 1; have g22 := m2.frozen 2; have g30 := m3.frozen 0; have g31 := m3.frozen 1; have g32 := m3.frozen 2; have g40 := m4.frozen 0; have g41 := m4.frozen 1; have g42 := m4.frozen 2)
        all_goals
          go_wp2_with fail
          go_roundw
          case rel => exact ⟨y, s, u1, v1, o, u2, v2, !o, u1 + q * u2, v1 + q * v2, rfl, rfl, hyw, hu1, hv1, hu2, hv2, HW1, HW2, HE2, HSu, by rw [Bool.not_not]; exact HP5⟩
          case measure => simp [intOf]; omega
      · have k0 := hF.out.1
        have k1 := hF.out.2.1
        have c20 := k2.cellAt 0
        have c21 := k2.cellAt 1
        have c22 := k2.cellAt 2
        have c00 := k0.cellAt 0
        have c01 := k0.cellAt 1
        have c02 := k0.cellAt 2
        have c10 := k1.cellAt 0
        have c11 := k1.cellAt 1
        have c12 := k1.cellAt 2
        simp at c20 c21 c22 c00 c01 c02 c10 c11 c12
        have f00 := k0.frozen 0
        have f01 := k0.frozen 1
        have f02 := k0.frozen 2
        have f10 := k1.frozen 0
        have f11 := k1.frozen 1
        have f12 := k1.frozen 2
        have T0 := (Va.set3 (w := wr) k0 (.int .u64 u0) (.int .u64 v0) (.bool p)).other3 (c := w.heap.size + 1) (by omega) (.int .u64 u1) (.int .u64 v1) (.bool o)
        have T1 := (Va.other3 (w := wr) (c := w.heap.size) k1 (by omega) (.int .u64 u0) (.int .u64 v0) (.bool p)).set3 (.int .u64 u1) (.int .u64 v1) (.bool o)
        have BF := below_3 (below_3 hF.out.2.2.2.2.2 (c := w.heap.size) (Nat.le_refl _) (.int .u64 u0) (.int .u64 v0) (.bool p)) (c := w.heap.size + 1) (by omega) (.int .u64 u1) (.int .u64 v1) (.bool o)
        go_wp2_with fail
        go_region
        all_goals
          go_wp2_with fail
          refine bodyPost_ret (results_mm rfl rfl T0.drw rfl T1.drw) rfl ?_
          exact ⟨u0, v0, p, u1, v1, o, rfl, hu0.out, hv0.out, hu1.out, hv1.out, hS.out, BF.drew⟩
    · have k0 := hF.out.1
      have k1 := hF.out.2.1
      have c20 := k2.cellAt 0
      have c21 := k2.cellAt 1
      have c22 := k2.cellAt 2
      have c00 := k0.cellAt 0
      have c01 := k0.cellAt 1
      have c02 := k0.cellAt 2
      have c10 := k1.cellAt 0
      have c11 := k1.cellAt 1
      have c12 := k1.cellAt 2
      simp at c20 c21 c22 c00 c01 c02 c10 c11 c12
      have f00 := k0.frozen 0
      have f01 := k0.frozen 1
      have f02 := k0.frozen 2
      have f10 := k1.frozen 0
      have f11 := k1.frozen 1
      have f12 := k1.frozen 2
      have T0 := (Va.set3 (w := wr) k0 (.int .u64 u0) (.int .u64 v0) (.bool p)).other3 (c := w.heap.size + 1) (by omega) (.int .u64 u1) (.int .u64 v1) (.bool o)
      have T1 := (Va.other3 (w := wr) (c := w.heap.size) k1 (by omega) (.int .u64 u0) (.int .u64 v0) (.bool p)).set3 (.int .u64 u1) (.int .u64 v1) (.bool o)
      have BF := below_3 (below_3 hF.out.2.2.2.2.2 (c := w.heap.size) (Nat.le_refl _) (.int .u64 u0) (.int .u64 v0) (.bool p)) (c := w.heap.size + 1) (by omega) (.int .u64 u1) (.int .u64 v1) (.bool o)
      go_wp2_with fail
      go_region
      all_goals
        go_wp2_with fail
        refine bodyPost_ret (results_mm rfl rfl T0.drw rfl T1.drw) rfl ?_
        exact ⟨u0, v0, p, u1, v1, o, rfl, hu0.out, hv0.out, hu1.out, hv1.out, hS.out, BF.drew⟩
end Go.Proofs.YtblafbbnplfpjaaGreatDoor
