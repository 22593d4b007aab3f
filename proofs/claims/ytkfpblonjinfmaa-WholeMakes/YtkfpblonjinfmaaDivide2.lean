/-
  divided: the walk.
-/
import Derived.Test.YtkfpblonjinfmaaDivided
namespace Go.Proofs.Ytkfpblonjinfmaa
open Go.RowKit Go.Shelf

theorem Sl.lower {w w' : World} {a : Option Addr} {len : Nat} {zs : List Int} {B : Nat} (h : Sl w a len zs) (hl : ∀ p, a = some p → p.block < B) (b : Below B w w') : Sl w' a len zs := by
  obtain ⟨h1, h2, h3⟩ := h
  refine ⟨h1, h2, fun h0 => ?_⟩
  obtain ⟨bb, off, rfl, hc⟩ := h3 h0
  refine ⟨bb, off, rfl, fun i hi => ?_⟩
  rw [b.cell (p := ⟨bb, off + i, none⟩) (show bb < B from hl ⟨bb, off, none⟩ rfl)]; exact hc i hi

set_option maxHeartbeats 4000000 in
theorem divided_any (a b : Option Addr) (la ca lb cb : Nat) (xs ys : List Int) (w : World) (ha : Sl w a la xs) (hb : Sl w b lb ys) (hua : usedN xs = la) (hub : usedN ys = lb) (hca : la ≤ ca) (hcb : lb ≤ cb) (hla : la ≤ 4096) (hlb : 2 ≤ lb) (hle : lb ≤ la) :
    Calls Try.prog 65 #[.slice a la ca, .slice b lb cb] w fun e w' =>
      ∃ g1 m1 c1 a2 m2 c2 qs rs, e = .returned (.tuple #[.slice (some ⟨g1, 0, none⟩) m1 c1, .slice a2 m2 c2]) ∧ Sl w' (some ⟨g1, 0, none⟩) m1 qs ∧ usedN qs = m1 ∧ m1 ≤ c1 ∧ m1 ≤ la + 1 ∧ Sl w' a2 m2 rs ∧ usedN rs = m2 ∧ m2 ≤ c2 ∧
        num xs = num qs * num ys + num rs ∧ num rs < num ys ∧ Below w.heap.size w w' := by
  have hx := ha.2.1; have hy := hb.2.1
  have hlx := ha.1; have hly := hb.1
  obtain ⟨s0, s1⟩ := shift_facts hy hub
  have BT := bits_any b lb cb ys w hb (by omega)
  obtain ⟨bt, hbt⟩ : ∃ x, bitsN ys = x := ⟨_, rfl⟩
  obtain ⟨s, hs⟩ : ∃ s : Nat, (s : Int) = 64 * (lb : Int) - bitsN ys := ⟨(64 * (lb : Int) - bitsN ys).toNat, by omega⟩
  have HS : Hid ((s : Int) = 64 * (lb : Int) - bitsN ys) := hs
  rw [hbt] at BT hs s0 s1
  have hs63 : s ≤ 63 := by omega
  have es : 64 * (lb : Int) - bt = s := by omega
  obtain ⟨P, hP⟩ : ∃ P : Int, 2 ^ s = P := ⟨_, rfl⟩
  have hP0 : 0 < P := by rw [← hP]; exact p2_pos s
  have hP1 : P < 18446744073709551616 := by
    rw [← hP]
    exact Int.lt_of_le_of_lt (p2_mono hs63) (by decide)
  have eP : IntKind.u64.wrap (2 ^ s) = P := by rw [hP, IntKind.wrap_u64]; omega
  have HP : Hid ((2 : Int) ^ s = P) := hP
  have HX : Hid (Sl w a la xs) := ha
  have HY : Hid (Sl w b lb ys) := hb
  have HUB : Hid (usedN ys = lb) := hub
  have HUA : Hid (usedN xs = la) := hua
  have HLX : Hid (xs.length = la) := hlx
  clear hbt hs s0 s1 hP ha hb hub hua hlx hly
  go_enter Try.func65, Try.ntmps65
  go_wp2_with fail
  refine BT.mono ?_
  rintro e w0 ⟨rfl, hw0⟩
  rw [hw0]
  clear hw0 BT
  go_wp2_with fail
  refine (times_any b lb cb ys P 0 w HY.out (by omega) hcb ⟨by omega, hP1⟩ ⟨by decide, by decide⟩).mono ?_
  rintro e w1 ⟨gv, mv, cv, vs, rfl, hgv, hmv, -, hv, huv, hnv, hb1⟩
  rw [Int.add_zero] at hnv
  obtain rfl : mv = lb := by
    rw [← huv]
    exact lifted_used hy hv.2.1 HUB.out (by omega) HS.out (by rw [HP.out]; exact hnv)
  have HV : Hid (Sl w1 (some ⟨gv, 0, none⟩) mv vs) := hv
  have HVN : Hid (num vs = num ys * P) := hnv
  have HVU : Hid (usedN vs = mv) := huv
  have hgv1 : gv < w1.heap.size := Sl.lt hv (by omega) rfl
  clear hv hnv huv
  have hmk := make_row (la + 1) (by omega)
  have en : ((la + 1 : Nat) : Int) = (la : Int) + 1 := by omega
  rw [en] at hmk
  clear en
  go_wp2_with fail
  have HO2 : Hid (Own (w1.alloc (Obj.cells (row (List.replicate (la + 1) 0)).toArray 64)) w1.heap.size (List.replicate (la + 1) 0)) := heap_alloc_new w1 _
  have hB2 : Below w1.heap.size w1 (w1.alloc (Obj.cells (row (List.replicate (la + 1) 0)).toArray 64)) := (Below.refl _ _).alloc (Nat.le_refl _) _
  have hsz2 : (w1.alloc (Obj.cells (row (List.replicate (la + 1) 0)).toArray 64)).heap.size = w1.heap.size + 1 := by simp
  generalize (w1.alloc (Obj.cells (row (List.replicate (la + 1) 0)).toArray 64)) = w2 at *
  have hx2 := HX.out.below (step hb1 hB2) (Nat.le_refl _)
  clear hmk
  refine (times_any a la ca xs P 0 w2 hx2 (by omega) hca ⟨by omega, hP1⟩ ⟨by decide, by decide⟩).mono ?_
  rintro e w3 ⟨gz, mz, cz, zs, rfl, hgz, hmz, hmz2, hz, huz, hnz, hb3⟩
  rw [Int.add_zero] at hnz
  rw [HUA.out] at hmz2
  have HO3 : Hid (Own w3 w1.heap.size (List.replicate (la + 1) 0)) := HO2.out.below hb3 (by omega)
  have HB3 : Hid (Below w1.heap.size w1 w3) := hB2.trans (hb3.mono (by omega))
  have HZ : Hid (Sl w3 (some ⟨gz, 0, none⟩) mz zs) := hz
  have HZN : Hid (num zs = num xs * P) := hnz
  have hzl := hz.1
  clear HO2 hB2 hb3 hx2 hz hnz huz
  go_wp2_with (refine wpList_copy_splice rfl (.tmp 27) (.tmp 31) 22 22 rfl 64 Try.underlying22 (by kernel_rfl) _ _ _ _ _ _ rfl rfl w1.heap.size 0 (row (List.replicate (la + 1) 0)) 64 ?hg (row zs) ?hn ?hpos ?hfit ?h1 w1.heap.size w1 ?hb ?hBg ?_)
  case hg => exact HO3.out
  case hn => rw [row_length]; show _ = min _ _; omega
  case hpos =>
    intro h0
    rw [row_length] at h0
    obtain ⟨b', off', e, hc'⟩ := HZ.out.2.2 (by omega)
    cases e
    intro j v hj
    have hj' : j < (row zs).length := by
      rcases Nat.lt_or_ge j (row zs).length with h' | h'
      · exact h'
      · rw [List.getElem?_eq_none h'] at hj; cases hj
    rw [row_length] at hj'
    rw [row_getElem? _ _ hj'] at hj
    cases hj
    have hcj := hc' j (by omega)
    rw [Nat.zero_add] at hcj
    exact hcj
  case hfit => rw [row_length, row_length, List.length_replicate]; omega
  case h1 =>
    intro v hv
    simp only [row, List.mem_map] at hv
    obtain ⟨x, -, rfl⟩ := hv
    rfl
  case hb => exact HB3.out
  case hBg => exact Nat.le_refl _
  intro w4 hg4 hb4
  have esp : splice (row (List.replicate (la + 1) 0)) 0 (row zs) = row (zs ++ List.replicate (la + 1 - zs.length) 0) := by
    simp only [splice, row, List.take_zero, List.nil_append, Nat.zero_add, List.length_map, List.map_append]
    rw [← List.map_drop, List.drop_replicate]
  have HO4 : Hid (Own w4 w1.heap.size (zs ++ List.replicate (la + 1 - zs.length) 0)) := by
    have := hg4.out
    rw [esp] at this
    exact this
  have HI4 : Hid (KInv (num xs * P) (num ys * P) mv la (la + 1) (zs ++ List.replicate (la + 1 - zs.length) 0)) := by
    have := kinv_start (s := s) hx hy HZ.out.2.1 HLX.out HUB.out (by omega) hle (by omega) (by rw [HP.out]; exact HZN.out)
    rw [HP.out] at this
    exact this
  have HX4 : Hid (Sx w1.heap.size w4 (some ⟨gv, 0, none⟩) mv vs) := ⟨HV.out.lower (fun p hp => by cases hp; exact hgv1) hb4, fun _ p hp => by cases hp; exact Nat.ne_of_lt hgv1⟩
  clear esp hg4 HO3 HB3 HZ HZN hzl hmz hmz2 hgz HV
  go_wp2_with fail
  have htop : 0 < vs.getD (mv - 1) 0 := by
    have h1 := usedN_top vs (by rw [HVU.out]; omega)
    rw [HVU.out] at h1
    have h2 := HX4.out.1.2.1.getD (mv - 1)
    omega
  have hvl := HX4.out.1.1
  have hvlt := num_lt HX4.out.1.2.1
  rw [hvl] at hvlt
  have hvpos : 0 < num vs := by
    have h1 := num_top vs (mv - 1) (by omega)
    have h2 := num_take_nonneg HX4.out.1.2.1 (mv - 1)
    have h3 : 1 * pw (mv - 1) ≤ vs.getD (mv - 1) 0 * pw (mv - 1) := mul_le (Int.le_of_lt (pw_pos _)) (by omega)
    have h4 := pw_pos (mv - 1)
    omega
  have HTOP : Hid (0 < vs.getD (mv - 1) 0) := htop
  have HVLT : Hid (num vs ≤ pw mv) := Int.le_of_lt hvlt
  have HVPOS : Hid (0 < num vs) := hvpos
  have HVL : Hid (vs.length = mv) := hvl
  rw [← HVN.out] at HI4
  clear htop hvl hvlt hvpos
  go_loopw [10] (fun ee wr => ∃ (k : Nat) (cs : List Int), mv ≤ k + 1 ∧ k ≤ la ∧ ee = .int .i64 k ∧ Hid (KInv (num xs * P) (num vs) mv la (k + 1) cs) ∧ Hid (Own wr w1.heap.size cs) ∧ Hid (Only w1.heap.size w4 wr)) (fun ee _ => (intOf ee).toNat)
  case atStart => exact ⟨la, _, by omega, Nat.le_refl _, rfl, HI4, HO4, Only.refl _ _⟩
  case round =>
    obtain ⟨k, cs, hk1, hk2, rfl, hI, hO, hON⟩ := hrel
    by_cases hge : mv ≤ k
    · have hlen := hI.out.1
      have hpl := kinv_piece hI.out hge hk2
      obtain ⟨kk, hkk⟩ : ∃ kk, kk = mv + 1 := ⟨_, rfl⟩
      have T := takeOff_any w1.heap.size (k - mv) mv kk (la + 1 - (k - mv)) gv 0 cv cs vs wr hkk hO.out hI.out.2.1 (by omega) (HX4.out.only hON.out) (by omega) hlb hpl HTOP.out (by omega)
      have e1 : ((k : Int) - mv).toNat = k - mv := by omega
      have e2 : ((k : Int) + 1).toNat = k + 1 := by omega
      have e3 : k + 1 - (k - mv) = kk := by omega
      have e5 : k - mv + mv = k := by omega
      have e6 : mv < kk := by omega
      have e7 : kk ≤ la + 1 := by omega
      have e8 : (mv : Int) ≤ k := by omega
      have e9 : (0 : Int) ≤ (k : Int) - mv := by omega
      clear hkk hpl
      go_wp2_with fail
      refine T.mono ?_
      rintro e w5 ⟨tq, ds, rfl, htq, hO5, hS5, hQ5, hON5⟩
      obtain ⟨p1, p2⟩ := sinv_end HVPOS.out hI.out.2.1 (by omega) hS5 hQ5
      have hsl := seg_length ds (k - mv) (mv + 1) (by have := hS5.1; omega)
      have htz := rest_top ((hS5.2.1.drop (k - mv)).take (mv + 1)) hsl HVLT.out p2
      rw [getD_seg _ _ _ _ (by omega), e5] at htz
      have HI5 : Hid (KInv (num xs * P) (num vs) mv la k (ds.set k tq)) :=
        kinv_step hI.out hge hk2 hS5.1 hS5.2.1 (fun j hj => hS5.2.2.1 j (by omega)) p1 p2 htz htq
      have hcx := hO5.cell k (by have := hS5.1; omega)
      have hfx := hO5.frozen k
      have HO5 : Hid (Own w5 w1.heap.size ds) := hO5
      have HON5 : Hid (Only w1.heap.size w4 w5) := hON.out.trans hON5
      clear T hO5 hS5 hQ5 hON5 p1 p2 hsl htz hI hO hON
      go_wp2_with fail
      go_roundw
      case rel => exact ⟨k - 1, _, by omega, by omega, by rw [show ((k - 1 : Nat) : Int) = (k : Int) - 1 by omega], by rw [show k - 1 + 1 = k by omega]; exact HI5, Own.set HO5.out k _, Only.set HON5.out k _⟩
      case measure => simp [intOf]; omega
    · have hkm : k + 1 = mv := by omega
      rw [hkm] at hI
      obtain ⟨r1, r2⟩ := kinv_end hI.out
      have hlen := hI.out.1
      have hLc := hI.out.2.1
      obtain ⟨lq, hlq⟩ : ∃ lq, la + 1 - mv = lq := ⟨_, rfl⟩
      have hpc := hO.out.piece hLc (off := mv) (n := lq) (by omega)
      rw [List.take_of_length_le (by rw [List.length_drop]; omega)] at hpc
      have TR := trim_any (some ⟨w1.heap.size, mv, none⟩) lq lq _ wr hpc (by omega) (Nat.le_refl _)
      have hul := usedN_le (cs.drop mv)
      rw [List.length_drop, hlen] at hul
      obtain ⟨uq, huq⟩ : ∃ uq, usedN (cs.drop mv) = uq := ⟨_, rfl⟩
      rw [huq] at TR hul
      have r0 := num_take_nonneg hLc mv
      rw [HVN.out, ← HP.out] at r1 r2
      obtain ⟨z1, z2, z3⟩ := unshift (p2_pos s) r1 r2 r0
      have HZ1 : Hid (num xs = num (cs.drop mv) * num ys + num (cs.take mv) / 2 ^ s) := z1
      have HZ2 : Hid (num (cs.take mv) / 2 ^ s < num ys) := z2
      have HUQ : Hid (usedN (cs.drop mv) = uq) := huq
      have HLC : Hid (Limbs cs) := hLc
      have HLEN : Hid (cs.length = la + 1) := hlen
      have hlq2 : mv + lq = la + 1 := by omega
      have hlq3 : 0 < lq := by omega
      clear z1 z2 z3 r0 r1 r2 huq hlen hLc hkm
      go_wp2_with fail
      refine TR.mono ?_
      rintro e w5 ⟨gq, rfl, hgq, hOq, hbq⟩
      have HO5 : Hid (Own w5 w1.heap.size cs) := hO.out.below hbq hO.out.lt
      have HOQ : Hid (Own w5 gq ((cs.drop mv).take uq)) := hOq
      have hcl := run_wipe HO5.out mv lq lq hlq3 (by rw [HLEN.out]; omega)
      have hgn : gq ≠ w1.heap.size := by have := hO.out.lt; omega
      have HB5 : Hid (Below w1.heap.size w1 w5) := (hb4.trans (hON.out.below (Nat.le_refl _))).trans (hbq.mono (Nat.le_of_lt hO.out.lt))
      clear TR hpc hOq hbq
      go_wp2_with fail
      have HO6 : Hid (Own (w5.setCells w1.heap.size mv (List.replicate lq (.int .u64 0))) w1.heap.size (wiped lq mv cs)) := Own.wipe lq mv HO5.out
      have HN6 : Hid (Only w1.heap.size w5 (w5.setCells w1.heap.size mv (List.replicate lq (.int .u64 0)))) := Only.wipe lq mv (Only.refl _ _)
      generalize w5.setCells w1.heap.size mv (List.replicate lq (.int .u64 0)) = w6 at *
      have HOQ6 : Hid (Own w6 gq ((cs.drop mv).take uq)) := HOQ.out.only HN6.out hgn
      have HB6 : Hid (Below w1.heap.size w1 w6) := HB5.out.trans (HN6.out.below (Nat.le_refl _))
      have s6 := HO6.out.sl (wiped_limbs lq mv HLC.out)
      rw [wiped_length, HLEN.out] at s6
      clear hcl HO5 HOQ HB5 HN6
      refine (right_val (some ⟨w1.heap.size, 0, none⟩) (la + 1) (la + 1) _ s w6 s6 (by omega) (Nat.le_refl _) (by omega)).mono ?_
      rintro e w7 ⟨a7, m7, c7, rs, rfl, hmc7, -, hs7, hu7, hn7, hb7⟩
      rw [num_wiped (by rw [HLEN.out]; exact hlq2)] at hn7
      have sq := (HOQ6.out.below hb7 HOQ6.out.lt).sl ((HLC.out.drop mv).take uq)
      have hlu : ((cs.drop mv).take uq).length = uq := by rw [List.length_take, List.length_drop, HLEN.out]; omega
      rw [hlu] at sq
      have hlt7 : w1.heap.size ≤ w6.heap.size := HB6.out.size
      have B7 : Below w.heap.size w w7 := (hb1.trans (HB6.out.mono hb1.size)).trans (hb7.mono (Nat.le_trans hb1.size hlt7))
      go_wp2_with fail
      go_ret2
      refine ⟨gq, uq, uq, a7, m7, c7, _, rs, rfl, sq, ?_, Nat.le_refl _, by omega, hs7, hu7, hmc7, ?_, ?_, B7⟩
      · rw [← HUQ.out]; exact usedN_take _ (Nat.le_refl _)
      · rw [hn7, ← HUQ.out, num_take_used _ (Nat.le_refl _)]; exact HZ1.out
      · rw [hn7]; exact HZ2.out
end Go.Proofs.Ytkfpblonjinfmaa
