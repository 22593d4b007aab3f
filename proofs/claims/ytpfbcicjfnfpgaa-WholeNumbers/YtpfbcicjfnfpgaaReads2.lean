/-
  read: the walk.
-/
import Derived.Test.YtpfbcicjfnfpgaaReads
import Derived.Laws.RangeAny
namespace Go.Proofs.Ytpfbcicjfnfpgaa
open Go.RowKit Go.Shelf
set_option linter.unusedVariables false

/-- What pieces say, the highest first. -/
def pval (B : Int) (ds : List Dg) : Int := ds.foldl (fun s d => s * B + num d.2.2.2) 0
theorem pval_snoc (B : Int) (ds : List Dg) (d : Dg) : pval B (ds ++ [d]) = pval B ds * B + num d.2.2.2 := by simp [pval]
/-- What read answers of a text of digits: pieces, the lowest first. -/
def ReadR (w : World) (g : Nat) (ds : List Dg) (bn sz n : Nat) (V : Nat) : Prop :=
  g < w.heap.size ∧ (∀ i d, ds[i]? = some d → w.cell? ⟨g, i, none⟩ = some (dv d)) ∧ (∀ d ∈ ds, Nt w d.1 d.2.1 d.2.2.1 d.2.2.2) ∧ pval ((bn : Int) ^ sz) ds.reverse = V ∧ (ds ≠ [] → (ds.length - 1) * sz + 1 ≤ n) ∧ ∀ d, ds[ds.length - 1]? = some d → num d.2.2.2 ≠ 0
/-- The first of the pieces is not 0. -/
def Top (ds : List Dg) : Prop := ∀ d, ds[0]? = some d → num d.2.2.2 ≠ 0
def ReadI (s : ByteArray) (bn sz pos : Nat) (pc : Int) (ds : List Dg) : Prop :=
  ∃ pn P : Nat, pc = pn ∧ pval ((bn : Int) ^ sz) ds = P ∧ RI bn sz s.size (s.size - pos) pn ds.length P (tv bn (s.data.toList.take pos)) ∧ Dig bn (s.data.toList.take pos) ∧ pn < 18446744073709551616 ∧ Top ds
theorem take_snoc (s : ByteArray) (k : Nat) (h : k < s.size) : s.data.toList.take (k + 1) = s.data.toList.take k ++ [s[k]] := by
  rw [List.take_succ_eq_append_getElem (by simpa using h)]; rfl

abbrev d0 : Dg := (none, 0, 0, [])
theorem Dr.rsl {W : World} {B g len cap : Nat} {ds : List Dg} (h : Dr W B (.slice (some ⟨g, 0, none⟩) len cap) ds) (hl : len = ds.length) : Rsl W g len (fun i => .slice (ds.getD i d0).1 (ds.getD i d0).2.1 (ds.getD i d0).2.2.1) := by
  obtain ⟨h1, h2 | ⟨g', cap', cur, e, hBg, hh, hc, hm, hs, ht⟩⟩ := h.1
  · cases h2.1
  · cases e
    refine ⟨⟨cur, 25, hh, by omega⟩, fun i hi => ?_⟩
    have hx : (ds.map dv)[i]? = some (dv (ds.getD i d0)) := by
      rw [List.getElem?_map, List.getD_eq_getElem?_getD, List.getElem?_eq_getElem (by omega)]; rfl
    rw [← ht, Nat.mul_one, List.getElem?_take_of_lt (by rw [List.length_map]; omega)] at hx
    have hx' : cur[i]? = some (dv (ds.getD i d0)) := by simpa using hx
    simp only [World.cell?, hh]
    exact hx'
theorem read_end {W W2 : World} {B g len cap : Nat} {ds : List Dg} {s : ByteArray} {bn sz : Nat} {pc : Int} (h : Dr W B (.slice (some ⟨g, 0, none⟩) len cap) ds) (hl : len = ds.length)
    (hR : Rsl W2 g len (fun i => .slice (ds.getD (len - 1 - i) d0).1 (ds.getD (len - 1 - i) d0).2.1 (ds.getD (len - 1 - i) d0).2.2.1)) (hO : Only g W W2) (hI : ReadI s bn sz s.size pc ds) :
    Dig bn s.data.toList ∧ ReadR W2 g ds.reverse bn sz s.size (tv bn s.data.toList) := by
  obtain ⟨pn, P, -, hP, hri, hdg, -, htp⟩ := hI
  have ht : s.data.toList.take s.size = s.data.toList := List.take_of_length_le (by rw [← Go.Lib.size_eq s]; exact Nat.le_refl _)
  rw [ht] at hri hdg
  rw [Nat.sub_self] at hri
  obtain ⟨hV, -, hcnt⟩ := hri.last
  refine ⟨hdg, hR.1.lt, fun i d hd => ?_, fun d hd => ?_, by rw [List.reverse_reverse, hP, hV], fun hne => ?_, fun d hd => ?_⟩
  · have hi : i < ds.length := by
      have := (List.getElem?_eq_some_iff.1 hd).1
      simpa using this
    rw [List.getElem?_reverse hi] at hd
    rw [hR.2 i (by omega)]
    have e : ds.getD (len - 1 - i) d0 = d := by rw [List.getD_eq_getElem?_getD, hl, hd]; rfl
    show some (Value.slice (ds.getD (len - 1 - i) d0).1 (ds.getD (len - 1 - i) d0).2.1 (ds.getD (len - 1 - i) d0).2.2.1) = some (dv d)
    rw [e]; rfl
  · have hm : d ∈ ds := List.mem_reverse.1 hd
    refine ((h.2 d hm).at (W' := W2) fun g' e => hO.oth g' ?_).1
    intro e'
    exact h.ne hm e (by rw [e']; rfl)
  · have : ds ≠ [] := fun e => hne (by rw [e]; rfl)
    rw [List.length_reverse]
    exact hcnt (by simpa using this)
  · have hi := (List.getElem?_eq_some_iff.1 hd).1
    rw [List.length_reverse] at hi hd
    rw [List.getElem?_reverse hi, show ds.length - 1 - (ds.length - 1) = 0 by omega] at hd
    exact htp d hd

theorem Dr.ne_iter {W : World} {B g len cap k : Nat} {ds : List Dg} {s : ByteArray} {p : Nat} (h : Dr W B (.slice (some ⟨g, 0, none⟩) len cap) ds) (hk : W.heap[k]? = some (.stringIter s p)) : g ≠ k := by
  obtain ⟨h1, h2 | ⟨g', cap', cur, e, hBg, hh, hc, hm, hs, ht⟩⟩ := h.1
  · cases h2.1
  · cases e
    intro e
    rw [e, hk] at hh
    cases hh
theorem pos_of {W : World} {k : Nat} {s : ByteArray} {p : Nat} (h : W.heap[k]? = some (.stringIter s p)) : W.iterPos k = p := by simp [World.iterPos, h]
theorem readI_on {s : ByteArray} {bn sz pos pn P x R : Nat} {ds : List Dg} (hlt : pos < s.size) (hb2 : 2 ≤ bn) (hs2 : 2 ≤ sz) (hx : wv s[pos] = x) (hxb : x < bn) (hP : pval ((bn : Int) ^ sz) ds = P) (hdg : Dig bn (s.data.toList.take pos))
    (hri : RI bn sz s.size (s.size - pos) pn ds.length P (tv bn (s.data.toList.take pos))) (hR : R = (s.size - pos - 1) % sz) (h0 : 0 < R) {y : Int} (hy : y = ((pn * bn + x : Nat) : Int)) (h64 : pn * bn + x < 18446744073709551616) (htp : Top ds) : ReadI s bn sz (pos + 1) y ds := by
  refine ⟨pn * bn + x, P, hy, hP, ?_, ?_, h64, htp⟩
  · rw [take_snoc s pos hlt, tv_snoc, hx]
    exact (hri.on hb2 (by omega) hs2 hxb (by omega)).1
  · rw [take_snoc s pos hlt]
    exact hdg.append (fun c hc => by obtain rfl : c = s[pos] := by simpa using hc
                                     rw [hx]; exact hxb)
theorem readI_piece {s : ByteArray} {bn sz pos pn P x R : Nat} {ds : List Dg} {d : Dg} (hlt : pos < s.size) (hb2 : 2 ≤ bn) (hs2 : 2 ≤ sz) (hx : wv s[pos] = x) (hxb : x < bn) (hP : pval ((bn : Int) ^ sz) ds = P) (hdg : Dig bn (s.data.toList.take pos))
    (hri : RI bn sz s.size (s.size - pos) pn ds.length P (tv bn (s.data.toList.take pos))) (hR : R = (s.size - pos - 1) % sz) (h0 : ¬ 0 < R) {y : Int} (hy : y = ((pn * bn + x : Nat) : Int)) (hd : num d.2.2.2 = y) (htp : Top ds) (hnz : 0 < y ∨ 0 < ds.length) : ReadI s bn sz (pos + 1) 0 (ds ++ [d]) := by
  refine ⟨0, P * bn ^ sz + (pn * bn + x), rfl, ?_, ?_, ?_, by omega, fun d' hd' => ?_⟩
  · rw [pval_snoc, hP, hd, hy]; simp
  · rw [take_snoc s pos hlt, tv_snoc, hx, List.length_append, List.length_singleton]
    exact (hri.piece hb2 (by omega) (by omega) hs2 hxb (by omega)).1
  · rw [take_snoc s pos hlt]
    exact hdg.append (fun c hc => by obtain rfl : c = s[pos] := by simpa using hc
                                     rw [hx]; exact hxb)
  · rcases Nat.eq_zero_or_pos ds.length with h0 | h0
    · obtain rfl : ds = [] := List.eq_nil_of_length_eq_zero h0
      cases hd'
      rw [hd]; have := hnz.resolve_right (by simp); omega
    · rw [List.getElem?_append_left h0] at hd'
      exact htp d' hd'
theorem readI_none {s : ByteArray} {bn sz pos pn P x R : Nat} {ds : List Dg} (hlt : pos < s.size) (hb2 : 2 ≤ bn) (hs2 : 2 ≤ sz) (hx : wv s[pos] = x) (hxb : x < bn) (hP : pval ((bn : Int) ^ sz) ds = P) (hdg : Dig bn (s.data.toList.take pos))
    (hri : RI bn sz s.size (s.size - pos) pn ds.length P (tv bn (s.data.toList.take pos))) (hR : R = (s.size - pos - 1) % sz) (h0 : ¬ 0 < R) {y : Int} (hy : y = ((pn * bn + x : Nat) : Int)) (hy0 : y = 0) (hl : ds.length = 0) : ReadI s bn sz (pos + 1) 0 ds := by
  obtain rfl : ds = [] := List.eq_nil_of_length_eq_zero hl
  refine ⟨0, 0, rfl, rfl, ?_, ?_, by omega, fun d h => by simp at h⟩
  · rw [take_snoc s pos hlt, tv_snoc, hx]
    exact (hri.piece hb2 (by omega) (by omega) hs2 hxb (by omega)).2.2 rfl (by omega)
  · rw [take_snoc s pos hlt]
    exact hdg.append (fun c hc => by obtain rfl : c = s[pos] := by simpa using hc
                                     rw [hx]; exact hxb)

set_option maxHeartbeats 4000000 in
set_option maxRecDepth 20000 in
theorem read_any (s : ByteArray) (bn sz : Nat) (hb2 : 2 ≤ bn) (hb36 : bn ≤ 36) (hs2 : 2 ≤ sz) (hs63 : sz ≤ 63) (hpw : bn ^ sz < 18446744073709551616) (hn0 : 0 < s.size) (hn1 : s.size ≤ 262144) (w : World) :
    Calls Try.prog 53 #[.string s, .int .i64 bn, .int .i64 sz] w fun e w' => Below w.heap.size w w' ∧
      ((Dig bn s.data.toList ∧ ∃ g cap ds, e = .returned (.tuple #[.slice (some ⟨g, 0, none⟩) (List.length ds) cap, .int .i64 0, .int .i64 0]) ∧ ds.length ≤ cap ∧ ReadR w' g ds bn sz s.size (tv bn s.data.toList)) ∨
        (∃ (k : Nat) (hk : k < s.size), e = .returned (.tuple #[.slice none 0 0, .int .i64 k, .int .i64 31]) ∧ Dig bn (s.data.toList.take k) ∧ bn ≤ wv s[k])) := by
  have HPW : Hid (bn ^ sz < 18446744073709551616) := hpw
  clear hpw
  obtain ⟨i0, hi, hz0, hz1, hz2⟩ := info_parts infoN
  have hemp : s.toList.isEmpty = false := by
    rw [Go.Lib.toList_data]
    cases h : s.data.toList with
    | nil => have := Go.Lib.size_eq s; rw [h, List.length_nil] at this; omega
    | cons x r => rfl
  have hbI : IntKind.u64.wrap (bn : Int) = bn := by rw [IntKind.wrap_u64]; omega
  obtain ⟨Q, hQ⟩ : ∃ Q : Nat, (s.size : Int).tdiv sz = Q := ⟨s.size / sz, by rw [Int.tdiv_eq_ediv_of_nonneg (by omega)]; simp⟩
  have HQ : Hid (Q ≤ 262144) := by
    have : (s.size : Int).tdiv sz = ((s.size / sz : Nat) : Int) := by rw [Int.tdiv_eq_ediv_of_nonneg (by omega)]; simp
    rw [this] at hQ
    have h2 := Nat.div_le_self s.size sz
    show Q ≤ 262144
    omega
  have hz : (sz : Int) ≠ 0 := by omega
  have hQb := HQ.out
  obtain ⟨w1, hmk, hrow, hgr⟩ := run_make_own (P := Try.prog) w w.heap.size 98 25 i0 (.agg #[.slice none 0 0]) 1 Try.underlying98 hi hz0 hz1 .i64 .i64 (Q + 1) (by rw [hz2]; omega) (by unfold maxLen; omega) (Nat.le_refl _)
  have HG : Hid (Dr w1 w.heap.size (.slice (some ⟨w.heap.size, 0, none⟩) 0 (Q + 1)) []) := ⟨hrow, fun d hd => by simp at hd⟩
  have HB : Hid (Below w.heap.size w w1) := (Below.refl _ _).grown hgr (Nat.le_refl _) (fun k e => by cases e)
  have hmk' : (Instr.makeSlice 98 (.int .i64 0) (.int .i64 ((Q : Int) + 1))).run Try.prog w = .ok (.slice (some ⟨w.heap.size, 0, none⟩) 0 (Q + 1)) w1 := by
    have := hmk
    simpa using this
  clear hrow hgr hi hz0 hz1 hz2 hmk
  go_enter Try.func53, Try.ntmps53
  go_wp2_with fail
  go_loopw [9, 10] (fun v p wr => ∃ (pos : Nat) (pc : Int) (ds : List Dg) (g cap len : Nat), v = .slice (some ⟨g, 0, none⟩) len cap ∧ p = .int .u64 pc ∧ pos ≤ s.size ∧ Hid (len = ds.length ∧ len ≤ cap ∧ len ≤ pos) ∧ len ≤ 262144 ∧ wr.heap[w1.heap.size]? = some (.stringIter s pos) ∧ Hid (Dr wr w.heap.size (.slice (some ⟨g, 0, none⟩) len cap) ds) ∧ Hid (ReadI s bn sz pos pc ds) ∧ Hid (Below w.heap.size w wr) ∧ Hid (w1.heap.size < wr.heap.size)) (fun _ _ wr => s.size - wr.iterPos w1.heap.size)
  case atStart =>
    have hB1 : Below w1.heap.size w1 (w1.iter s 0) := (Below.refl _ _).alloc (Nat.le_refl _) _
    refine ⟨0, 0, [], w.heap.size, Q + 1, 0, rfl, rfl, Nat.zero_le _, ⟨rfl, Nat.zero_le _, Nat.zero_le _⟩, Nat.zero_le _, World.iter_heap w1 _ _, HG.out.after hB1, ⟨0, 0, rfl, rfl, ?_, ?_, by omega, fun d h => by simp at h⟩, HB.out.trans (hB1.mono HB.out.size), ?_⟩
    · have := RI.start bn sz s.size
      simpa [tv] using this
    · simpa using Dig.nil bn
    · show w1.heap.size < (w1.heap.push _).size; simp
  case round =>
    obtain ⟨pos, pc, ds, g, cap, len, rfl, rfl, hpos, HL, hlen, hit, HD, HI, HBw, HLw⟩ := hrel
    by_cases hlt : pos < s.size
    · by_cases hd : wv s[pos] < bn
      · have hc : s[pos].toNat < 128 := by unfold wv at hd; repeat' split at hd
                                           all_goals omega
        have hnx := fun ty => Go.Lib.run_next_ascii_at (P := Try.prog) wr w1.heap.size s pos ty hit hlt hc
        have hit2 := Go.Lib.iterAt_heap wr w1.heap.size s pos (pos + 1) hit
        have HD2 : Hid (Dr (wr.iterAt w1.heap.size s (pos + 1)) w.heap.size (.slice (some ⟨g, 0, none⟩) len cap) ds) := HD.out.iter hit _
        have HB2 : Hid (Below w.heap.size w (wr.iterAt w1.heap.size s (pos + 1))) := Go.Lib.below_iterAt HBw.out HB.out.size _ _
        obtain ⟨x, hx⟩ : ∃ x : Nat, wv s[pos] = x := ⟨_, rfl⟩
        have hW : ∀ w, Calls Try.prog 73 #[.int .i32 (s[pos].toNat : Int)] w fun e w' => e = .returned (.int .i64 (x : Int)) ∧ w' = w := fun w => by
          have := worth_any (s[pos].toNat : Int) (by omega) (by omega) w
          rw [wvI_byte, hx] at this
          exact this
        have hxb : (x : Int) < bn := by omega
        have HX : Hid (wv s[pos] = x) := hx
        obtain ⟨pn, P, hpn, hP, hri, hdg, -, htp⟩ := HI.out
        have HTP : Hid (Top ds) := htp
        clear htp
        have HP : Hid (pval ((bn : Int) ^ sz) ds = P) := hP
        have HDG : Hid (Dig bn (s.data.toList.take pos)) := hdg
        have HPN : Hid (pc = pn) := hpn
        generalize hW2 : wr.iterAt w1.heap.size s (pos + 1) = W2 at hnx hit2 HD2 HB2
        have HLW : Hid (w1.heap.size < W2.heap.size) := (Array.getElem?_eq_some_iff.1 hit2).1
        clear HD HBw HLw hd hx hpn hP hdg hW2 HI hmk' HG hQ
        obtain ⟨R, hR⟩ : ∃ R : Nat, ((s.size : Int) - pos - 1).tmod sz = R := ⟨(s.size - pos - 1) % sz, by rw [show (s.size : Int) - pos - 1 = ((s.size - pos - 1 : Nat) : Int) by omega, Int.tmod_eq_emod_of_nonneg (by omega)]; simp⟩
        have HRR : Hid (R = (s.size - pos - 1) % sz) := by
          have e : ((s.size : Int) - pos - 1).tmod sz = (((s.size - pos - 1) % sz : Nat) : Int) := by rw [show (s.size : Int) - pos - 1 = ((s.size - pos - 1 : Nat) : Int) by omega, Int.tmod_eq_emod_of_nonneg (by omega)]; simp
          rw [hR] at e
          show R = _
          omega
        have hyb : pn * bn + x < bn ^ sz := by
          rcases Nat.eq_zero_or_pos ((s.size - pos - 1) % sz) with h0 | h0
          · exact (hri.piece hb2 (by omega) (by omega) hs2 (by omega) h0).2.1
          · exact (hri.on hb2 (by omega) hs2 (by omega) h0).2
        have hy64 := Nat.lt_trans hyb HPW.out
        obtain ⟨y, hy⟩ : ∃ y : Int, y = pc * bn + x := ⟨_, rfl⟩
        have ey : y = ((pn * bn + x : Nat) : Int) := by rw [hy, HPN.out]; simp
        have hy0 : 0 ≤ y := by omega
        have e1 : IntKind.u64.wrap (pc * bn) = pc * bn := by
          rw [HPN.out, IntKind.wrap_u64]
          have : (pn : Int) * bn = ((pn * bn : Nat) : Int) := by simp
          omega
        have e2 : IntKind.u64.wrap (x : Int) = x := by rw [IntKind.wrap_u64]; omega
        have e3 : IntKind.u64.wrap (pc * bn + x) = y := by rw [IntKind.wrap_u64, ← hy]; omega
        have HY : Hid (y = ((pn * bn + x : Nat) : Int)) := ey
        have HRI : Hid (RI bn sz s.size (s.size - pos) pn ds.length P (tv bn (s.data.toList.take pos))) := hri
        have HIP : Hid (wr.iterPos w1.heap.size = pos) := pos_of hit
        have HY64 : Hid (pn * bn + x < 18446744073709551616) := hy64
        clear hy ey hyb hy64 hri hit
        have HXB : Hid (x < bn) := by show x < bn; omega
        by_cases hR0 : 0 < R
        · go_wp2_with fail
          refine (hW _).mono ?_
          rintro e w' ⟨rfl, rfl⟩
          go_wp2_with fail
          refine (hW _).mono ?_
          rintro e w' ⟨rfl, rfl⟩
          go_wp2_with fail
          go_roundw
          case rel => exact ⟨pos + 1, y, ds, g, cap, len, rfl, rfl, by omega, ⟨HL.out.1, HL.out.2.1, by have := HL.out.2.2; omega⟩, hlen, hit2, HD2, readI_on hlt hb2 hs2 HX.out HXB.out HP.out HDG.out HRI.out HRR.out hR0 HY.out HY64.out HTP.out, HB2, HLW⟩
          case measure => rw [HIP.out, pos_of hit2]; omega
        · by_cases hy1 : 0 < y
          · go_wp2_with fail
            refine (hW _).mono ?_
            rintro e w' ⟨rfl, rfl⟩
            go_wp2_with fail
            refine (hW _).mono ?_
            rintro e w' ⟨rfl, rfl⟩
            go_wp2_with fail
            refine (small_new y ⟨hy0, by have := HY.out; have := HY64.out; omega⟩ _).mono ?_
            rintro e W3 ⟨⟨a, l, c, zs⟩, rfl, hN, hv, hpl, hb3⟩
            obtain ⟨HN, HV, HPL, HB3⟩ : Hid (Nt W3 a l c zs) ∧ Hid (num zs = y) ∧ Hid (a = none ∨ ∃ g, a = some ⟨g, 0, none⟩ ∧ 0 < l ∧ w'.heap.size ≤ g) ∧ Hid (Below w'.heap.size w' W3) := ⟨hN, hv, hpl, hb3⟩
            clear hN hv hpl hb3
            simp only [dv]
            have HBA : Hid (Below w'.heap.size w' (W3.alloc (.cells #[.slice a l c] 25))) := HB3.out.alloc HB3.out.size _
            have HDA : Hid (Dr (W3.alloc (.cells #[.slice a l c] 25)) w.heap.size (.slice (some ⟨g, 0, none⟩) len cap) ds) := HD2.out.after HBA.out
            have HNA : Hid (Dn (W3.alloc (.cells #[.slice a l c] 25)) (a, l, c, zs)) := ⟨HN.out.al _, by rcases HPL.out with h | ⟨g', h, h', -⟩; exact .inl h; exact .inr ⟨g', h, h'⟩⟩
            have HNE : Hid (∀ g', a = some ⟨g', 0, none⟩ → some g' ≠ (Value.slice (some ⟨g, 0, none⟩) len cap).ownBlock) := fun g' e h => by
              have h1 : g < w'.heap.size := HD2.out.1.lt g rfl
              have h2 : g' = g := Option.some.inj h
              rcases HPL.out with h3 | ⟨g2, h3, -, h4⟩
              · rw [h3] at e; cases e
              · rw [h3] at e; cases e; omega
            have HIA : Hid ((W3.alloc (.cells #[.slice a l c] 25)).heap[w1.heap.size]? = some (.stringIter s (pos + 1))) := (HBA.out.block _ HLW.out).trans hit2
            clear hit2 hnx hW
            go_wp2_with (at_builtin; refine wpList_appn rfl (.tmp 57) (.tmp 60) rfl w.heap.size (.slice (some ⟨g, 0, none⟩) len cap) (ds.map dv) rfl HDA.out.1 W3.heap.size 1 a l c rfl (Va.new W3 _ _).cell (by rw [List.length_map, ← HL.out.1]; omega) (by have h1 := HB2.out.size; have h2 := HBA.out.size; omega) ?_; intro v4 W4 hG4 hb4 hfar)
            have HD4 := HDA.out.app HNA.out HNE.out hG4.out hfar.out
            obtain ⟨g4, cap4, rfl, hc4, hl4, -⟩ := hG4.out.lies (by simp)
            have e4 : (ds.map dv ++ [Value.slice a l c]).length = len + 1 := by rw [List.length_append, List.length_map, ← HL.out.1]; rfl
            rw [e4] at HD4 hc4 ⊢
            have hne4 : w1.heap.size ≠ g := fun e => HDA.out.ne_iter HIA.out e.symm
            have HI4 : Hid (W4.heap[w1.heap.size]? = some (.stringIter s (pos + 1))) := (hfar.out w1.heap.size (by have h1 := HLW.out; have h2 := HBA.out.size; omega) (fun e => hne4 (Option.some.inj e))).trans HIA.out
            have H4 : Hid _ := HD4
            have HB4 : Hid (Below w.heap.size w W4) := (HB2.out.trans (HBA.out.mono HB2.out.size)).trans hb4
            have HLP := HL.out.2.2
            clear HD4 hG4 hfar hl4 hb4 e4 hne4
            go_wp2_with fail
            go_roundw
            case rel => exact ⟨pos + 1, 0, ds ++ [(a, l, c, zs)], g4, cap4, len + 1, rfl, rfl, by omega, ⟨by rw [List.length_append, ← HL.out.1]; rfl, hc4, by omega⟩, by omega, HI4.out, H4.out, readI_piece hlt hb2 hs2 HX.out HXB.out HP.out HDG.out HRI.out HRR.out hR0 HY.out HV.out HTP.out (.inl hy1), HB4.out, (Array.getElem?_eq_some_iff.1 HI4.out).1⟩
            case measure => rw [HIP.out, pos_of HI4.out]; omega
          · by_cases hl1 : 0 < len
            · go_wp2_with fail
              refine (hW _).mono ?_
              rintro e w' ⟨rfl, rfl⟩
              go_wp2_with fail
              refine (hW _).mono ?_
              rintro e w' ⟨rfl, rfl⟩
              go_wp2_with fail
              refine (small_new y ⟨hy0, by have := HY.out; have := HY64.out; omega⟩ _).mono ?_
              rintro e W3 ⟨⟨a, l, c, zs⟩, rfl, hN, hv, hpl, hb3⟩
              obtain ⟨HN, HV, HPL, HB3⟩ : Hid (Nt W3 a l c zs) ∧ Hid (num zs = y) ∧ Hid (a = none ∨ ∃ g, a = some ⟨g, 0, none⟩ ∧ 0 < l ∧ w'.heap.size ≤ g) ∧ Hid (Below w'.heap.size w' W3) := ⟨hN, hv, hpl, hb3⟩
              clear hN hv hpl hb3
              simp only [dv]
              have HBA : Hid (Below w'.heap.size w' (W3.alloc (.cells #[.slice a l c] 25))) := HB3.out.alloc HB3.out.size _
              have HDA : Hid (Dr (W3.alloc (.cells #[.slice a l c] 25)) w.heap.size (.slice (some ⟨g, 0, none⟩) len cap) ds) := HD2.out.after HBA.out
              have HNA : Hid (Dn (W3.alloc (.cells #[.slice a l c] 25)) (a, l, c, zs)) := ⟨HN.out.al _, by rcases HPL.out with h | ⟨g', h, h', -⟩; exact .inl h; exact .inr ⟨g', h, h'⟩⟩
              have HNE : Hid (∀ g', a = some ⟨g', 0, none⟩ → some g' ≠ (Value.slice (some ⟨g, 0, none⟩) len cap).ownBlock) := fun g' e h => by
                have h1 : g < w'.heap.size := HD2.out.1.lt g rfl
                have h2 : g' = g := Option.some.inj h
                rcases HPL.out with h3 | ⟨g2, h3, -, h4⟩
                · rw [h3] at e; cases e
                · rw [h3] at e; cases e; omega
              have HIA : Hid ((W3.alloc (.cells #[.slice a l c] 25)).heap[w1.heap.size]? = some (.stringIter s (pos + 1))) := (HBA.out.block _ HLW.out).trans hit2
              clear hit2 hnx hW
              go_wp2_with (at_builtin; refine wpList_appn rfl (.tmp 57) (.tmp 60) rfl w.heap.size (.slice (some ⟨g, 0, none⟩) len cap) (ds.map dv) rfl HDA.out.1 W3.heap.size 1 a l c rfl (Va.new W3 _ _).cell (by rw [List.length_map, ← HL.out.1]; omega) (by have h1 := HB2.out.size; have h2 := HBA.out.size; omega) ?_; intro v4 W4 hG4 hb4 hfar)
              have HD4 := HDA.out.app HNA.out HNE.out hG4.out hfar.out
              obtain ⟨g4, cap4, rfl, hc4, hl4, -⟩ := hG4.out.lies (by simp)
              have e4 : (ds.map dv ++ [Value.slice a l c]).length = len + 1 := by rw [List.length_append, List.length_map, ← HL.out.1]; rfl
              rw [e4] at HD4 hc4 ⊢
              have hne4 : w1.heap.size ≠ g := fun e => HDA.out.ne_iter HIA.out e.symm
              have HI4 : Hid (W4.heap[w1.heap.size]? = some (.stringIter s (pos + 1))) := (hfar.out w1.heap.size (by have h1 := HLW.out; have h2 := HBA.out.size; omega) (fun e => hne4 (Option.some.inj e))).trans HIA.out
              have H4 : Hid _ := HD4
              have HB4 : Hid (Below w.heap.size w W4) := (HB2.out.trans (HBA.out.mono HB2.out.size)).trans hb4
              have HLP := HL.out.2.2
              clear HD4 hG4 hfar hl4 hb4 e4 hne4
              go_wp2_with fail
              go_roundw
              case rel => exact ⟨pos + 1, 0, ds ++ [(a, l, c, zs)], g4, cap4, len + 1, rfl, rfl, by omega, ⟨by rw [List.length_append, ← HL.out.1]; rfl, hc4, by omega⟩, by omega, HI4.out, H4.out, readI_piece hlt hb2 hs2 HX.out HXB.out HP.out HDG.out HRI.out HRR.out hR0 HY.out HV.out HTP.out (.inr (by have := HL.out.1; omega)), HB4.out, (Array.getElem?_eq_some_iff.1 HI4.out).1⟩
              case measure => rw [HIP.out, pos_of HI4.out]; omega
            · go_wp2_with fail
              refine (hW _).mono ?_
              rintro e w' ⟨rfl, rfl⟩
              go_wp2_with fail
              refine (hW _).mono ?_
              rintro e w' ⟨rfl, rfl⟩
              go_wp2_with fail
              go_roundw
              case rel => exact ⟨pos + 1, 0, ds, g, cap, len, rfl, rfl, by omega, ⟨HL.out.1, HL.out.2.1, by have := HL.out.2.2; omega⟩, hlen, hit2, HD2, readI_none hlt hb2 hs2 HX.out HXB.out HP.out HDG.out HRI.out HRR.out hR0 HY.out (by omega) (by have := HL.out.1; omega), HB2, HLW⟩
              case measure => rw [HIP.out, pos_of hit2]; omega
      · have HDG : Hid (Dig bn (s.data.toList.take pos)) := by obtain ⟨pn, P, -, -, -, h, -⟩ := HI.out; exact h
        have hbad : bn ≤ wv s[pos] := by omega
        by_cases hc : s[pos].toNat < 128
        · have hnx := fun ty => Go.Lib.run_next_ascii_at (P := Try.prog) wr w1.heap.size s pos ty hit hlt hc
          have HB2 : Hid (Below w.heap.size w (wr.iterAt w1.heap.size s (pos + 1))) := Go.Lib.below_iterAt HBw.out HB.out.size _ _
          generalize hW2 : wr.iterAt w1.heap.size s (pos + 1) = W2 at hnx HB2
          obtain ⟨x, hx⟩ : ∃ x : Nat, wv s[pos] = x := ⟨_, rfl⟩
          have hW : ∀ w, Calls Try.prog 73 #[.int .i32 (s[pos].toNat : Int)] w fun e w' => e = .returned (.int .i64 (x : Int)) ∧ w' = w := fun w => by
            have := worth_any (s[pos].toNat : Int) (by omega) (by omega) w
            rw [wvI_byte, hx] at this
            exact this
          have hxb : (bn : Int) ≤ x := by omega
          have HBD : Hid (bn ≤ wv s[pos]) := hbad
          clear hW2 hbad hx hit hd HI hmk' HG hQ
          go_wp2_with fail
          refine (hW _).mono ?_
          rintro e w' ⟨rfl, rfl⟩
          go_wp2_with fail
          go_ret3
          exact ⟨HB2.out, .inr ⟨pos, hlt, rfl, HDG.out, HBD.out⟩⟩
        · have hnx := fun ty => Go.Lib.run_next_any_at (P := Try.prog) wr w1.heap.size s pos ty hit hlt
          have hr := (Go.decode_high s pos hlt (by omega)).1
          have HB2 : Hid (Below w.heap.size w (wr.iterAt w1.heap.size s (pos + (Utf8.decode s pos).2))) := Go.Lib.below_iterAt HBw.out HB.out.size _ _
          generalize hW2 : wr.iterAt w1.heap.size s (pos + (Utf8.decode s pos).2) = W2 at hnx HB2
          generalize (Utf8.decode s pos).1 = r at hnx hr
          have hxb : (bn : Int) ≤ 36 := by omega
          have HBD : Hid (bn ≤ wv s[pos]) := hbad
          clear hW2 hbad hit hd HI hmk' HG hQ
          go_wp2_with fail
          refine (worth_high _ (by omega) _).mono ?_
          rintro e w' ⟨rfl, rfl⟩
          go_wp2_with fail
          go_ret3
          exact ⟨HB2.out, .inr ⟨pos, hlt, rfl, HDG.out, HBD.out⟩⟩
    · have hnx := fun ty => Go.Lib.run_next_end_at (P := Try.prog) wr w1.heap.size s pos ty hit hlt
      have hps : pos = s.size := by omega
      subst hps
      have HRs : Hid (Rsl wr g len (fun i => .slice (ds.getD i d0).1 (ds.getD i d0).2.1 (ds.getD i d0).2.2.1)) := HD.out.rsl HL.out.1
      clear hit hpos
      go_wp2_with fail
      refine (reverse_any g len cap _ _ _ wr (by omega) HL.out.2.1 HRs.out).mono ?_
      rintro e W2 ⟨⟨v, rfl⟩, hR2, hO2⟩
      have HR2 : Hid _ := hR2
      have HO2 : Hid _ := hO2
      clear hR2 hO2 hnx
      go_wp2_with fail
      go_ret3
      have hE := read_end HD.out HL.out.1 HR2.out HO2.out HI.out
      have hg : w.heap.size ≤ g := HD.out.1.block g rfl
      refine ⟨HBw.out.trans (HO2.out.below hg), .inl ⟨hE.1, g, cap, ds.reverse, ?_, by rw [List.length_reverse, ← HL.out.1]; exact HL.out.2.1, hE.2⟩⟩
      rw [List.length_reverse, ← HL.out.1]
      rfl
end Go.Proofs.Ytpfbcicjfnfpgaa
