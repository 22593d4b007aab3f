/-
  whole.Parse of any text: what is answered, just.
-/
import Derived.Test.YtpfbcicjfnfpgaaParseA
import Derived.Test.YtpfbcicjfnfpgaaBsM
import Derived.Test.YtpfbcicjfnfpgaaStrP
import Derived.Test.YtpfbcicjfnfpgaaDecP
import Derived.Test.YtpfbcicjfnfpgaaShelf
import Derived.Test.YtpfbcicjfnfpgaaPxP
namespace Go.Proofs.Ytpfbcicjfnfpgaa
open Go.RowKit Go.Shelf
set_option linter.unusedVariables false

def neg (l : List UInt8) : Bool := decide (l.head? = some 45)
def bare (l : List UInt8) : List UInt8 := if neg l then l.drop 1 else l
theorem bare_len (l : List UInt8) : (bare l).length ≤ l.length := by unfold bare; split <;> simp
theorem pre_minus (l : List UInt8) : Go.Lib.hasPrefix (ByteArray.mk l.toArray).data.toList (ByteArray.mk #[45]).data.toList = neg l := by
  unfold neg
  show List.isPrefixOf [45] l = _
  cases l with
  | nil => rfl
  | cons c l =>
    simp only [List.isPrefixOf, Bool.and_true, List.head?_cons]
    by_cases hc : c = 45
    · subst hc; rfl
    · have h1 : ((45 : UInt8) == c) = false := by simpa using Ne.symm hc
      rw [h1]; symm; simpa using hc
theorem trim_pre (l : List UInt8) : Go.Lib.trimPrefix (ByteArray.mk l.toArray).data.toList (ByteArray.mk #[45]).data.toList = bare l := by
  unfold Go.Lib.trimPrefix bare; rw [pre_minus]; rfl
theorem cut_m (l : List UInt8) (w : World) : Calls Try.prog 28 #[.string ⟨l.toArray⟩, .string ⟨#[45]⟩] w fun e w' => e = .returned (.tuple #[.string ⟨(bare l).toArray⟩, .bool (neg l)]) ∧ w' = w := by
  have h := Try.strings_CutPrefix ⟨l.toArray⟩ ⟨#[45]⟩ w
  rw [pre_minus, trim_pre] at h
  exact h
/-- What is answered. -/
def WpX (l : List UInt8) (v at' er : Int) : Prop := pRes (neg l) (bare l) l.length = (v, at', er)
def WpP (l : List UInt8) (w : World) (e : Ending) (W' : World) : Prop := ∃ s a ln c zs at' er, e = .returned (.tuple #[.agg #[.bool s, .slice a ln c], .int .i64 at', .int .i64 er]) ∧ It W' s a ln c zs ∧ Hid (WpX l (iv s zs) at' er) ∧ Below w.heap.size w W'
theorem results_wtt {fn : Func} {i j k b : Nat} {x y : Value} {tmps : Array Value} {w : World} (h : fn.results = #[.cell i 27, .tmp j, .tmp k]) (hi : tmps.getD i undef = .pointer (some ⟨b, 0, none⟩)) (hv : Va w b 27 #[x, y]) :
    (results fn tmps).run Try.prog w = .ok (.tuple #[.agg #[x, y], tmps.getD j undef, tmps.getD k undef]) w := by
  have c := hv.c0; have d := hv.c1
  rw [Array.getD_eq_getD_getElem?] at hi
  simp [results, h, hi, c, d, go_sem]
theorem wv_dig (c : UInt8) : wv c < 10 ↔ 48 ≤ c.toNat ∧ c.toNat ≤ 57 := by
  unfold wv
  repeat' split
  all_goals omega
theorem wv_z (c : UInt8) (h : wv c < 10) : wv c = 0 ↔ c.toNat = 48 := by
  have := (wv_dig c).1 h
  unfold wv
  rw [if_pos this]; omega
theorem nz_on {s : ByteArray} {k : Nat} (hk : k < s.size) (hd : wv s[k] < 10) : decide (tv 10 (s.data.toList.take (k + 1)) = 0) = (decide (tv 10 (s.data.toList.take k) = 0) && decide ((s[k].toNat : Int) = 48)) := by
  rw [take_snoc s k hk, tv_snoc, ← Bool.decide_and]
  congr 1
  have := wv_z _ hd
  apply propext
  omega
theorem dig_on {s : ByteArray} {k : Nat} (hk : k < s.size) (hd : wv s[k] < 10) (h : Dig 10 (s.data.toList.take k)) : Dig 10 (s.data.toList.take (k + 1)) := by
  rw [take_snoc s k hk]
  exact h.append (fun c hc => by obtain rfl : c = s[k] := by simpa using hc
                                 exact hd)
theorem not_dig {s : ByteArray} {k : Nat} (hk : k < s.size) (hd : ¬ wv s[k] < 10) : ¬ Dig 10 s.data.toList := fun h => hd (h s[k] (by show s.data[k] ∈ s.data.toList; simp))
set_option maxHeartbeats 16000000 in
set_option maxRecDepth 20000 in
theorem wparsex_any (l : List UInt8) (hl : l.length ≤ 140737488355328) (w : World) :
    Calls Try.prog 11 #[.string ⟨l.toArray⟩] w fun e W' => WpP l w e W' := by
  have hcut := cut_m l
  have HBL : Hid ((bare l).length ≤ l.length) := bare_len l
  have HV : Hid (∀ v at' er, WpX l v at' er ↔ pRes (neg l) (bare l) l.length = (v, at', er)) := fun _ _ _ => Iff.rfl
  obtain ⟨ng, hng⟩ : ∃ ng, neg l = ng := ⟨_, rfl⟩
  obtain ⟨d, hd⟩ : ∃ d, bare l = d := ⟨_, rfl⟩
  rw [hng, hd] at hcut HV
  rw [hd] at HBL
  clear hng hd
  obtain ⟨s, hsd⟩ : ∃ s : ByteArray, (⟨d.toArray⟩ : ByteArray) = s := ⟨_, rfl⟩
  have hds : d = s.data.toList := by rw [← hsd]
  rw [hsd] at hcut
  clear hsd
  subst hds
  have HSZ : Hid (s.size = s.data.toList.length) := Go.Lib.size_eq s
  have e1 : (ByteArray.mk l.toArray).size = l.length := bsize l
  have hdl : s.size ≤ l.length := by rw [HSZ.out]; exact HBL.out
  go_enter Try.func11, Try.ntmps11
  go_wp2_with fail
  refine ent1 w _ _ (Q := fun W => Calls Try.prog _ _ W _) ?_
  intro w0 B0 hs V0
  clear hs
  refine (hcut w0).mono ?_
  rintro e w' ⟨rfl, rfl⟩
  clear hcut
  have c0 := V0.c0
  have c1 := V0.c1
  have f0 := V0.frozen 0
  have f1 := V0.frozen 1
  have l0 := V0.lt
  have m0 := Nat.le_of_lt l0
  have HB0 : Hid (Below w.heap.size w w') := B0
  have HV0 : Hid (Va w' w.heap.size 27 #[.bool false, .slice none 0 0]) := V0
  by_cases hL : 262144 < s.size
  · have hLi : (262144 : Int) < s.size := by omega
    go_wp2_with fail
    refine bodyPost_ret (results_wtt rfl rfl (HV0.out.set2 _ _)) rfl ?_
    exact ⟨false, none, 0, 0, [], 0, 3, rfl, It.nil _, (HV.out _ _ _).2 (by rw [pRes_long (by have h2 := HSZ.out; omega), iv_nil]), below_2 HB0.out (Nat.le_refl _) _ _⟩
  have hLi : ¬ (262144 : Int) < s.size := by omega
  by_cases h0 : s.size = 0
  · have hemp : s.toList.isEmpty = true := by
      rw [Go.Lib.toList_data]
      cases h : s.data.toList with
      | nil => rfl
      | cons x r => have := Go.Lib.size_eq s; rw [h, List.length_cons] at this; omega
    go_wp2_with fail
    refine bodyPost_ret (results_wtt rfl rfl (HV0.out.set2 _ _)) rfl ?_
    exact ⟨false, none, 0, 0, [], (l.length : Int), 31, rfl, It.nil _, (HV.out _ _ _).2 (by rw [show s.data.toList = [] from List.eq_nil_of_length_eq_zero (by have h2 := HSZ.out; omega), pRes_nil, iv_nil]), below_2 HB0.out (Nat.le_refl _) _ _⟩
  have hemp : s.toList.isEmpty = false := by
    rw [Go.Lib.toList_data]
    cases h : s.data.toList with
    | nil => have := Go.Lib.size_eq s; rw [h, List.length_nil] at this; omega
    | cons x r => rfl
  clear V0 B0
  go_wp2_with fail
  go_loopw [8] (fun v wr => ∃ (pos : Nat) (nz : Bool), v = .bool nz ∧ pos ≤ s.size ∧ wr.heap[w'.heap.size]? = some (.stringIter s pos) ∧ Hid (Dig 10 (s.data.toList.take pos)) ∧ Hid (nz = decide (tv 10 (s.data.toList.take pos) = 0)) ∧ Hid (Below w.heap.size w wr) ∧ Hid (Va wr w.heap.size 27 #[.bool false, .slice none 0 0]) ∧ Hid (w'.heap.size < wr.heap.size)) (fun _ wr => s.size - wr.iterPos w'.heap.size)
  case atStart =>
    have hB1 : Below w'.heap.size w' (w'.iter s 0) := (Below.refl _ _).alloc (Nat.le_refl _) _
    refine ⟨0, true, rfl, Nat.zero_le _, World.iter_heap w' _ _, by show Dig 10 _; simpa using Dig.nil 10, by show true = decide _; simp [tv], step HB0.out hB1, Va.after hB1 HV0.out, ?_⟩
    show w'.heap.size < (w'.heap.push _).size; simp
  case round =>
    obtain ⟨pos, nz, rfl, hpos, hit, HD, HZ, HBw, HVw, HLw⟩ := hrel
    have hne : w.heap.size ≠ w'.heap.size := by omega
    clear c0 c1 f0 f1
    by_cases hlt : pos < s.size
    · have HB2 : ∀ p, Hid (Below w.heap.size w (wr.iterAt w'.heap.size s p)) := fun p => Go.Lib.below_iterAt HBw.out (Nat.le_of_lt l0) _ _
      have HV2 : ∀ p, Hid (Va (wr.iterAt w'.heap.size s p) w.heap.size 27 #[.bool false, .slice none 0 0]) := fun p => (Go.Lib.iterAt_other wr w'.heap.size w.heap.size s p hne).trans HVw.out
      by_cases hd : wv s[pos] < 10
      · have hd2 := (wv_dig _).1 hd
        have hnx := fun ty => Go.Lib.run_next_ascii_at (P := Try.prog) wr w'.heap.size s pos ty hit hlt (by omega)
        have hit2 := Go.Lib.iterAt_heap wr w'.heap.size s pos (pos + 1) hit
        have HN := nz_on hlt hd
        have HDn : Hid (Dig 10 (s.data.toList.take (pos + 1))) := dig_on hlt hd HD.out
        have HIP : Hid (wr.iterPos w'.heap.size = pos) := pos_of hit
        have HLt : Hid (w'.heap.size < (wr.iterAt w'.heap.size s (pos + 1)).heap.size) := (Array.getElem?_eq_some_iff.1 hit2).1
        have HB3 := HB2 (pos + 1)
        have HV3 := HV2 (pos + 1)
        generalize wr.iterAt w'.heap.size s (pos + 1) = W2 at hnx hit2 HB3 HV3 HLt
        obtain ⟨x, hx⟩ : ∃ x : Nat, s[pos].toNat = x := ⟨_, rfl⟩
        rw [hx] at hnx HN hd2
        rw [← HZ.out] at HN
        have HNN : Hid (decide (tv 10 (s.data.toList.take (pos + 1)) = 0) = (nz && decide ((x : Int) = 48))) := HN
        have hx1 : ¬ (x : Int) < 48 := by omega
        have hx2 : ¬ (57 : Int) < x := by omega
        clear hd hd2 hx HB2 HV2 HN HZ hit HD
        cases nz
        · go_wp2_with fail
          go_roundw
          case rel => exact ⟨pos + 1, false, rfl, by omega, hit2, HDn.out, HNN.out.symm, HB3.out, HV3.out, HLt.out⟩
          case measure => rw [HIP.out, pos_of hit2]; omega
        · go_wp2_with fail
          go_roundw
          case rel => exact ⟨pos + 1, decide ((x : Int) = 48), by first | rfl | simp, by omega, hit2, HDn.out, by show _ = _; rw [HNN.out]; rfl, HB3.out, HV3.out, HLt.out⟩
          case measure => rw [HIP.out, pos_of hit2]; omega
      · have HND : Hid (pRes ng s.data.toList l.length = (0, (l.length : Int) - s.size + pos, 31)) := by
          have h2 := HSZ.out
          have h3 := pRes_bad (ng := ng) (n := l.length) (d := s.data.toList) (k := pos) (by omega) (by omega) HD.out (by exact hd)
          show _ = _
          rw [h3, ← h2]
        have hfin : ∀ W2, Va W2 w.heap.size 27 #[.bool false, .slice none 0 0] → Below w.heap.size w W2 → WpP l w (.returned (.tuple #[.agg #[.bool false, .slice none 0 0], .int .i64 ((l.length : Int) - s.size + pos), .int .i64 31])) ((W2.setCell ⟨w.heap.size, 0, none⟩ (.bool false)).setCell ⟨w.heap.size, 1, none⟩ (.slice none 0 0)) := fun W2 v2 b2 =>
          ⟨false, none, 0, 0, [], _, 31, rfl, It.nil _, (HV.out _ _ _).2 (by rw [iv_nil]; exact HND.out), below_2 b2 (Nat.le_refl _) _ _⟩
        by_cases hc : s[pos].toNat < 128
        · have hnx := fun ty => Go.Lib.run_next_ascii_at (P := Try.prog) wr w'.heap.size s pos ty hit hlt hc
          have HB3 := HB2 (pos + 1)
          have HV3 := HV2 (pos + 1)
          generalize wr.iterAt w'.heap.size s (pos + 1) = W2 at hnx HB3 HV3
          have hd2 : (s[pos].toNat : Int) < 48 ∨ (57 : Int) < s[pos].toNat := by
            rcases Nat.lt_or_ge s[pos].toNat 48 with h | h
            · exact .inl (by omega)
            · exact .inr (by have := mt (wv_dig s[pos]).2 hd; omega)
          obtain ⟨x, hx⟩ : ∃ x : Nat, s[pos].toNat = x := ⟨_, rfl⟩
          rw [hx] at hnx hd2
          have q0 := HV3.out.c0
          have q1 := HV3.out.c1
          have p0 := HV3.out.frozen 0
          have p1 := HV3.out.frozen 1
          clear hd hx HB2 HV2 HZ hit HD hc
          rcases hd2 with hd2 | hd2
          · go_wp2_with fail
            refine bodyPost_ret (results_wtt rfl rfl (HV3.out.set2 _ _)) rfl ?_
            exact hfin W2 HV3.out HB3.out
          · have hd3 : ¬ (x : Int) < 48 := by omega
            go_wp2_with fail
            refine bodyPost_ret (results_wtt rfl rfl (HV3.out.set2 _ _)) rfl ?_
            exact hfin W2 HV3.out HB3.out
        · have hnx := fun ty => Go.Lib.run_next_any_at (P := Try.prog) wr w'.heap.size s pos ty hit hlt
          have hr := (Go.decode_high s pos hlt (by omega)).1
          have HB3 := HB2 (pos + (Utf8.decode s pos).2)
          have HV3 := HV2 (pos + (Utf8.decode s pos).2)
          generalize wr.iterAt w'.heap.size s (pos + (Utf8.decode s pos).2) = W2 at hnx HB3 HV3
          generalize (Utf8.decode s pos).1 = r at hnx hr
          have q0 := HV3.out.c0
          have q1 := HV3.out.c1
          have p0 := HV3.out.frozen 0
          have p1 := HV3.out.frozen 1
          have hd3 : ¬ r < 48 := by omega
          have hd4 : 57 < r := by omega
          clear hd HB2 HV2 HZ hit HD hc
          go_wp2_with fail
          refine bodyPost_ret (results_wtt rfl rfl (HV3.out.set2 _ _)) rfl ?_
          exact hfin W2 HV3.out HB3.out
    · have hnx := fun ty => Go.Lib.run_next_end_at (P := Try.prog) wr w'.heap.size s pos ty hit hlt
      obtain rfl : pos = s.size := by omega
      have ht : s.data.toList.take s.size = s.data.toList := List.take_of_length_le (by rw [← Go.Lib.size_eq s]; exact Nat.le_refl _)
      rw [ht] at HD HZ
      clear ht hit hpos
      have q0 := HVw.out.c0
      have q1 := HVw.out.c1
      have p0 := HVw.out.frozen 0
      have p1 := HVw.out.frozen 1
      have lw := HVw.out.lt
      have mw := Nat.le_of_lt lw
      by_cases hbz : (ng && nz) = true
      · obtain ⟨rfl, rfl⟩ : ng = true ∧ nz = true := by simpa using hbz
        clear hbz
        go_wp2_with fail
        refine bodyPost_ret (results_wtt rfl rfl (HVw.out.set2 _ _)) rfl ?_
        exact ⟨false, none, 0, 0, [], 0, 31, rfl, It.nil _, (HV.out _ _ _).2 (by rw [pRes_good (by have := HSZ.out; omega) (fun e => by have := HSZ.out; rw [e, List.length_nil] at this; omega) HD.out, if_pos ⟨rfl, of_decide_eq_true HZ.out.symm⟩, iv_nil]), below_2 HBw.out (Nat.le_refl _) _ _⟩
      · have HNZ : Hid (ng = true → tv 10 s.data.toList ≠ 0) := fun h h' => hbz (by rw [h, HZ.out, h']; rfl)
        have hgo : Calls Try.prog 29 #[.string s, .int .i64 10] wr fun e W' => ∃ er a ln c zs, e = .returned (.tuple #[.agg #[.slice a ln c], .int .i64 0, .int .i64 er]) ∧ Nt W' a ln c zs ∧ Hid (AdR (tv 10 s.data.toList) er a ln c zs) ∧ Below wr.heap.size wr W' := by
          refine (parse_ten s wr).mono ?_
          rintro e W' ⟨h, hb⟩
          rcases h with ⟨h, -⟩ | ⟨-, ⟨h, -⟩ | ⟨-, -, er, a, ln, c, zs, rfl, h1, h2⟩ | ⟨k, hk, -, -, hbad⟩⟩
          · omega
          · omega
          · exact ⟨er, a, ln, c, zs, rfl, h1, h2, hb⟩
          · exact absurd (HD.out s[k] (by show s.data[k] ∈ s.data.toList; simp)) (by omega)
        clear HZ
        have hgo2 : ∀ er a ln c zs (W2 W3 : World) s', AdR (tv 10 s.data.toList) er a ln c zs → iv s' zs = iv ng zs → WpX l (iv s' zs) 0 er := fun er a ln c zs W2 W3 s' hA hi => by
          refine (HV.out _ _ _).2 ?_
          rcases hA with ⟨h1, h2, h3⟩ | ⟨h1, -, -, -, h5, h6⟩
          · rw [pRes_good (by have := HSZ.out; omega) (fun e => by have := HSZ.out; rw [e, List.length_nil] at this; omega) HD.out, if_neg (fun h => HNZ.out h.1 h.2), if_pos h3, h1, hi]
            unfold iv; rw [h2]
          · rw [pRes_good (by have := HSZ.out; omega) (fun e => by have := HSZ.out; rw [e, List.length_nil] at this; omega) HD.out, if_neg (fun h => HNZ.out h.1 h.2), if_neg (Int.not_lt.2 h6), hi, h5, h1]
            cases ng <;> rfl
        have HG2 : Hid _ := hgo2
        clear hgo2
        cases ng <;> cases nz
        case true.true => exact absurd rfl hbz
        all_goals
          clear hbz
          go_wp2_with fail
          refine hgo.mono ?_
          rintro e W2 ⟨er, a, ln, c, zs, rfl, hN, hA, hb2⟩
          have V3 := Va.after hb2 HVw.out
          have B3 := step HBw.out hb2
          clear q0 q1 p0 p1 lw mw hgo
          have q0 := V3.c0
          have q1 := V3.c1
          have l3 := V3.lt
          have m3 := Nat.le_of_lt l3
          go_wp2_with fail
          refine ent1 W2 _ _ (Q := fun W => Calls Try.prog _ _ W _) ?_
          intro W3 hb3 hs3 V4
          refine (wnew_any _ a ln c zs W3 (Nt.after hb3 hN)).mono ?_
          rintro e W4 ⟨s', rfl, hI, hi, hb4⟩
          replace V3 := Va.after hb4 (Va.after hb3 V3)
          replace B3 := step (step B3 hb3) hb4
          clear q0 q1 l3 m3
          have q0 := V3.c0
          have q1 := V3.c1
          have p0 := V3.frozen 0
          have p1 := V3.frozen 1
          have l3 := V3.lt
          have m3 := Nat.le_of_lt l3
          go_wp2_with fail
          refine bodyPost_ret (results_wtt rfl rfl (V3.set2 _ _)) rfl ?_
          exact ⟨s', a, ln, c, zs, 0, er, rfl, hI.far V3 (noInt2 _ _ _ _) (far2 _ _ _ _), HG2.out er a ln c zs W2 W3 s' hA.out hi, below_2 B3 (Nat.le_refl _) _ _⟩
end Go.Proofs.Ytpfbcicjfnfpgaa
