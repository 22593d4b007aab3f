/-
  The document's Digits of whole numbers.
-/
import Derived.Test.YtpfbcicjfnfpgaaPxP
import Derived.Test.YtpfbcicjfnfpgaaOnP
import Derived.Test.YtpfbcicjfnfpgaaWh5
import Derived.Test.YtpfbcicjfnfpgaaStrP
namespace Go.Proofs.Ytpfbcicjfnfpgaa
open Go.RowKit Go.Shelf
set_option linter.unusedVariables false
def Wr4 (w : World) (g m : Nat) (ds : List Int) : Prop := ds.length = m ∧ ∃ cur : Array Value, w.heap[g]? = some (.cells cur 23 (0, 0)) ∧ ∀ i, i < m → cur[i]? = some (.int .u64 (ds.getD i 0))
theorem Wr4.cell {w : World} {g m : Nat} {ds : List Int} (h : Wr4 w g m ds) (i : Nat) (hi : i < m) : w.cell? ⟨g, i, none⟩ = some (.int .u64 (ds.getD i 0)) := by
  obtain ⟨-, cur, h1, h2⟩ := h
  simp only [World.cell?, h1]
  simpa using h2 i hi
theorem Wr4.frozen {w : World} {g m : Nat} {ds : List Int} (h : Wr4 w g m ds) (i : Nat) : w.frozen? ⟨g, i, none⟩ = false := by
  obtain ⟨-, cur, h1, h2⟩ := h
  simp [World.frozen?, h1]
theorem Wr4.lt {w : World} {g m : Nat} {ds : List Int} (h : Wr4 w g m ds) : g < w.heap.size := by
  obtain ⟨-, cur, h1, h2⟩ := h
  rcases Nat.lt_or_ge g w.heap.size with h' | h'
  · exact h'
  · rw [Array.getElem?_eq_none h'] at h1; cases h1
theorem Wr4.set {w : World} {g m : Nat} {ds : List Int} (h : Wr4 w g m ds) (i : Nat) (hi : i < m) (v : Int) : Wr4 (w.setCell ⟨g, i, none⟩ (.int .u64 v)) g m (ds.set i v) := by
  obtain ⟨h0, cur, h1, h2⟩ := h
  have hc : i < cur.size := by
    rcases Nat.lt_or_ge i cur.size with h' | h'
    · exact h'
    · have := h2 i hi; rw [Array.getElem?_eq_none h'] at this; cases this
  refine ⟨by rw [List.length_set]; exact h0, cur.setIfInBounds i (.int .u64 v), ?_, fun j hj => ?_⟩
  · simp only [World.setCell]
    rw [Array.getElem?_modify, if_pos rfl, h1]
    simp
  · rw [List.getD_eq_getElem?_getD]
    by_cases e : i = j
    · subst e
      rw [Array.getElem?_setIfInBounds_self_of_lt hc, List.getElem?_set_self (by omega)]; rfl
    · rw [Array.getElem?_setIfInBounds_ne e, List.getElem?_set_ne e, ← List.getD_eq_getElem?_getD]; exact h2 j hj
theorem Wr4.sl {w : World} {g m : Nat} {ds : List Int} (h : Wr4 w g m ds) (hL : Limbs ds) : Sl w (some ⟨g, 0, none⟩) m ds :=
  ⟨h.1, hL, fun _ => ⟨g, 0, rfl, fun i hi => by rw [Nat.zero_add]; exact h.cell i hi⟩⟩
theorem Wr4.take {w : World} {g m : Nat} {ds : List Int} (h : Wr4 w g m ds) {n : Nat} (hn : n ≤ m) : Wr4 w g n (ds.take n) := by
  obtain ⟨h0, cur, h1, h2⟩ := h
  refine ⟨by rw [List.length_take]; omega, cur, h1, fun i hi => ?_⟩
  rw [h2 i (by omega), List.getD_eq_getElem?_getD, List.getD_eq_getElem?_getD, List.getElem?_take_of_lt hi]
theorem Wr4.below {B : Nat} {w w' : World} {g m : Nat} {ds : List Int} (h : Wr4 w g m ds) (b : Below B w w') (hg : g < B) : Wr4 w' g m ds := by
  obtain ⟨h0, cur, h1, h2⟩ := h
  exact ⟨h0, cur, by rw [b.block g hg]; exact h1, h2⟩
theorem Gr.shape4 {w : World} {B : Nat} {v : Value} {cs : List Int} (h : Gr w B v cs) : (v = .slice none 0 0 ∧ cs = []) ∨ ∃ g cap, v = .slice (some ⟨g, 0, none⟩) cs.length cap ∧ B ≤ g ∧ g < w.heap.size ∧ cs.length ≤ cap ∧ Wr4 w g cs.length cs := by
  obtain ⟨h1, h2 | ⟨g, cap, cur, rfl, hB, hh, hc, hm, hs, ht⟩⟩ := h
  · obtain ⟨rfl, h0⟩ := h2
    exact .inl ⟨rfl, List.length_eq_zero_iff.1 h0⟩
  · refine .inr ⟨g, cap, rfl, hB, ?_, hc, rfl, cur, hh, fun i hi => ?_⟩
    · rcases Nat.lt_or_ge g w.heap.size with h' | h'
      · exact h'
      · rw [Array.getElem?_eq_none h'] at hh; cases hh
    · have hr := row_getElem? cs i hi
      rw [← ht, Nat.mul_one, List.getElem?_take_of_lt hi] at hr
      simpa using hr
theorem row_set4 (cs : List Int) (i : Nat) (x : Int) : row (cs.set i x) = (row cs).set i (.int .u64 x) := by simp [row, List.map_set]
theorem Gr.seti4 {w : World} {B g cap : Nat} {cs : List Int} (h : Gr w B (.slice (some ⟨g, 0, none⟩) cs.length cap) cs) (i : Nat) (hi : i < cs.length) (x : Int) : Gr (w.setCell ⟨g, i, none⟩ (.int .u64 x)) B (.slice (some ⟨g, 0, none⟩) cs.length cap) (cs.set i x) := by
  obtain ⟨h1, h2 | ⟨g', cap', cur, e, hB, hh, hc, hm, hs, ht⟩⟩ := h
  · obtain ⟨e, h0⟩ := h2; cases e
  · cases e
    refine ⟨by rw [row_length, List.length_set, Nat.mul_one], .inr ⟨g, cap, cur.setIfInBounds i (.int .u64 x), by rw [List.length_set], hB, ?_, by rw [List.length_set]; exact hc, hm, by rw [Array.size_setIfInBounds]; exact hs, ?_⟩⟩
    · simp only [World.setCell]
      rw [Array.getElem?_modify, if_pos rfl, hh]
      simp
    · rw [List.length_set, Array.toList_setIfInBounds, List.take_set, ht, row_set4]
def LmJ (ds cs : List Int) (k : Nat) : Prop := cs.length = k ∧ Limbs cs ∧ num cs = H.num (ds.take (2 * k))
theorem lmj_step {ds cs : List Int} {k : Nat} (h : H.Limbs ds) (I : LmJ ds cs k) : LmJ ds (cs ++ [ds.getD (2 * k) 0 + 4294967296 * ds.getD (2 * k + 1) 0]) (k + 1) := by
  obtain ⟨i1, i2, i3⟩ := I
  have b1 := h.getD (2 * k); have b2 := h.getD (2 * k + 1)
  refine ⟨by simp; omega, i2.append (fun z hz => by rw [List.mem_singleton.1 hz]; exact ⟨by omega, by omega⟩), ?_⟩
  rw [num_snoc, i1, i3, show 2 * (k + 1) = 2 * k + 1 + 1 by omega, H.num_take_succ, H.num_take_succ, H.pw, H.pw_two, Int.add_mul, Int.add_assoc, Int.mul_assoc, Int.mul_left_comm]
theorem tv_more {d : List UInt8} {p i : Nat} (h : p + i < d.length) : tv 10 ((d.drop p).take (i + 1)) = tv 10 ((d.drop p).take i) * 10 + wv (d[p + i]) := by
  rw [List.take_succ_eq_append_getElem (by rw [List.length_drop]; omega), tv_snoc, List.getElem_drop]
theorem tv_both {d : List UInt8} {p i : Nat} (h : p + i ≤ d.length) : tv 10 (d.take (p + i)) = tv 10 (d.take p) * 10 ^ i + tv 10 ((d.drop p).take i) := by
  have e : d.take (p + i) = d.take p ++ (d.drop p).take i := by rw [List.take_add]
  rw [e, tv_append, List.length_take, List.length_drop, show min i (d.length - p) = i by omega]
theorem wv_small {c : UInt8} (h : wv c < 10) : 48 ≤ c.toNat ∧ c.toNat ≤ 57 ∧ (wv c : Int) = c.toNat - 48 := by
  unfold wv at h ⊢
  split at h
  · rename_i h1
    rw [if_pos h1]
    omega
  · repeat' split at h
    all_goals omega
theorem str_index4 (l : List UInt8) (k : Nat) (i : Int) (hi : i = k) (c : UInt8) (hk : k < l.length) (h : l[k] = c) (W : World) : (Instr.index 9 (.string ⟨l.toArray⟩) (.int .i64 i)).run Try.prog W = .ok (.int .u8 (c.toNat : Int)) W := by
  subst hi
  have hb2 : k < (ByteArray.mk l.toArray).size := by rw [bsize]; exact hk
  have hc : (ByteArray.mk l.toArray)[k]? = some c := by rw [getElem?_pos _ k hb2, ← h]; rfl
  simp [Instr.index, go_sem]
  rw [hc]
  rfl
set_option maxHeartbeats 4000000 in
set_option maxRecDepth 8000 in
theorem rdigits4 (d : List UInt8) (hd : Dig 10 d) (hl : d.length ≤ 80000) (w : World) :
    Calls Try.prog 36 #[.string ⟨d.toArray⟩] w fun e W' => ∃ a m c zs, e = .returned (.slice a m c) ∧ Sl W' a m zs ∧ usedN zs = m ∧ m ≤ c ∧ m ≤ 90000 ∧ num zs = tv 10 d ∧ Below w.heap.size w W' := by
  have hbz : (ByteArray.mk d.toArray).size = d.length := bsize d
  obtain ⟨n, hn⟩ : ∃ n, d.length = n := ⟨_, rfl⟩
  have HD : Hid (Dig 10 d ∧ d.length = n) := ⟨hd, hn⟩
  rw [hn] at hl
  have B0 : Below w.heap.size w w := Below.refl _ _
  go_enter Try.func36, Try.ntmps36
  go_wp2_with fail
  have G0 : Hid (Gr w w.heap.size (.slice none 0 0) []) := Gr.nil _ _
  have S0 : Hid (H.Limbs [] ∧ Tzr [] ∧ H.num [] = (tv 10 (d.take 0) : Int)) := ⟨H.Limbs.nil, Tzr.nil, by simp [H.num, tv]⟩
  have HB0 : Hid (Below w.heap.size w w) := B0
  clear B0 hn hd
  go_loopw [3, 4] (fun v at4 W => ∃ (cs : List Int) (p : Nat), at4 = .int .i64 p ∧ p ≤ n ∧ Hid (Gr W w.heap.size v cs) ∧ Hid (H.Limbs cs ∧ Tzr cs ∧ H.num cs = (tv 10 (d.take p) : Int)) ∧ cs.length ≤ p ∧ Hid (Below w.heap.size w W)) (fun _ at4 _ => n - (intOf at4).toNat)
  case atStart => exact ⟨[], 0, rfl, by omega, G0, S0, by simp, HB0⟩
  case round =>
    clear G0 S0 HB0
    obtain ⟨cs, p, rfl, hp, HG, HS, hcl, HB0⟩ := hrel
    obtain ⟨m, hm⟩ : ∃ m, cs.length = m := ⟨_, rfl⟩
    obtain ⟨a, cap, hv⟩ : ∃ a cap, u3 = .slice a m cap := by
      rw [← hm]
      obtain ⟨a, cap, e, -⟩ := HG.out.sl HS.out.1.up
      exact ⟨a, cap, e⟩
    subst hv
    rw [hm] at hcl
    have HM : Hid (cs.length = m) := hm
    clear hm
    by_cases hpn : p < n
    · have hpi : (p : Int) < n := by omega
      have A0 : Hid ((0 : Int) = (tv 10 ((d.drop p).take 0) : Int) ∧ (1 : Int) = 10 ^ 0) := ⟨by simp [tv], by simp⟩
      have hdz := hbz
      rw [HD.out.2] at hdz
      clear hbz
      have hbz := hdz
      clear hdz
      go_wp2_with fail
      obtain ⟨wv, hwv⟩ : ∃ wv, wv = wr := ⟨_, rfl⟩
      rw [← hwv] at HG HB0 ⊢
      clear hwv
      go_loopw [4, 5, 6, 7] (fun at4 ad by6 nn W => ∃ (i P : Nat) (A Bq : Int), nn = .int .i64 i ∧ at4 = .int .i64 P ∧ ad = .int .u64 A ∧ by6 = .int .u64 Bq ∧ Hid (P = p + i) ∧ i ≤ 9 ∧ P ≤ n ∧ Hid (A = (tv 10 ((d.drop p).take i) : Int) ∧ Bq = 10 ^ i) ∧ 0 ≤ A ∧ A < Bq ∧ Bq ≤ 1000000000 ∧ W = wv) (fun _ _ _ nn _ => (9 - intOf nn).toNat)
      case atStart => exact ⟨0, p, 0, 1, rfl, rfl, rfl, rfl, rfl, by omega, hp, A0, by omega, by omega, by omega, rfl⟩
      case round =>
        clear A0
        obtain ⟨i, P, A, Bq, rfl, rfl, rfl, rfl, HP, hi9, hPn, HA, a0, a1, b9, hwr⟩ := hrel
        rw [hwr]
        clear hwr
        by_cases hgo : i < 9 ∧ P < n
        · obtain ⟨hi, hP⟩ := hgo
          have hii : (i : Int) < 9 := by omega
          have hin : decide (i < 9) = true := decide_eq_true hi
          have hPi : (P : Int) < n := by omega
          have hpl : P < d.length := by rw [HD.out.2]; exact hP
          have hdg := HD.out.1 (d[P]) (List.getElem_mem hpl)
          obtain ⟨w1, w2, w3⟩ := wv_small hdg
          have hix := str_index4 d P P rfl (d[P]) hpl rfl
          have hmore := tv_more (d := d) (p := p) (i := i) (by rw [← HP.out]; exact hpl)
          have HNX : Hid (10 * A + ((d[P].toNat : Int)) - 48 = (tv 10 ((d.drop p).take (i + 1)) : Int) ∧ 10 * Bq = 10 ^ (i + 1)) := by
            refine ⟨?_, by rw [HA.out.2, Int.pow_succ]; omega⟩
            rw [hmore, HA.out.1]
            have e : d[p + i]'(by rw [← HP.out]; exact hpl) = d[P] := by congr 1; exact HP.out.symm
            rw [e]
            push_cast
            omega
          have hb9 : 10 * Bq ≤ 1000000000 := by
            have h1 : (10 : Int) ^ (i + 1) ≤ 10 ^ 9 := by
              have : 10 ^ (i + 1) ≤ 10 ^ 9 := Nat.pow_le_pow_right (by omega) (by omega)
              exact_mod_cast this
            have h2 : (10 : Int) ^ 9 = 1000000000 := by decide
            rw [HNX.out.2]; omega
          obtain ⟨x, hx⟩ : ∃ x : Nat, d[P].toNat = x := ⟨_, rfl⟩
          rw [hx] at hix HNX w1 w2
          have wa : IntKind.u64.wrap (10 * A) = 10 * A := by rw [IntKind.wrap_u64]; omega
          have wx : IntKind.u64.wrap (x : Int) = x := by rw [IntKind.wrap_u64]; omega
          have wb : IntKind.u64.wrap (10 * A + x) = 10 * A + x := by rw [IntKind.wrap_u64]; omega
          have wc : IntKind.u64.wrap (10 * A + x - 48) = 10 * A + x - 48 := by rw [IntKind.wrap_u64]; omega
          have wd : IntKind.u64.wrap (10 * Bq) = 10 * Bq := by rw [IntKind.wrap_u64]; omega
          have HP2 : Hid (P + 1 = p + (i + 1)) := by show _ = _; have := HP.out; omega
          have HAB : Hid (0 ≤ 10 * A + (x : Int) - 48 ∧ 10 * A + (x : Int) - 48 < 10 * Bq ∧ 10 * Bq ≤ 1000000000) := ⟨by omega, by omega, hb9⟩
          clear hmore hx w3 hdg hb9 HA HP
          go_wp2_with fail
          go_roundw
          case rel => exact ⟨i + 1, P + 1, _, _, by go_num, by go_num, rfl, rfl, HP2, by omega, by omega, HNX, HAB.out.1, HAB.out.2.1, HAB.out.2.2, trivial⟩
          case measure => simp [intOf]; omega
        have HGO : Hid (¬ (i < 9 ∧ P < n)) := hgo
        clear hgo
        go_upto_region 6 with fail
        go_cut [24] (fun s24 wx => s24 = .bool false ∧ wx = wv)
        case first =>
          by_cases hi : i < 9
          · have hii : (i : Int) < 9 := by omega
            have hin : decide (i < 9) = true := decide_eq_true hi
            have hPi : ¬ (P : Int) < n := by have := HGO.out; omega
            go_wp2_with fail
            go_meet
            exact ⟨rfl, rfl⟩
          · have hii : ¬ (i : Int) < 9 := by omega
            have hin : decide (i < 9) = false := decide_eq_false hi
            go_wp2_with fail
            go_meet
            exact ⟨rfl, rfl⟩
        case rest =>
          obtain ⟨rfl, hwx⟩ := hcut
          rw [hwx]
          clear hwx
          have hi1 : 1 ≤ i := by have := HGO.out; have := HP.out; omega
          have hb1 : 1 ≤ Bq := by omega
          have I0 : Hid (OnI cs cs Bq A 0 A) := OnI.start HS.out.1 a0 (by omega)
          clear HGO
          go_wp2_with fail
          go_loopw [5, 8] (fun cc kk W => ∃ (k : Nat) (c : Int) (c2 : List Int), kk = .int .i64 k ∧ cc = .int .u64 c ∧ k ≤ m ∧ Hid (OnI cs c2 Bq A k c) ∧ Hid (Gr W w.heap.size (.slice a m cap) c2) ∧ Hid (Below w.heap.size w W)) (fun _ kk _ => ((m : Int) - intOf kk).toNat)
          case atStart => exact ⟨0, A, cs, rfl, rfl, by omega, I0, HG, HB0⟩
          case round =>
            clear I0 HG HB0
            obtain ⟨k, c, c2, rfl, rfl, hk, HI, HG, HB⟩ := hrel
            have hcl2 : c2.length = m := by rw [HI.out.len]; exact HM.out
            have c0 := HI.out.c0
            have c1 := HI.out.c1
            by_cases hlt : k < m
            · have hki : (k : Int) < m := by omega
              obtain ⟨g, cap2, e, hBg, hgl, hcc, hWb⟩ : ∃ g cap2, Value.slice a m cap = .slice (some ⟨g, 0, none⟩) c2.length cap2 ∧ w.heap.size ≤ g ∧ g < wr.heap.size ∧ c2.length ≤ cap2 ∧ Wr4 wr g c2.length c2 := by
                rcases HG.out.shape4 with ⟨e, e2⟩ | h
                · rw [e2] at hcl2; simp at hcl2; omega
                · exact h
              rw [hcl2] at e
              cases e
              have hstep := HI.out.step (by rw [HM.out]; exact hlt) (by omega) (by omega)
              have hd0 := HI.out.lim.getD k
              have hcell := hWb.cell k (by omega)
              have hfz := hWb.frozen k
              rw [HI.out.rst k (Nat.le_refl _)] at hcell hd0
              have hG2 := HG.out
              rw [← hcl2] at hG2
              have hset := fun x => hG2.seti4 k (by omega) x
              rw [hcl2] at hset
              obtain ⟨x, hx⟩ : ∃ x, cs.getD k 0 = x := ⟨_, rfl⟩
              rw [hx] at hstep hcell hd0
              have hmb := mul32_bd hd0.1 hd0.2 (show 0 ≤ Bq by omega) (show Bq < 4294967296 by omega)
              obtain ⟨y, hy⟩ : ∃ y, x * Bq = y := ⟨_, rfl⟩
              rw [hy] at hstep hmb
              obtain ⟨sm, hs⟩ : ∃ s, y + c = s := ⟨_, rfl⟩
              rw [hs] at hstep
              have s0 : 0 ≤ sm := by omega
              have s1 : sm < 18446744073709551616 := by omega
              have y1 : y < 18446744073709551616 := by omega
              have y0 : 0 ≤ y := hmb.1
              have wy : IntKind.u64.wrap y = y := by rw [IntKind.wrap_u64]; omega
              have ws : IntKind.u64.wrap sm = sm := by rw [IntKind.wrap_u64]; omega
              obtain ⟨lo, hlo⟩ : ∃ lo, sm % 4294967296 = lo := ⟨_, rfl⟩
              obtain ⟨hi4, hhi⟩ : ∃ hi4, sm / 4294967296 = hi4 := ⟨_, rfl⟩
              rw [hlo, hhi] at hstep
              have e1 : sm.tmod 4294967296 = lo := by rw [Int.tmod_eq_emod_of_nonneg s0, hlo]
              have HST : Hid (OnI cs (c2.set k lo) Bq A (k + 1) hi4) := hstep
              have HSET : Hid (∀ x : Int, Gr (wr.setCell ⟨g, k, none⟩ (.int .u64 x)) w.heap.size (.slice (some ⟨g, 0, none⟩) m cap) (c2.set k x)) := hset
              clear hstep hset hG2 hWb hx hmb HI HG
              go_wp2_with fail
              go_roundw
              case rel => exact ⟨k + 1, _, _, by go_num, rfl, by omega, HST, HSET.out _, HB.out.setCell (p := ⟨g, k, none⟩) hBg _⟩
              case measure => simp [intOf]; omega
            have hki : ¬ (k : Int) < m := by omega
            obtain rfl : k = m := by omega
            have hI := HI.out
            rw [← HM.out] at hI
            have hend := hI.end_ HS.out.2.1 HS.out.1 hb1 a0
            have HTV : Hid (H.num cs * Bq + A = (tv 10 (d.take P) : Int)) := by
              show _ = _
              rw [HS.out.2.2, HA.out.1, HA.out.2, HP.out, tv_both (by rw [← HP.out, HD.out.2]; exact hPn)]
              push_cast
              rfl
            have hPp : p < P := by have := HP.out; omega
            by_cases hc : 0 < c
            · rw [if_pos hc] at hend
              have HE : Hid (H.Limbs (c2 ++ [c]) ∧ Tzr (c2 ++ [c]) ∧ H.num (c2 ++ [c]) = (tv 10 (d.take P) : Int)) := ⟨hend.2.1, hend.2.2, by rw [hend.1]; exact HTV.out⟩
              have hci : ¬ c = 0 := by omega
              have hBw : w.heap.size ≤ wr.heap.size := HB.out.size
              clear hI hend HI HTV HA
              have hal : w.heap.size ≤ (wr.alloc (.cells #[.int .u64 c] 23)).heap.size := by simp; omega
              have HAL : Hid (Below w.heap.size w (wr.alloc (.cells #[.int .u64 c] 23))) := HB.out.alloc hBw _
              go_wp2_with (at_builtin; refine wpList_app rfl (.tmp 62) (.tmp 64) rfl w.heap.size (.slice a k cap) c2 rfl (HG.out.alloc _) wr.heap.size 1 1 [c] rfl rfl (heap_alloc_new _ _) (by omega) hal ?_; intro v1 w1 hG1 hb1b)
              have HB1 : Hid (Below w.heap.size w w1) := HAL.out.trans hb1b
              clear HAL hb1b HB HG
              go_wp2_with fail
              go_roundw
              case rel => exact ⟨c2 ++ [c], P, rfl, hPn, hG1, HE, by rw [List.length_append, List.length_singleton]; omega, HB1⟩
              case measure => simp [intOf]; omega
            · rw [if_neg hc] at hend
              have HE : Hid (H.Limbs c2 ∧ Tzr c2 ∧ H.num c2 = (tv 10 (d.take P) : Int)) := ⟨hend.2.1, hend.2.2, by rw [hend.1]; exact HTV.out⟩
              clear hI hend HI HTV HA
              go_wp2_with fail
              go_roundw
              case rel => exact ⟨c2, P, rfl, hPn, HG, HE, by omega, HB⟩
              case measure => simp [intOf]; omega
    · obtain rfl : p = n := by omega
      have hpi : ¬ (p : Int) < p := by omega
      have htk : d.take p = d := List.take_of_length_le (by rw [HD.out.2]; exact Nat.le_refl _)
      have hsz := hbz
      rw [HD.out.2] at hsz
      clear hbz
      have hS := HS.out
      rw [htk] at hS
      have HN : Hid (H.num cs = (tv 10 d : Int) ∧ H.Limbs cs) := ⟨hS.2.2, hS.1⟩
      clear hS htk HS
      have L0 : Hid (LmJ cs [] 0) := ⟨rfl, Limbs.nil, by simp [H.num, num]⟩
      obtain ⟨wv, hwv⟩ : ∃ wv, wv = wr := ⟨_, rfl⟩
      rw [← hwv] at HG HB0 ⊢
      clear hwv
      have GL : Hid (Gr wv wv.heap.size (.slice none 0 0) []) := Gr.nil _ _
      have HRD : Hid (∀ W, Below wv.heap.size wv W → 0 < m → ∃ g, a = some ⟨g, 0, none⟩ ∧ ∀ j, j < m → W.cell? ⟨g, j, none⟩ = some (.int .u64 (cs.getD j 0))) := fun W hW h0 => by
        rcases HG.out.shape4 with ⟨-, e2⟩ | ⟨g, cap2, e, hBg, hgl, hcc, hWb⟩
        · have := HM.out; rw [e2] at this; simp at this; omega
        · cases e
          refine ⟨g, rfl, fun j hj => (hWb.below hW hgl).cell j (by rw [HM.out]; exact hj)⟩
      clear HG
      go_wp2_with fail
      go_loopw [10, 11] (fun v kk W => ∃ (k : Nat) (zs : List Int), kk = .int .i64 (2 * (k : Int)) ∧ 2 * k ≤ m + 1 ∧ Hid (LmJ cs zs k) ∧ Hid (Gr W wv.heap.size v zs) ∧ Hid (Below wv.heap.size wv W)) (fun _ kk _ => m + 1 - (intOf kk).toNat)
      case atStart => exact ⟨0, [], rfl, by omega, L0, GL, Below.refl _ _⟩
      case round =>
        clear L0 GL
        obtain ⟨k, zs, rfl, hk, hI, hG, hb⟩ := hrel
        by_cases hlt : 2 * k < m
        · obtain ⟨g, rfl, hcell⟩ := HRD.out wr hb.out (by omega)
          have hcx := hcell (2 * k) hlt
          have hstep := lmj_step HN.out.2 hI.out
          have b1 := HN.out.2.getD (2 * k); have b2 := HN.out.2.getD (2 * k + 1)
          have hcl3 : zs.length ≤ k := by have := hI.out.1; omega
          have hbs := hb.out.size
          have ek : (2 * (k : Int)).toNat = 2 * k := by omega
          have ek1 : (2 * (k : Int) + 1).toNat = 2 * k + 1 := by omega
          obtain ⟨x, hx⟩ : ∃ x, cs.getD (2 * k) 0 = x := ⟨_, rfl⟩
          obtain ⟨y, hy⟩ : ∃ y, cs.getD (2 * k + 1) 0 = y := ⟨_, rfl⟩
          rw [hx] at hcx hstep b1
          rw [hy] at hstep b2
          obtain ⟨x1, x2⟩ := b1; obtain ⟨y1, y2⟩ := b2
          have q1 : (2 * (k : Int)) < m := by omega
          have wsh : IntKind.u64.wrap (y * 4294967296) = y * 4294967296 := by rw [IntKind.wrap_u64]; omega
          have wsm : IntKind.u64.wrap (x + y * 4294967296) = x + 4294967296 * y := by rw [IntKind.wrap_u64]; omega
          by_cases hlt2 : 2 * k + 1 < m
          · have hcy := hcell (2 * k + 1) hlt2
            rw [hy] at hcy
            have HST : Hid (LmJ cs (zs ++ [x + 4294967296 * y]) (k + 1)) := hstep
            have q2 : (2 * (k : Int)) + 1 < m := by omega
            have HSZ : Hid (wv.heap.size ≤ (wr.alloc (.cells (row [x + 4294967296 * y]).toArray 23)).heap.size) := by show _ ≤ _; simp; omega
            clear hcell hx hy hstep
            go_wp2_with (at_builtin; refine wpList_app rfl (.tmp 89) (.tmp 91) rfl wv.heap.size u10 zs rfl (hG.out.alloc _) wr.heap.size 1 1 [x + 4294967296 * y] rfl rfl (heap_alloc_new _ _) (by omega) HSZ.out ?_; intro v1 w1 hG1 hb1)
            have hb2 : Hid (Below wv.heap.size wv w1) := (hb.out.alloc hbs _).trans hb1
            clear hb1
            go_wp2_with fail
            go_roundw
            case rel => exact ⟨k + 1, _, by rw [show 2 * ((k + 1 : Nat) : Int) = 2 * (k : Int) + 2 by omega], by omega, HST, hG1, hb2⟩
            case measure => simp [intOf]; omega
          · have hy0 : y = 0 := by rw [← hy, List.getD_eq_getElem?_getD, List.getElem?_eq_none (by rw [HM.out]; omega)]; rfl
            rw [hy0, Int.mul_zero, Int.add_zero] at hstep
            have HST : Hid (LmJ cs (zs ++ [x]) (k + 1)) := hstep
            have q2 : ¬ (2 * (k : Int)) + 1 < m := by omega
            clear hy0 wsh wsm
            have HSZ : Hid (wv.heap.size ≤ (wr.alloc (.cells (row [x]).toArray 23)).heap.size) := by show _ ≤ _; simp; omega
            clear hcell hx hy hstep
            go_wp2_with (at_builtin; refine wpList_app rfl (.tmp 89) (.tmp 91) rfl wv.heap.size u10 zs rfl (hG.out.alloc _) wr.heap.size 1 1 [x] rfl rfl (heap_alloc_new _ _) (by omega) HSZ.out ?_; intro v1 w1 hG1 hb1)
            have hb2 : Hid (Below wv.heap.size wv w1) := (hb.out.alloc hbs _).trans hb1
            clear hb1
            go_wp2_with fail
            go_roundw
            case rel => exact ⟨k + 1, _, by rw [show 2 * ((k + 1 : Nat) : Int) = 2 * (k : Int) + 2 by omega], by omega, HST, hG1, hb2⟩
            case measure => simp [intOf]; omega
        have q1 : ¬ (2 * (k : Int)) < m := by omega
        have ek : (2 * (k : Int)).toNat = 2 * k := by omega
        obtain ⟨i1, i2, i3⟩ := hI.out
        rw [List.take_of_length_le (by rw [HM.out]; omega)] at i3
        obtain ⟨a5, c5, hv5, hc5, hs5⟩ := hG.out.sl i2
        have HB9 : Hid (Below w.heap.size w wr) := HB0.out.trans (hb.out.mono HB0.out.size)
        have HNZ : Hid (num zs = (tv 10 d : Int)) := by show _ = _; rw [i3]; exact HN.out.1
        have hzl : zs.length ≤ 80001 := by omega
        rw [hv5]
        clear hG hI i1 i3 hv5 HRD
        go_wp2_with fail
        refine (rtrim_n a5 zs.length c5 zs _ hs5 (by omega) hc5).mono ?_
        rintro e w2 ⟨a6, c6, rfl, hs6, hc6, -, hb6⟩
        have hu := usedN_le zs
        have hut := usedN_take zs (Nat.le_refl _)
        have hnt := num_take_used zs (Nat.le_refl _)
        go_wp2_with fail
        go_ret
        exact ⟨_, _, _, _, rfl, hs6, hut, hc6, by omega, by rw [hnt]; exact HNZ.out, step HB9.out hb6⟩
end Go.Proofs.Ytpfbcicjfnfpgaa
