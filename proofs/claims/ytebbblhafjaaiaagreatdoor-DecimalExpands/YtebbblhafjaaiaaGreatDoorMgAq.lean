/-
  The document's halves as a row that may grow, its Scale, Ten and Cut.
-/
import Derived.Test.YtebbblhafjaaiaaGreatDoorMgAn
import Derived.Test.YtebbblhafjaaiaaGreatDoorMgAl
import Derived.Test.YtebbblhafjaaiaaGreatDoorMgAb
import Derived.Test.YtebbblhafjaaiaaGreatDoorMgAa
import Derived.Test.YtebbblhafjaaiaaGreatDoorMgAk
import Derived.Test.YtebbblhafjaaiaaGreatDoorMgAh
import Derived.Test.YtebbblhafjaaiaaGreatDoorMgAj
namespace Go.Proofs.YtebbblhafjaaiaaGreatDoor
open Go.RowKit Go.Shelf
set_option linter.unusedVariables false

theorem Gr.take3 {w : World} {B cap m : Nat} {a : Option Addr} {cs : List Int} (h : Gr w B (.slice a cs.length cap) cs) (hm : m ≤ cs.length) : Gr w B (.slice a m cap) (cs.take m) := by
  have hl : (cs.take m).length = m := by rw [List.length_take]; omega
  obtain ⟨h1, h2 | ⟨g, cap', cur, e, hB, hh, hc, hmx, hs, ht⟩⟩ := h
  · obtain ⟨e, h0⟩ := h2
    have m0 : m = 0 := by omega
    subst m0
    rw [h0] at e
    exact ⟨by rw [row_length, Nat.mul_one], .inl ⟨e, by rw [hl]⟩⟩
  · cases e
    refine ⟨by rw [row_length, Nat.mul_one], .inr ⟨g, cap, cur, by rw [hl], hB, hh, by omega, hmx, hs, ?_⟩⟩
    have e2 : row (cs.take m) = (row cs).take m := by simp [row, List.map_take]
    rw [hl, e2, ← ht, Nat.mul_one, Nat.mul_one, List.take_take, Nat.min_eq_left hm]
theorem tzr_take (cs : List Int) : Tzr (cs.take (usedN cs)) := by
  intro hne
  have hu := usedN_le cs
  have hl : (cs.take (usedN cs)).length = usedN cs := by rw [List.length_take]; omega
  have hp : 0 < usedN cs := by rw [← hl]; exact List.length_pos_iff.2 hne
  rw [hl, List.getD_eq_getElem?_getD, List.getElem?_take_of_lt (by omega), ← List.getD_eq_getElem?_getD]
  exact usedN_top cs hp
def HvR (w w' : World) (e : Ending) (N : Int) (bound : Nat) : Prop :=
  ∃ a m c ds, e = .returned (.slice a m c) ∧ ds.length = m ∧ m ≤ bound ∧ Gr w' w.heap.size (.slice a m c) ds ∧ H.Limbs ds ∧ Tzr ds ∧ H.num ds = N ∧ Below w.heap.size w w'
set_option maxHeartbeats 1000000 in
theorem halvesG (a : Option Addr) (la ca : Nat) (zs : List Int) (w : World) (h : Sl w a la zs) (hl : la ≤ 8000000000000) :
    Calls Tryz.prog 147 #[.slice a la ca] w fun e w' => HvR w w' e (num zs) (2 * la) := by
  have hz := h.1
  have hL := h.2.1
  go_enter Tryz.func147, Tryz.ntmps147
  go_wp2_with fail
  go_loopw [3, 4] (fun v i wr => ∃ (k : Nat) (cs : List Int), k ≤ la ∧ i = .int .i64 k ∧ Hid (GInv zs cs k) ∧ Hid (Gr wr w.heap.size v cs) ∧ Below w.heap.size w wr) (fun _ i _ => la - (intOf i).toNat)
  case atStart => exact ⟨0, [], Nat.zero_le _, rfl, ⟨rfl, H.Limbs.nil, rfl⟩, Gr.nil _ _, Below.refl _ _⟩
  case round =>
    obtain ⟨k, cs, hk, rfl, hI, hG, hb⟩ := hrel
    by_cases hlt : k < la
    · have hs := h.below hb (Nat.le_refl _)
      obtain ⟨b, off, rfl, hcell⟩ := hs.2.2 (by omega)
      have hcx := hcell k hlt
      have hstep := ginv_step hL hI.out
      have hw := hL.getD k
      obtain ⟨x, hx⟩ : ∃ x, zs.getD k 0 = x := ⟨_, rfl⟩
      rw [hx] at hcx hstep hw
      obtain ⟨x1, x2⟩ := hw
      obtain ⟨d0, hd0⟩ : ∃ d, x % 4294967296 = d := ⟨_, rfl⟩
      obtain ⟨d1, hd1⟩ : ∃ d, x / 4294967296 = d := ⟨_, rfl⟩
      rw [hd0, hd1] at hstep
      have e1 : x.tmod 4294967296 = d0 := by rw [Int.tmod_eq_emod_of_nonneg x1, hd0]
      have e2 : IntKind.u64.wrap (x.tdiv 4294967296) = d1 := by rw [Int.tdiv_eq_ediv_of_nonneg x1, IntKind.wrap_u64]; omega
      have HS : Hid (GInv zs (cs ++ [d0, d1]) (k + 1)) := hstep
      have hcl : cs.length ≤ 2 * k := by have := hI.out.1; omega
      clear hs hcell hx hstep hd0 hd1
      go_wp2_with fail
      go_region_law (refine step_app rfl (.tmp 11) (.tmp 22) rfl w.heap.size u3 cs (by simp [Act.eval]) (by exact hG.out.alloc _) wr.heap.size 2 2 [d0, d1] (by simp [Act.eval]) rfl (by exact heap_alloc_new _ _) (by omega) (by have := hb.size; simp; omega) ?_; intro v1 w1 hG1 hb1)
      all_goals
        have hb2 : Below w.heap.size w w1 := ((hb.alloc hb.size _).drew).trans hb1
        have HG1 : Hid (Gr w1 w.heap.size v1 (cs ++ [d0, d1])) := hG1
        clear hG1 hb1
        go_wp2_with fail
        go_roundw
        case rel => exact ⟨k + 1, _, by omega, by go_num, HS, HG1, hb2⟩
        case measure => simp [intOf]; omega
    · obtain rfl : k = la := by omega
      obtain ⟨i1, i2, i3⟩ := hI.out
      rw [List.take_of_length_le (by omega)] at i3
      obtain ⟨aa, cap, hv, hcap, hsl⟩ := hG.out.sl i2.up
      have hu := usedN_le cs
      have hle : cs.length ≤ 2 * k := by omega
      have HGG : Hid (Gr wr w.heap.size (.slice aa (usedN cs) cap) (cs.take (usedN cs))) := by
        have := hG.out
        rw [hv] at this
        exact this.take3 hu
      rw [hv]
      clear hG hv i1
      go_wp2_with fail
      refine (cut3_any aa cs.length cap cs _ hsl (by omega) hcap).mono ?_
      rintro e w2 ⟨rfl, rfl⟩
      go_wp2_with fail
      go_ret
      exact ⟨aa, usedN cs, cap, cs.take (usedN cs), rfl, by rw [List.length_take]; omega, by omega, HGG.out, i2.take _, tzr_take cs, by rw [H.num_take_used cs (Nat.le_refl _)]; exact i3, hb⟩

/-- limbs, with what is nil told. -/
theorem limbsZ (a' : Option Addr) (c' : Nat) (cs : List Int) (w : World) (hs' : Sl w a' cs.length cs) (hL : H.Limbs cs) (hz : Tzr cs) (hl : cs.length ≤ 8192) :
    Calls Tryz.prog 201 #[.slice a' cs.length c'] w fun e w' => ∃ a2 m2 c2 zs2, e = .returned (.slice a2 m2 c2) ∧ m2 ≤ c2 ∧ m2 ≤ 8192 ∧ Sl w' a2 m2 zs2 ∧ num zs2 = H.num cs ∧ (a2 = none → m2 = 0 ∧ c2 = 0) ∧ Below w.heap.size w w' := by
  rcases Nat.eq_zero_or_pos cs.length with h0 | h0
  · have e0 := List.length_eq_zero_iff.1 h0
    rw [e0]
    refine (rlimbs_zero a' c' w).mono ?_
    rintro e w2 ⟨rfl, rfl⟩
    exact ⟨none, 0, 0, [], rfl, Nat.le_refl _, by omega, ⟨rfl, Limbs.nil, fun h => absurd h (by decide)⟩, rfl, fun _ => ⟨rfl, rfl⟩, Below.refl _ _⟩
  · refine (limbs3 a' cs.length c' cs w hs' hL (by omega)).mono ?_
    rintro e w2 ⟨a2, m2, c2, zs2, rfl, hmc, hmb, hs2, hu2, hn2, hb2⟩
    have hne : num zs2 ≠ 0 := by
      rw [hn2]
      intro h
      have := (H.num_eq_zero hL).1 h
      rw [tzr_used hL hz] at this
      omega
    exact ⟨a2, m2, c2, zs2, rfl, hmc, by omega, hs2, hn2, Sl.there3 hs2 hu2 hne, hb2⟩
/-- What Scale answers. -/
def ScR (w w' : World) (e : Ending) (V : Int) : Prop :=
  ((V < pw 4096 ∧ ∃ a m c zs, e = .returned (.tuple #[.slice a m c, .int .i64 0]) ∧ m ≤ c ∧ m ≤ 8192 ∧ Sl w' a m zs ∧ num zs = V ∧ (a = none → m = 0 ∧ c = 0)) ∨ (pw 4096 ≤ V ∧ e = .returned (.tuple #[.slice none 0 0, .int .i64 3]))) ∧ Below w.heap.size w w'
/-- j of K noughts are put behind. -/
def ScS (w : World) (N : Int) (j : Nat) (d : Value) (cs : List Int) (W : World) : Prop :=
  Gr W w.heap.size d cs ∧ H.Limbs cs ∧ Tzr cs ∧ H.num cs = N * 10 ^ j ∧ cs.length ≤ 8192 ∧ Below w.heap.size w W
theorem scale_long {N : Int} {j K : Nat} {cs : List Int} (h0 : 0 ≤ N) (hj : j ≤ K) (hL : H.Limbs cs) (hz : Tzr cs) (hl : 8192 < cs.length) (hn : H.num cs = N * 10 ^ j) : pw 4096 ≤ N * 10 ^ K := by
  have h1 := (long32_iff hL hz).1 hl
  rw [hn] at h1
  obtain ⟨d, rfl⟩ := Nat.exists_eq_add_of_le hj
  have h2 : (1 : Int) ≤ 10 ^ d := ipow_pos (by omega) d
  have h3 : 0 ≤ N * 10 ^ j := Int.mul_nonneg h0 (by have := ipow_pos (b := 10) (by omega) j; omega)
  have h4 : N * 10 ^ j * 1 ≤ N * 10 ^ j * 10 ^ d := Int.mul_le_mul_of_nonneg_left h2 h3
  rw [Int.pow_add, ← Int.mul_assoc]
  rw [Int.mul_one] at h4
  exact Int.le_trans h1 h4
theorem pow9b {i : Nat} (h : i ≤ 9) : (1 : Int) ≤ 10 ^ i ∧ (10 : Int) ^ i ≤ 1000000000 := by
  match i, h with
  | 0, _ | 1, _ | 2, _ | 3, _ | 4, _ | 5, _ | 6, _ | 7, _ | 8, _ | 9, _ => decide
set_option maxRecDepth 20000 in
set_option maxHeartbeats 4000000 in
theorem rscale3 (a : Option Addr) (la ca : Nat) (zs : List Int) (K : Nat) (w : World) (h : Sl w a la zs) (hl : la ≤ 1100000) (hK : K ≤ 9223372036854775807) (hf : usedN zs ≤ 4096) :
    Calls Tryz.prog 164 #[.slice a la ca, .int .i64 K] w fun e w' => ScR w w' e (num zs * 10 ^ K) := by
  have hv := halvesG a la ca zs w h (by omega)
  have hN0 := num_nonneg h.2.1
  have HF : Hid (∀ cs, H.Limbs cs → Tzr cs → H.num cs = num zs → cs.length ≤ 8192) := by
    intro cs h1 h2 h3
    rcases Nat.lt_or_ge 8192 cs.length with h' | h'
    · exfalso
      have h4 := (long32_iff h1 h2).1 h'
      rw [h3] at h4
      have h5 := num_lt_used h.2.1
      have h6 := pw_mono hf
      exact absurd (Int.lt_of_lt_of_le h5 h6) (Int.not_lt.2 h4)
    · exact h'
  generalize num zs = N at *
  clear h hf
  have g0 : decide ((K : Int) < 0) = false := by rw [decide_eq_false_iff_not]; omega
  have g1 : ¬ (K : Int) < 0 := by omega
  go_enter Tryz.func164, Tryz.ntmps164
  go_wp2_with fail
  go_at_call 147
  refine hv.mono ?_
  rintro e x1 ⟨a1, m1, c1, ds1, rfl, hdl, hmb, hG, hL, hz, hn, hb1⟩
  have S0 : Hid (ScS w N 0 (.slice a1 m1 c1) ds1 x1) := ⟨hG, hL, hz, by rw [hn]; simp, HF.out ds1 hL hz hn, hb1⟩
  clear hv hG hL hz hn hb1 hdl HF
  go_wp2_with fail
  go_loopw [1, 6] (fun kk d wr => ∃ (j : Nat) (cs : List Int), j ≤ K ∧ kk = .int .i64 ((K : Int) - j) ∧ Hid (ScS w N j d cs wr)) (fun kk _ _ => (intOf kk).toNat)
  case atStart => exact ⟨0, ds1, by omega, int_of3 (by omega), S0⟩
  case round =>
    obtain ⟨j, cs, hj, rfl, HS1⟩ := hrel
    clear S0
    obtain ⟨a', c', hv', hc', hs'⟩ := HS1.out.1.sl HS1.out.2.1.up
    subst hv'
    by_cases hc0 : 0 < cs.length
    · have hci : (0 : Int) < cs.length := by omega
      by_cases hjK : j < K
      · have hki : (0 : Int) < (K : Int) - j := by omega
        clear hs'
        by_cases hmin : K - j ≤ 9
        · have hmi : (K : Int) - j ≤ 9 := by omega
          have hqi : (((K - j : Nat) : Int)) = (K : Int) - j := by omega
          go_wp2_with fail
          go_loopw [8, 9] (fun pp ii wq => ∃ (i : Nat) (p : Int), i ≤ (K - j) ∧ ii = .int .i64 i ∧ pp = .int .u64 p ∧ 1 ≤ p ∧ p ≤ 1000000000 ∧ Hid (p = 10 ^ i) ∧ Hid (ScS w N j (.slice a' cs.length c') cs wq)) (fun _ ii _ => ((((K - j) : Nat) : Int) - intOf ii).toNat)
          case atStart => exact ⟨0, 1, by omega, rfl, rfl, by omega, by omega, by show (1 : Int) = _; simp, HS1.out⟩
          case round =>
            clear HS1
            obtain ⟨i, p, hi, rfl, rfl, p1, p2, HP, HS1⟩ := hrel
            by_cases hlt : i < (K - j)
            · have hii : (i : Int) < (K : Int) - j := by omega
              have hp9 := pow9b (i := i + 1) (by omega)
              have hpn : 10 * p = 10 ^ (i + 1) := by rw [HP.out, Int.pow_succ]; omega
              rw [← hpn] at hp9
              have HPN : Hid (10 * p = 10 ^ (i + 1)) := hpn
              clear hpn
              go_wp2_with fail
              go_roundw
              case rel => exact ⟨i + 1, 10 * p, by omega, by go_num, rfl, hp9.1, hp9.2, HPN, HS1.out⟩
              case measure => simp [intOf]; omega
            · have hii : ¬ (i : Int) < (K : Int) - j := by omega
              have hiq : i = (K - j) := by omega
              have on := onto_any w.heap.size (.slice a' cs.length c') cs p 0 wr HS1.out.1 HS1.out.2.1 HS1.out.2.2.1 HS1.out.2.2.2.2.2.size (by have := HS1.out.2.2.2.2.1; omega) p1 (by omega) (by omega) (by omega)
              have HIQ : Hid (i = (K - j)) := hiq
              clear hiq
              go_wp2_with fail
              go_at_call 200
              refine on.mono ?_
              rintro e w2 ⟨v', cs', rfl, hG', hL', hz', hn', hlen', hb'⟩
              obtain ⟨a2, c2, hv', hc2, hs2⟩ := hG'.sl hL'.up
              subst hv'
              have hval : H.num cs' = N * 10 ^ (j + (K - j)) := by rw [hn', HS1.out.2.2.2.1, HP.out, HIQ.out, Int.pow_add, Int.add_zero, Int.mul_assoc]
              clear on
              by_cases hlong : 8192 < cs'.length
              · have hli : (8192 : Int) < cs'.length := by omega
                have hpw := scale_long (K := K) hN0 (by omega) hL' hz' hlong hval
                have HR : Hid (ScR w w2 (.returned (.tuple #[.slice none 0 0, .int .i64 3])) (N * 10 ^ K)) := ⟨.inr ⟨hpw, rfl⟩, HS1.out.2.2.2.2.2.trans hb'⟩
                clear hpw hval hs2 hG' hb' hn' hL' hz' HS1 HP
                go_wp2_with fail
                go_ret2
                exact HR.out
              · have hli : ¬ (8192 : Int) < cs'.length := by omega
                have HN : Hid (ScS w N (j + (K - j)) (.slice a2 cs'.length c2) cs' w2) := ⟨hG', hL', hz', hval, by omega, HS1.out.2.2.2.2.2.trans hb'⟩
                clear hs2 hG' hb' hn' hL' hz' hval HS1 HP
                go_wp2_with fail
                go_roundw
                case rel => exact ⟨j + (K - j), cs', by omega, int_of3 (by omega), HN⟩
                case measure => simp [intOf]; omega
        · have hmi : ¬ (K : Int) - j ≤ 9 := by omega
          have hqi : ((9 : Nat) : Int) = 9 := rfl
          go_wp2_with fail
          go_loopw [8, 9] (fun pp ii wq => ∃ (i : Nat) (p : Int), i ≤ 9 ∧ ii = .int .i64 i ∧ pp = .int .u64 p ∧ 1 ≤ p ∧ p ≤ 1000000000 ∧ Hid (p = 10 ^ i) ∧ Hid (ScS w N j (.slice a' cs.length c') cs wq)) (fun _ ii _ => (((9 : Nat) : Int) - intOf ii).toNat)
          case atStart => exact ⟨0, 1, by omega, rfl, rfl, by omega, by omega, by show (1 : Int) = _; simp, HS1.out⟩
          case round =>
            clear HS1
            obtain ⟨i, p, hi, rfl, rfl, p1, p2, HP, HS1⟩ := hrel
            by_cases hlt : i < 9
            · have hii : (i : Int) < 9 := by omega
              have hp9 := pow9b (i := i + 1) (by omega)
              have hpn : 10 * p = 10 ^ (i + 1) := by rw [HP.out, Int.pow_succ]; omega
              rw [← hpn] at hp9
              have HPN : Hid (10 * p = 10 ^ (i + 1)) := hpn
              clear hpn
              go_wp2_with fail
              go_roundw
              case rel => exact ⟨i + 1, 10 * p, by omega, by go_num, rfl, hp9.1, hp9.2, HPN, HS1.out⟩
              case measure => simp [intOf]; omega
            · have hii : ¬ (i : Int) < 9 := by omega
              have hiq : i = 9 := by omega
              have on := onto_any w.heap.size (.slice a' cs.length c') cs p 0 wr HS1.out.1 HS1.out.2.1 HS1.out.2.2.1 HS1.out.2.2.2.2.2.size (by have := HS1.out.2.2.2.2.1; omega) p1 (by omega) (by omega) (by omega)
              have HIQ : Hid (i = 9) := hiq
              clear hiq
              go_wp2_with fail
              go_at_call 200
              refine on.mono ?_
              rintro e w2 ⟨v', cs', rfl, hG', hL', hz', hn', hlen', hb'⟩
              obtain ⟨a2, c2, hv', hc2, hs2⟩ := hG'.sl hL'.up
              subst hv'
              have hval : H.num cs' = N * 10 ^ (j + 9) := by rw [hn', HS1.out.2.2.2.1, HP.out, HIQ.out, Int.pow_add, Int.add_zero, Int.mul_assoc]
              clear on
              by_cases hlong : 8192 < cs'.length
              · have hli : (8192 : Int) < cs'.length := by omega
                have hpw := scale_long (K := K) hN0 (by omega) hL' hz' hlong hval
                have HR : Hid (ScR w w2 (.returned (.tuple #[.slice none 0 0, .int .i64 3])) (N * 10 ^ K)) := ⟨.inr ⟨hpw, rfl⟩, HS1.out.2.2.2.2.2.trans hb'⟩
                clear hpw hval hs2 hG' hb' hn' hL' hz' HS1 HP
                go_wp2_with fail
                go_ret2
                exact HR.out
              · have hli : ¬ (8192 : Int) < cs'.length := by omega
                have HN : Hid (ScS w N (j + 9) (.slice a2 cs'.length c2) cs' w2) := ⟨hG', hL', hz', hval, by omega, HS1.out.2.2.2.2.2.trans hb'⟩
                clear hs2 hG' hb' hn' hL' hz' hval HS1 HP
                go_wp2_with fail
                go_roundw
                case rel => exact ⟨j + 9, cs', by omega, int_of3 (by omega), HN⟩
                case measure => simp [intOf]; omega
      · have hki : ¬ (0 : Int) < (K : Int) - j := by omega
        have hjk : j = K := by omega
        have hval : H.num cs = N * 10 ^ K := by rw [← hjk]; exact HS1.out.2.2.2.1
        have lz := limbsZ a' c' cs wr hs' HS1.out.2.1 HS1.out.2.2.1 HS1.out.2.2.2.2.1
        rw [hval] at lz
        have HV : Hid (H.Limbs cs ∧ Tzr cs ∧ cs.length ≤ 8192 ∧ H.num cs = N * 10 ^ K) := ⟨HS1.out.2.1, HS1.out.2.2.1, HS1.out.2.2.2.2.1, hval⟩
        have HBl : Hid (Below w.heap.size w wr) := HS1.out.2.2.2.2.2
        clear hs' hval HS1 hjk
        go_wp2_with fail
        go_at_call 201
        refine lz.mono ?_
        rintro e w2 ⟨a2, m2, c2, zs2, rfl, hmc, hm8, hs2, hn2, hnl, hb2⟩
        have HR : Hid (ScR w w2 (.returned (.tuple #[.slice a2 m2 c2, .int .i64 0])) (N * 10 ^ K)) := ⟨.inl ⟨of3_short HV.out.1 HV.out.2.1 HV.out.2.2.1 HV.out.2.2.2, a2, m2, c2, zs2, rfl, hmc, hm8, hs2, hn2, hnl⟩, step HBl.out hb2⟩
        clear hs2 hn2 hb2 HV HBl lz hnl
        go_wp2_with fail
        go_ret2
        exact HR.out
    · have hci : ¬ (0 : Int) < cs.length := by omega
      have hN00 : N * 10 ^ j = 0 := by
        rw [← HS1.out.2.2.2.1, List.length_eq_zero_iff.1 (show cs.length = 0 by omega)]; rfl
      have hval : H.num cs = N * 10 ^ K := by
        have h1 := ipow_pos (b := 10) (by omega) j
        have h2 : N = 0 := by
          rcases Int.mul_eq_zero.1 hN00 with h | h
          · exact h
          · omega
        rw [HS1.out.2.2.2.1, h2, Int.zero_mul, Int.zero_mul]
      have lz := limbsZ a' c' cs wr hs' HS1.out.2.1 HS1.out.2.2.1 HS1.out.2.2.2.2.1
      rw [hval] at lz
      have HV : Hid (H.Limbs cs ∧ Tzr cs ∧ cs.length ≤ 8192 ∧ H.num cs = N * 10 ^ K) := ⟨HS1.out.2.1, HS1.out.2.2.1, HS1.out.2.2.2.2.1, hval⟩
      have HBl : Hid (Below w.heap.size w wr) := HS1.out.2.2.2.2.2
      clear hs' hval HS1 hN00
      go_wp2_with fail
      go_at_call 201
      refine lz.mono ?_
      rintro e w2 ⟨a2, m2, c2, zs2, rfl, hmc, hm8, hs2, hn2, hnl, hb2⟩
      have HR : Hid (ScR w w2 (.returned (.tuple #[.slice a2 m2 c2, .int .i64 0])) (N * 10 ^ K)) := ⟨.inl ⟨of3_short HV.out.1 HV.out.2.1 HV.out.2.2.1 HV.out.2.2.2, a2, m2, c2, zs2, rfl, hmc, hm8, hs2, hn2, hnl⟩, step HBl.out hb2⟩
      clear hs2 hn2 hb2 HV HBl lz hnl
      go_wp2_with fail
      go_ret2
      exact HR.out
end Go.Proofs.YtebbblhafjaaiaaGreatDoor
namespace Go.Proofs.YtebbblhafjaaiaaGreatDoor
open Go.RowKit Go.Shelf
set_option linter.unusedVariables false

theorem one_limbs : Limbs [1] := fun z hz => by rw [List.mem_singleton.1 hz]; exact ⟨by decide, by decide⟩
theorem rten3 (K : Nat) (hK : K ≤ 9223372036854775807) (w : World) :
    Calls Tryz.prog 121 #[.int .i64 K] w fun e w' => ScR w w' e (10 ^ K) := by
  have hA : Below w.heap.size w (w.alloc (.cells #[.int .u64 1] 94)) := (Below.refl _ _).alloc (Nat.le_refl _) _
  have sc := rscale3 (some ⟨w.heap.size, 0, none⟩) 1 1 [1] K (w.alloc (.cells #[.int .u64 1] 94)) (Own.sl (cs := [1]) (heap_alloc_new _ _) one_limbs) (by omega) hK (by have := usedN_le [1]; simp at this; omega)
  rw [show num [1] * 10 ^ K = 10 ^ K by simp [num]] at sc
  go_enter Tryz.func121, Tryz.ntmps121
  go_wp2_with fail
  go_at_call 164
  refine sc.mono ?_
  rintro e w2 ⟨h, hb⟩
  have HB : Hid (Below w.heap.size w w2) := step hA hb
  rcases h with ⟨hlt, a, m, c, zs, rfl, h1, h2, h3, h4, h5⟩ | ⟨hge, rfl⟩
  · have HR : Hid (ScR w w2 (.returned (.tuple #[.slice a m c, .int .i64 0])) (10 ^ K)) := ⟨.inl ⟨hlt, a, m, c, zs, rfl, h1, h2, h3, h4, h5⟩, HB.out⟩
    clear hlt h3 h4 h5 hb sc hA
    go_wp2_with fail
    go_ret2
    exact HR.out
  · have HR : Hid (ScR w w2 (.returned (.tuple #[.slice none 0 0, .int .i64 3])) (10 ^ K)) := ⟨.inr ⟨hge, rfl⟩, HB.out⟩
    clear hge hb sc hA
    go_wp2_with fail
    go_ret2
    exact HR.out
/-- The two parts of digits. -/
structure Two (os : List Int) (N : Int) (n K : Nat) : Prop where
  eq : N = lvB 10 (os.drop n) * 10 ^ K + lvB 10 (os.take n)
  l0 : 0 ≤ lvB 10 (os.take n)
  l1 : lvB 10 (os.take n) < 10 ^ K
  le1 : lvB 10 (os.drop n) ≤ N
  le2 : lvB 10 (os.take n) ≤ N
end Go.Proofs.YtebbblhafjaaiaaGreatDoor
namespace Go.Proofs.YtebbblhafjaaiaaGreatDoor
open Go.RowKit Go.Shelf
set_option linter.unusedVariables false
theorem rzero6 (a : Option Addr) (la ca : Nat) (zs : List Int) (w : World) (h : Sl w a la zs) (hl : la ≤ 17592186044416) (hc : la ≤ ca) :
    Calls Tryz.prog 73 #[.slice a la ca] w fun e w' => e = .returned (.bool ((usedN zs : Int) == 0)) ∧ Below w.heap.size w w' := by
  go_enter Tryz.func73, Tryz.ntmps73
  go_wp2_with fail
  refine (rtrim_m a la ca zs w h hl hc).mono ?_
  rintro e w2 ⟨a2, c2, rfl, s2, hc2, b2⟩
  go_wp2_with fail
  go_ret
  exact ⟨rfl, b2⟩
theorem rten6b (Pl : Nat) (hPl : Pl ≤ 4096) (w : World) :
    Calls Tryz.prog 69 #[.int .i64 Pl] w fun e w' => ∃ a' m c zs, e = .returned (.slice a' m c) ∧ m ≤ c ∧ m ≤ 8192 ∧ Sl w' a' m zs ∧ num zs = 10 ^ Pl ∧ Below w.heap.size w w' := by
  have hp := ten_pw hPl
  have hq := pw_less (show 256 < 4096 by omega)
  have HL : Hid ((10 : Int) ^ Pl < pw 4096) := Int.lt_of_le_of_lt hp hq
  clear hp hq
  go_enter Tryz.func69, Tryz.ntmps69
  go_wp2_with fail
  refine (rten3 Pl (by omega) _).mono ?_
  rintro e x1 ⟨h | h, hb⟩
  · obtain ⟨-, a, m, c, zs, rfl, h1, h2, h3, h4, -⟩ := h
    have HN : Hid (num zs = 10 ^ Pl) := h4
    clear h4
    go_wp2_with fail
    go_ret
    exact ⟨a, m, c, zs, rfl, h1, h2, h3, HN.out, hb⟩
  · exact absurd HL.out (Int.not_lt.2 h.1)
theorem rexpand6_no (neg : Bool) (a b : Option Addr) (l c m d : Nat) (Pl : Int) (hPl : ¬ (0 ≤ Pl ∧ Pl ≤ 4096)) (w : World) :
    Calls Tryz.prog 27 #[.agg #[.bool neg, .slice a l c, .slice b m d], .int .i64 Pl] w fun e W' => e = .returned (.tuple #[.string ⟨#[]⟩, .bool false, .int .i64 2]) ∧ Below w.heap.size w W' := by
  have B0 : Below w.heap.size w w := Below.refl _ _
  by_cases h : Pl < 0
  · have g1 : decide (Pl < 0) = true := decide_eq_true h
    go_enter Tryz.func27, Tryz.ntmps27
    go_wp2_with fail
    go_ret3
    exact ⟨rfl, B0.alloc (Nat.le_refl _) _⟩
  · have g1 : decide (Pl < 0) = false := decide_eq_false h
    have g2 : decide (4096 < Pl) = true := decide_eq_true (by omega)
    have g3 : (4096 : Int) < Pl := by omega
    clear hPl
    go_enter Tryz.func27, Tryz.ntmps27
    go_wp2_with fail
    go_ret3
    exact ⟨rfl, B0.alloc (Nat.le_refl _) _⟩
set_option maxHeartbeats 4000000 in
set_option maxRecDepth 8000 in
theorem rexpand6 (neg : Bool) (a b : Option Addr) (l c m d : Nat) (xs ys : List Int) (v : Rat) (Pl : Nat) (hPl : Pl ≤ 4096) (w : World) (ha : Sl w a l xs) (hb : Sl w b m ys) (hc : l ≤ c) (hd : m ≤ d) (hl : l ≤ 1024) (hm : m ≤ 1024) (h0 : num ys ≠ 0) (hv : v = Rat.divInt (iv neg xs) (num ys)) :
    Calls Tryz.prog 27 #[.agg #[.bool neg, .slice a l c, .slice b m d], .int .i64 Pl] w fun e W' => e = .returned (.tuple #[.string ⟨(exT v Pl).toArray⟩, .bool (exB v Pl), .int .i64 0]) ∧ Below w.heap.size w W' := by
  have p0 := num_nonneg ha.2.1; have p1 := num_nonneg hb.2.1; obtain ⟨N, hN⟩ := Int.eq_ofNat_of_zero_le p0; obtain ⟨D, hD⟩ := Int.eq_ofNat_of_zero_le p1; (have hz : iv neg xs = sgn neg N := by unfold iv sgn; rw [hN]); (have hzn : (iv neg xs).natAbs = N := by rw [hz]; unfold sgn; cases neg <;> simp); (have hDp : 0 < D := by omega); rw [hD] at hv; have HQ : Hid ((N * 10 ^ Pl) / D = v.num.natAbs * 10 ^ Pl / v.den) := ex_quot hDp hzn hv; have HM : Hid (((N * 10 ^ Pl) % D = 0) ↔ (v.num.natAbs * 10 ^ Pl % v.den = 0)) := ex_mod hDp hzn hv; have HG : Hid ((neg && !decide (N = 0)) = decide (v.num < 0)) := ex_neg hDp hz hv; have HNN : Hid (num xs = (N : Int) ∧ num ys = (D : Int) ∧ 0 < D) := ⟨hN, hD, hDp⟩; have hz0 : num xs = 0 ↔ usedN xs = 0 := num_eq_zero ha.2.1
  have HZ : Hid ((neg && !((usedN xs : Int) == 0)) = decide (v.num < 0)) := by
    show _ = _
    rw [← HG.out]
    congr 2
    rw [Bool.eq_iff_iff]; simp; rw [← hz0, hN]; omega
  have hbig : num xs * 10 ^ Pl < pw 4096 := by
    have h1 := num_lt ha.2.1; have h2 : num xs < pw 1024 := Int.lt_of_lt_of_le h1 (pw_mono (by rw [ha.1]; exact hl)); have h3 := ten_pw hPl; exact rt_fits (num_nonneg ha.2.1) (Int.le_of_lt (Int.pow_pos (by omega))) h2 (Int.lt_of_le_of_lt h3 (pw_less (show 256 < 257 by omega))) (by omega)
  have HBG : Hid (num xs * 10 ^ Pl < pw 4096) := hbig; have B0 : Below w.heap.size w w := Below.refl _ _; (obtain ⟨T, hT⟩ : ∃ T, exT v Pl = T := ⟨_, rfl⟩); (obtain ⟨X, hX⟩ : ∃ X, exB v Pl = X := ⟨_, rfl⟩); rw [hT, hX]; have HT : Hid (textL (decide (v.num < 0)) Pl (Go.Lib.decDigits (v.num.natAbs * 10 ^ Pl / v.den)) = T) := hT; have HX : Hid (decide (v.num.natAbs * 10 ^ Pl % v.den = 0) = X) := hX; clear hT hX hbig hz0 HG hDp hzn hz hD hN p0 p1 hv h0; have k1 : decide ((Pl : Int) < 0) = false := decide_eq_false (by omega); have k2 : decide (4096 < Pl) = false := decide_eq_false (by omega); (have k3 : ¬ (4096 : Int) < Pl := by omega)
  go_enter Tryz.func27, Tryz.ntmps27
  (go_wp2_with fail); refine ent1 w _ _ (Q := fun W => Code.wp Tryz.prog _ _ _ W) ?_; intro x1 hB hs_x1 V1; replace ha := Sl.after hB ha; replace hb := Sl.after hB hb; replace B0 := step B0 hB; clear hB hs_x1; refine wp_region_noPanic ?_; replace V1 : Va x1.drew _ _ _ := V1; replace B0 := Below.drew B0; refine wp_region_held_drew (S := (fun W => W.cell? ⟨w.heap.size, 0, none⟩ = some (.bool neg) ∧ W.cell? ⟨w.heap.size, 1, none⟩ = some (.slice a l c) ∧ W.cell? ⟨w.heap.size, 2, none⟩ = some (.slice b m d))) (by kernel_rfl) ⟨V1.d0, V1.d1, V1.d2⟩ (fun hHeld => ?_); (obtain ⟨x2, hxd⟩ : ∃ xd, xd = x1.drew := ⟨_, rfl⟩); rw [← hxd] at V1 B0 hHeld ⊢; (replace ha : Sl x2 a l xs := by rw [hxd]; exact ha); (replace hb : Sl x2 b m ys := by rw [hxd]; exact hb); clear hxd; refine tk 0 rfl hHeld ?_; simp only [gA, gB, Act.put, gD, gE, gF]; refine tk 1 rfl hHeld ?_; simp only [gA, gB, gC, Act.put, gD, gE, gF]; refine tk 2 rfl hHeld ?_; simp only [gA, gB, gC, Act.put, gD, gE, gF]
  refine tk 5 rfl hHeld ?_; simp only [gA, gB, gC, Act.put, gD, gE, gF]; refine tk 6 rfl hHeld ?_; simp only [gA, gB, gC, Act.put, gD, gE, gF]; refine wpAnyH_ready (rs := [3]) (by kernel_rfl) (by simp) ?_; refine AllReadyH.cons rfl (fun K hK => ?_) AllReadyH.nil; simp only [gA, gB, gC]; (go_simp); refine (rten6b Pl hPl _).mono ?_; rintro e x3 ⟨a2, m2, c2, z2, rfl, hc2, hm2, h2, hn2, hB⟩; replace V1 := Va.after hB V1; replace B0 := step B0 hB; replace ha := Sl.after hB ha; replace hb := Sl.after hB hb; clear hB; (try go_wp2_with fail); refine hK.out _ _ ⟨V1.d0, V1.d1, V1.d2⟩ (fun hHeld => ?_); clear hK K; refine wpAnyH_ready (rs := [4]) (by kernel_rfl) (by simp) ?_; refine AllReadyH.cons rfl (fun K hK => ?_) AllReadyH.nil; simp only [gA, gB, gC]; (go_simp); refine (rmul_any a a2 l c m2 c2 xs z2 _ ha h2 (by omega) (by omega)).mono ?_; rintro e x4 ⟨a3, m3, c3, z3, rfl, hc3, hm3, h3, hu3, hn3, hB⟩; replace V1 := Va.after hB V1; replace B0 := step B0 hB
  replace ha := Sl.after hB ha; replace hb := Sl.after hB hb; clear hB; rw [hn2] at hn3; (have hn4 : num z3 < pw 4096 := by rw [hn3]; exact HBG.out); have HN4 : Hid (num z3 < pw 4096) := hn4; rw [HNN.out.1] at hn3; clear h2 hn2 hn4; (try go_wp2_with fail); refine hK.out _ _ ⟨V1.d0, V1.d1, V1.d2⟩ (fun hHeld => ?_); clear hK K; refine wpAnyH_ready (rs := [7]) (by kernel_rfl) (by simp) ?_; refine AllReadyH.cons rfl (fun K hK => ?_) AllReadyH.nil; simp only [gA, gB, gC]; (go_simp); refine (rdivmod_n a3 b m3 c3 m d z3 ys _ h3 hb hc3 (by omega) (by omega) (by rw [HNN.out.2.1]; have := HNN.out.2.2; omega)).mono ?_; rintro e x5 ⟨aq, mq, cq, qs, ar, mr, cr, rs, rfl, hq, uq, hcq, hr, ur, hcr, e1, r0, r1, lq, lr, hB⟩; replace V1 := Va.after hB V1; replace B0 := step B0 hB; replace ha := Sl.after hB ha; replace hb := Sl.after hB hb; clear hB h3; have e0 := e1; rw [hn3, HNN.out.2.1] at e1; rw [HNN.out.2.1] at r1; clear hn3 hu3; (try go_wp2_with fail); refine hK.out _ _ ⟨V1.d0, V1.d1, V1.d2⟩ (fun hHeld => ?_)
  clear hK K; refine tk 8 rfl hHeld ?_; simp only [gA, gB, gC, Act.put, gD, gE, gF]; refine tk 9 rfl hHeld ?_; simp only [gA, gB, gC, Act.put, gD, gE, gF]; refine tk 11 rfl hHeld ?_; simp only [gA, gB, gC, Act.put, gD, gE, gF]; refine tk 10 rfl hHeld ?_; simp only [gA, gB, gC, Act.put, gD, gE, gF]; refine tk 12 rfl hHeld ?_; simp only [gA, gB, gC, Act.put, gD, gE, gF]; refine wpAnyH_done (by kernel_rfl) ?_ _; refine NoPanic.normal ?_; clear hHeld; have hqz := num_nonneg hq.2.1; obtain ⟨n, hn⟩ := Int.eq_ofNat_of_zero_le hqz; obtain ⟨t, ht⟩ := Int.eq_ofNat_of_zero_le r0
  have hqb : num qs < pw 4096 := by
    have h1 := HN4.out; have h2 : num qs * 1 ≤ num qs * num ys := Int.mul_le_mul_of_nonneg_left (by rw [HNN.out.2.1]; have := HNN.out.2.2; omega) hqz
    generalize pw 4096 = P at *
    omega
  rw [hn, ht] at e1; rw [ht] at r1; (have e2 : N * 10 ^ Pl = n * D + t := by exact_mod_cast e1); (have r2 : t < D := by omega); (have hmod : (N * 10 ^ Pl) % D = t := by rw [e2, Nat.add_comm, Nat.add_mul_mod_self_right, Nat.mod_eq_of_lt r2]); (have hdiv : (N * 10 ^ Pl) / D = n := by rw [e2, Nat.add_comm, Nat.add_mul_div_right _ _ (by omega), Nat.div_eq_of_lt r2]; omega); (have hrz : num rs = 0 ↔ mr = 0 := by rw [num_eq_zero hr.2.1, ur])
  have HX2 : Hid (((mr : Int) == 0) = X) := by
    show _ = _
    rw [← HX.out, Bool.eq_iff_iff]; have := HM.out; rw [hmod] at this; simp only [beq_iff_eq, decide_eq_true_eq]; rw [← this]; rw [ht] at hrz
    omega
  have HQ2 : Hid (v.num.natAbs * 10 ^ Pl / v.den = n ∧ (num qs).toNat = n) := ⟨by rw [← HQ.out, hdiv], by rw [hn]; rfl⟩; have hM := hM6 hqb; have rt := rtold6 (Pl + 1) (by omega) aq mq cq qs x5 hq (by omega) hM hqz; clear e0 e1 e2 r0 r1 r2 hmod hdiv hqz hn hq hr ur uq hb hqb hM hrz ht HQ HM HX HBG HN4; have c_V1 := V1.d0; have f0_V1 := V1.frozen 0; have d_V1 := V1.d1; have f1_V1 := V1.frozen 1; have e_V1 := V1.d2; have f2_V1 := V1.frozen 2; have l_V1 := V1.lt; have m_V1 := Nat.le_of_lt l_V1; (go_wp2_with fail); refine rt.mono ?_; rintro e x6 ⟨t6, rfl, tx6, hl6, hB⟩; replace V1 := Va.after hB V1; replace B0 := step B0 hB; replace ha := Sl.after hB ha; clear hB rt c_V1 f0_V1 d_V1 f1_V1 e_V1 f2_V1 l_V1 m_V1; (obtain ⟨P, hP⟩ : ∃ P, List.replicate (Pl + 1 - t6.length) 48 ++ t6 = P := ⟨_, rfl⟩); (have hPl : P.length = max (Pl + 1) t6.length := by rw [← hP]; simp; omega)
  have HPP : Hid (sgL (decide (v.num < 0)) (ptL Pl P) = T) := by
    show _ = _
    (have h1 : Tx 10 t6 (v.num.natAbs * 10 ^ Pl / v.den) := by rw [HQ2.out.1, ← HQ2.out.2]; exact tx6); rw [← HT.out, ← Tx.unique (by omega) (by omega) h1 (dec_tx _), ← hP]
    rfl
  rw [hP]; (have hp1 : Pl < P.length := by omega); (have hp2 : P.length ≤ 1000000 := by omega); clear hP hPl tx6 hl6 HQ2 HT; have c_V1 := V1.d0; have f0_V1 := V1.frozen 0; have d_V1 := V1.d1; have f1_V1 := V1.frozen 1; have e_V1 := V1.d2; have f2_V1 := V1.frozen 2; have l_V1 := V1.lt; have m_V1 := Nat.le_of_lt l_V1; clear c_V1 f0_V1 d_V1 f1_V1 e_V1 f2_V1 l_V1 m_V1; (obtain ⟨zb, hzb⟩ : ∃ zb, ((usedN xs : Int) == 0) = zb := ⟨_, rfl⟩); (have RZ : Hid (∀ W, Sl W a l xs → Calls Tryz.prog 73 #[.slice a l c] W fun e w' => e = .returned (.bool zb) ∧ Below W.heap.size W w') := fun W hW => by have := rzero6 a l c xs W hW (by omega) hc; rw [hzb] at this; exact this); rw [hzb] at HZ; clear hzb; (have HPT : Hid (∀ W, Calls Tryz.prog 49 #[.string ⟨P.toArray⟩, .int .i64 Pl, .bool (neg && !zb)] W fun e w' => e = .returned (.string ⟨T.toArray⟩) ∧ Below W.heap.size W w') := fun W => by have := rpointed6 P Pl (neg && !zb) hp1 hp2 W; rw [HZ.out, HPP.out] at this; rw [HZ.out]; exact this)
  clear HZ HPP hp1 hp2; have pt := HPT.out; clear HPT
  cases neg
  · simp only [Bool.false_and] at pt
    have HPT : Hid _ := pt; clear pt; have c_V1 := V1.d0; have f0_V1 := V1.frozen 0; have d_V1 := V1.d1; have f1_V1 := V1.frozen 1; have e_V1 := V1.d2; have f2_V1 := V1.frozen 2; have l_V1 := V1.lt; have m_V1 := Nat.le_of_lt l_V1; (go_wp2_with fail); refine (HPT.out _).mono ?_; rintro e x9 ⟨rfl, hB⟩; replace B0 := step B0 hB; clear hB; have hx2 := HX2.out; (go_wp2_with fail)
    go_ret3
    exact ⟨rfl, B0⟩
  · simp only [Bool.true_and] at pt
    have HPT : Hid _ := pt; clear pt; have c_V1 := V1.d0; have f0_V1 := V1.frozen 0; have d_V1 := V1.d1; have f1_V1 := V1.frozen 1; have e_V1 := V1.d2; have f2_V1 := V1.frozen 2; have l_V1 := V1.lt; have m_V1 := Nat.le_of_lt l_V1; (go_wp2_with fail); refine (RZ.out _ ha).mono ?_; rintro e x8 ⟨rfl, hB⟩; replace V1 := Va.after hB V1; replace B0 := step B0 hB; clear hB c_V1 f0_V1 d_V1 f1_V1 e_V1 f2_V1 l_V1 m_V1; have c_V1 := V1.d0; have f0_V1 := V1.frozen 0; have d_V1 := V1.d1; have f1_V1 := V1.frozen 1; have e_V1 := V1.d2; have f2_V1 := V1.frozen 2; have l_V1 := V1.lt; have m_V1 := Nat.le_of_lt l_V1; (go_wp2_with fail); refine (HPT.out _).mono ?_; rintro e x9 ⟨rfl, hB⟩; replace B0 := step B0 hB; clear hB; have hx2 := HX2.out; (go_wp2_with fail)
    go_ret3
    exact ⟨rfl, B0⟩
end Go.Proofs.YtebbblhafjaaiaaGreatDoor
