/-
  The document's Parse of whole numbers.
-/
import Derived.Test.YtpfbcicjfnfpgaaDgW
import Derived.Test.YtpfbcicjfnfpgaaWPaX
import Derived.Test.YtpfbcicjfnfpgaaWh6
namespace Go.Proofs.Ytpfbcicjfnfpgaa
open Go.RowKit Go.Shelf
set_option linter.unusedVariables false
theorem results_itt4 {fn : Func} {i j k b : Nat} {x y : Value} {tmps : Array Value} {w : World} (h : fn.results = #[.cell i 29, .tmp j, .tmp k]) (hi : tmps.getD i undef = .pointer (some ⟨b, 0, none⟩)) (hv : Va w b 29 #[x, y]) :
    (results fn tmps).run Try.prog w = .ok (.tuple #[.agg #[x, y], tmps.getD j undef, tmps.getD k undef]) w := by
  have c := hv.c0; have d := hv.c1
  rw [Array.getD_eq_getD_getElem?] at hi
  simp [results, h, hi, c, d, go_sem]
theorem Ir.nil4 (w : World) : Ir w false none 0 0 [] := ⟨⟨rfl, Limbs.nil, fun h => absurd h (by decide)⟩, rfl, Nat.le_refl _, fun _ => ⟨rfl, rfl⟩, fun h => by cases h⟩
/-- How many bytes stand ahead of the digits. -/
def ahd (l : List UInt8) : Nat := if neg l then 1 else 0
theorem ahd_len (l : List UInt8) : l.length = ahd l + (bare l).length := by
  unfold ahd bare neg
  cases l with
  | nil => simp
  | cons c r =>
    by_cases h : c = 45
    · simp [h]; omega
    · simp [h]
theorem ahd_get {l : List UInt8} {k : Nat} (h : k < (bare l).length) : ∃ h2 : ahd l + k < l.length, l[ahd l + k] = (bare l)[k] := by
  have hl := ahd_len l
  refine ⟨by omega, ?_⟩
  have e : ∀ (b : Bool), neg l = b → ∀ (h2 : ahd l + k < l.length), l[ahd l + k] = (bare l)[k] := by
    intro b hb h2
    have e1 : ahd l = if b then 1 else 0 := by unfold ahd; rw [hb]
    have e2 : bare l = if b then l.drop 1 else l := by unfold bare; rw [hb]
    have h3 : (bare l)[k]? = l[ahd l + k]? := by
      rw [e1, e2]
      cases b
      · simp
      · simp only [if_true]; rw [List.getElem?_drop]
    rw [List.getElem?_eq_getElem h, List.getElem?_eq_getElem h2] at h3
    exact (Option.some.inj h3).symm
  exact e _ rfl _
theorem ahd_slice {l : List UInt8} (f : Nat) : l.drop (ahd l + f) = (bare l).drop f := by
  unfold ahd bare
  cases neg l
  · simp
  · simp only [if_true]; rw [List.drop_drop, Nat.add_comm]
theorem tv_zeros {d : List UInt8} {f : Nat} (hf : f ≤ d.length) (h : ∀ j (hj : j < d.length), j < f → d[j] = 48) : tv 10 (d.take f) = 0 := by
  induction f with
  | zero => simp [tv]
  | succ f ih =>
    rw [List.take_succ_eq_append_getElem (by omega), tv_snoc, ih (by omega) (fun j hj h2 => h j hj (by omega)), h f (by omega) (by omega)]
    rfl
theorem tv_rest {d : List UInt8} {f : Nat} (hf : f ≤ d.length) (h : ∀ j (hj : j < d.length), j < f → d[j] = 48) : tv 10 d = tv 10 (d.drop f) := by
  have e := tv_append 10 (d.take f) (d.drop f)
  rw [List.take_append_drop, tv_zeros hf h, Nat.zero_mul, Nat.zero_add] at e
  exact e
theorem tv_top {d : List UInt8} {f : Nat} (hf : f < d.length) (hd : Dig 10 d) (h : d[f] ≠ 48) : 10 ^ (d.length - f - 1) ≤ tv 10 (d.drop f) := by
  rw [List.drop_eq_getElem_cons hf, tv_cons, List.length_drop]
  have h1 := hd (d[f]) (List.getElem_mem hf)
  have h2 := wv_small h1
  have h3 : 1 ≤ wv d[f] := by
    rcases Nat.eq_zero_or_pos (wv d[f]) with h0 | h0
    · exfalso
      have : d[f].toNat = 48 := by omega
      exact h (UInt8.toNat_inj.1 this)
    · exact h0
  have h4 : 1 * 10 ^ (d.length - (f + 1)) ≤ wv d[f] * 10 ^ (d.length - (f + 1)) := Nat.mul_le_mul_right _ h3
  rw [show d.length - f - 1 = d.length - (f + 1) by omega]
  omega
theorem two_ten4 {m n k : Nat} (hm : m ≤ 33 * k) (hn : 10 * k ≤ n) : (2 : Int) ^ m ≤ 10 ^ n := by
  have h1 : 2 ^ (33 * k) ≤ 10 ^ (10 * k) := by
    rw [Nat.pow_mul, Nat.pow_mul]
    exact Nat.pow_le_pow_left (by decide) k
  have h2 : 10 ^ (10 * k) ≤ 10 ^ n := Nat.pow_le_pow_right (by omega) hn
  have h3 : 2 ^ m ≤ 2 ^ (33 * k) := Nat.pow_le_pow_right (by omega) hm
  have h4 : 2 ^ m ≤ 10 ^ n := Nat.le_trans h3 (Nat.le_trans h1 h2)
  exact_mod_cast h4
theorem ten_huge {n : Nat} (h : 80000 ≤ n) : pw 4096 ≤ (10 : Int) ^ n := by
  rw [pw_eq]
  exact two_ten4 (k := 8000) (by omega) (by omega)
theorem pw_pos4 : (0 : Int) < pw 4096 := by rw [pw_eq]; exact Int.pow_pos (by omega)
def Ps4 (l : List UInt8) (w : World) (e : Ending) (W' : World) : Prop := ∃ s a m c zs at4 er, e = .returned (.tuple #[.agg #[.bool s, .slice a m c], .int .i64 at4, .int .i64 er]) ∧ Ir W' s a m c zs ∧ WpX l (iv s zs) at4 er ∧ Below w.heap.size w W'
set_option maxHeartbeats 8000000 in
set_option maxRecDepth 8000 in
theorem rparse4 (l : List UInt8) (hl : l.length ≤ 140737488355328) (w : World) :
    Calls Try.prog 14 #[.string ⟨l.toArray⟩] w fun e W' => Ps4 l w e W' := by
  have hlen := ahd_len l
  obtain ⟨ah, hah⟩ : ∃ ah, ahd l = ah := ⟨_, rfl⟩
  obtain ⟨ng, hng⟩ : ∃ ng, neg l = ng := ⟨_, rfl⟩
  obtain ⟨d, hd⟩ : ∃ d, bare l = d := ⟨_, rfl⟩
  obtain ⟨N, hN⟩ : ∃ N, l.length = N := ⟨_, rfl⟩
  obtain ⟨D, hD⟩ : ∃ D, d.length = D := ⟨_, rfl⟩
  have hbz : (ByteArray.mk l.toArray).size = N := by rw [bsize, hN]
  have hah1 : ah = if ng then 1 else 0 := by rw [← hah, ← hng]; rfl
  have hab : ah ≤ 1 := by rw [hah1]; split <;> omega
  rw [hah, hd, hN, hD] at hlen
  rw [hN] at hl
  have HX : Hid (∀ v at4 er, pRes ng d N = (v, at4, er) → WpX l v at4 er) := fun v at4 er h => by unfold WpX; rw [hng, hd, hN]; exact h
  have HGT : Hid (∀ k, k < D → ∃ (h : k < d.length) (h2 : ah + k < l.length), l[ah + k] = d[k]) := fun k hk => by
    subst hd
    obtain ⟨h2, h3⟩ := ahd_get (l := l) (k := k) (by rw [hD]; exact hk)
    subst hah
    exact ⟨by rw [hD]; exact hk, h2, h3⟩
  have HSL : Hid (∀ f, l.drop (ah + f) = d.drop f) := fun f => by rw [← hah, ← hd]; exact ahd_slice f
  have HNN : Hid (l.length = N ∧ d.length = D) := ⟨hN, hD⟩
  have HAH : Hid (ah = if ng then 1 else 0) := hah1
  have HNG : Hid (neg l = ng) := hng
  have hct : ∀ W, (Instr.index 9 (.string ⟨l.toArray⟩) (.int .i64 0)).run Try.prog W = (Instr.index 9 (.string ⟨l.toArray⟩) (.int .i64 0)).run Try.prog W := fun _ => rfl
  clear hct hah hng hd hD hah1 hN
  have B0 : Below w.heap.size w w := Below.refl _ _
  go_enter Try.func14, Try.ntmps14
  go_upto_region 2 with fail
  refine ent1 w _ _ (Q := fun W => Code.wp Try.prog _ _ _ W) ?_
  intro x1 hb hs1 V0
  replace B0 := step B0 hb
  clear hb hs1
  go_cut [15] (fun s15 wx => s15 = .bool ng ∧ wx = x1)
  case first =>
    have hng := HNG.out
    clear HX HGT HSL HNN HAH HNG
    cases l with
    | nil =>
      obtain rfl : ng = false := by rw [← hng]; rfl
      clear hng
      go_wp2_with fail
      go_meet
      exact ⟨rfl, rfl⟩
    | cons c r =>
      have hix := str_index4 (c :: r) 0 0 rfl c (by simp) rfl
      have hcc : ((c.toNat : Int) == 45) = ng := by
        rw [← hng, Bool.eq_iff_iff]
        unfold neg
        simp only [beq_iff_eq, decide_eq_true_eq, List.head?_cons, Option.some.injEq]
        constructor
        · intro h; exact UInt8.toNat_inj.1 (by have : c.toNat = 45 := by omega
                                               exact this)
        · intro h; rw [h]; rfl
      clear hng
      go_wp2_with fail
      go_meet
      exact ⟨by first | rfl | simp, rfl⟩
  case rest =>
    obtain ⟨rfl, hwx⟩ := hcut
    rw [hwx]
    clear hwx HNG
    go_upto_if 15 with fail
    go_cut [5] (fun s5 wx => s5 = .int .i64 ah ∧ wx = x1)
    case first =>
      have h := HAH.out
      cases ng
      · obtain rfl : ah = 0 := h
        go_wp2_with fail
        go_meet
        exact ⟨rfl, rfl⟩
      · obtain rfl : ah = 1 := h
        go_wp2_with fail
        go_meet
        exact ⟨rfl, rfl⟩
    case rest =>
      obtain ⟨rfl, hwx⟩ := hcut
      rw [hwx]
      clear hwx
      have hdi : (N : Int) - ah = D := by omega
      have c_V0 := V0.c0
      have f0_V0 := V0.frozen 0
      have d_V0 := V0.c1
      have f1_V0 := V0.frozen 1
      have l_V0 := V0.lt
      have m_V0 := Nat.le_of_lt l_V0
      by_cases hL : 262144 < D
      · have hLi : (262144 : Int) < D := by omega
        have hLn : decide (262144 < D) = true := decide_eq_true hL
        go_wp2_with fail
        refine bodyPost_ret (results_itt4 rfl rfl (V0.set2 _ _)) rfl ?_
        exact ⟨false, none, 0, 0, [], 0, 3, rfl, Ir.nil4 _, HX.out _ _ _ (by rw [pRes_long (by rw [HNN.out.2]; exact hL)]; rfl), below_2 B0 (Nat.le_refl _) _ _⟩
      have hLi : ¬ (262144 : Int) < D := by omega
      have hLn : decide (262144 < D) = false := decide_eq_false hL
      have K0 : Hid (Dig 10 (d.take 0)) := by show Dig 10 _; simpa using Dig.nil 10
      go_wp2_with fail
      go_loopw [6] (fun ii W => ∃ (k i : Nat), ii = .int .i64 i ∧ Hid (i = ah + k) ∧ k ≤ D ∧ i ≤ N ∧ Hid (Dig 10 (d.take k)) ∧ W = x1) (fun ii _ => N - (intOf ii).toNat)
      case atStart => exact ⟨0, ah, rfl, rfl, by omega, by omega, K0, rfl⟩
      case round =>
        clear K0
        obtain ⟨k, i, rfl, HI, hk, hiN, HK, hwr⟩ := hrel
        rw [hwr]
        clear hwr
        by_cases hlt : k < D
        · obtain ⟨h1, h2, h3⟩ := HGT.out k hlt
          have hi2 : i < N := by have := HI.out; omega
          have hii : (i : Int) < N := by omega
          have hix := str_index4 l i i rfl (d[k]) (by rw [HNN.out.1]; exact hi2) (by have e := HI.out; subst e; exact h3)
          obtain ⟨x, hx⟩ : ∃ x : Nat, d[k].toNat = x := ⟨_, rfl⟩
          by_cases hdg : wv d[k] < 10
          · have hb := wv_small hdg
            rw [hx] at hb hix
            have q1 : ¬ (x : Int) < 48 := by omega
            have q2 : ¬ (57 : Int) < x := by omega
            have q1n : decide (x < 48) = false := decide_eq_false (by omega)
            have q2n : decide (57 < x) = false := decide_eq_false (by omega)
            have q1b : decide ((x : Int) < 48) = false := decide_eq_false q1
            have HK2 : Hid (Dig 10 (d.take (k + 1))) := by
              show Dig 10 _
              rw [List.take_succ_eq_append_getElem h1]
              exact HK.out.append (fun c hc => by rw [List.mem_singleton.1 hc]; exact hdg)
            have HI2 : Hid (i + 1 = ah + (k + 1)) := by show _ = _; have := HI.out; omega
            clear hx hdg hb HK HI h3
            go_wp2_with fail
            go_roundw
            case rel => exact ⟨k + 1, i + 1, by go_num, HI2, by omega, by omega, HK2, trivial⟩
            case measure => simp [intOf]; omega
          have hbad : (x : Int) < 48 ∨ (57 : Int) < x := by
            rcases Nat.lt_or_ge x 48 with h | h
            · exact .inl (by omega)
            · exact .inr (by have := mt (wv_dig (d[k])).2 hdg; omega)
          have HPB : Hid (pRes ng d N = ((0 : Int), (i : Int), (31 : Int))) := by
            show _ = _
            rw [pRes_bad (by rw [HNN.out.2]; omega) h1 HK.out hdg, HNN.out.2]
            have := HI.out
            congr 2
            omega
          rw [hx] at hix
          clear hx hdg h3 HK
          rcases hbad with q1 | q2
          · have q1b : decide ((x : Int) < 48) = true := decide_eq_true q1
            have q1n : decide (x < 48) = true := decide_eq_true (by omega)
            go_wp2_with fail
            refine bodyPost_ret (results_itt4 rfl rfl (V0.set2 _ _)) rfl ?_
            exact ⟨false, none, 0, 0, [], i, 31, rfl, Ir.nil4 _, HX.out _ _ _ HPB.out, below_2 B0 (Nat.le_refl _) _ _⟩
          · have q1 : ¬ (x : Int) < 48 := by omega
            have q1b : decide ((x : Int) < 48) = false := decide_eq_false q1
            have q1n : decide (x < 48) = false := decide_eq_false (by omega)
            have q2n : decide (57 < x) = true := decide_eq_true (by omega)
            go_wp2_with fail
            refine bodyPost_ret (results_itt4 rfl rfl (V0.set2 _ _)) rfl ?_
            exact ⟨false, none, 0, 0, [], i, 31, rfl, Ir.nil4 _, HX.out _ _ _ HPB.out, below_2 B0 (Nat.le_refl _) _ _⟩
        · obtain rfl : k = D := by omega
          obtain rfl : i = N := by have := HI.out; omega
          have hii : ¬ (i : Int) < i := by omega
          have hdd : Dig 10 d := by have := HK.out; rw [List.take_of_length_le (by rw [HNN.out.2]; exact Nat.le_refl _)] at this; exact this
          have HDD : Hid (Dig 10 d) := hdd
          clear HK HI hdd
          by_cases hD0 : k = 0
          · have hea : (i : Int) = ah := by omega
            have heb : ((i : Int) == ah) = true := by simpa using hea
            have HPN : Hid (pRes ng d i = ((0 : Int), (ah : Int), (31 : Int))) := by
              show _ = _
              rw [show d = [] from List.eq_nil_of_length_eq_zero (by rw [HNN.out.2]; exact hD0), pRes_nil, hea]
            clear hea
            go_wp2_with fail
            refine bodyPost_ret (results_itt4 rfl rfl (V0.set2 _ _)) rfl ?_
            exact ⟨false, none, 0, 0, [], ah, 31, rfl, Ir.nil4 _, HX.out _ _ _ HPN.out, below_2 B0 (Nat.le_refl _) _ _⟩
          have hea : ¬ (i : Int) = ah := by omega
          have heb : ((i : Int) == ah) = false := by simpa using hea
          have Z0 : Hid (∀ j (hj : j < d.length), j < 0 → d[j] = 48) := fun j _ h => absurd h (by omega)
          go_wp2_with fail
          go_loopw [7] (fun ff W => ∃ (f i2 : Nat), ff = .int .i64 i2 ∧ Hid (i2 = ah + f) ∧ f ≤ k ∧ i2 ≤ i ∧ Hid (∀ j (hj : j < d.length), j < f → d[j] = 48) ∧ W = x1) (fun ff _ => i - (intOf ff).toNat)
          case atStart => exact ⟨0, ah, rfl, rfl, by omega, by omega, Z0, rfl⟩
          case round =>
            clear Z0 hea heb
            obtain ⟨f, i2, rfl, HF, hf, hi2, HZ, hwr⟩ := hrel
            rw [hwr]
            clear hwr
            have hL2 : k ≤ 262144 := by omega
            have hdn : d ≠ [] := fun e => by have := HNN.out.2; rw [e] at this; simp at this; omega
            have HPG : Hid (pRes ng d i = if ng = true ∧ tv 10 d = 0 then (0, 0, 31) else if (tv 10 d : Int) < pw 4096 then ((if ng then -(tv 10 d : Int) else tv 10 d), 0, 0) else (0, 0, 3)) := pRes_good (by rw [HNN.out.2]; exact hL2) hdn HDD.out
            have HTR : Hid (tv 10 d = tv 10 (d.drop f)) := tv_rest (by rw [HNN.out.2]; exact hf) HZ.out
            clear hdn
            by_cases hfk : f < k
            · obtain ⟨h1, h2, h3⟩ := HGT.out f hfk
              have hi3 : i2 < i := by have := HF.out; omega
              have hii2 : (i2 : Int) < i := by omega
              have hix := str_index4 l i2 i2 rfl (d[f]) (by rw [HNN.out.1]; exact hi3) (by have e := HF.out; subst e; exact h3)
              obtain ⟨x, hx⟩ : ∃ x : Nat, d[f].toNat = x := ⟨_, rfl⟩
              by_cases hz : d[f] = 48
              · obtain rfl : x = 48 := by rw [← hx, hz]; rfl
                rw [hx] at hix
                have HZ2 : Hid (∀ j (hj : j < d.length), j < f + 1 → d[j] = 48) := fun j hj h => by
                  rcases Nat.lt_or_ge j f with h4 | h4
                  · exact HZ.out j hj h4
                  · have e : j = f := by omega
                    subst e
                    exact hz
                have HF2 : Hid (i2 + 1 = ah + (f + 1)) := by show _ = _; have := HF.out; omega
                clear hx hz HZ HF h3
                go_wp2_with fail
                go_roundw
                case rel => exact ⟨f + 1, i2 + 1, by go_num, HF2, by omega, by omega, HZ2, trivial⟩
                case measure => simp [intOf]; omega
              have hxn : ¬ x = 48 := fun e => hz (UInt8.toNat_inj.1 (by rw [hx, e]; rfl))
              have hxi : ¬ (x : Int) = 48 := by omega
              have HTT : Hid (10 ^ (k - f - 1) ≤ tv 10 (d.drop f)) := by
                have h := tv_top h1 HDD.out hz
                rw [HNN.out.2] at h
                exact h
              have HPO : Hid (0 < tv 10 d) := by show _ < _; rw [HTR.out]; exact Nat.lt_of_lt_of_le (Nat.pow_pos (by omega)) HTT.out
              rw [hx] at hix
              clear hx hz HZ h3
              have hkf : (i : Int) - i2 = (k - f : Nat) := by have := HF.out; omega
              obtain ⟨q, hq⟩ : ∃ q, k - f = q := ⟨_, rfl⟩
              rw [hq] at hkf HTT
              have hin : ¬ (i2 : Int) = i := by omega
              have hib : ((i2 : Int) == i) = false := by simpa using hin
              by_cases hb : 80000 < q
              · have hbi : (80000 : Int) < i - i2 := by omega
                have hbn : decide (80000 < q) = true := decide_eq_true hb
                have HPB : Hid (pRes ng d i = ((0 : Int), (0 : Int), (3 : Int))) := by
                  show _ = _
                  have h1 : pw 4096 ≤ (10 : Int) ^ (q - 1) := ten_huge (by omega)
                  have h2 : (10 : Int) ^ (q - 1) ≤ (tv 10 (d.drop f) : Int) := by exact_mod_cast HTT.out
                  have h3 := HPO.out
                  rw [HPG.out, if_neg (by omega), if_neg (by rw [HTR.out]; omega)]
                clear HTT HTR HPG HPO HF
                go_wp2_with fail
                refine bodyPost_ret (results_itt4 rfl rfl (V0.set2 _ _)) rfl ?_
                exact ⟨false, none, 0, 0, [], 0, 3, rfl, Ir.nil4 _, HX.out _ _ _ HPB.out, below_2 B0 (Nat.le_refl _) _ _⟩
              have hbi : ¬ (80000 : Int) < i - i2 := by omega
              have hbn : decide (80000 < q) = false := decide_eq_false hb
              clear HTT
              go_upto_region 22 with fail
              clear c_V0 f0_V0 d_V0 f1_V0 l_V0 m_V0
              have hsl := fun W => slice_lo l i2 i2 rfl (by rw [HNN.out.1]; exact hi2) W
              rw [HF.out, HSL.out f, ← HF.out] at hsl
              have hag : decide ((ah : Int) = 1) = ng := by
                have h := HAH.out
                cases ng
                · obtain rfl : ah = 0 := h
                  rfl
                · obtain rfl : ah = 1 := h
                  rfl
              have HAG : Hid (decide ((ah : Int) = 1) = ng) := hag
              have HDF : Hid (Dig 10 (d.drop f) ∧ (d.drop f).length ≤ 80000) := ⟨fun c hc => HDD.out c (List.mem_of_mem_drop hc), by rw [List.length_drop, HNN.out.2, hq]; omega⟩
              clear hag hix
              go_cut [8] (fun s8 wx => ∃ (g : Nat) (s' : Bool) (a' : Option Addr) (l' c' : Nat) (zs' : List Int), s8 = .pointer (some ⟨g, 0, none⟩) ∧ w.heap.size + 1 ≤ g ∧ l' ≤ 90000 ∧ Hid (Va wx g 29 #[.bool s', .slice a' l' c']) ∧ Hid (Ir wx s' a' l' c' zs' ∧ num zs' = (tv 10 d : Int) ∧ iv s' zs' = if ng then -(tv 10 d : Int) else tv 10 d) ∧ Hid (Va wx w.heap.size 29 #[.bool false, .slice none 0 0]) ∧ Hid (Below w.heap.size w wx))
              case first =>
                have hgB := V0.lt
                go_wp2_with fail
                refine (rdigits4 (d.drop f) HDF.out.1 HDF.out.2 _).mono ?_
                rintro e x3 ⟨a2, m2, c2, z2, rfl, h2, hu2, hc2, hm2, hn2, hb⟩
                replace V0 := Va.after hb V0
                replace B0 := step B0 hb
                clear hb
                go_wp2_with fail
                refine (rnew_any _ a2 m2 c2 z2 _ h2 hc2 (by omega)).mono ?_
                rintro e x4 ⟨s', a', l', c', zs', rfl, hr, hn3, hiv, hl3, hb⟩
                replace V0 := Va.after hb V0
                replace B0 := step B0 hb
                clear hb
                have HRV : Hid (num zs' = (tv 10 d : Int) ∧ iv s' zs' = if ng then -(tv 10 d : Int) else tv 10 d) := by
                  refine ⟨by rw [hn3, hn2, HTR.out], ?_⟩
                  have e : iv s' zs' = iv ng z2 := by rw [hiv] <;> (congr 1 <;> first | exact HAG.out | (simpa using HAG.out))
                  rw [e, HTR.out]
                  unfold iv
                  rw [hn2]
                have hl4 : l' ≤ 90000 := by omega
                clear h2 hu2 hn2 hn3 hiv hl3
                go_wp2_with fail
                refine ent1 x4 _ _ (Q := fun W => Met _ _ W) ?_
                intro x5 hb hsz VG
                have hgg : w.heap.size + 1 ≤ x4.heap.size := V0.lt
                replace V0 := Va.after hb V0
                replace hr := Ir.after hb hr
                replace B0 := step B0 hb
                clear hb hsz
                go_meet
                exact ⟨_, s', a', l', c', zs', rfl, hgg, hl4, VG, ⟨hr, HRV.out⟩, V0, B0⟩
              case rest =>
                clear V0 B0 hsl
                obtain ⟨g, s', a', l', c', zs', rfl, hg1, hl9, HVG, HR, HV0, HB⟩ := hcut
                have VG := HVG.out
                have V0 := HV0.out
                have hr := HR.out.1
                have B0 := HB.out
                have HRV : Hid (num zs' = (tv 10 d : Int) ∧ iv s' zs' = if ng then -(tv 10 d : Int) else tv 10 d) := HR.out.2
                have HUL : Hid (True → (4096 < l' ↔ pw 4096 ≤ (tv 10 d : Int)))  := fun _ => by
                  rw [← HRV.out.1, ← hr.2.1]
                  constructor
                  · intro h
                    rcases Int.lt_or_le (num zs') (pw 4096) with q2 | q2
                    · have := used_of_lt hr.1.2.1 q2; omega
                    · exact q2
                  · intro h
                    rcases Nat.lt_or_ge 4096 (usedN zs') with q2 | q2
                    · exact q2
                    · have := lt_of_used hr.1.2.1 q2; omega
                clear HVG HV0 HR HB
                have hus : usedN zs' = l' := hr.2.1
                have c_VG := VG.c0
                have f0_VG := VG.frozen 0
                have d_VG := VG.c1
                have f1_VG := VG.frozen 1
                have l_VG := VG.lt
                have m_VG := Nat.le_of_lt l_VG
                go_wp2_with fail
                clear c_VG f0_VG d_VG f1_VG l_VG m_VG
                refine (rlong4_any s' a' l' c' zs' _ hr (by omega)).mono ?_
                rintro e x9 ⟨rfl, hb⟩
                replace VG := Va.after hb VG
                replace V0 := Va.after hb V0
                replace hr := Ir.after hb hr
                replace B0 := step B0 hb
                clear hb
                rw [hus]
                have c_VG := VG.c0
                have f0_VG := VG.frozen 0
                have d_VG := VG.c1
                have f1_VG := VG.frozen 1
                have l_VG := VG.lt
                have m_VG := Nat.le_of_lt l_VG
                have c_V0 := V0.c0
                have f0_V0 := V0.frozen 0
                have d_V0 := V0.c1
                have f1_V0 := V0.frozen 1
                have l_V0 := V0.lt
                have m_V0 := Nat.le_of_lt l_V0
                by_cases hbig : 4096 < l'
                · have hbg : (4096 : Int) < l' := by omega
                  have hbd : decide ((4096 : Int) < l') = true := decide_eq_true hbg
                  have HPB : Hid (pRes ng d i = ((0 : Int), (0 : Int), (3 : Int))) := by
                    show _ = _
                    have h1 := (HUL.out True.intro).1 hbig
                    have h3 := HPO.out
                    rw [HPG.out, if_neg (by omega), if_neg (by omega)]
                  rw [hbd]
                  clear HPG HUL
                  go_wp2_with fail
                  refine bodyPost_ret (results_itt4 rfl rfl (V0.set2 _ _)) rfl ?_
                  exact ⟨false, none, 0, 0, [], 0, 3, rfl, Ir.nil4 _, HX.out _ _ _ HPB.out, below_2 B0 (Nat.le_refl _) _ _⟩
                have hbg : ¬ (4096 : Int) < l' := by omega
                have hbd : decide ((4096 : Int) < l') = false := decide_eq_false hbg
                have HPB : Hid (pRes ng d i = (iv s' zs', (0 : Int), (0 : Int))) := by
                  show _ = _
                  have h1 := mt (HUL.out True.intro).2 hbig
                  have h3 := HPO.out
                  rw [HPG.out, if_neg (by omega), if_pos (by omega), HRV.out.2]
                rw [hbd]
                clear HPG HUL
                go_wp2_with fail
                refine bodyPost_ret (results_itt4 rfl rfl (V0.set2 _ _)) rfl ?_
                exact ⟨s', a', l', c', zs', 0, 0, rfl, hr.far V0 (noInt2 _ _ _ _) (far2 _ _ _ _), HX.out _ _ _ HPB.out, below_2 B0 (Nat.le_refl _) _ _⟩
            · obtain rfl : f = k := by omega
              obtain rfl : i2 = i := by have := HF.out; omega
              have HT0 : Hid (tv 10 d = 0) := by show _ = _; rw [HTR.out, List.drop_eq_nil_of_le (by rw [HNN.out.2]; exact Nat.le_refl _)]; rfl
              have hnn : ¬ (i2 : Int) < i2 := by omega
              have h := HAH.out
              clear HTR HZ HF
              cases ng
              · obtain rfl : ah = 0 := h
                have HPZ : Hid (pRes false d i2 = ((0 : Int), (0 : Int), (0 : Int))) := by
                  show _ = _
                  rw [HPG.out, HT0.out]
                  have := pw_pos4
                  simp [this]
                clear HPG HT0
                go_wp2_with fail
                refine bodyPost_ret (results_itt4 rfl rfl (V0.set2 _ _)) rfl ?_
                exact ⟨false, none, 0, 0, [], 0, 0, rfl, Ir.nil4 _, HX.out _ _ _ HPZ.out, below_2 B0 (Nat.le_refl _) _ _⟩
              · obtain rfl : ah = 1 := h
                have HPZ : Hid (pRes true d i2 = ((0 : Int), (0 : Int), (31 : Int))) := by
                  show _ = _
                  rw [HPG.out, HT0.out]
                  have := pw_pos4
                  simp
                clear HPG HT0
                go_wp2_with fail
                refine bodyPost_ret (results_itt4 rfl rfl (V0.set2 _ _)) rfl ?_
                exact ⟨false, none, 0, 0, [], 0, 31, rfl, Ir.nil4 _, HX.out _ _ _ HPZ.out, below_2 B0 (Nat.le_refl _) _ _⟩
end Go.Proofs.Ytpfbcicjfnfpgaa
