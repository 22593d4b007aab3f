/-
  The document's reading of a decimal: Parse.
-/
import Derived.Test.YtebbblhafjaaiaaGreatDoorDp1
namespace Go.Proofs.YtebbblhafjaaiaaGreatDoor
open Go.RowKit Go.Shelf
set_option linter.unusedVariables false
theorem wv_d6 {c : UInt8} (h1 : 48 ≤ c.toNat) (h2 : c.toNat ≤ 57) : wv c = c.toNat - 48 := by unfold wv; rw [if_pos ⟨h1, h2⟩]
theorem runits6 (a : Option Addr) (m c : Nat) (zs : List Int) (n : Nat) (neg : Bool) (w : World) (hs : Sl w a m zs) (hc : m ≤ c) (hm : m ≤ 1) (hn : num zs = (n : Int)) :
    Calls Tryz.prog 60 #[.slice a m c, .bool neg] w fun e w' => e = .returned (.tuple #[.int .i64 (if fits (sgn neg n) then sgn neg n else 0), .bool (fits (sgn neg n))]) ∧ w' = w := by
  obtain ⟨hl, hL, hcell⟩ := hs
  match m, hm with
  | 0, _ =>
    have e1 := List.length_eq_zero_iff.1 hl
    subst e1
    obtain rfl : n = 0 := by simp [num] at hn; omega
    obtain ⟨f1, f2⟩ := fits_zero neg
    rw [f1, f2]
    exact runits6_nil a c neg w
  | 1, _ =>
    obtain ⟨z, rfl⟩ := List.length_eq_one_iff.1 hl
    obtain ⟨b, off, rfl, hcc⟩ := hcell (by omega)
    have h0 := hcc 0 (by omega)
    have hz := hL z (by simp)
    have hzn : z = n := by simpa [num] using hn
    have := runits6_one b off c z hz.1 hz.2 neg w h0 hc
    rw [hzn] at this
    exact this
set_option maxHeartbeats 4000000 in
set_option maxRecDepth 8000 in
theorem rparse6 (s : List UInt8) (hs : s.length ≤ 140737488355328) (w : World) :
    Calls Tryz.prog 21 #[.string ⟨s.toArray⟩] w fun e W' => e = .returned (.tuple #[.agg #[.int .i64 (readL s).1, .int .i64 (readL s).2.1], .int .i64 (readL s).2.2.1, .int .i64 (readL s).2.2.2]) ∧ Below w.heap.size w W' := by
  have hsh := rshape6 s hs
  rcases shL_cases s with ⟨k, hk⟩ | ⟨p, hp⟩
  · have hr := readL_wrong s hk
    rw [hr]
    obtain ⟨q, hq⟩ : ∃ q, (shL s).2 = q := ⟨_, rfl⟩
    rw [hk, hq] at hsh
    have hk0 : (0 : Int) ≤ k := by omega
    clear hr hk hq
    have B0 : Below w.heap.size w w := Below.refl _ _
    go_enter Tryz.func21, Tryz.ntmps21
    go_wp2_with fail
    refine ent1 w _ _ (Q := fun W => Calls Tryz.prog _ _ W _) ?_
    intro x1 hb hs_x1 V0
    replace B0 := step B0 hb
    clear hb hs_x1
    refine (hsh _).mono ?_
    rintro e w' ⟨rfl, hw'⟩
    rw [hw']
    clear hw' hsh
    have c_V0 := V0.c0
    have f0_V0 := V0.frozen 0
    have d_V0 := V0.c1
    have f1_V0 := V0.frozen 1
    have l_V0 := V0.lt
    have m_V0 := Nat.le_of_lt l_V0
    go_wp2_with fail
    refine bodyPost_ret (results_dtt rfl rfl (V0.set2 _ _)) rfl ?_
    exact ⟨rfl, below_2 B0 (Nat.le_refl _) _ _⟩
  · have hok := shape_ok s hp
    have HR : Hid (∀ e, endL s p e → readL s = if 9223372036854775808 < dvL (s.take e) ∨ fits (sgn (decide (s.head? = some 45)) (dvL (s.take e))) = false ∨ 9 < e - p - 1 then (0, 0, 0, 5) else (sgn (decide (s.head? = some 45)) (dvL (s.take e)), e - p - 1, 0, 0)) := fun e he => readL_right s hp he
    obtain ⟨R, hR⟩ : ∃ R, readL s = R := ⟨_, rfl⟩
    rw [hR] at HR ⊢
    rw [hp] at hsh
    have hpl : p ≤ s.length ∧ 0 < s.length ∧ (p = s.length ∨ p + 1 < s.length) := by
      obtain ⟨a, b, ha, hb, ha0, hpa, hcase⟩ := hok
      have := List.length_pos_iff.2 ha0
      rcases hcase with ⟨h1, -, -⟩ | ⟨h1, -, -⟩ <;> omega
    obtain ⟨hp1, hl0, hp2⟩ := hpl
    have HP2 : Hid (p = s.length ∨ p + 1 < s.length) := hp2
    have hl0i : (0 : Int) < s.length := by omega
    have hby0 := byte6 s 0 hl0
    obtain ⟨c0, hc0⟩ : ∃ c, s.getD 0 0 = c := ⟨_, rfl⟩
    rw [hc0] at hby0
    obtain ⟨neg, hneg⟩ : ∃ neg, decide (s.head? = some 45) = neg := ⟨_, rfl⟩
    rw [hneg] at HR
    have hng := minus_first s hl0
    rw [hneg, hc0] at hng
    clear hok hR hp hp2 hc0 hneg
    have B0 : Below w.heap.size w w := Below.refl _ _
    go_enter Tryz.func21, Tryz.ntmps21
    go_wp2_with fail
    refine ent1 w _ _ (Q := fun W => Calls Tryz.prog _ _ W _) ?_
    intro x1 hb hs_x1 V0
    replace B0 := step B0 hb
    clear hb hs_x1
    refine (hsh _).mono ?_
    rintro e w' ⟨rfl, hw'⟩
    rw [hw']
    clear hw' hsh
    have HV0 : Hid (Va x1 w.heap.size _ _) := V0
    have HB0 : Hid (Below w.heap.size w x1) := B0
    clear V0 B0
    go_wp2_with fail
    go_loopw [8] (fun ev W => ∃ e : Nat, ev = .int .i64 e ∧ e ≤ s.length ∧ (p + 1 ≤ e ∨ e = s.length) ∧ Hid (∀ j, e ≤ j → j < s.length → s.getD j 0 = 48) ∧ Hid (W = x1)) (fun ev _ => (intOf ev).toNat)
    case atStart => exact ⟨s.length, rfl, Nat.le_refl _, .inr rfl, fun j h1 h2 => absurd h2 (by omega), rfl⟩
    case round =>
      obtain ⟨e, rfl, he, hpe, HJ, HW⟩ := hrel
      rw [show wr = x1 from HW.out]
      clear HW
      by_cases h1 : p + 1 < e
      · have h1i : (p : Int) + 1 < e := by omega
        have h1n : decide (p + 1 < e) = true := decide_eq_true h1
        have hbe := byte6 s (e - 1) (by omega)
        have hei : ((e : Int) - 1).toNat = e - 1 := by omega
        have he1 : (0 : Int) ≤ (e : Int) - 1 := by omega
        have he2 : (e : Int) - 1 < s.length := by omega
        obtain ⟨c, hc⟩ : ∃ c, s.getD (e - 1) 0 = c := ⟨_, rfl⟩
        rw [hc] at hbe
        by_cases h48 : c = 48
        · subst h48
          have HJ2 : Hid (∀ j, e - 1 ≤ j → j < s.length → s.getD j 0 = 48) := fun j h2 h3 => by
            rcases Nat.lt_or_ge j e with h4 | h4
            · rw [show j = e - 1 from by omega]; exact hc
            · exact HJ.out j h4 h3
          clear HJ hc
          go_wp2_with fail
          go_roundw
          case rel => exact ⟨e - 1, by go_num, by omega, .inl (by omega), HJ2, by first | exact rfl | exact trivial⟩
          case measure => simp [intOf]; omega
        · have hcn : ((c.toNat : Int) == 48) = false := by simp; intro h; exact h48 (UInt8.toNat_inj.1 (by simpa using (by omega : c.toNat = 48)))
          have hcm : ¬ (c.toNat : Int) = 48 := by simpa using hcn
          have HE : Hid (endL s p e) := .inr ⟨by omega, he, fun _ h => h48 (hc.symm.trans h), HJ.out⟩
          clear hc
          obtain ⟨d, hd⟩ : ∃ d, e - p - 1 = d := ⟨_, rfl⟩
          have HD : Hid (e - p - 1 = d) := hd
          have hmx : max (0 : Int) ((e : Int) - p - 1) = d := by omega
          clear hd hpe HJ
          go_wp2_with fail
          have D0 : Hid (dvL (s.take 0) = 0) := by show _ = _; rfl
          go_loopw [10, 11] (fun nv iv W => ∃ n k : Nat, nv = .int .u64 n ∧ iv = .int .i64 k ∧ k ≤ e ∧ n ≤ 9223372036854775808 ∧ Hid (dvL (s.take k) = n) ∧ Hid (W = x1)) (fun _ iv _ => ((e : Int) - intOf iv).toNat)
          case atStart => exact ⟨0, 0, rfl, rfl, by omega, by omega, D0, rfl⟩
          case round =>
            obtain ⟨n, k, rfl, rfl, hke, hn, HN, HW2⟩ := hrel
            rename_i wr2
            try rw [show wr = x1 from HW2.out]
            try rw [show wr2 = x1 from HW2.out]
            clear D0 HW2 hmx
            by_cases hlt : k < e
            · have hki : (k : Int) < e := by omega
              have hkl : (k : Int) < s.length := by omega
              have hby := byte6 s k (by omega)
              have hst := dvL_step s (k := k) (by omega)
              have hmono : dvL (s.take (k + 1)) ≤ dvL (s.take e) := by
                have := dvL_mono (s.take (k + 1)) ((s.drop (k + 1)).take (e - (k + 1)))
                rwa [← List.take_add, show k + 1 + (e - (k + 1)) = e from by omega] at this
              obtain ⟨c, hc⟩ : ∃ c, s.getD k 0 = c := ⟨_, rfl⟩
              rw [hc, HN.out] at hst
              rw [hc] at hby
              have hdg := rdigit6 c x1
              have hdi := isD_iff c
              clear hc HN
              cases hd : isD c
              · rw [hd] at hdg hst
                have HN2 : Hid (dvL (s.take (k + 1)) = n) := hst
                clear hst hmono hdi hd
                go_wp2_with fail
                go_at_call 59
                refine hdg.mono ?_
                rintro e2 w3 ⟨rfl, hw3⟩
                rw [hw3]
                clear hw3 hdg
                go_wp2_with fail
                go_roundw
                case rel => exact ⟨n, k + 1, rfl, by go_num, by omega, hn, HN2, by first | exact rfl | exact trivial⟩
                case measure => simp [intOf]; omega
              · have hd2 := hdi.1 hd
                rw [hd, if_pos rfl, wv_d6 hd2.1 hd2.2] at hst
                rw [hd] at hdg
                obtain ⟨v, hv⟩ : ∃ v, c.toNat - 48 = v := ⟨_, rfl⟩
                have hv9 : v ≤ 9 := by omega
                rw [hv] at hst
                have wx : IntKind.u64.wrap ((c.toNat : Int) - 48) = v := by rw [IntKind.wrap_u64]; omega
                have wc : IntKind.u64.wrap (c.toNat : Int) = c.toNat := by rw [IntKind.wrap_u64]; omega
                have HVV : Hid ((c.toNat : Int) - 48 = v) := by show _ = _; omega
                clear hdi hd hd2 hv
                by_cases hbig : 922337203685477580 < n
                · have hbi : (922337203685477580 : Int) < n := by omega
                  have hbn : decide (922337203685477580 < n) = true := decide_eq_true hbig
                  have HE5 : Hid (R = (0, 0, 0, 5)) := by
                    show _ = _
                    rw [HR.out e HE.out, if_pos (Or.inl (by omega))]
                  have hR5 := HE5.out
                  subst hR5
                  clear HE5 HR
                  clear hst hmono HD HE
                  go_wp2_with fail
                  go_at_call 59
                  refine hdg.mono ?_
                  rintro e2 w3 ⟨rfl, hw3⟩
                  rw [hw3]
                  clear hw3 hdg
                  have V0 := HV0.out
                  have B0 := HB0.out
                  clear HV0 HB0
                  have c_V0 := V0.c0
                  have f0_V0 := V0.frozen 0
                  have d_V0 := V0.c1
                  have f1_V0 := V0.frozen 1
                  have l_V0 := V0.lt
                  have m_V0 := Nat.le_of_lt l_V0
                  go_wp2_with fail
                  refine bodyPost_ret (results_dtt rfl rfl (V0.set2 _ _)) rfl ?_
                  exact ⟨rfl, below_2 B0 (Nat.le_refl _) _ _⟩
                · have hbi : ¬ (922337203685477580 : Int) < n := by omega
                  have hbn : decide (922337203685477580 < n) = false := decide_eq_false hbig
                  obtain ⟨V, hV⟩ : ∃ V, n * 10 + v = V := ⟨_, rfl⟩
                  rw [hV] at hst
                  have hVi : 10 * (n : Int) + v = V := by omega
                  have wV : IntKind.u64.wrap (V : Int) = V := by rw [IntKind.wrap_u64]; omega
                  have w10 : IntKind.u64.wrap (10 * (n : Int)) = 10 * n := by rw [IntKind.wrap_u64]; omega
                  by_cases hb2 : 9223372036854775808 < V
                  · have hbi2 : (9223372036854775808 : Int) < V := by omega
                    have hbn2 : decide (9223372036854775808 < V) = true := decide_eq_true hb2
                    have HE5 : Hid (R = (0, 0, 0, 5)) := by
                      show _ = _
                      rw [HR.out e HE.out, if_pos (Or.inl (by omega))]
                    have hR5 := HE5.out
                    subst hR5
                    clear HE5 HR
                    clear hst hmono HD HE hV
                    go_wp2_with fail
                    go_at_call 59
                    refine hdg.mono ?_
                    rintro e2 w3 ⟨rfl, hw3⟩
                    rw [hw3]
                    clear hw3 hdg
                    have V0 := HV0.out
                    have B0 := HB0.out
                    clear HV0 HB0
                    have c_V0 := V0.c0
                    have f0_V0 := V0.frozen 0
                    have d_V0 := V0.c1
                    have f1_V0 := V0.frozen 1
                    have l_V0 := V0.lt
                    have m_V0 := Nat.le_of_lt l_V0
                    go_wp2_with fail
                    refine bodyPost_ret (results_dtt rfl rfl (V0.set2 _ _)) rfl ?_
                    exact ⟨rfl, below_2 B0 (Nat.le_refl _) _ _⟩
                  · have hbi2 : ¬ (9223372036854775808 : Int) < V := by omega
                    have hbn2 : decide (9223372036854775808 < V) = false := decide_eq_false hb2
                    have HN2 : Hid (dvL (s.take (k + 1)) = V) := hst
                    clear hst hmono hV
                    go_wp2_with fail
                    go_at_call 59
                    refine hdg.mono ?_
                    rintro e2 w3 ⟨rfl, hw3⟩
                    rw [hw3]
                    clear hw3 hdg
                    go_wp2_with fail
                    go_roundw
                    case rel => exact ⟨V, k + 1, rfl, by go_num, by omega, by omega, HN2, by first | exact rfl | exact trivial⟩
                    case measure => simp [intOf]; omega
            · have hki : ¬ (k : Int) < e := by omega
              obtain rfl : k = e := by omega
              have HRR := HR.out k HE.out
              rw [HN.out, HD.out] at HRR
              obtain ⟨F, hF⟩ : ∃ F, fits (sgn neg n) = F := ⟨_, rfl⟩
              have HF : Hid (fits (sgn neg n) = F) := hF
              have HR2 : Hid (R = if F = false ∨ 9 < d then (0, 0, 0, 5) else (sgn neg n, d, 0, 0)) := by
                show _ = _
                rw [HRR, hF]
                have h0 : ¬ 9223372036854775808 < n := by omega
                simp only [h0, false_or]
              clear HRR hF HR HE HD HN
              go_wp2_with fail
              refine (rsmall_any (n : Int) ⟨by omega, by omega⟩ _).mono ?_
              rintro e2 x2 ⟨a2, m2, c2, zs, rfl, hc2, hm2, hs2, hu2, hn2, hb2⟩
              have HV1 : Hid (Va x2 w.heap.size _ _) := Va.after hb2 HV0.out
              have HB1 : Hid (Below w.heap.size w x2) := step HB0.out hb2
              clear hb2 HV0 HB0
              have hun := runits6 a2 m2 c2 zs n neg x2 hs2 hc2 hm2 hn2
              rw [HF.out] at hun
              clear hs2 hu2 hn2
              go_wp2_with fail
              refine hun.mono ?_
              rintro e2 w3 ⟨rfl, hw3⟩
              rw [hw3]
              clear hw3 hun
              have V0 := HV1.out
              have B0 := HB1.out
              clear HV1 HB1
              have c_V0 := V0.c0
              have f0_V0 := V0.frozen 0
              have d_V0 := V0.c1
              have f1_V0 := V0.frozen 1
              have l_V0 := V0.lt
              have m_V0 := Nat.le_of_lt l_V0
              cases F
              · have hR5 : R = (0, 0, 0, 5) := by rw [HR2.out, if_pos (Or.inl rfl)]
                subst hR5
                clear HR2 HF
                go_wp2_with fail
                refine bodyPost_ret (results_dtt rfl rfl (V0.set2 _ _)) rfl ?_
                exact ⟨rfl, below_2 B0 (Nat.le_refl _) _ _⟩
              · by_cases h9 : 9 < d
                · have h9i : (9 : Int) < d := by omega
                  have h9n : decide (9 < d) = true := decide_eq_true h9
                  have hR5 : R = (0, 0, 0, 5) := by rw [HR2.out, if_pos (Or.inr h9)]
                  subst hR5
                  clear HR2 HF
                  go_wp2_with fail
                  refine bodyPost_ret (results_dtt rfl rfl (V0.set2 _ _)) rfl ?_
                  exact ⟨rfl, below_2 B0 (Nat.le_refl _) _ _⟩
                · have h9i : ¬ (9 : Int) < d := by omega
                  have h9n : decide (9 < d) = false := decide_eq_false h9
                  have hR5 : R = (sgn neg n, d, 0, 0) := by rw [HR2.out, if_neg (by rintro (h | h); cases h; exact h9 h)]
                  subst hR5
                  clear HR2 HF
                  go_wp2_with fail
                  refine bodyPost_ret (results_dtt rfl rfl (V0.set2 _ _)) rfl ?_
                  exact ⟨rfl, below_2 B0 (Nat.le_refl _) _ _⟩
      · have h1i : ¬ (p : Int) + 1 < e := by omega
        have h1n : decide (p + 1 < e) = false := decide_eq_false h1
        have HE : Hid (endL s p e) := by
          rcases HP2.out with h | h
          · exact .inl ⟨h, by omega⟩
          · exact .inr ⟨by omega, he, fun h2 => absurd h2 h1, HJ.out⟩
        obtain ⟨d, hd⟩ : ∃ d, e - p - 1 = d := ⟨_, rfl⟩
        have HD : Hid (e - p - 1 = d) := hd
        have hmx : max (0 : Int) ((e : Int) - p - 1) = d := by omega
        clear hd hpe HJ
        go_wp2_with fail
        have D0 : Hid (dvL (s.take 0) = 0) := by show _ = _; rfl
        go_loopw [10, 11] (fun nv iv W => ∃ n k : Nat, nv = .int .u64 n ∧ iv = .int .i64 k ∧ k ≤ e ∧ n ≤ 9223372036854775808 ∧ Hid (dvL (s.take k) = n) ∧ Hid (W = x1)) (fun _ iv _ => ((e : Int) - intOf iv).toNat)
        case atStart => exact ⟨0, 0, rfl, rfl, by omega, by omega, D0, rfl⟩
        case round =>
          obtain ⟨n, k, rfl, rfl, hke, hn, HN, HW2⟩ := hrel
          rename_i wr2
          try rw [show wr = x1 from HW2.out]
          try rw [show wr2 = x1 from HW2.out]
          clear D0 HW2 hmx
          by_cases hlt : k < e
          · have hki : (k : Int) < e := by omega
            have hkl : (k : Int) < s.length := by omega
            have hby := byte6 s k (by omega)
            have hst := dvL_step s (k := k) (by omega)
            have hmono : dvL (s.take (k + 1)) ≤ dvL (s.take e) := by
              have := dvL_mono (s.take (k + 1)) ((s.drop (k + 1)).take (e - (k + 1)))
              rwa [← List.take_add, show k + 1 + (e - (k + 1)) = e from by omega] at this
            obtain ⟨c, hc⟩ : ∃ c, s.getD k 0 = c := ⟨_, rfl⟩
            rw [hc, HN.out] at hst
            rw [hc] at hby
            have hdg := rdigit6 c x1
            have hdi := isD_iff c
            clear hc HN
            cases hd : isD c
            · rw [hd] at hdg hst
              have HN2 : Hid (dvL (s.take (k + 1)) = n) := hst
              clear hst hmono hdi hd
              go_wp2_with fail
              go_at_call 59
              refine hdg.mono ?_
              rintro e2 w3 ⟨rfl, hw3⟩
              rw [hw3]
              clear hw3 hdg
              go_wp2_with fail
              go_roundw
              case rel => exact ⟨n, k + 1, rfl, by go_num, by omega, hn, HN2, by first | exact rfl | exact trivial⟩
              case measure => simp [intOf]; omega
            · have hd2 := hdi.1 hd
              rw [hd, if_pos rfl, wv_d6 hd2.1 hd2.2] at hst
              rw [hd] at hdg
              obtain ⟨v, hv⟩ : ∃ v, c.toNat - 48 = v := ⟨_, rfl⟩
              have hv9 : v ≤ 9 := by omega
              rw [hv] at hst
              have wx : IntKind.u64.wrap ((c.toNat : Int) - 48) = v := by rw [IntKind.wrap_u64]; omega
              have wc : IntKind.u64.wrap (c.toNat : Int) = c.toNat := by rw [IntKind.wrap_u64]; omega
              have HVV : Hid ((c.toNat : Int) - 48 = v) := by show _ = _; omega
              clear hdi hd hd2 hv
              by_cases hbig : 922337203685477580 < n
              · have hbi : (922337203685477580 : Int) < n := by omega
                have hbn : decide (922337203685477580 < n) = true := decide_eq_true hbig
                have HE5 : Hid (R = (0, 0, 0, 5)) := by
                  show _ = _
                  rw [HR.out e HE.out, if_pos (Or.inl (by omega))]
                have hR5 := HE5.out
                subst hR5
                clear HE5 HR
                clear hst hmono HD HE
                go_wp2_with fail
                go_at_call 59
                refine hdg.mono ?_
                rintro e2 w3 ⟨rfl, hw3⟩
                rw [hw3]
                clear hw3 hdg
                have V0 := HV0.out
                have B0 := HB0.out
                clear HV0 HB0
                have c_V0 := V0.c0
                have f0_V0 := V0.frozen 0
                have d_V0 := V0.c1
                have f1_V0 := V0.frozen 1
                have l_V0 := V0.lt
                have m_V0 := Nat.le_of_lt l_V0
                go_wp2_with fail
                refine bodyPost_ret (results_dtt rfl rfl (V0.set2 _ _)) rfl ?_
                exact ⟨rfl, below_2 B0 (Nat.le_refl _) _ _⟩
              · have hbi : ¬ (922337203685477580 : Int) < n := by omega
                have hbn : decide (922337203685477580 < n) = false := decide_eq_false hbig
                obtain ⟨V, hV⟩ : ∃ V, n * 10 + v = V := ⟨_, rfl⟩
                rw [hV] at hst
                have hVi : 10 * (n : Int) + v = V := by omega
                have wV : IntKind.u64.wrap (V : Int) = V := by rw [IntKind.wrap_u64]; omega
                have w10 : IntKind.u64.wrap (10 * (n : Int)) = 10 * n := by rw [IntKind.wrap_u64]; omega
                by_cases hb2 : 9223372036854775808 < V
                · have hbi2 : (9223372036854775808 : Int) < V := by omega
                  have hbn2 : decide (9223372036854775808 < V) = true := decide_eq_true hb2
                  have HE5 : Hid (R = (0, 0, 0, 5)) := by
                    show _ = _
                    rw [HR.out e HE.out, if_pos (Or.inl (by omega))]
                  have hR5 := HE5.out
                  subst hR5
                  clear HE5 HR
                  clear hst hmono HD HE hV
                  go_wp2_with fail
                  go_at_call 59
                  refine hdg.mono ?_
                  rintro e2 w3 ⟨rfl, hw3⟩
                  rw [hw3]
                  clear hw3 hdg
                  have V0 := HV0.out
                  have B0 := HB0.out
                  clear HV0 HB0
                  have c_V0 := V0.c0
                  have f0_V0 := V0.frozen 0
                  have d_V0 := V0.c1
                  have f1_V0 := V0.frozen 1
                  have l_V0 := V0.lt
                  have m_V0 := Nat.le_of_lt l_V0
                  go_wp2_with fail
                  refine bodyPost_ret (results_dtt rfl rfl (V0.set2 _ _)) rfl ?_
                  exact ⟨rfl, below_2 B0 (Nat.le_refl _) _ _⟩
                · have hbi2 : ¬ (9223372036854775808 : Int) < V := by omega
                  have hbn2 : decide (9223372036854775808 < V) = false := decide_eq_false hb2
                  have HN2 : Hid (dvL (s.take (k + 1)) = V) := hst
                  clear hst hmono hV
                  go_wp2_with fail
                  go_at_call 59
                  refine hdg.mono ?_
                  rintro e2 w3 ⟨rfl, hw3⟩
                  rw [hw3]
                  clear hw3 hdg
                  go_wp2_with fail
                  go_roundw
                  case rel => exact ⟨V, k + 1, rfl, by go_num, by omega, by omega, HN2, by first | exact rfl | exact trivial⟩
                  case measure => simp [intOf]; omega
          · have hki : ¬ (k : Int) < e := by omega
            obtain rfl : k = e := by omega
            have HRR := HR.out k HE.out
            rw [HN.out, HD.out] at HRR
            obtain ⟨F, hF⟩ : ∃ F, fits (sgn neg n) = F := ⟨_, rfl⟩
            have HF : Hid (fits (sgn neg n) = F) := hF
            have HR2 : Hid (R = if F = false ∨ 9 < d then (0, 0, 0, 5) else (sgn neg n, d, 0, 0)) := by
              show _ = _
              rw [HRR, hF]
              have h0 : ¬ 9223372036854775808 < n := by omega
              simp only [h0, false_or]
            clear HRR hF HR HE HD HN
            go_wp2_with fail
            refine (rsmall_any (n : Int) ⟨by omega, by omega⟩ _).mono ?_
            rintro e2 x2 ⟨a2, m2, c2, zs, rfl, hc2, hm2, hs2, hu2, hn2, hb2⟩
            have HV1 : Hid (Va x2 w.heap.size _ _) := Va.after hb2 HV0.out
            have HB1 : Hid (Below w.heap.size w x2) := step HB0.out hb2
            clear hb2 HV0 HB0
            have hun := runits6 a2 m2 c2 zs n neg x2 hs2 hc2 hm2 hn2
            rw [HF.out] at hun
            clear hs2 hu2 hn2
            go_wp2_with fail
            refine hun.mono ?_
            rintro e2 w3 ⟨rfl, hw3⟩
            rw [hw3]
            clear hw3 hun
            have V0 := HV1.out
            have B0 := HB1.out
            clear HV1 HB1
            have c_V0 := V0.c0
            have f0_V0 := V0.frozen 0
            have d_V0 := V0.c1
            have f1_V0 := V0.frozen 1
            have l_V0 := V0.lt
            have m_V0 := Nat.le_of_lt l_V0
            cases F
            · have hR5 : R = (0, 0, 0, 5) := by rw [HR2.out, if_pos (Or.inl rfl)]
              subst hR5
              clear HR2 HF
              go_wp2_with fail
              refine bodyPost_ret (results_dtt rfl rfl (V0.set2 _ _)) rfl ?_
              exact ⟨rfl, below_2 B0 (Nat.le_refl _) _ _⟩
            · by_cases h9 : 9 < d
              · have h9i : (9 : Int) < d := by omega
                have h9n : decide (9 < d) = true := decide_eq_true h9
                have hR5 : R = (0, 0, 0, 5) := by rw [HR2.out, if_pos (Or.inr h9)]
                subst hR5
                clear HR2 HF
                go_wp2_with fail
                refine bodyPost_ret (results_dtt rfl rfl (V0.set2 _ _)) rfl ?_
                exact ⟨rfl, below_2 B0 (Nat.le_refl _) _ _⟩
              · have h9i : ¬ (9 : Int) < d := by omega
                have h9n : decide (9 < d) = false := decide_eq_false h9
                have hR5 : R = (sgn neg n, d, 0, 0) := by rw [HR2.out, if_neg (by rintro (h | h); cases h; exact h9 h)]
                subst hR5
                clear HR2 HF
                go_wp2_with fail
                refine bodyPost_ret (results_dtt rfl rfl (V0.set2 _ _)) rfl ?_
                exact ⟨rfl, below_2 B0 (Nat.le_refl _) _ _⟩
end Go.Proofs.YtebbblhafjaaiaaGreatDoor
