/-
  tokens: Cut.
-/
import Derived.Test.YtiedpclomplnmaaTc3
import Derived.WalkMore
namespace Go.Proofs.Ytiedpclomplnmaa
open Go.RowKit Go.Shelf
set_option linter.unusedVariables false

theorem results_tc {fn : Func} {i j b : Nat} {x y z : Value} {tmps : Array Value} {w : World} (h : fn.results = #[.tmp i, .cell j 29]) (hj : tmps.getD j undef = .pointer (some ⟨b, 0, none⟩)) (hv : Va w b 29 #[x, y, z]) :
    (results fn tmps).run Try.prog w = .ok (.tuple #[tmps.getD i undef, .agg #[x, y, z]]) w := by
  have c0 : w.cell? ⟨b, 0, none⟩ = some x := by rw [hv.cellAt 0]; rfl
  have c1 : w.cell? ⟨b, 1, none⟩ = some y := by rw [hv.cellAt 1]; rfl
  have c2 : w.cell? ⟨b, 2, none⟩ = some z := by rw [hv.cellAt 2]; rfl
  rw [Array.getD_eq_getD_getElem?] at hj
  simp [results, h, hj, c0, c1, c2, go_sem]
def CutE (w : World) (T : Cr) (e : Ending) (w' : World) : Prop := Below w.heap.size w w' ∧ ((∃ ts v, T = .ok ts ∧ e = .returned (.tuple #[v, .agg #[.int .i64 0, .int .i64 0, .int .i64 0]]) ∧ Gt w' w.heap.size v ts) ∨ (∃ l c : Nat, T = .no l c ∧ e = .returned (.tuple #[.slice none 0 0, .agg #[.int .i64 120, .int .i64 l, .int .i64 c]])))
theorem below_dN {n : Nat} {w w' : World} (h : Below n w w') (m : Nat) : Below n w (w'.drewN m) := h.trans ⟨rfl, rfl, rfl, Nat.le_refl _, fun _ _ => rfl⟩
theorem Va.drN {w : World} {b : Nat} {t : TypeId} {cs : Array Value} (h : Va w b t cs) (m : Nat) : Va (w.drewN m) b t cs := h
theorem cutE_no {w W : World} {T : Cr} {l c : Nat} {l' c' : Int} (h : T = .no l c) (hb : Below w.heap.size w W) (hc : c' = (c : Int)) (hl : l' = (l : Int)) :
    CutE w T (.returned (.tuple #[.slice none 0 0, .agg #[.int .i64 120, .int .i64 l', .int .i64 c']])) (((W.setCell ⟨w.heap.size, 0, none⟩ (.int .i64 120)).setCell ⟨w.heap.size, 1, none⟩ (.int .i64 l')).setCell ⟨w.heap.size, 2, none⟩ (.int .i64 c')) := by
  subst hc hl
  exact ⟨((hb.setCell (p := ⟨w.heap.size, 0, none⟩) (Nat.le_refl _) _).setCell (p := ⟨w.heap.size, 1, none⟩) (Nat.le_refl _) _).setCell (p := ⟨w.heap.size, 2, none⟩) (Nat.le_refl _) _, .inr ⟨l, c, h, rfl⟩⟩
theorem Gt.dr {w : World} {B : Nat} {v : Value} {ps : List Tk} (h : Gt w B v ps) (m : Nat) : Gt (w.drewN m) B v ps := h
theorem va_c (w : World) (cs : Array Value) (i : Nat) {t : TypeId} {v : Value} (h : cs[i]? = some v) : (w.alloc (.cells cs t)).cell? ⟨w.heap.size, i, none⟩ = some v := by
  rw [(Va.new w t cs).cellAt i]; exact h
theorem va_c3 (w : World) {a b c : Value} {x y : Int} {t : TypeId} (e : y = x) : (w.alloc (.cells #[a, b, c, .int .i64 x] t)).cell? ⟨w.heap.size, 3, none⟩ = some (.int .i64 y) := by
  subst e; exact va_c w _ 3 rfl
theorem Gt.dr1 {w : World} {B : Nat} {v : Value} {ps : List Tk} (h : Gt w B v ps) : Gt w.drew B v ps := h
theorem below_dr {n : Nat} {w w' : World} (h : Below n w w') : Below n w w'.drew := h.trans ⟨rfl, rfl, rfl, Nat.le_refl _, fun _ _ => rfl⟩
theorem cutE_ok {w W : World} {T : Cr} {ts : List Tk} {v : Value} {x y z : Value} (h : T = .ok ts) (hb : Below w.heap.size w W) (hg : Gt W (w.heap.size + 1) v ts) :
    CutE w T (.returned (.tuple #[v, .agg #[.int .i64 0, .int .i64 0, .int .i64 0]])) (((W.setCell ⟨w.heap.size, 0, none⟩ x).setCell ⟨w.heap.size, 1, none⟩ y).setCell ⟨w.heap.size, 2, none⟩ z) := by
  refine ⟨((hb.setCell (p := ⟨w.heap.size, 0, none⟩) (Nat.le_refl _) _).setCell (p := ⟨w.heap.size, 1, none⟩) (Nat.le_refl _) _).setCell (p := ⟨w.heap.size, 2, none⟩) (Nat.le_refl _) _, .inl ⟨ts, v, h, rfl, ?_⟩⟩
  refine (hg.kept (fun k hk => ?_)).le (by omega)
  have := hg.block k hk
  rw [heap_setCell_other _ _ k _ (by show k ≠ w.heap.size; omega), heap_setCell_other _ _ k _ (by show k ≠ w.heap.size; omega), heap_setCell_other _ _ k _ (by show k ≠ w.heap.size; omega)]
theorem cut_long (s : List UInt8) (w : World) (h : 65536 < s.length) : Calls Try.prog 14 #[sv s] w fun e w' => e = .returned (.tuple #[.slice none 0 0, .agg #[.int .i64 3, .int .i64 1, .int .i64 1]]) ∧ Below w.heap.size w w' := by
  have hi : (65536 : Int) < s.length := by omega
  go_enter Try.func14, Try.ntmps14
  go_wp2_with fail
  refine ent1 w _ _ (Q := fun W => Code.wp Try.prog _ _ _ W) ?_
  intro W0 hB0 hsz V0
  have f0 := V0.frozen 0
  have f1 := V0.frozen 1
  have f2 := V0.frozen 2
  have c0 : W0.cell? ⟨w.heap.size, 0, none⟩ = some (.int .i64 0) := V0.cellAt 0
  have c1 : W0.cell? ⟨w.heap.size, 1, none⟩ = some (.int .i64 0) := V0.cellAt 1
  have c2 : W0.cell? ⟨w.heap.size, 2, none⟩ = some (.int .i64 0) := V0.cellAt 2
  have HV0 : Hid (Va W0 w.heap.size 29 #[.int .i64 0, .int .i64 0, .int .i64 0]) := V0
  have HB0 : Hid (Below w.heap.size w W0) := hB0
  have hlt := V0.lt
  clear V0 hB0 hsz
  go_step3
  go_wp2_with fail
  rw [Exit.noGoto_ret]
  refine bodyPost_ret (results_tc rfl rfl (HV0.out.set3 _ _ _)) rfl ?_
  exact ⟨rfl, ((HB0.out.setCell (p := ⟨w.heap.size, 0, none⟩) (Nat.le_refl _) _).setCell (p := ⟨w.heap.size, 1, none⟩) (Nat.le_refl _) _).setCell (p := ⟨w.heap.size, 2, none⟩) (Nat.le_refl _) _⟩
set_option maxHeartbeats 1000000 in
set_option maxRecDepth 20000 in
theorem cut_any (s : List UInt8) (w : World) (h : s.length ≤ 65536) : Calls Try.prog 14 #[sv s] w (CutE w (cu s 1 1)) := by
  have hi : (s.length : Int) ≤ 65536 := by omega
  obtain ⟨T, hT⟩ : ∃ T, cu s 1 1 = T := ⟨_, rfl⟩
  rw [hT]
  have HT : Hid (cu s 1 1 = T) := hT
  clear hT
  go_enter Try.func14, Try.ntmps14
  go_wp2_with fail
  refine ent1 w _ _ (Q := fun W => Code.wp Try.prog _ _ _ W) ?_
  intro W0 hB0 hsz V0
  have HV0 : Hid (Va W0 w.heap.size 29 #[.int .i64 0, .int .i64 0, .int .i64 0]) := V0
  have HB0 : Hid (Below w.heap.size w W0 ∧ W0.heap.size = w.heap.size + 1) := ⟨hB0, hsz⟩
  clear V0 hB0 hsz
  go_step3
  go_wp2_with fail
  go_step3
  go_wp2_with fail
  go_loopw [4, 5, 6, 7] (fun li at_ ln st wr => ∃ (n l k : Nat) (acc : List Tk), at_ = .int .i64 n ∧ ln = .int .i64 l ∧ st = .int .i64 k ∧ n ≤ s.length ∧ k ≤ n ∧ l ≤ n + 1 ∧ acc.length ≤ n ∧ Hid (Gt wr (w.heap.size + 1) li acc) ∧ Hid (Cr.pre acc (cu (s.drop n) l (n - k + 1)) = T) ∧ Hid (Below (w.heap.size + 1) W0 wr)) (fun _ at_ _ _ _ => (s.length - (intOf at_).toNat : Nat))
  case atStart => exact ⟨0, 1, 0, [], rfl, rfl, rfl, Nat.zero_le _, Nat.le_refl _, by omega, Nat.zero_le _, Gt.nil _ _, by show _ = _; rw [List.drop_zero, Cr.pre_nil]; exact HT.out, Below.refl _ _⟩
  case round =>
    clear HT
    obtain ⟨n, l, k, acc, rfl, rfl, rfl, hn, hkn, hln, hac, HG, HN, HB⟩ := hrel
    obtain ⟨av, cv, rfl, -, -, -⟩ := HG.out.shape
    rcases Nat.lt_or_ge n s.length with hlt | hge
    · obtain ⟨c, hc, hcd⟩ := byte_at s n hlt
      have hat := str_at s n c hc
      have hin : (n : Int) < s.length := by omega
      have HC : Hid (s.drop n = c :: s.drop (n + 1)) := hcd
      have HN2 : Hid (Cr.pre acc (if c = 10 then cu (s.drop (n + 1)) (l + 1) 1 else if c = 32 ∨ c = 9 ∨ c = 13 then cu (s.drop (n + 1)) l (n - k + 1 + 1) else if c = 35 then cu ((s.drop (n + 1)).drop (rm (s.drop (n + 1)))) l (n - k + 1 + 1 + rm (s.drop (n + 1))) else if bad (s.drop n) = true then .no l (n - k + 1) else Cr.pre [⟨(lx (s.drop n)).1, (s.drop n).take (lx (s.drop n)).2, l, n - k + 1⟩] (cu ((s.drop n).drop (lx (s.drop n)).2) l (n - k + 1 + (lx (s.drop n)).2))) = T) := by
        have := HN.out
        rw [hcd, cu_cons] at this
        rw [← hcd] at this
        exact this
      clear hc hcd HN
      have e10 : ((c.toNat : Int) = 10) ↔ c = 10 := u8_eq c 10 (by omega)
      have e32 : ((c.toNat : Int) = 32) ↔ c = 32 := u8_eq c 32 (by omega)
      have e9 : ((c.toNat : Int) = 9) ↔ c = 9 := u8_eq c 9 (by omega)
      have e13 : ((c.toNat : Int) = 13) ↔ c = 13 := u8_eq c 13 (by omega)
      have e35 : ((c.toNat : Int) = 35) ↔ c = 35 := u8_eq c 35 (by omega)
      by_cases h10 : (c.toNat : Int) = 10
      · have HE : Hid (Cr.pre acc (cu (s.drop (n + 1)) (l + 1) ((n + 1) - (n + 1) + 1)) = T) := by
          have := HN2.out
          rw [if_pos (e10.1 h10)] at this
          rw [Nat.sub_self]; exact this
        have b10 : ((c.toNat : Int) == 10) = true := by simpa using h10
        clear HN2 HC e10 e32 e9 e13 e35 h10
        go_wp2_with fail
        go_roundw
        case rel => exact ⟨n + 1, l + 1, n + 1, acc, rfl, rfl, rfl, by omega, Nat.le_refl _, by omega, by omega, HG.out, HE.out, HB.out⟩
        case measure => simp [intOf]; omega
      · have b10 : ((c.toNat : Int) == 10) = false := by simpa using h10
        have n10 : ¬ c = 10 := fun h => h10 (e10.2 h)
        by_cases hbl : (c.toNat : Int) = 32 ∨ (c.toNat : Int) = 9 ∨ (c.toNat : Int) = 13
        · have HE : Hid (Cr.pre acc (cu (s.drop (n + 1)) l ((n + 1) - k + 1)) = T) := by
            have := HN2.out
            rw [if_neg n10, if_pos (by rcases hbl with h | h | h; exact .inl (e32.1 h); exact .inr (.inl (e9.1 h)); exact .inr (.inr (e13.1 h)))] at this
            rw [show n + 1 - k + 1 = n - k + 1 + 1 by omega]; exact this
          clear HN2 HC e10 e32 e9 e13 e35 n10 h10
          have hbs : (((c.toNat : Int) == 32) = true) ∨ (((c.toNat : Int) == 32) = false ∧ ((c.toNat : Int) == 9) = true) ∨ (((c.toNat : Int) == 32) = false ∧ ((c.toNat : Int) == 9) = false ∧ ((c.toNat : Int) == 13) = true) := by
            rcases hbl with h | h | h
            · left; simpa using h
            · right; left; exact ⟨by simp [h], by simpa using h⟩
            · right; right; exact ⟨by simp [h], by simp [h], by simpa using h⟩
          clear hbl
          rcases hbs with b32 | ⟨b32, b9⟩ | ⟨b32, b9, b13⟩
          · go_wp2_with fail
            go_roundw
            case rel => exact ⟨n + 1, l, k, acc, rfl, rfl, rfl, by omega, by omega, by omega, by omega, HG.out, HE.out, HB.out⟩
            case measure => simp [intOf]; omega
          · go_wp2_with fail
            go_roundw
            case rel => exact ⟨n + 1, l, k, acc, rfl, rfl, rfl, by omega, by omega, by omega, by omega, HG.out, HE.out, HB.out⟩
            case measure => simp [intOf]; omega
          · go_wp2_with fail
            go_roundw
            case rel => exact ⟨n + 1, l, k, acc, rfl, rfl, rfl, by omega, by omega, by omega, by omega, HG.out, HE.out, HB.out⟩
            case measure => simp [intOf]; omega
        · have b32 : ((c.toNat : Int) == 32) = false := by simp; omega
          have b9 : ((c.toNat : Int) == 9) = false := by simp; omega
          have b13 : ((c.toNat : Int) == 13) = false := by simp; omega
          have nbl : ¬ (c = 32 ∨ c = 9 ∨ c = 13) := by
            rintro (h | h | h)
            · exact hbl (.inl (e32.2 h))
            · exact hbl (.inr (.inl (e9.2 h)))
            · exact hbl (.inr (.inr (e13.2 h)))
          have hsl := slice_lo s n n rfl hn
          by_cases h35 : (c.toNat : Int) = 35
          · have b35 : ((c.toNat : Int) == 35) = true := by simpa using h35
            have hr := fun W => remark_any (s.drop n) W
            have hrl : rm (s.drop n) = rm (s.drop (n + 1)) + 1 := by
              rw [HC.out]
              show rn _ _ = rn _ _ + 1
              rw [rn, if_pos (by simpa using n10)]
            have hrm : rm (s.drop n) ≤ s.length - n := by have := rn_le (fun c => c != 10) (s.drop n); rw [List.length_drop] at this; exact this
            have HE : Hid (Cr.pre acc (cu (s.drop (n + rm (s.drop n))) l (n + rm (s.drop n) - k + 1)) = T) := by
              have := HN2.out
              rw [if_neg n10, if_neg nbl, if_pos (e35.1 h35), List.drop_drop] at this
              rw [hrl, show n + (rm (s.drop (n + 1)) + 1) = n + 1 + rm (s.drop (n + 1)) by omega, show n + 1 + rm (s.drop (n + 1)) - k + 1 = n - k + 1 + 1 + rm (s.drop (n + 1)) by omega]
              exact this
            have hr1 : 1 ≤ rm (s.drop n) := by omega
            clear HN2 HC e10 e32 e9 e13 e35 n10 h10 hbl nbl h35 hrl
            generalize rm (s.drop n) = q at *
            generalize s.drop n = Z at *
            go_wp2_with fail
            refine (hr _).mono ?_
            rintro e w' ⟨rfl, hw'⟩
            rw [hw']; clear hw' w'
            go_wp2_with fail
            go_roundw
            case rel => exact ⟨n + q, l, k, acc, by simp, rfl, rfl, by omega, by omega, by omega, by omega, HG.out, HE.out, HB.out⟩
            case measure => simp [intOf]; omega
          · have b35 : ((c.toNat : Int) == 35) = false := by simpa using h35
            have HN3 : Hid (Cr.pre acc (if bad (s.drop n) = true then .no l (n - k + 1) else Cr.pre [⟨(lx (s.drop n)).1, (s.drop n).take (lx (s.drop n)).2, l, n - k + 1⟩] (cu ((s.drop n).drop (lx (s.drop n)).2) l (n - k + 1 + (lx (s.drop n)).2))) = T) := by
              have := HN2.out
              rw [if_neg n10, if_neg nbl, if_neg (fun h => h35 (e35.2 h))] at this
              exact this
            have hlx := longest_any c (s.drop (n + 1))
            rw [← HC.out] at hlx
            have hlx := fun W => hlx W (by simp; omega)
            have hle : (lx (s.drop n)).2 ≤ s.length - n := by have := lx_le (s.drop n); simpa using this
            clear HN2 HC e10 e32 e9 e13 e35 n10 h10 hbl nbl h35
            have HBD : Hid (bad (s.drop n) = ((lx (s.drop n)).2 == 0 || ((lx (s.drop n)).1 != 5 && gs ((s.drop n).drop (lx (s.drop n)).2)))) := rfl
            have hgo := fun W => goesOn_any ((s.drop n).drop (lx (s.drop n)).2) W
            have hs2 := slice_lo s (n + (lx (s.drop n)).2 : Int) (n + (lx (s.drop n)).2) (by omega) (by omega)
            have hs3 := slice_mid s n (n + (lx (s.drop n)).2 : Int) n (n + (lx (s.drop n)).2) rfl (by omega) (by omega) (by omega)
            rw [show n + (lx (s.drop n)).2 - n = (lx (s.drop n)).2 by omega] at hs3
            rw [← List.drop_drop] at hs2
            have hdd : (s.drop n).drop (lx (s.drop n)).2 = s.drop (n + (lx (s.drop n)).2) := by rw [List.drop_drop]
            have HDD : Hid ((s.drop n).drop (lx (s.drop n)).2 = s.drop (n + (lx (s.drop n)).2)) := hdd
            clear hdd
            generalize (lx (s.drop n)).1 = K at *
            generalize (lx (s.drop n)).2 = Q at *
            generalize (s.drop n).take Q = X at *
            generalize (s.drop n).drop Q = Y at *
            have V0 := HV0.out.below HB.out (by omega)
            have f0 := V0.frozen 0
            have f1 := V0.frozen 1
            have f2 := V0.frozen 2
            have c0 : wr.cell? ⟨w.heap.size, 0, none⟩ = some (.int .i64 0) := V0.cellAt 0
            have c1 : wr.cell? ⟨w.heap.size, 1, none⟩ = some (.int .i64 0) := V0.cellAt 1
            have c2 : wr.cell? ⟨w.heap.size, 2, none⟩ = some (.int .i64 0) := V0.cellAt 2
            have HV : Hid (Va wr w.heap.size 29 #[.int .i64 0, .int .i64 0, .int .i64 0]) := V0
            have hltw := V0.lt
            have HBW : Hid (Below w.heap.size w wr) := HB0.out.1.trans (HB.out.mono (by omega))
            clear V0
            cases Q with
            | zero =>
              have HE : Hid (T = .no l (n - k + 1)) := by
                have := HN3.out
                rw [if_pos (by rw [HBD.out]; simp)] at this
                exact this.symm
              clear HN3 HBD HDD hgo hs2 hs3
              go_wp2_with fail
              refine (hlx _).mono ?_
              rintro e w' ⟨rfl, dq, hw'⟩
              rw [hw']; clear hw' w'
              go_wp2_with fail
              rw [Exit.noGoto_ret]
              refine bodyPost_ret (results_tc rfl rfl ((HV.out.drN dq).set3 _ _ _)) rfl ?_
              exact cutE_no HE.out (below_dN HBW.out dq) (by simp; omega) (by simp)
            | succ q =>
              have hq0 : ((q + 1 : Nat) : Int) ≠ 0 := by omega
              have hqb : (((q + 1 : Nat) : Int) == 0) = false := by simpa using hq0
              have HBD2 : Hid (bad (s.drop n) = (K != 5 && gs Y)) := by
                have := HBD.out
                show _ = _
                simpa using this
              have hq1 : 1 ≤ q + 1 := by omega
              clear HBD hq0
              generalize q + 1 = Q at *
              have hok : bad (s.drop n) = false → Hid (Cr.pre (acc ++ [⟨K, X, l, n - k + 1⟩]) (cu (s.drop (n + Q)) l (n + Q - k + 1)) = T) := by
                intro hb
                have := HN3.out
                rw [hb, if_neg (by simp), Cr.pre_pre, HDD.out, show n - k + 1 + Q = n + Q - k + 1 by omega] at this
                exact this
              have hno : bad (s.drop n) = true → Hid (T = .no l (n - k + 1)) := by
                intro hb
                have := HN3.out
                rw [if_pos hb] at this
                exact this.symm
              by_cases hK : K = 5
              · have HE := hok (by rw [HBD2.out, hK]; rfl)
                subst hK
                clear HN3 HBD2 HDD hs2 hok hno hgo
                go_wp2_with fail
                refine (hlx _).mono ?_
                rintro e w' ⟨rfl, dq, hw'⟩
                rw [hw']; clear hw' w'
                have ecol : ((n - k + 1 : Nat) : Int) = (n : Int) - k + 1 := by omega
                have HCO : Hid (((n - k + 1 : Nat) : Int) = (n : Int) - k + 1) := ecol
                have hsz : w.heap.size + 1 ≤ wr.heap.size := by have := HB.out.size; have := HB0.out.2; omega
                clear ecol f0 f1 f2 c0 c1 c2 HV HBW hltw
                go_wp2_with (at_builtin; refine wpList_appT rfl _ _ rfl (w.heap.size + 1) _ acc rfl ((HG.out.dr dq).al _) wr.heap.size 1 ⟨5, X, l, n - k + 1⟩ rfl (va_c (wr.drewN dq) _ 0 rfl) (va_c (wr.drewN dq) _ 1 rfl) (va_c (wr.drewN dq) _ 2 rfl) (va_c3 (wr.drewN dq) HCO.out) (by omega) (by simp; omega) ?_; intro v' w1 hg1 hgr1 hob; obtain ⟨a2, c2', rfl, -, -, -⟩ := hg1.shape)
                have HG1 : Hid (Gt w1 (w.heap.size + 1) (.slice a2 (acc ++ [(⟨5, X, l, n - k + 1⟩ : Tk)]).length c2') (acc ++ [(⟨5, X, l, n - k + 1⟩ : Tk)])) := hg1
                have HB1 : Hid (Below (w.heap.size + 1) W0 w1) := appT_below hgr1 HG.out (by simp; omega) ((below_dN HB.out dq).alloc (by simp; omega) _)
                clear hg1 hgr1 hob
                go_wp2_with fail
                go_roundw
                case rel => exact ⟨n + Q, l, k, acc ++ [(⟨5, X, l, n - k + 1⟩ : Tk)], by simp, rfl, rfl, by omega, by omega, by omega, by simp; omega, by first | exact HG1.out | (have := HG1.out; rw [List.length_append] at this; exact this), by first | exact HE.out | exact HE, HB1.out⟩
                case measure => simp [intOf]; omega
              · have hKi : ¬ (K : Int) = 5 := by omega
                have hKb : ((K : Int) == 5) = false := by simpa using hKi
                have hKn : ((K : Int) != 5) = true := by simpa using hKi
                cases hg : gs Y
                · have HE := hok (by rw [HBD2.out, hg]; simp)
                  rw [hg] at hgo
                  clear HN3 HBD2 HDD hok hno hK hg
                  go_wp2_with fail
                  refine (hlx _).mono ?_
                  rintro e w' ⟨rfl, dq, hw'⟩
                  rw [hw']; clear hw' w'
                  go_wp2_with fail
                  refine (hgo _).mono ?_
                  rintro e w' ⟨rfl, hw'⟩
                  rw [hw']; clear hw' w' hgo hs2
                  have ecol : ((n - k + 1 : Nat) : Int) = (n : Int) - k + 1 := by omega
                  have HCO : Hid (((n - k + 1 : Nat) : Int) = (n : Int) - k + 1) := ecol
                  have hsz : w.heap.size + 1 ≤ wr.heap.size := by have := HB.out.size; have := HB0.out.2; omega
                  clear ecol f0 f1 f2 c0 c1 c2 HV HBW hltw
                  go_wp2_with (at_builtin; refine wpList_appT rfl _ _ rfl (w.heap.size + 1) _ acc rfl ((HG.out.dr dq).al _) wr.heap.size 1 ⟨K, X, l, n - k + 1⟩ rfl (va_c (wr.drewN dq) _ 0 rfl) (va_c (wr.drewN dq) _ 1 rfl) (va_c (wr.drewN dq) _ 2 rfl) (va_c3 (wr.drewN dq) HCO.out) (by omega) (by simp; omega) ?_; intro v' w1 hg1 hgr1 hob; obtain ⟨a2, c2', rfl, -, -, -⟩ := hg1.shape)
                  have HG1 : Hid (Gt w1 (w.heap.size + 1) (.slice a2 (acc ++ [(⟨K, X, l, n - k + 1⟩ : Tk)]).length c2') (acc ++ [(⟨K, X, l, n - k + 1⟩ : Tk)])) := hg1
                  have HB1 : Hid (Below (w.heap.size + 1) W0 w1) := appT_below hgr1 HG.out (by simp; omega) ((below_dN HB.out dq).alloc (by simp; omega) _)
                  clear hg1 hgr1 hob
                  go_wp2_with fail
                  go_roundw
                  case rel => exact ⟨n + Q, l, k, acc ++ [(⟨K, X, l, n - k + 1⟩ : Tk)], by simp, rfl, rfl, by omega, by omega, by omega, by simp; omega, by first | exact HG1.out | (have := HG1.out; rw [List.length_append] at this; exact this), by first | exact HE.out | exact HE, HB1.out⟩
                  case measure => simp [intOf]; omega
                · have HE := hno (by rw [HBD2.out, hg]; simp [hK])
                  rw [hg] at hgo
                  clear HN3 HBD2 HDD hs3 hok hno hK hg
                  go_wp2_with fail
                  refine (hlx _).mono ?_
                  rintro e w' ⟨rfl, dq, hw'⟩
                  rw [hw']; clear hw' w'
                  go_wp2_with fail
                  refine (hgo _).mono ?_
                  rintro e w' ⟨rfl, hw'⟩
                  rw [hw']; clear hw' w'
                  go_wp2_with fail
                  rw [Exit.noGoto_ret]
                  refine bodyPost_ret (results_tc rfl rfl ((HV.out.drN dq).set3 _ _ _)) rfl ?_
                  exact cutE_no HE.out (below_dN HBW.out dq) (by simp; omega) (by simp)
    · obtain rfl : n = s.length := by omega
      have HE : Hid (T = .ok (acc ++ [⟨0, [], l, s.length - k + 1⟩])) := by
        have := HN.out
        rw [List.drop_length, cu_nil] at this
        exact this.symm
      have HCO : Hid (((s.length - k + 1 : Nat) : Int) = (s.length : Int) - k + 1) := by show _ = _; omega
      have hsz : w.heap.size + 1 ≤ wr.heap.size := by have := HB.out.size; have := HB0.out.2; omega
      clear HN hge
      go_wp2_with (at_builtin; refine wpList_appT rfl _ _ rfl (w.heap.size + 1) _ acc rfl (HG.out.al _) wr.heap.size 1 ⟨0, [], l, s.length - k + 1⟩ rfl (va_c wr _ 0 rfl) (va_c wr _ 1 rfl) (va_c wr _ 2 rfl) (va_c3 wr HCO.out) (by omega) (by first | omega | (simp; omega)) ?_; intro v' w1 hg1 hgr1 hob; obtain ⟨a2, c2', rfl, -, -, -⟩ := hg1.shape; have HG1 : Hid (Gt w1 (w.heap.size + 1) (.slice a2 (acc ++ [(⟨0, [], l, s.length - k + 1⟩ : Tk)]).length c2') (acc ++ [(⟨0, [], l, s.length - k + 1⟩ : Tk)])) := hg1; have HB1 : Hid (Below (w.heap.size + 1) W0 w1) := appT_below hgr1 HG.out (by first | omega | (simp; omega)) (HB.out.alloc (by first | omega | (simp; omega)) _); have V0 := HV0.out.below HB1.out (by omega); have f0 := V0.frozen 0; have f1 := V0.frozen 1; have f2 := V0.frozen 2; have c0 : w1.cell? ⟨w.heap.size, 0, none⟩ = some (.int .i64 0) := V0.cellAt 0; have c1 : w1.cell? ⟨w.heap.size, 1, none⟩ = some (.int .i64 0) := V0.cellAt 1; have c2 : w1.cell? ⟨w.heap.size, 2, none⟩ = some (.int .i64 0) := V0.cellAt 2; have HV : Hid (Va w1 w.heap.size 29 #[.int .i64 0, .int .i64 0, .int .i64 0]) := V0; clear V0 hg1 hgr1 hob)
      rw [Exit.noGoto_ret]
      refine bodyPost_ret (results_tc rfl rfl (HV.out.set3 _ _ _)) rfl ?_
      exact cutE_ok HE.out (HB0.out.1.trans (HB1.out.mono (by omega))) (by have := HG1.out; rw [List.length_append] at this; exact this)
end Go.Proofs.Ytiedpclomplnmaa
