/-
  numeral.apart of any number: the walk.
-/
import Derived.Test.YtpfbcicjfnfpgaaDoorApartN
namespace Go.Proofs.YtpfbcicjfnfpgaaDoor
open Go.RowKit Go.Shelf
set_option linter.unusedVariables false

def Sm (V : Int) : Prop := ∀ n, n = 4096 → V < pw n
theorem Sm.lt {V : Int} (h : Sm V) : V < pw 4096 := h 4096 rfl
theorem Sm.of {V : Int} (h : V < pw 4096) : Sm V := fun n e => by rw [e]; exact h
theorem Sm.no {V : Int} (h : ¬ Sm V) : pw 4096 ≤ V := Int.not_lt.1 (fun k => h (Sm.of k))
def Dgs (W : World) (ds : List Dg) : Prop := ∀ d ∈ ds, Nt W d.1 d.2.1 d.2.2.1 d.2.2.2
theorem Dgs.after {W W' : World} (hb : Below W.heap.size W W') {ds : List Dg} (h : Dgs W ds) : Dgs W' ds := fun d hd => Nt.after hb (h d hd)
def ApPost (w : World) (V By : Int) (e : Ending) (W' : World) : Prop := ∃ g off len cap D, e = .returned (.slice (some ⟨g, off, none⟩) len cap) ∧ len ≤ cap ∧ Hid (AP W' g off len D V By) ∧ Below w.heap.size w W'
set_option maxHeartbeats 16000000 in
set_option maxRecDepth 20000 in
theorem apart_f : ∀ (f : Nat) (a b : Option Addr) (la ca lb cb : Nat) (xs ys : List Int) (w : World), Nt w a la ca xs → Nt w b lb cb ys → 2 ≤ num ys → num xs < num ys ^ (2 ^ f) →
    Calls Tryd.prog 18 #[.agg #[.slice a la ca], .agg #[.slice b lb cb]] w fun e W' => ApPost w (num xs) (num ys) e W' := by
  intro f
  induction f with
  | zero =>
    intro a b la ca lb cb xs ys w hx hy hB hlt
    exact apart_one a b la ca lb cb xs ys w hx hy (by rw [show 2 ^ 0 = 1 from rfl, Int.pow_succ, Int.pow_zero, Int.one_mul] at hlt; exact hlt)
  | succ f ih =>
    intro a b la ca lb cb xs ys w hx hy hB hlt
    by_cases hn : num xs < num ys
    · exact apart_one a b la ca lb cb xs ys w hx hy hn
    · have e1 : ¬ cmp3 (num xs) (num ys) < 0 := by rw [cmp3_neg_iff]; omega
      obtain ⟨cc, hcc⟩ : ∃ c, cmp3 (num xs) (num ys) = c := ⟨_, rfl⟩
      rw [hcc] at e1
      have HCC : Hid _ := hcc
      obtain ⟨By, hBy⟩ : ∃ B, num ys = B := ⟨_, rfl⟩
      obtain ⟨V, hV⟩ : ∃ V, num xs = V := ⟨_, rfl⟩
      have HBY : Hid (num ys = By) := hBy
      have HVX : Hid (num xs = V) := hV
      have HVP : Hid (Sm V) := by rw [← hV]; exact Sm.of hx.lt
      have HGE : Hid (By ≤ V) := by rw [← hV, ← hBy]; show num ys ≤ num xs; omega
      rw [hBy] at hB hlt
      rw [hV] at hlt
      have HLT : Hid (V < By ^ 2 ^ (f + 1)) := hlt
      have HIH : Hid _ := ih
      rw [hV, hBy]
      clear hcc hBy hV hlt hn ih
      have B0 : Below w.heap.size w w := Below.refl _ _
      go_enter Tryd.func18, Tryd.ntmps18
      go_wp2_with fail
      refine ent2 w _ _ _ _ (Q := fun W => Calls Tryd.prog _ _ W _) ?_
      intro x1 hb hs_x1 V0 V1
      replace hx := Nt.after hb hx
      replace hy := Nt.after hb hy
      replace B0 := step B0 hb
      clear hb hs_x1
      have hcm := ncompare_any a b la ca lb cb xs ys x1 hx hy
      rw [HCC.out] at hcm
      refine (hcm).mono ?_
      rintro e x2 ⟨rfl, hb⟩
      replace V0 := Va.after hb V0
      replace V1 := Va.after hb V1
      replace hx := Nt.after hb hx
      replace hy := Nt.after hb hy
      replace B0 := step B0 hb
      clear hb
      have c_V0 := V0.cell
      have f0_V0 := V0.frozen 0
      have l_V0 := V0.lt
      have m_V0 := Nat.le_of_lt l_V0
      have c_V1 := V1.cell
      have f0_V1 := V1.frozen 0
      have l_V1 := V1.lt
      have m_V1 := Nat.le_of_lt l_V1
      go_wp2_with fail
      refine ent1 x2 _ _ (Q := fun W => Calls Tryd.prog _ _ W _) ?_
      intro x3 hb hs_x3 Vn
      replace V0 := Va.after hb V0
      replace V1 := Va.after hb V1
      replace hx := Nt.after hb hx
      replace hy := Nt.after hb hy
      replace B0 := step B0 hb
      clear hb hs_x3
      by_cases hsq : Sm (By * By)
      ·
        refine (nmul_ok b b lb cb lb cb ys ys _ hy hy (by rw [HBY.out]; exact hsq.lt)).mono ?_
        rintro e x4 ⟨as', ls, cs, zs, rfl, hS, eS, hb⟩
        replace V0 := Va.after hb V0
        replace V1 := Va.after hb V1
        replace Vn := Va.after hb Vn
        replace hx := Nt.after hb hx
        replace hy := Nt.after hb hy
        replace B0 := step B0 hb
        clear hb
        have ES : Hid (num zs = By * By) := by show _ = _; rw [eS, HBY.out]
        clear eS hsq
        clear c_V0 f0_V0 l_V0 m_V0 c_V1 f0_V1 l_V1 m_V1
        have c_V0 := V0.cell
        have f0_V0 := V0.frozen 0
        have l_V0 := V0.lt
        have m_V0 := Nat.le_of_lt l_V0
        go_wp2_with fail
        refine ent1 x4 _ _ (Q := fun W => Calls Tryd.prog _ _ W _) ?_
        intro x5 hb hs_x5 Vs
        replace V0 := Va.after hb V0
        replace V1 := Va.after hb V1
        replace Vn := Va.after hb Vn
        replace hx := Nt.after hb hx
        replace hy := Nt.after hb hy
        replace hS := Nt.after hb hS
        replace B0 := step B0 hb
        clear hb hs_x5
        have hih := HIH.out a as' la ca ls cs xs zs x5 hx hS (by rw [ES.out]; have := Int.mul_le_mul hB hB (by omega) (by omega); omega) (by rw [HVX.out, ES.out, Int.mul_pow, ← Int.pow_add, show 2 ^ f + 2 ^ f = 2 ^ (f + 1) by rw [Nat.pow_succ]; omega]; exact HLT.out)
        rw [HVX.out, ES.out] at hih
        clear HIH
        refine hih.mono ?_
        rintro e x6 ⟨g, off, len, capp, D, rfl, hcp, hAP', hb⟩
        replace V0 := Va.after hb V0
        replace V1 := Va.after hb V1
        replace Vn := Va.after hb Vn
        replace Vs := Va.after hb Vs
        replace hx := Nt.after hb hx
        replace hy := Nt.after hb hy
        replace hS := Nt.after hb hS
        replace B0 := step B0 hb
        clear hb hih
        have hAP := hAP'.out
        clear hAP'
        clear HLT
        clear c_V0 f0_V0 l_V0 m_V0
        have hl1 : 1 ≤ len := hAP.1
        have hl2 : len ≤ 1000000 := hAP.2.1
        have hl3 : len ≤ 262144 := by
          rcases Nat.lt_or_ge 1 len with h | h
          · have h5 := hAP.2.2.2.2.2.2.1
            rw [dsum_pv] at h5
            have h6 := pv_low (B := By * By) (Int.mul_nonneg (by omega) (by omega)) (fun j => (hAP.2.2.2.2.1 j).nonneg) (n := len - 1) (by have := (hAP.2.2.2.2.1 (len - 1)).nonneg; have := hAP.2.2.2.2.2.2.2 h; omega)
            rw [show len - 1 + 1 = len by omega, h5] at h6
            have h7 : 2 ≤ By * By := by have := Int.mul_le_mul hB hB (by omega) (by omega); omega
            have := len_bound h7 h6 HVP.out.lt
            omega
          · omega
        obtain ⟨w1, hmk, hRx, hbm⟩ := run_mkrow x6 (2 * len) (by omega)
        have hmk' : (Instr.makeSlice 50 (.int .i64 0) (.int .i64 (2 * (len : Int)))).run Tryd.prog x6 = .ok (.slice (some ⟨x6.heap.size, 0, none⟩) 0 (2 * len)) w1 := by have := hmk; simpa using this
        have HAP : Hid (AP x6 g off len D V (By * By)) := hAP
        have HY : Hid (Nt x6 b lb cb ys) := hy
        have HV1 : Hid (Va x6 (w.heap.size + 1) 26 #[.slice b lb cb]) := V1
        have HB0 : Hid (Below w.heap.size w x6) := B0
        have HRx : Hid (Rx w1 x6.heap.size (2 * len) (([] : List Dg).map dv)) := hRx
        have HBM : Hid (Below x6.heap.size x6 w1) := hbm
        have HG : Hid (g < x6.heap.size) := hAP.2.2.1
        clear hmk hRx hbm hAP hy V1 B0 V0 Vn Vs hx hS
        go_wp2_with fail
        go_loopw [8, 40] (fun v i wr => ∃ (k n : Nat) (ds : List Dg), v = .slice (some ⟨x6.heap.size, 0, none⟩) n (2 * len) ∧ i = .int .i64 k ∧ k ≤ len ∧ Hid (n = ds.length ∧ n = 2 * k) ∧ Hid (Rx wr x6.heap.size (2 * len) (ds.map dv)) ∧ Hid (∀ d ∈ ds, Nt wr d.1 d.2.1 d.2.2.1 d.2.2.2) ∧ Hid (ApI len k D By ds) ∧ Hid (Below x6.heap.size x6 wr)) (fun _ i _ => len - (intOf i).toNat)
        case atStart => exact ⟨0, 0, [], rfl, rfl, by omega, ⟨rfl, rfl⟩, HRx, fun d hd => by simp at hd, ⟨rfl, fun j hj => absurd hj (by omega)⟩, HBM.out⟩
        case round =>
          obtain ⟨q, n, ds, rfl, rfl, hq, HN, HR, HD, HI, HW⟩ := hrel
          by_cases hql : q < len
          · have hqi : (q : Int) < len := by omega
            have hA2 := HAP.out.after HW.out
            have hcq := hA2.2.2.2.1 q hql
            have hNq := hA2.2.2.2.2.1 q
            have hgw : g < wr.heap.size := hA2.2.2.1
            obtain ⟨dq, hdq⟩ : ∃ d, D q = d := ⟨_, rfl⟩
            obtain ⟨aq, lq, cq, zq⟩ := dq
            rw [hdq] at hcq hNq
            simp only [dv] at hcq hNq
            have HDQ : Hid (D q = (aq, lq, cq, zq)) := hdq
            clear hdq hA2
            have V1 := Va.after HW.out HV1.out
            have hy := Nt.after HW.out HY.out
            have BW := HW.out
            have hRr := HR.out
            have hDr : Dgs wr ds := HD.out
            have c_V1 := V1.cell
            have f0_V1 := V1.frozen 0
            have l_V1 := V1.lt
            have m_V1 := Nat.le_of_lt l_V1
            go_wp2_with fail
            refine ent1 wr _ _ (Q := fun W => Calls Tryd.prog _ _ W _) ?_
            intro x7 hb hs_x7 Vp
            replace V1 := Va.after hb V1
            replace hy := Nt.after hb hy
            replace hNq := Nt.after hb hNq
            replace hRr := Rx.after hb hRr
            replace hDr := Dgs.after hb hDr
            replace BW := step BW hb
            clear hb hs_x7
            refine (ndiv_ok aq b lq cq lb cb zq ys _ hNq hy (by rw [HBY.out]; omega)).mono ?_
            rintro e x8 ⟨a1, m1, c1, a2, m2, c2, qs, rs, rfl, hQ, hS, eQ, eR, hb⟩
            replace V1 := Va.after hb V1
            replace Vp := Va.after hb Vp
            replace hy := Nt.after hb hy
            replace hNq := Nt.after hb hNq
            replace hRr := Rx.after hb hRr
            replace hDr := Dgs.after hb hDr
            replace BW := step BW hb
            clear hb
            have HE : Hid (num (D q).2.2.2 = num qs * By + num rs ∧ num rs < By) := by show _ ∧ _; rw [HDQ.out, ← HBY.out]; exact ⟨eQ, eR⟩
            clear eQ eR
            clear c_V1 f0_V1 l_V1 m_V1
            clear V1 Vp hy hNq
            have HBA : Hid (Below x8.heap.size x8 (((x8.alloc (.cells #[.slice a1 m1 c1] 26)).alloc (.cells #[.slice a2 m2 c2] 26)).alloc (.cells #[.slice a2 m2 c2, .slice a1 m1 c1] 26))) := ((((Below.refl _ _).alloc (Nat.le_refl _) _).alloc (by simp) _).alloc (by simp; omega) _)
            have HRA : Hid (Rx (((x8.alloc (.cells #[.slice a1 m1 c1] 26)).alloc (.cells #[.slice a2 m2 c2] 26)).alloc (.cells #[.slice a2 m2 c2, .slice a1 m1 c1] 26)) x6.heap.size (2 * len) (ds.map dv)) := Rx.after HBA.out hRr
            have HDA : Hid (Dgs (((x8.alloc (.cells #[.slice a1 m1 c1] 26)).alloc (.cells #[.slice a2 m2 c2] 26)).alloc (.cells #[.slice a2 m2 c2, .slice a1 m1 c1] 26)) (ds ++ [(a2, m2, c2, rs), (a1, m1, c1, qs)])) := fun d hd => by
              rcases List.mem_append.1 hd with h | h
              · exact Nt.after HBA.out (hDr d h)
              · rcases List.mem_cons.1 h with h | h
                · subst h; exact Nt.after HBA.out hS
                · obtain rfl : d = (a1, m1, c1, qs) := by simpa using h
                  exact Nt.after HBA.out hQ
            have HNN : Hid (0 ≤ num rs ∧ 0 ≤ num qs) := ⟨hS.nonneg, hQ.nonneg⟩
            have HBW : Hid (Below x6.heap.size x6 (((x8.alloc (.cells #[.slice a1 m1 c1] 26)).alloc (.cells #[.slice a2 m2 c2] 26)).alloc (.cells #[.slice a2 m2 c2, .slice a1 m1 c1] 26))) := step BW HBA.out
            have HCL : Hid (Va (((x8.alloc (.cells #[.slice a1 m1 c1] 26)).alloc (.cells #[.slice a2 m2 c2] 26)).alloc (.cells #[.slice a2 m2 c2, .slice a1 m1 c1] 26)) (x8.heap.size + 1 + 1) 26 #[.slice a2 m2 c2, .slice a1 m1 c1]) := by have := Va.new ((x8.alloc (.cells #[.slice a1 m1 c1] 26)).alloc (.cells #[.slice a2 m2 c2] 26)) 26 #[.slice a2 m2 c2, .slice a1 m1 c1]; simp only [World.alloc, Array.size_push] at this ⊢; exact this
            have HXS : Hid (x6.heap.size ≤ x8.heap.size) := BW.size
            clear hRr hDr hQ hS BW
            go_wp2_with (at_builtin; refine wpList_appx rfl (.tmp 51) (.tmp 54) rfl x6.heap.size n (2 * len) (ds.map dv) rfl (by rw [List.length_map]; exact HN.out.1) HRA.out (x8.heap.size + 1 + 1) 2 2 [.slice a2 m2 c2, .slice a1 m1 c1] rfl rfl (fun j u hu => by rcases j with _ | _ | j; (cases hu; exact HCL.out.c0); (cases hu; exact HCL.out.c1); (simp at hu)) (fun x hx => by rcases List.mem_cons.1 hx with h | h; (exact ⟨_, _, _, h⟩); (exact ⟨_, _, _, by simpa using h⟩)) (by have := HN.out.2; omega) ?_; intro W4 HR4 HF4 HS4 HB4)
            go_wp2_with fail
            go_roundw
            case rel =>
              refine ⟨q + 1, n + 2, ds ++ [(a2, m2, c2, rs), (a1, m1, c1, qs)], rfl, by go_num, by omega, ⟨by rw [List.length_append, ← HN.out.1]; rfl, by have := HN.out.2; omega⟩, by rw [List.map_append]; exact HR4.out, fun d hd => ?_, apI_on HI.out HE.out.1 HNN.out.1 HE.out.2 HNN.out.2, HBW.out.trans HB4.out⟩
              exact Nt.past (HDA.out d hd) (fun h0 p hp => HRA.out.ne (HDA.out d hd) h0 hp) HF4.out
            case measure => simp [intOf]; omega
          · have hqi : ¬ (q : Int) < len := by omega
            obtain rfl : q = len := by omega
            have hA2 := HAP.out.after HW.out
            have HDN : Hid (AP wr x6.heap.size 0 (if num (lD ds (2 * q - 1)).2.2.2 = 0 then 2 * q - 1 else 2 * q) (lD ds) V By) := ap_done (W := wr) (g := x6.heap.size) hB HI.out hl1 HVP.out.lt hA2.2.2.2.2.2.2.1 (fun j _ => hA2.2.2.2.2.2.1 j) hA2.2.2.2.2.2.2.2 (fun _ => HGE.out) HD.out HR.out.lt (fun j x hx => HR.out.cell (by rw [List.getElem?_map, hx]; rfl))
            clear hA2
            have hlast := HR.out.cell (i := 2 * q - 1) (x := dv (lD ds (2 * q - 1))) (by rw [List.getElem?_map, lD_some (by rw [← HN.out.1]; have := HN.out.2; omega)]; rfl)
            have hNl := lD_mem (P := fun d => Nt wr d.1 d.2.1 d.2.2.1 d.2.2.2) HD.out (Nt.nil _) (2 * q - 1)
            obtain ⟨m, hm⟩ : ∃ m, n = m + 1 := ⟨n - 1, by have := HN.out.2; omega⟩
            have hm2 : 2 * q = m + 1 := by have := HN.out.2; omega
            have HM : Hid (m < 2 * q) := by show m < 2 * q; omega
            rw [show 2 * q - 1 = m by omega] at HDN hlast hNl
            rw [hm2] at HDN
            subst hm
            clear hm2
            obtain ⟨dl, hdl⟩ : ∃ d, lD ds m = d := ⟨_, rfl⟩
            obtain ⟨al, ll, cl, zl⟩ := dl
            rw [hdl] at hlast hNl HDN
            simp only [dv] at hlast hNl HDN
            have hz := hNl.zero
            have hgw := HR.out.lt
            clear hdl hNl hql hqi HN HD HI HAP HRx HR HGE HVP
            have e5 : ((m + 1 : Nat) : Int) - 1 = (m : Int) := by omega
            have hm3 : m < 2 * q := HM.out
            have hqi : ¬ (q : Int) < (q : Int) := by omega
            by_cases hz0 : num zl = 0
            · rw [if_pos hz0] at HDN
              have hz1 : ((ll : Int) == 0) = true := by rw [hz]; simp [hz0]
              clear hz hz0
              go_wp2_with fail
              refine (isZero_any al ll cl wr).mono ?_
              rintro e w9 ⟨rfl, hb⟩
              rw [hz1]
              go_wp2_with fail
              go_ret
              exact ⟨_, 0, _, _, lD ds, rfl, by omega, HDN.out.after hb, step (step HB0.out HW.out) hb⟩
            · rw [if_neg hz0] at HDN
              have hz1 : ((ll : Int) == 0) = false := by rw [hz]; simp [hz0]
              clear hz hz0
              go_wp2_with fail
              refine (isZero_any al ll cl wr).mono ?_
              rintro e w9 ⟨rfl, hb⟩
              rw [hz1]
              go_wp2_with fail
              go_ret
              exact ⟨_, 0, _, _, lD ds, rfl, by omega, HDN.out.after hb, step (step HB0.out HW.out) hb⟩
      ·
        have HVS : Hid (V < By * By) := by have h1 := HVP.out.lt; have h2 := Sm.no hsq; show V < By * By; exact Int.lt_of_lt_of_le h1 h2
        refine (nmul_long b b lb cb lb cb ys ys _ hy hy (by rw [HBY.out]; exact Sm.no hsq)).mono ?_
        rintro e x4 ⟨rfl, hb⟩
        replace V0 := Va.after hb V0
        replace V1 := Va.after hb V1
        replace Vn := Va.after hb Vn
        replace hx := Nt.after hb hx
        replace hy := Nt.after hb hy
        replace B0 := step B0 hb
        clear hb
        clear hsq HIH HLT
        obtain ⟨len, capp, hls, hln, hcp⟩ : ∃ len capp, Value.slice (some ⟨x2.heap.size, 0, none⟩) 1 1 = Value.slice (some ⟨x2.heap.size, 0, none⟩) len capp ∧ len = 1 ∧ len ≤ capp := ⟨1, 1, rfl, rfl, Nat.le_refl _⟩
        rw [hls]
        clear hls
        have hAP : AP x4 x2.heap.size 0 len (oneD (a, la, ca, xs)) V (By * By) := by
          subst hln
          refine ⟨Nat.le_refl _, by omega, Vn.lt, fun j hj => ?_, fun j => ?_, fun j => ?_, ?_, fun h => absurd h (by omega)⟩
          · obtain rfl : j = 0 := by omega
            exact Vn.cell
          · match j with
            | 0 => exact hx
            | _ + 1 => exact Nt.nil _
          · match j with
            | 0 => show num xs < _; rw [HVX.out]; exact HVS.out
            | _ + 1 =>
              have h1 := hx.nonneg
              have h2 := HVS.out
              rw [HVX.out] at h1
              show num [] < _
              simp only [num]; omega
          · rw [down_one]; simp [dsum, oneD]; exact HVX.out
        have hlo : len ≤ 262144 := by omega
        clear HVS hln
        obtain ⟨D, hDe⟩ : ∃ D, oneD (a, la, ca, xs) = D := ⟨_, rfl⟩
        rw [hDe] at hAP
        clear hDe
        go_wp2_with fail
        have hb5 : Below x4.heap.size x4 (x4.alloc (.cells #[.slice none 0 0] 26)) := (Below.refl _ _).alloc (Nat.le_refl _) _
        obtain ⟨x5, hx5⟩ : ∃ x5, x4.alloc (.cells #[.slice none 0 0] 26) = x5 := ⟨_, rfl⟩
        rw [hx5] at hb5 ⊢
        clear hx5
        replace V0 := Va.after hb5 V0
        replace V1 := Va.after hb5 V1
        replace Vn := Va.after hb5 Vn
        replace hx := Nt.after hb5 hx
        replace hy := Nt.after hb5 hy
        replace hAP := AP.after hb5 hAP
        replace B0 := step B0 hb5
        clear hb5
        clear c_V0 f0_V0 l_V0 m_V0 c_V1 f0_V1 l_V1 m_V1
        have hl1 : 1 ≤ len := hAP.1
        have hl2 : len ≤ 1000000 := hAP.2.1
        have hl3 : len ≤ 262144 := by
          rcases Nat.lt_or_ge 1 len with h | h
          · have h5 := hAP.2.2.2.2.2.2.1
            rw [dsum_pv] at h5
            have h6 := pv_low (B := By * By) (Int.mul_nonneg (by omega) (by omega)) (fun j => (hAP.2.2.2.2.1 j).nonneg) (n := len - 1) (by have := (hAP.2.2.2.2.1 (len - 1)).nonneg; have := hAP.2.2.2.2.2.2.2 h; omega)
            rw [show len - 1 + 1 = len by omega, h5] at h6
            have h7 : 2 ≤ By * By := by have := Int.mul_le_mul hB hB (by omega) (by omega); omega
            have := len_bound h7 h6 HVP.out.lt
            omega
          · omega
        obtain ⟨w1, hmk, hRx, hbm⟩ := run_mkrow x5 (2 * len) (by omega)
        have hmk' : (Instr.makeSlice 50 (.int .i64 0) (.int .i64 (2 * (len : Int)))).run Tryd.prog x5 = .ok (.slice (some ⟨x5.heap.size, 0, none⟩) 0 (2 * len)) w1 := by have := hmk; simpa using this
        have HAP : Hid (AP x5 x2.heap.size 0 len D V (By * By)) := hAP
        have HY : Hid (Nt x5 b lb cb ys) := hy
        have HV1 : Hid (Va x5 (w.heap.size + 1) 26 #[.slice b lb cb]) := V1
        have HB0 : Hid (Below w.heap.size w x5) := B0
        have HRx : Hid (Rx w1 x5.heap.size (2 * len) (([] : List Dg).map dv)) := hRx
        have HBM : Hid (Below x5.heap.size x5 w1) := hbm
        have HG : Hid (x2.heap.size < x5.heap.size) := hAP.2.2.1
        clear hmk hRx hbm hAP hy V1 B0 V0 Vn hx
        rw [hmk']
        go_wp2_with fail
        go_loopw [8, 40] (fun v i wr => ∃ (k n : Nat) (ds : List Dg), v = .slice (some ⟨x5.heap.size, 0, none⟩) n (2 * len) ∧ i = .int .i64 k ∧ k ≤ len ∧ Hid (n = ds.length ∧ n = 2 * k) ∧ Hid (Rx wr x5.heap.size (2 * len) (ds.map dv)) ∧ Hid (∀ d ∈ ds, Nt wr d.1 d.2.1 d.2.2.1 d.2.2.2) ∧ Hid (ApI len k D By ds) ∧ Hid (Below x5.heap.size x5 wr)) (fun _ i _ => len - (intOf i).toNat)
        case atStart => exact ⟨0, 0, [], rfl, rfl, by omega, ⟨rfl, rfl⟩, HRx, fun d hd => by simp at hd, ⟨rfl, fun j hj => absurd hj (by omega)⟩, HBM.out⟩
        case round =>
          obtain ⟨q, n, ds, rfl, rfl, hq, HN, HR, HD, HI, HW⟩ := hrel
          by_cases hql : q < len
          · have hqi : (q : Int) < len := by omega
            have hA2 := HAP.out.after HW.out
            have hcq := hA2.2.2.2.1 q hql
            have hNq := hA2.2.2.2.2.1 q
            have hgw : x2.heap.size < wr.heap.size := hA2.2.2.1
            obtain ⟨dq, hdq⟩ : ∃ d, D q = d := ⟨_, rfl⟩
            obtain ⟨aq, lq, cq, zq⟩ := dq
            rw [hdq] at hcq hNq
            simp only [dv] at hcq hNq
            have HDQ : Hid (D q = (aq, lq, cq, zq)) := hdq
            clear hdq hA2
            rw [Nat.zero_add] at hcq
            have V1 := Va.after HW.out HV1.out
            have hy := Nt.after HW.out HY.out
            have BW := HW.out
            have hRr := HR.out
            have hDr : Dgs wr ds := HD.out
            have c_V1 := V1.cell
            have f0_V1 := V1.frozen 0
            have l_V1 := V1.lt
            have m_V1 := Nat.le_of_lt l_V1
            go_wp2_with fail
            refine ent1 wr _ _ (Q := fun W => Calls Tryd.prog _ _ W _) ?_
            intro x6 hb hs_x6 Vp
            replace V1 := Va.after hb V1
            replace hy := Nt.after hb hy
            replace hNq := Nt.after hb hNq
            replace hRr := Rx.after hb hRr
            replace hDr := Dgs.after hb hDr
            replace BW := step BW hb
            clear hb hs_x6
            refine (ndiv_ok aq b lq cq lb cb zq ys _ hNq hy (by rw [HBY.out]; omega)).mono ?_
            rintro e x7 ⟨a1, m1, c1, a2, m2, c2, qs, rs, rfl, hQ, hS, eQ, eR, hb⟩
            replace V1 := Va.after hb V1
            replace Vp := Va.after hb Vp
            replace hy := Nt.after hb hy
            replace hNq := Nt.after hb hNq
            replace hRr := Rx.after hb hRr
            replace hDr := Dgs.after hb hDr
            replace BW := step BW hb
            clear hb
            have HE : Hid (num (D q).2.2.2 = num qs * By + num rs ∧ num rs < By) := by show _ ∧ _; rw [HDQ.out, ← HBY.out]; exact ⟨eQ, eR⟩
            clear eQ eR
            clear c_V1 f0_V1 l_V1 m_V1
            clear V1 Vp hy hNq
            have HBA : Hid (Below x7.heap.size x7 (((x7.alloc (.cells #[.slice a1 m1 c1] 26)).alloc (.cells #[.slice a2 m2 c2] 26)).alloc (.cells #[.slice a2 m2 c2, .slice a1 m1 c1] 26))) := ((((Below.refl _ _).alloc (Nat.le_refl _) _).alloc (by simp) _).alloc (by simp; omega) _)
            have HRA : Hid (Rx (((x7.alloc (.cells #[.slice a1 m1 c1] 26)).alloc (.cells #[.slice a2 m2 c2] 26)).alloc (.cells #[.slice a2 m2 c2, .slice a1 m1 c1] 26)) x5.heap.size (2 * len) (ds.map dv)) := Rx.after HBA.out hRr
            have HDA : Hid (Dgs (((x7.alloc (.cells #[.slice a1 m1 c1] 26)).alloc (.cells #[.slice a2 m2 c2] 26)).alloc (.cells #[.slice a2 m2 c2, .slice a1 m1 c1] 26)) (ds ++ [(a2, m2, c2, rs), (a1, m1, c1, qs)])) := fun d hd => by
              rcases List.mem_append.1 hd with h | h
              · exact Nt.after HBA.out (hDr d h)
              · rcases List.mem_cons.1 h with h | h
                · subst h; exact Nt.after HBA.out hS
                · obtain rfl : d = (a1, m1, c1, qs) := by simpa using h
                  exact Nt.after HBA.out hQ
            have HNN : Hid (0 ≤ num rs ∧ 0 ≤ num qs) := ⟨hS.nonneg, hQ.nonneg⟩
            have HBW : Hid (Below x5.heap.size x5 (((x7.alloc (.cells #[.slice a1 m1 c1] 26)).alloc (.cells #[.slice a2 m2 c2] 26)).alloc (.cells #[.slice a2 m2 c2, .slice a1 m1 c1] 26))) := step BW HBA.out
            have HCL : Hid (Va (((x7.alloc (.cells #[.slice a1 m1 c1] 26)).alloc (.cells #[.slice a2 m2 c2] 26)).alloc (.cells #[.slice a2 m2 c2, .slice a1 m1 c1] 26)) (x7.heap.size + 1 + 1) 26 #[.slice a2 m2 c2, .slice a1 m1 c1]) := by have := Va.new ((x7.alloc (.cells #[.slice a1 m1 c1] 26)).alloc (.cells #[.slice a2 m2 c2] 26)) 26 #[.slice a2 m2 c2, .slice a1 m1 c1]; simp only [World.alloc, Array.size_push] at this ⊢; exact this
            have HXS : Hid (x5.heap.size ≤ x7.heap.size) := BW.size
            clear hRr hDr hQ hS BW
            go_wp2_with (at_builtin; refine wpList_appx rfl (.tmp 51) (.tmp 54) rfl x5.heap.size n (2 * len) (ds.map dv) rfl (by rw [List.length_map]; exact HN.out.1) HRA.out (x7.heap.size + 1 + 1) 2 2 [.slice a2 m2 c2, .slice a1 m1 c1] rfl rfl (fun j u hu => by rcases j with _ | _ | j; (cases hu; exact HCL.out.c0); (cases hu; exact HCL.out.c1); (simp at hu)) (fun x hx => by rcases List.mem_cons.1 hx with h | h; (exact ⟨_, _, _, h⟩); (exact ⟨_, _, _, by simpa using h⟩)) (by have := HN.out.2; omega) ?_; intro W4 HR4 HF4 HS4 HB4)
            go_wp2_with fail
            go_roundw
            case rel =>
              refine ⟨q + 1, n + 2, ds ++ [(a2, m2, c2, rs), (a1, m1, c1, qs)], rfl, by go_num, by omega, ⟨by rw [List.length_append, ← HN.out.1]; rfl, by have := HN.out.2; omega⟩, by rw [List.map_append]; exact HR4.out, fun d hd => ?_, apI_on HI.out HE.out.1 HNN.out.1 HE.out.2 HNN.out.2, HBW.out.trans HB4.out⟩
              exact Nt.past (HDA.out d hd) (fun h0 p hp => HRA.out.ne (HDA.out d hd) h0 hp) HF4.out
            case measure => simp [intOf]; omega
          · have hqi : ¬ (q : Int) < len := by omega
            obtain rfl : q = len := by omega
            have hA2 := HAP.out.after HW.out
            have HDN : Hid (AP wr x5.heap.size 0 (if num (lD ds (2 * q - 1)).2.2.2 = 0 then 2 * q - 1 else 2 * q) (lD ds) V By) := ap_done (W := wr) (g := x5.heap.size) hB HI.out hl1 HVP.out.lt hA2.2.2.2.2.2.2.1 (fun j _ => hA2.2.2.2.2.2.1 j) hA2.2.2.2.2.2.2.2 (fun _ => HGE.out) HD.out HR.out.lt (fun j x hx => HR.out.cell (by rw [List.getElem?_map, hx]; rfl))
            clear hA2
            have hlast := HR.out.cell (i := 2 * q - 1) (x := dv (lD ds (2 * q - 1))) (by rw [List.getElem?_map, lD_some (by rw [← HN.out.1]; have := HN.out.2; omega)]; rfl)
            have hNl := lD_mem (P := fun d => Nt wr d.1 d.2.1 d.2.2.1 d.2.2.2) HD.out (Nt.nil _) (2 * q - 1)
            obtain ⟨m, hm⟩ : ∃ m, n = m + 1 := ⟨n - 1, by have := HN.out.2; omega⟩
            have hm2 : 2 * q = m + 1 := by have := HN.out.2; omega
            have HM : Hid (m < 2 * q) := by show m < 2 * q; omega
            rw [show 2 * q - 1 = m by omega] at HDN hlast hNl
            rw [hm2] at HDN
            subst hm
            clear hm2
            obtain ⟨dl, hdl⟩ : ∃ d, lD ds m = d := ⟨_, rfl⟩
            obtain ⟨al, ll, cl, zl⟩ := dl
            rw [hdl] at hlast hNl HDN
            simp only [dv] at hlast hNl HDN
            have hz := hNl.zero
            have hgw := HR.out.lt
            clear hdl hNl hql hqi HN HD HI HAP HRx HR HGE HVP
            have e5 : ((m + 1 : Nat) : Int) - 1 = (m : Int) := by omega
            have hm3 : m < 2 * q := HM.out
            have hqi : ¬ (q : Int) < (q : Int) := by omega
            by_cases hz0 : num zl = 0
            · rw [if_pos hz0] at HDN
              have hz1 : ((ll : Int) == 0) = true := by rw [hz]; simp [hz0]
              clear hz hz0
              go_wp2_with fail
              refine (isZero_any al ll cl wr).mono ?_
              rintro e w9 ⟨rfl, hb⟩
              rw [hz1]
              go_wp2_with fail
              go_ret
              exact ⟨_, 0, _, _, lD ds, rfl, by omega, HDN.out.after hb, step (step HB0.out HW.out) hb⟩
            · rw [if_neg hz0] at HDN
              have hz1 : ((ll : Int) == 0) = false := by rw [hz]; simp [hz0]
              clear hz hz0
              go_wp2_with fail
              refine (isZero_any al ll cl wr).mono ?_
              rintro e w9 ⟨rfl, hb⟩
              rw [hz1]
              go_wp2_with fail
              go_ret
              exact ⟨_, 0, _, _, lD ds, rfl, by omega, HDN.out.after hb, step (step HB0.out HW.out) hb⟩

theorem pw_le_pow {B : Int} (hB : 2 ≤ B) {n k : Nat} (h : 64 * n = k) : pw n ≤ B ^ k := by
  rw [pw_eq, h]; exact two_le_pow hB k
theorem napart_any (a b : Option Addr) (la ca lb cb : Nat) (xs ys : List Int) (w : World) (hx : Nt w a la ca xs) (hy : Nt w b lb cb ys) (hB : 2 ≤ num ys) :
    Calls Tryd.prog 18 #[.agg #[.slice a la ca], .agg #[.slice b lb cb]] w fun e W' => ApPost w (num xs) (num ys) e W' :=
  apart_f 18 a b la ca lb cb xs ys w hx hy hB (Int.lt_of_lt_of_le hx.lt (pw_le_pow hB rfl))
/-- numeral.Text of any number, given what greatPower and FormatUint answer. -/
theorem text_from (T : World → Prop) (hTo : ∀ W W', Below W.heap.size W W' → T W → T W') (bn sz : Nat) (By : Int) (hb2 : 2 ≤ bn) (hb36 : bn ≤ 36) (hs1 : 1 ≤ sz) (hs63 : sz ≤ 63) (hBy : By = ((bn ^ sz : Nat) : Int)) (hBw : Word By) (hB2 : 2 ≤ By)
    (hgp : ∀ w, Calls Tryd.prog 17 #[.int .i64 bn] w fun e w' => e = .returned (.tuple #[.int .u64 By, .int .i64 sz]) ∧ w' = w)
    (hF : ∀ (u : Nat) (w : World), u < 18446744073709551616 → T w → Calls Tryd.prog 22 #[.int .u64 u, .int .i64 bn] w fun e w' => ∃ l, e = .returned (.string ⟨List.toArray l⟩) ∧ Tx bn l u ∧ Below w.heap.size w w')
    (a : Option Addr) (l c : Nat) (xs : List Int) (w : World) (h0 : Nt w a l c xs) (hT : T w) :
    Calls Tryd.prog 11 #[.agg #[.slice a l c], .int .i64 bn] w fun e W' => ∃ t, e = .returned (.tuple #[.string ⟨List.toArray t⟩, .int .i64 0]) ∧ Tx bn t (num xs).toNat ∧ Below w.heap.size w W' := by
  refine text_of T hTo bn sz By hb2 hb36 hs1 hs63 hBy hBw (by omega) hgp hF a l c xs w h0 hT (fun W a2 l2 c2 hb h2 hx => ?_)
  have e : num [By] = By := by simp [num]
  have := napart_any a a2 l c l2 c2 xs [By] W hx h2 (by rw [e]; exact hB2)
  rw [e] at this
  exact this
theorem text_ten (a : Option Addr) (l c : Nat) (xs : List Int) (w : World) (h : Nt w a l c xs) (hT : Pt w) :
    Calls Tryd.prog 11 #[.agg #[.slice a l c], .int .i64 10] w fun e W' => ∃ t, e = .returned (.tuple #[.string ⟨List.toArray t⟩, .int .i64 0]) ∧ Tx 10 t (num xs).toNat ∧ Below w.heap.size w W' :=
  text_from Pt (fun W W' hb h => h.to hb) 10 19 10000000000000000000 (by omega) (by omega) (by omega) (by omega) (by decide) ⟨by omega, by omega⟩ (by omega) greatPower_ten
    (fun u w hu hp => (fmt10 u hu w hp).mono fun e w' h => ⟨_, h.1, dec_tx u, h.2⟩) a l c xs w h hT
end Go.Proofs.YtpfbcicjfnfpgaaDoor
