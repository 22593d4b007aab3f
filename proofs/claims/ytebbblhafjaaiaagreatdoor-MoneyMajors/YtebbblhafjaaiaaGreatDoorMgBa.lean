/-
  money.Parse.
-/
import Derived.Test.YtebbblhafjaaiaaGreatDoorMgAa
import Derived.Test.YtebbblhafjaaiaaGreatDoorMgAz
import Derived.Test.YtebbblhafjaaiaaGreatDoorMgAx
import Derived.Test.YtebbblhafjaaiaaGreatDoorMgBb
namespace Go.Proofs.YtebbblhafjaaiaaGreatDoor
open Go.RowKit Go.Shelf
set_option linter.unusedVariables false

theorem fixR9 (g b : Nat) (t s : List UInt8) (at0 : Nat) (d n f : Value) (w : World) (hg : Bx w g t) (h : Va w b 196 #[.string ⟨s.toArray⟩, .int .i64 at0, d, n, f]) (hat : at0 ≤ s.length) (hs : s.length ≤ 140737488355328) (ht : t.length ≤ 140737488355328) (K : List UInt8 → R9) (T : R9) (hT : plus at0 (fixC t K (s.drop at0)) = T) :
    Calls Tryz.prog 182 #[.pointer (some ⟨b, 0, none⟩), .pointer (some ⟨g, 0, none⟩)] w fun e w' => FxP b s d n f K T w e w' := by
  have c0 := Va.cell hg
  have hfx := fixed9 b t s at0 d n f w h hat hs ht K T hT
  clear h hT hg
  go_enter Tryz.func182, Tryz.ntmps182
  go_wp2_with fail
  refine hfx.mono ?_
  rintro e w1 ⟨ok, p, rfl, h1⟩
  go_wp2_with fail
  go_ret
  exact ⟨ok, p, rfl, h1⟩
theorem Va.neT {w : World} {b b' : Nat} {t t' : TypeId} {cs cs' : Array Value} (h : Va w b t cs) (k : Va w b' t' cs') (ht : t ≠ t') : b ≠ b' := by
  rintro rfl
  unfold Va at h k
  rw [h] at k
  injection k with k
  injection k with k1 k2 k3
  exact ht k2
theorem results_tmp3 {fn : Func} {t u v : Tmp} (h : fn.results = #[.tmp t, .tmp u, .tmp v]) (tmps : Array Value) (P : Program) (w : World) :
    (results fn tmps).run P w = .ok (.tuple #[tmps.getD t undef, tmps.getD u undef, tmps.getD v undef]) w := by
  simp [results, h]
theorem narrow_in (s : Bool) (a : Option Addr) (l c : Nat) (zs : List Int) (w : World) (h : It w s a l c zs) (h1 : -9223372036854775808 ≤ iv s zs) (h2 : iv s zs ≤ 9223372036854775807) :
    Calls Tryz.prog 141 #[.agg #[.bool s, .slice a l c]] w fun e w' => e = .returned (.tuple #[.int .i64 (iv s zs), .int .i64 0]) ∧ Below w.heap.size w w' := by
  go_enter Tryz.func141, Tryz.ntmps141
  go_wp2_with fail
  refine ent1 w _ _ (Q := fun W => Calls Tryz.prog _ _ W _) ?_
  intro w0 B0 hs V0
  refine (wint64_in s a l c zs w0 (It.after B0 h) h1 h2).mono ?_
  rintro e w1 ⟨rfl, hb1⟩
  go_wp2_with fail
  go_ret2
  exact ⟨rfl, step B0 hb1⟩
theorem iv_sgn9 (s : Bool) (zs : List Int) (n : Nat) (h : num zs = n) : iv s zs = sgn s n := by cases s <;> simp [iv, sgn, h]
theorem sgn_b64 {neg : Bool} {far : Nat} (h : far ≤ mostU neg) : -9223372036854775808 ≤ sgn neg far ∧ sgn neg far ≤ 9223372036854775807 := by
  cases neg <;> simp [mostU] at h <;> simp [sgn] <;> omega
set_option maxHeartbeats 4000000 in
theorem parse9 (nm s : List UInt8) (D : Nat) (w : World) (hC : Cur nm D) (hs : s.length ≤ 140737488355328) (hTm : Tm w) :
  Calls Tryz.prog 97 #[.agg #[.string ⟨nm.toArray⟩, .int .i64 D], .string ⟨s.toArray⟩] w fun e w' => e = .returned (.tuple #[.int .i64 (out9 (parR nm D s)).1, .int .i64 (out9 (parR nm D s)).2.1, .int .i64 (out9 (parR nm D s)).2.2]) ∧ Below w.heap.size w w' := by
 (obtain ⟨T, hT⟩ : ∃ T, parR nm D s = T := ⟨_, rfl⟩); rw [hT]; have HT : Hid (parR nm D s = T) := hT; (have hD : D ≤ 4 := by have := hC.2.2.2; omega); (have hnl : nm.length ≤ 140737488355328 := by rw [hC.1]; omega); have HTm : Hid (Tm w) := hTm; clear hT hTm; have B0 : Below w.heap.size w w := Below.refl _ _
 go_enter Tryz.func97, Tryz.ntmps97
 (go_wp2_with fail); refine ent1 w _ _ (Q := fun W => Calls Tryz.prog _ _ W _) ?_; intro x1 hb hs_x1 V0; replace B0 := step B0 hb; clear hb hs_x1; refine (check9_ok nm D hC _).mono ?_; rintro e x2 ⟨rfl, hb⟩; replace V0 := Va.after hb V0; replace B0 := step B0 hb; clear hb; have c_V0 := V0.c0; have f0_V0 := V0.frozen 0; have d_V0 := V0.c1; have f1_V0 := V0.frozen 1; have l_V0 := V0.lt; have m_V0 := Nat.le_of_lt l_V0; (go_wp2_with fail); refine ent1 x2 _ _ (Q := fun W => Calls Tryz.prog _ _ W _) ?_; intro x3 hb hs_x3 Vr; replace V0 := Va.after hb V0; replace B0 := step B0 hb; clear hb hs_x3; (obtain ⟨br, hbr⟩ : ∃ br, x2.heap.size = br := ⟨_, rfl⟩); (have hbw : w.heap.size ≤ br := by rw [← hbr]; exact Nat.le_of_lt l_V0); rw [hbr] at Vr ⊢; (have hbt : br ≠ 1 := by have := HTm.out.lt; omega); clear c_V0 f0_V0 d_V0 f1_V0 l_V0 m_V0; clear V0; refine (pieces9 nm D _).mono ?_; rintro e y0 ⟨g, g1, g2, g3, rfl, Vg, b1, b2, b3, hb⟩; replace Vr := Va.after hb Vr
 replace B0 := step B0 hb; have HT9 : Hid (Tm y0) := HTm.out.to B0; clear hb HTm hbr; have ng : g ≠ br := Vg.neT Vr (by decide); have ng1 : g1 ≠ br := Va.neT b1 Vr (by decide); have ng2 : g2 ≠ br := Va.neT b2 Vr (by decide); have ng3 : g3 ≠ br := Va.neT b3 Vr (by decide); (go_wp2_with fail); refine wp_loop_rounds 7 ?_; have hp0 : (0 : Nat) ≤ s.length := Nat.zero_le _; rw [rounds_succ]; have q0 : y0.cell? ⟨g, 0, none⟩ = some (.func (.func 184) #[] #[]) := Vg.cellAt 0; have q1 : y0.cell? ⟨g, 1, none⟩ = some (.func (.func 185) #[] #[]) := Vg.cellAt 1; (go_wp2_with fail); clear q0 q1; refine ent1 y0 _ _ (Q := fun W => Calls Tryz.prog _ _ W _) ?_; intro y1a hb hs_ Vp; clear hs_ Vp; replace Vr := Va.after hb Vr; replace Vg := Va.after hb Vg; replace b1 := Bx.after hb b1; replace b2 := Bx.after hb b2; replace b3 := Bx.after hb b3; replace B0 := step B0 hb; replace HT9 : Hid (Tm y1a) := HT9.out.to hb; clear hb; refine (readSign9 br s nm D y1a Vr hs T HT.out).mono ?_
 rintro e y1 ⟨ok, n1, p1, f1, rfl, hq, V2, hok, hno, ho⟩; replace Vg := Va.only Vg ho ng; replace b1 : Bx y1 g1 (ptD D) := Va.only b1 ho ng1; replace b2 : Bx y1 g2 [32] := Va.only b2 ho ng2; replace b3 : Bx y1 g3 nm := Va.only b3 ho ng3; replace B0 := B0.trans (ho.bel.mono hbw); replace HT9 : Hid (Tm y1) := HT9.out.only ho hbt; clear ho Vr; have Vr := V2; clear V2; have hp := hq; clear hq; have r1 : y1.cell? ⟨br, 1, none⟩ = some (.int .i64 (p1 : Nat)) := Vr.cellAt 1
 cases ok
 case false =>
  have HE : Hid (T = (p1, none)) := hno rfl; clear hok hno; (go_wp2_with fail)
  go_quiet (fail)
  (go_wp2_with fail)
  (try simp only [Exit.inBlock, Exit.then])
  refine bodyPost_ret (results_tmp3 rfl _ _ _) rfl ?_; exact ⟨by rw [HE.out]; rfl, below_drewN B0 _⟩
 case true =>
  have hR := hok rfl; clear hok hno r1; obtain ⟨hR, hz⟩ := hR; subst hz; (go_wp2_with fail); rw [rounds_succ]; have q0 : y1.cell? ⟨g, 2, none⟩ = some (.func (.func 186) #[] #[]) := Vg.cellAt 2; have q1 : y1.cell? ⟨g, 3, none⟩ = some (.func (.func 187) #[] #[]) := Vg.cellAt 3; (go_wp2_with fail); clear q0 q1; refine ent1 y1 _ _ (Q := fun W => Calls Tryz.prog _ _ W _) ?_; intro y2a hb hs_ Vp; clear hs_ Vp; replace Vr := Va.after hb Vr; replace Vg := Va.after hb Vg; replace b1 := Bx.after hb b1; replace b2 := Bx.after hb b2; replace b3 := Bx.after hb b3; replace B0 := step B0 hb; replace HT9 : Hid (Tm y2a) := HT9.out.to hb; clear hb; refine (readAhead9 br s nm D p1 n1 y2a Vr hp hs T hR HT9.out hD hbt).mono ?_; rintro e y2 ⟨ok, n2, p2, f2, rfl, hq, V2, hok, hno, ho⟩; replace Vg := Va.only Vg ho ng; replace b1 : Bx y2 g1 (ptD D) := Va.only b1 ho ng1; replace b2 : Bx y2 g2 [32] := Va.only b2 ho ng2; replace b3 : Bx y2 g3 nm := Va.only b3 ho ng3; replace B0 := B0.trans (ho.bel.mono hbw)
  replace HT9 : Hid (Tm y2) := HT9.out.only ho hbt; clear ho Vr; have Vr := V2; clear V2; have hp := hq; clear hq; have r1 : y2.cell? ⟨br, 1, none⟩ = some (.int .i64 (p2 : Nat)) := Vr.cellAt 1
  cases ok
  case false =>
   have HE : Hid (T = (p2, none)) := hno rfl; clear hok hno; (go_wp2_with fail)
   go_quiet (fail)
   (go_wp2_with fail)
   (try simp only [Exit.inBlock, Exit.then])
   refine bodyPost_ret (results_tmp3 rfl _ _ _) rfl ?_; exact ⟨by rw [HE.out]; rfl, below_drewN B0 _⟩
  case true =>
   have hR := hok rfl; clear hok hno r1; obtain ⟨e1, hR, hF⟩ := hR; subst e1; (go_wp2_with fail); rw [rounds_succ]; have q0 : y2.cell? ⟨g, 4, none⟩ = some (.func (.func 181) #[] #[.pointer (some ⟨g1, 0, none⟩)]) := Vg.cellAt 4; have q1 : y2.cell? ⟨g, 5, none⟩ = some (.func (.func 182) #[] #[.pointer (some ⟨g1, 0, none⟩)]) := Vg.cellAt 5; (go_wp2_with fail); clear q0 q1; refine ent1 y2 _ _ (Q := fun W => Calls Tryz.prog _ _ W _) ?_; intro y3a hb hs_ Vp; clear hs_ Vp; replace Vr := Va.after hb Vr; replace Vg := Va.after hb Vg; replace b1 := Bx.after hb b1; replace b2 := Bx.after hb b2; replace b3 := Bx.after hb b3; replace B0 := step B0 hb; replace HT9 : Hid (Tm y3a) := HT9.out.to hb; clear hb; refine (fixR9 g1 br (ptD D) s p2 (.int .i64 D) (.bool n2) (.int .u64 f2) y3a b1 Vr hp hs (by unfold ptD; split <;> simp) (behR n2 nm D f2) T hR).mono ?_; rintro e y3 ⟨ok, p3, rfl, hq, V2, hok, hno, ho⟩; replace Vg := Va.only Vg ho ng; replace b1 : Bx y3 g1 (ptD D) := Va.only b1 ho ng1
   replace b2 : Bx y3 g2 [32] := Va.only b2 ho ng2; replace b3 : Bx y3 g3 nm := Va.only b3 ho ng3; replace B0 := B0.trans (ho.bel.mono hbw); replace HT9 : Hid (Tm y3) := HT9.out.only ho hbt; clear ho Vr; have Vr := V2; clear V2; have hp := hq; clear hq; have r1 : y3.cell? ⟨br, 1, none⟩ = some (.int .i64 (p3 : Nat)) := Vr.cellAt 1
   cases ok
   case false =>
    have HE : Hid (T = (p3, none)) := hno rfl; clear hok hno; (go_wp2_with fail)
    go_quiet (fail)
    (go_wp2_with fail)
    (try simp only [Exit.inBlock, Exit.then])
    refine bodyPost_ret (results_tmp3 rfl _ _ _) rfl ?_; exact ⟨by rw [HE.out]; rfl, below_drewN B0 _⟩
   case true =>
    have hR := hok rfl; clear hok hno r1; (go_wp2_with fail); rw [rounds_succ]; have q0 : y3.cell? ⟨g, 6, none⟩ = some (.func (.func 188) #[] #[]) := Vg.cellAt 6; have q1 : y3.cell? ⟨g, 7, none⟩ = some (.func (.func 189) #[] #[]) := Vg.cellAt 7; (go_wp2_with fail); clear q0 q1; refine ent1 y3 _ _ (Q := fun W => Calls Tryz.prog _ _ W _) ?_; intro y4a hb hs_ Vp; clear hs_ Vp; replace Vr := Va.after hb Vr; replace Vg := Va.after hb Vg; replace b1 := Bx.after hb b1; replace b2 := Bx.after hb b2; replace b3 := Bx.after hb b3; replace B0 := step B0 hb; replace HT9 : Hid (Tm y4a) := HT9.out.to hb; clear hb; refine (readBehind9 br s nm D p3 f2 n2 y4a Vr hp hs T hR HT9.out hD hF hbt).mono ?_; rintro e y4 ⟨ok, n4, p4, f4, rfl, hq, V2, hok, hno, ho⟩; replace Vg := Va.only Vg ho ng; replace b1 : Bx y4 g1 (ptD D) := Va.only b1 ho ng1; replace b2 : Bx y4 g2 [32] := Va.only b2 ho ng2; replace b3 : Bx y4 g3 nm := Va.only b3 ho ng3; replace B0 := B0.trans (ho.bel.mono hbw)
    replace HT9 : Hid (Tm y4) := HT9.out.only ho hbt; clear ho Vr; have Vr := V2; clear V2; have hp := hq; clear hq; have r1 : y4.cell? ⟨br, 1, none⟩ = some (.int .i64 (p4 : Nat)) := Vr.cellAt 1
    cases ok
    case false =>
     have HE : Hid (T = (p4, none)) := hno rfl; clear hok hno; (go_wp2_with fail)
     go_quiet (fail)
     (go_wp2_with fail)
     (try simp only [Exit.inBlock, Exit.then])
     refine bodyPost_ret (results_tmp3 rfl _ _ _) rfl ?_; exact ⟨by rw [HE.out]; rfl, below_drewN B0 _⟩
    case true =>
     have hR := hok rfl; clear hok hno r1; obtain ⟨e1, hR, hF⟩ := hR; subst e1; (go_wp2_with fail); rw [rounds_succ]; have q0 : y4.cell? ⟨g, 8, none⟩ = some (.func (.func 181) #[] #[.pointer (some ⟨g2, 0, none⟩)]) := Vg.cellAt 8; have q1 : y4.cell? ⟨g, 9, none⟩ = some (.func (.func 182) #[] #[.pointer (some ⟨g2, 0, none⟩)]) := Vg.cellAt 9; (go_wp2_with fail); clear q0 q1; refine ent1 y4 _ _ (Q := fun W => Calls Tryz.prog _ _ W _) ?_; intro y5a hb hs_ Vp; clear hs_ Vp; replace Vr := Va.after hb Vr; replace Vg := Va.after hb Vg; replace b1 := Bx.after hb b1; replace b2 := Bx.after hb b2; replace b3 := Bx.after hb b3; replace B0 := step B0 hb; replace HT9 : Hid (Tm y5a) := HT9.out.to hb; clear hb; refine (fixR9 g2 br [32] s p4 (.int .i64 D) (.bool n4) (.int .u64 f4) y5a b2 Vr hp hs (by simp) (fixC nm (finR (sgn n4 f4))) T hR).mono ?_; rintro e y5 ⟨ok, p5, rfl, hq, V2, hok, hno, ho⟩; replace Vg := Va.only Vg ho ng; replace b1 : Bx y5 g1 (ptD D) := Va.only b1 ho ng1
     replace b2 : Bx y5 g2 [32] := Va.only b2 ho ng2; replace b3 : Bx y5 g3 nm := Va.only b3 ho ng3; replace B0 := B0.trans (ho.bel.mono hbw); replace HT9 : Hid (Tm y5) := HT9.out.only ho hbt; clear ho Vr; have Vr := V2; clear V2; have hp := hq; clear hq; have r1 : y5.cell? ⟨br, 1, none⟩ = some (.int .i64 (p5 : Nat)) := Vr.cellAt 1
     cases ok
     case false =>
      have HE : Hid (T = (p5, none)) := hno rfl; clear hok hno; (go_wp2_with fail)
      go_quiet (fail)
      (go_wp2_with fail)
      (try simp only [Exit.inBlock, Exit.then])
      refine bodyPost_ret (results_tmp3 rfl _ _ _) rfl ?_; exact ⟨by rw [HE.out]; rfl, below_drewN B0 _⟩
     case true =>
      have hR := hok rfl; clear hok hno r1; (go_wp2_with fail); rw [rounds_succ]; have q0 : y5.cell? ⟨g, 10, none⟩ = some (.func (.func 181) #[] #[.pointer (some ⟨g3, 0, none⟩)]) := Vg.cellAt 10; have q1 : y5.cell? ⟨g, 11, none⟩ = some (.func (.func 182) #[] #[.pointer (some ⟨g3, 0, none⟩)]) := Vg.cellAt 11; (go_wp2_with fail); clear q0 q1; refine ent1 y5 _ _ (Q := fun W => Calls Tryz.prog _ _ W _) ?_; intro y6a hb hs_ Vp; clear hs_ Vp; replace Vr := Va.after hb Vr; replace Vg := Va.after hb Vg; replace b1 := Bx.after hb b1; replace b2 := Bx.after hb b2; replace b3 := Bx.after hb b3; replace B0 := step B0 hb; replace HT9 : Hid (Tm y6a) := HT9.out.to hb; clear hb; refine (fixR9 g3 br nm s p5 (.int .i64 D) (.bool n4) (.int .u64 f4) y6a b3 Vr hp hs hnl (finR (sgn n4 f4)) T hR).mono ?_; rintro e y6 ⟨ok, p6, rfl, hq, V2, hok, hno, ho⟩; replace Vg := Va.only Vg ho ng; replace b1 : Bx y6 g1 (ptD D) := Va.only b1 ho ng1; replace b2 : Bx y6 g2 [32] := Va.only b2 ho ng2
      replace b3 : Bx y6 g3 nm := Va.only b3 ho ng3; replace B0 := B0.trans (ho.bel.mono hbw); replace HT9 : Hid (Tm y6) := HT9.out.only ho hbt; clear ho Vr; have Vr := V2; clear V2; have hp := hq; clear hq; have r1 : y6.cell? ⟨br, 1, none⟩ = some (.int .i64 (p6 : Nat)) := Vr.cellAt 1
      cases ok
      case false =>
       have HE : Hid (T = (p6, none)) := hno rfl; clear hok hno; (go_wp2_with fail)
       go_quiet (fail)
       (go_wp2_with fail)
       (try simp only [Exit.inBlock, Exit.then])
       refine bodyPost_ret (results_tmp3 rfl _ _ _) rfl ?_; exact ⟨by rw [HE.out]; rfl, below_drewN B0 _⟩
      case true =>
       have hR := hok rfl; clear hok hno r1; (go_wp2_with fail); rw [rounds_succ]; have r1 : y6.cell? ⟨br, 1, none⟩ = some (.int .i64 (p6 : Nat)) := Vr.cellAt 1; have r3 : y6.cell? ⟨br, 3, none⟩ = some (.bool n4) := Vr.cellAt 3; have r4 : y6.cell? ⟨br, 4, none⟩ = some (.int .u64 f4) := Vr.cellAt 4
       by_cases hl : p6 < s.length
       ·
        (have hli : (p6 : Int) < s.length := by omega)
        have HE : Hid (T = (p6, none)) := by
         obtain ⟨c, -, hcd⟩ := byte_at s p6 hl; rw [hcd] at hR; exact hR.symm
        clear hR hl; (go_wp2_with fail)
        try (go_quiet (fail))
        (go_wp2_with fail)
        (try simp only [Exit.inBlock, Exit.then])
        refine bodyPost_ret (results_tmp3 rfl _ _ _) rfl ?_; exact ⟨by rw [HE.out]; rfl, by first | exact below_drewN B0 _ | exact B0⟩
       ·
        (have hli : ¬ (p6 : Int) < s.length := by omega)
        have HE : Hid (T = (p6, some (sgn n4 f4))) := by
         (have e : s.drop p6 = [] := by rw [show p6 = s.length by omega]; simp); rw [e] at hR; exact hR.symm
        clear hR hl; (go_wp2_with fail); clear Vg b1 b2 b3 HT9 r1 r3 r4; have hF2 := mostU_lt n4; have HB : Hid (-9223372036854775808 ≤ sgn n4 f4 ∧ sgn n4 f4 ≤ 9223372036854775807) := sgn_b64 hF; refine wp_region_noPanic ?_; replace Vr : Va y6.drew _ _ _ := Vr; replace B0 := Below.drew B0; refine wp_region_held_drew (S := (fun W => W.cell? ⟨br, 3, none⟩ = some (.bool n4) ∧ W.cell? ⟨br, 4, none⟩ = some (.int .u64 f4))) (by kernel_rfl) ⟨Vr.cellAt 3, Vr.cellAt 4⟩ (fun hHeld => ?_); (obtain ⟨x4, hxd⟩ : ∃ xd, xd = y6.drew := ⟨_, rfl⟩); rw [← hxd] at Vr B0 hHeld ⊢; clear hxd; refine tk 0 rfl hHeld ?_; simp only [gA, gB, Act.put, gD, gE, gF]; refine tk 1 rfl hHeld ?_; simp only [gA, gB, gC, Act.put, gD, gE, gF]; refine tk 2 rfl hHeld ?_; simp only [gA, gB, gC, Act.put, gD, gE, gF]; refine tk 3 rfl hHeld ?_; simp only [gA, gB, gC, Act.put, gD, gE, gF]; refine wpAnyH_ready (rs := [4]) (by kernel_rfl) (by simp) ?_; refine AllReadyH.cons rfl (fun K hK => ?_) AllReadyH.nil
        simp only [gA, gB, gC]; (go_simp); refine (small_any (f4 : Int) ⟨by omega, by omega⟩ _).mono ?_; rintro e x5 ⟨a1, l1, c1, z1, rfl, h1, e1, hb⟩; replace Vr := Va.after hb Vr; replace B0 := step B0 hb; clear hb; (try go_wp2_with fail); refine hK.out _ _ ⟨Vr.cellAt 3, Vr.cellAt 4⟩ (fun hHeld => ?_); clear hK K; refine wpAnyH_ready (rs := [5]) (by kernel_rfl) (by simp) ?_; refine AllReadyH.cons rfl (fun K hK => ?_) AllReadyH.nil; simp only [gA, gB, gC]; (go_simp); refine (wnew_any n4 a1 l1 c1 z1 _ h1).mono ?_; rintro e x6 ⟨s2, rfl, h2, e2, hb⟩; replace Vr := Va.after hb Vr; replace h1 := Nt.after hb h1; replace B0 := step B0 hb; clear hb; (have E2 : Hid (iv s2 z1 = sgn n4 f4) := by show _ = _; rw [e2]; exact iv_sgn9 n4 z1 f4 e1); clear e1 e2; (try go_wp2_with fail); refine hK.out _ _ ⟨Vr.cellAt 3, Vr.cellAt 4⟩ (fun hHeld => ?_); clear hK K; (have hn := fun W h => narrow_in s2 a1 l1 c1 z1 W h (by rw [E2.out]; exact HB.out.1) (by rw [E2.out]; exact HB.out.2))
        rw [E2.out] at hn; refine wpAnyH_ready (rs := [6]) (by kernel_rfl) (by simp) ?_; refine AllReadyH.cons rfl (fun K hK => ?_) AllReadyH.nil; simp only [gA, gB, gC]; (go_simp); refine (hn _ h2).mono ?_; rintro e x7 ⟨rfl, hb⟩; replace Vr := Va.after hb Vr; replace h1 := Nt.after hb h1; replace h2 := It.after hb h2; replace B0 := step B0 hb; clear hb; (try go_wp2_with fail); refine hK.out _ _ ⟨Vr.cellAt 3, Vr.cellAt 4⟩ (fun hHeld => ?_); clear hK K; refine tk 7 rfl hHeld ?_; simp only [gA, gB, gC, Act.put, gD, gE, gF]; refine tk 8 rfl hHeld ?_; simp only [gA, gB, gC, Act.put, gD, gE, gF]; refine tk 9 rfl hHeld ?_; simp only [gA, gB, gC, Act.put, gD, gE, gF]; refine tk 10 rfl hHeld ?_; simp only [gA, gB, gC, Act.put, gD, gE, gF]; refine tk 11 rfl hHeld ?_; simp only [gA, gB, gC, Act.put, gD, gE, gF]; refine wpAnyH_done (by kernel_rfl) ?_ _; refine NoPanic.normal ?_; clear hHeld; (go_wp2_with fail)
        (try simp only [Exit.inBlock, Exit.then])
        refine bodyPost_ret (results_tmp3 rfl _ _ _) rfl ?_; exact ⟨by rw [HE.out]; rfl, B0⟩
end Go.Proofs.YtebbblhafjaaiaaGreatDoor
namespace Go.Proofs.YtebbblhafjaaiaaGreatDoor
open Go.RowKit Go.Shelf
set_option linter.unusedVariables false

theorem results_cu {fn : Func} {i b : Nat} {v u : Value} {tmps : Array Value} {w : World} (h : fn.results = #[.cell i 81]) (hi : tmps.getD i undef = .pointer (some ⟨b, 0, none⟩)) (hv : Va w b 81 #[v, u]) :
    (results fn tmps).run Tryz.prog w = .ok (.agg #[v, u]) w := by
  have c := hv.c0; have d := hv.c1
  rw [Array.getD_eq_getD_getElem?] at hi
  simp [results, h, hi, c, d, go_sem]
theorem euro9 (w : World) : Calls Tryz.prog 96 #[] w fun e w' => e = .returned (.agg #[.string ⟨#[69, 85, 82]⟩, .int .i64 2]) ∧ Below w.heap.size w w' := by
  go_enter Tryz.func96, Tryz.ntmps96
  go_wp2_with fail
  refine bodyPost_ret (results_cu rfl rfl (Va.new w _ _)) rfl ?_
  exact ⟨rfl, (Below.refl _ _).alloc (Nat.le_refl _) _⟩
theorem curE : Cur [69, 85, 82] (2 : Nat) := ⟨rfl, by decide, by omega, by omega⟩
theorem textE (w : World) (hP : Pt w) : Calls Tryz.prog 95 #[.agg #[.string ⟨#[69, 85, 82]⟩, .int .i64 2], .int .i64 (-5)] w fun e w' => e = .returned (.tuple #[.string ⟨#[45, 48, 46, 48, 53, 32, 69, 85, 82]⟩, .int .i64 0]) ∧ Below w.heap.size w w' := by
  refine Calls.mono (text9 [69, 85, 82] 2 (-5) w curE (by omega) (by omega) hP) ?_
  rintro e w' ⟨t, rfl, ht, hb⟩
  have h5 : Tx 10 [53] (-5 : Int).natAbs := ⟨by simp, fun c hc => by simp at hc; subst hc; decide, by decide, fun h => rfl⟩
  have e : t = [53] := ht.unique (by omega) (by omega) h5
  subst e
  exact ⟨rfl, hb⟩
theorem parseE1 (w : World) (hT : Tm w) : Calls Tryz.prog 97 #[.agg #[.string ⟨#[69, 85, 82]⟩, .int .i64 2], .string ⟨#[49, 50, 46, 51, 52, 32, 69, 85, 82]⟩] w fun e w' => e = .returned (.tuple #[.int .i64 1234, .int .i64 0, .int .i64 0]) ∧ Below w.heap.size w w' := by
  have h := parse9 [69, 85, 82] [49, 50, 46, 51, 52, 32, 69, 85, 82] 2 w curE (by decide) hT
  have e : out9 (parR [69, 85, 82] 2 [49, 50, 46, 51, 52, 32, 69, 85, 82]) = (1234, 0, 0) := by decide
  rw [e] at h
  exact h
theorem parseE2 (w : World) (hT : Tm w) : Calls Tryz.prog 97 #[.agg #[.string ⟨#[69, 85, 82]⟩, .int .i64 2], .string ⟨#[45, 48, 46, 48, 48]⟩] w fun e w' => e = .returned (.tuple #[.int .i64 0, .int .i64 4, .int .i64 91]) ∧ Below w.heap.size w w' := by
  have h := parse9 [69, 85, 82] [45, 48, 46, 48, 48] 2 w curE (by decide) hT
  have e : out9 (parR [69, 85, 82] 2 [45, 48, 46, 48, 48]) = (0, 4, 91) := by decide
  rw [e] at h
  exact h
theorem li_va {w : World} {b : Nat} {zs : List Int} (h : Va w b 2 (zs.map (Value.int .i64)).toArray) (hz : ∀ z ∈ zs, b64 z) : Li w (some ⟨b, 0, none⟩) zs.length zs := by
  refine ⟨rfl, hz, fun _ => ⟨b, 0, rfl, fun i hi => ?_⟩⟩
  rw [Nat.zero_add, h.cellAt i]
  simp [List.getD_eq_getElem?_getD, hi]
theorem sumE (b : Nat) (w : World) (h : Va w b 2 #[.int .i64 9223372036854775807, .int .i64 1, .int .i64 (-1)]) : Calls Tryz.prog 98 #[.slice (some ⟨b, 0, none⟩) 3 3] w fun e w' => e = .returned (.tuple #[.int .i64 9223372036854775807, .int .i64 0]) ∧ w' = w := by
  have hL : Li w (some ⟨b, 0, none⟩) 3 [9223372036854775807, 1, -1] := li_va (zs := [9223372036854775807, 1, -1]) h (by intro z hz; simp at hz; rcases hz with rfl | rfl | rfl <;> exact ⟨by omega, by omega⟩)
  have h := sum9 (some ⟨b, 0, none⟩) 3 3 _ w hL (by omega)
  exact h
set_option maxHeartbeats 1000000 in
theorem awake9 (w : World) (hP : Pt w) (hT : Tm w) : Calls Tryz.prog 41 #[] w fun e w' => e = .returned (.bool true) ∧ Below w.heap.size w w' := by
  have HP : Hid (Pt w) := hP
  have HT : Hid (Tm w) := hT
  clear hP hT
  have B0 : Below w.heap.size w w := Below.refl _ _
  go_enter Tryz.func41, Tryz.ntmps41
  go_wp2_with fail
  refine (euro9 _).mono ?_
  rintro e x1 ⟨rfl, hb⟩
  replace B0 := step B0 hb
  clear hb
  go_wp2_with fail
  refine (textE _ (HP.out.to B0)).mono ?_
  rintro e x2 ⟨rfl, hb⟩
  replace B0 := step B0 hb
  clear hb
  go_wp2_with fail
  refine (euro9 _).mono ?_
  rintro e x3 ⟨rfl, hb⟩
  replace B0 := step B0 hb
  clear hb
  go_wp2_with fail
  refine (parseE1 _ (HT.out.to B0)).mono ?_
  rintro e x4 ⟨rfl, hb⟩
  replace B0 := step B0 hb
  clear hb
  go_wp2_with fail
  refine (euro9 _).mono ?_
  rintro e x5 ⟨rfl, hb⟩
  replace B0 := step B0 hb
  clear hb
  go_wp2_with fail
  refine (parseE2 _ (HT.out.to B0)).mono ?_
  rintro e x6 ⟨rfl, hb⟩
  replace B0 := step B0 hb
  clear hb
  go_wp2_with fail
  refine ent1 x6 _ _ (Q := fun W => Calls Tryz.prog _ _ W _) ?_
  intro x7 hb hs_x7 Vl
  replace B0 := step B0 hb
  clear hb hs_x7
  refine (sumE _ _ Vl).mono ?_
  rintro e w' ⟨rfl, hw⟩
  rw [hw]
  clear hw
  go_wp2_with fail
  go_ret
  exact ⟨rfl, B0⟩
end Go.Proofs.YtebbblhafjaaiaaGreatDoor
