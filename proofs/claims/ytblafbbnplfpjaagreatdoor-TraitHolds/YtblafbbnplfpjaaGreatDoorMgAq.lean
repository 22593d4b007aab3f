import Derived.Test.YtblafbbnplfpjaaGreatDoorMgAp
import Derived.Test.YtblafbbnplfpjaaGreatDoorMgAa
import Derived.Test.YtblafbbnplfpjaaGreatDoorMgAn
namespace Go.Proofs.YtblafbbnplfpjaaGreatDoor
open Go.RowKit Go.Shelf
set_option linter.unusedVariables false
set_option linter.unusedSimpArgs false

def OfE (ns : List Nd) (w : World) (e : Ending) (w' : World) : Prop :=
  Below w.heap.size w w' ∧ ((∃ t : Tc, e = .returned (.tuple #[tvT t, .bool false]) ∧ (ns = [] ∨ ¬ Cond wdB ns)) ∨ ∃ n k t, e = .returned (.tuple #[tvT t, .bool true]) ∧ ns = (Fo.cons n k .nil).flat ∧ (Fo.cons n k .nil).Ok wdB 0 1 ∧ ns.length ≤ 64 ∧ Rtw w' (fun b => w.heap.size ≤ b) (.cons n k .nil) [t])
theorem cond_not {ns : List Nd} (h : NoTree wdB (ns.drop 0) 0 1) : ns = [] ∨ ¬ Cond wdB ns := by
  rcases Classical.em (ns = []) with e | e
  · exact .inl e
  · refine .inr (fun hc => ?_)
    obtain ⟨-, n, k, e1, ok⟩ := cond_tree e hc
    exact h n k [] (by rw [List.drop_zero, List.append_nil]; exact e1) ok
theorem cond_far {ns : List Nd} {n : Nd} {k : Fo} {q : Nat} (e : ns.drop 0 = (Fo.cons n k .nil).flat ++ ns.drop q) (ok : (Fo.cons n k .nil).Ok wdB 0 1) (hq : q ≤ ns.length) (hne : q ≠ ns.length) : ¬ Cond wdB ns := by
  rw [List.drop_zero] at e
  intro hc
  rcases Classical.em (ns = []) with e0 | e0
  · rw [e0] at e; simp [Fo.flat] at e
  · obtain ⟨-, m, j, e1, ok1⟩ := cond_tree e0 hc
    obtain ⟨-, -, h⟩ := one_tree (x := ns.drop q) (y := []) ok ok1 (by rw [← e, List.append_nil]; exact e1)
    have := congrArg List.length h
    rw [List.length_drop] at this
    simp at this
    omega
theorem cond_long {ns : List Nd} (h : 64 < ns.length) : ¬ Cond wdB ns := by
  intro hc
  obtain ⟨h1, -⟩ := cond_tree (fun e => by rw [e] at h; simp at h) hc
  omega
theorem cond_short {ns : List Nd} {n : Nd} {k : Fo} (h : ns.length ≤ 64) (e : ns = (Fo.cons n k .nil).flat) (ok : (Fo.cons n k .nil).Ok wdB 0 1) : Cond wdB ns := .inr ⟨h, n, k, e, ok⟩
set_option maxRecDepth 20000 in
set_option maxHeartbeats 8000000 in
theorem of13_any (ns : List Nd) (a : Option Addr) (cap : Nat) (w : World) (h64 : ∀ n ∈ ns, N64 n) (hL : Le elN w a ns.length ns) :
    Calls Tryz.prog 28 #[.slice a ns.length cap] w (OfE ns w) := by
  have HL : Hid (Le elN w a ns.length ns) := hL
  have HG : Hid (ns.length ≤ 64 → ∀ W, Below w.heap.size w W → Calls Tryz.prog 52 #[.slice a ns.length cap, .int .i64 (0 : Nat), .int .i64 (1 : Nat)] W (TgE ns 0 1 W)) := fun hl W hb => grown_any ns a cap h64 hl 16 1 rfl 0 W (Nat.zero_le _) (HL.out.after hb)
  clear hL
  go_enter Tryz.func28, Tryz.ntmps28
  go_upto_region 1 with fail
  refine ent1 w _ _ (Q := fun W => Code.wp _ _ _ _ W) ?_
  intro W1 hb1 hs1 V1
  have HV1 : Hid (Va W1 w.heap.size 56 zT) := V1
  have HB1 : Hid (Below w.heap.size w W1) := hb1
  clear V1 hb1
  rcases Nat.lt_or_ge 64 ns.length with h65 | h65
  · have h65' : (64 : Int) < ns.length := by omega
    have f0 := HV1.out.frozen 0
    have zf0 := HV1.out.t0
    have f1 := HV1.out.frozen 1
    have zf1 := HV1.out.t1
    have f2 := HV1.out.frozen 2
    have zf2 := HV1.out.t2
    have f3 := HV1.out.frozen 3
    have zf3 := HV1.out.t3
    have f4 := HV1.out.frozen 4
    have zf4 := HV1.out.t4
    have f5 := HV1.out.frozen 5
    have zf5 := HV1.out.t5
    have f6 := HV1.out.frozen 6
    have zf6 := HV1.out.t6
    go_wp2_with fail
    refine bodyPost_ret (results_tn rfl rfl rfl (HV1.out.set7 _ _ _ _ _ _ _ )) rfl ?_
    exact ⟨below_7 HB1.out (Nat.le_refl _) _ _ _ _ _ _ _ , .inl ⟨⟨⟨0, 0, [], 0, 0, 0⟩, none, 0, 0⟩, rfl, .inr (cond_long h65)⟩⟩
  · have h65' : ¬ (64 : Int) < ns.length := by omega
    have D := HG.out h65 W1 HB1.out
    go_wp2_with fail
    refine D.mono ?_
    rintro e W2 ⟨hb2, ⟨rfl, hno⟩ | ⟨n, k, t, q, rfl, hg⟩⟩
    · have HB2 : Hid (Below w.heap.size w W2) := step HB1.out hb2
      have HV2 : Hid (Va W2 w.heap.size 56 zT) := HV1.out.after hb2
      have hs2 := hb2.size
      have HNO : Hid (ns = [] ∨ ¬ Cond wdB ns) := cond_not hno
      clear D hb2 hno
      go_upto_region 4 with fail
      refine ent1 W2 _ _ (Q := fun W => Code.wp _ _ _ _ W) ?_
      intro W3 hb3 hs3 V3
      have HB3 : Hid (Below w.heap.size w W3) := step HB2.out hb3
      have HV3 : Hid (Va W3 w.heap.size 56 zT) := HV2.out.after hb3
      have HB23 : Hid (Below W2.heap.size W2 W3) := hb3
      have g0 := V3.t0
      have g1 := V3.t1
      have g2 := V3.t2
      have g3 := V3.t3
      have g4 := V3.t4
      have g5 := V3.t5
      have g6 := V3.t6
      have f0 := HV3.out.frozen 0
      have zf0 := HV3.out.t0
      have f1 := HV3.out.frozen 1
      have zf1 := HV3.out.t1
      have f2 := HV3.out.frozen 2
      have zf2 := HV3.out.t2
      have f3 := HV3.out.frozen 3
      have zf3 := HV3.out.t3
      have f4 := HV3.out.frozen 4
      have zf4 := HV3.out.t4
      have f5 := HV3.out.frozen 5
      have zf5 := HV3.out.t5
      have f6 := HV3.out.frozen 6
      have zf6 := HV3.out.t6
      clear V3 hb3
      have hq : ((-1 : Int) == (ns.length : Int)) = false := by first | (simp; done) | (simp; omega)
      go_wp2_with fail
      refine bodyPost_ret (results_tn rfl rfl rfl (HV3.out.set7 _ _ _ _ _ _ _ )) rfl ?_
      exact ⟨below_7 HB3.out (Nat.le_refl _) _ _ _ _ _ _ _ , .inl ⟨⟨⟨0, 0, [], 0, 0, 0⟩, none, 0, 0⟩, rfl, HNO.out⟩⟩
    · by_cases hqe : q = ns.length
      · have HB2 : Hid (Below w.heap.size w W2) := step HB1.out hb2
        have HV2 : Hid (Va W2 w.heap.size 56 zT) := HV1.out.after hb2
        have hs2 := hb2.size
        have HGR : Hid (Tgr ns 0 1 W1.heap.size W2 n k t q) := hg
        have hqe' := hqe
        clear D hb2 hg hqe
        go_upto_region 4 with fail
        refine ent1 W2 _ _ (Q := fun W => Code.wp _ _ _ _ W) ?_
        intro W3 hb3 hs3 V3
        have HB3 : Hid (Below w.heap.size w W3) := step HB2.out hb3
        have HV3 : Hid (Va W3 w.heap.size 56 zT) := HV2.out.after hb3
        have HB23 : Hid (Below W2.heap.size W2 W3) := hb3
        have g0 := V3.t0
        have g1 := V3.t1
        have g2 := V3.t2
        have g3 := V3.t3
        have g4 := V3.t4
        have g5 := V3.t5
        have g6 := V3.t6
        have f0 := HV3.out.frozen 0
        have zf0 := HV3.out.t0
        have f1 := HV3.out.frozen 1
        have zf1 := HV3.out.t1
        have f2 := HV3.out.frozen 2
        have zf2 := HV3.out.t2
        have f3 := HV3.out.frozen 3
        have zf3 := HV3.out.t3
        have f4 := HV3.out.frozen 4
        have zf4 := HV3.out.t4
        have f5 := HV3.out.frozen 5
        have zf5 := HV3.out.t5
        have f6 := HV3.out.frozen 6
        have zf6 := HV3.out.t6
        clear V3 hb3
        have hq : ((q : Int) == (ns.length : Int)) = true := by first | (simp; done) | (simp; omega)
        go_wp2_with fail
        refine bodyPost_ret (results_tn rfl rfl rfl (HV3.out.set7 _ _ _ _ _ _ _ )) rfl ?_
        exact ⟨below_7 HB3.out (Nat.le_refl _) _ _ _ _ _ _ _ , .inr ⟨n, k, t, rfl, by have := HGR.out.e; rw [hqe', List.drop_length, List.append_nil, List.drop_zero] at this; exact this, HGR.out.ok, h65, Rtw.imp (fun b hb hp => ⟨by omega, (fa7 _ _ _ _ _ _ _ _ _ b (by omega)).trans (HB23.out.block b hb)⟩) HGR.out.t⟩⟩
      · have HB2 : Hid (Below w.heap.size w W2) := step HB1.out hb2
        have HV2 : Hid (Va W2 w.heap.size 56 zT) := HV1.out.after hb2
        have hs2 := hb2.size
        have HNO : Hid (¬ Cond wdB ns) := cond_far hg.e hg.ok hg.le hqe
        clear D hb2 hg
        go_upto_region 4 with fail
        refine ent1 W2 _ _ (Q := fun W => Code.wp _ _ _ _ W) ?_
        intro W3 hb3 hs3 V3
        have HB3 : Hid (Below w.heap.size w W3) := step HB2.out hb3
        have HV3 : Hid (Va W3 w.heap.size 56 zT) := HV2.out.after hb3
        have HB23 : Hid (Below W2.heap.size W2 W3) := hb3
        have g0 := V3.t0
        have g1 := V3.t1
        have g2 := V3.t2
        have g3 := V3.t3
        have g4 := V3.t4
        have g5 := V3.t5
        have g6 := V3.t6
        have f0 := HV3.out.frozen 0
        have zf0 := HV3.out.t0
        have f1 := HV3.out.frozen 1
        have zf1 := HV3.out.t1
        have f2 := HV3.out.frozen 2
        have zf2 := HV3.out.t2
        have f3 := HV3.out.frozen 3
        have zf3 := HV3.out.t3
        have f4 := HV3.out.frozen 4
        have zf4 := HV3.out.t4
        have f5 := HV3.out.frozen 5
        have zf5 := HV3.out.t5
        have f6 := HV3.out.frozen 6
        have zf6 := HV3.out.t6
        clear V3 hb3
        have hq : ((q : Int) == (ns.length : Int)) = false := by first | (simp; done) | (simp; omega)
        go_wp2_with fail
        refine bodyPost_ret (results_tn rfl rfl rfl (HV3.out.set7 _ _ _ _ _ _ _ )) rfl ?_
        exact ⟨below_7 HB3.out (Nat.le_refl _) _ _ _ _ _ _ _ , .inl ⟨t, rfl, .inr HNO.out⟩⟩
set_option maxHeartbeats 4000000 in
theorem rchk13_any (ns : List Nd) (a : Option Addr) (cap : Nat) (w : World) (h64 : ∀ n ∈ ns, N64 n) (hL : Le elN w a ns.length ns) :
    Calls Tryz.prog 10 #[.slice a ns.length cap] w fun e w' => e = .returned (.int .i64 (ckE ns)) ∧ Below w.heap.size w w' := by
  have D := of13_any ns a cap w h64 hL
  clear hL
  rcases Classical.em (ns = []) with e0 | e0
  · subst e0
    have hR : ckE [] = 0 := ckE_ok (.inl rfl)
    rw [hR]
    clear D hR
    go_enter Tryz.func10, Tryz.ntmps10
    go_wp2_with fail
    go_ret
    exact ⟨rfl, Below.refl _ _⟩
  · have hl0 : ns.length ≠ 0 := fun h => e0 (List.length_eq_zero_iff.1 h)
    have hl1 : ((ns.length : Int) == 0) = false := by simp; omega
    obtain ⟨R, hR⟩ : ∃ R, ckE ns = R := ⟨_, rfl⟩
    have HR : Hid (ckE ns = R) := hR
    rw [hR]
    clear hR
    go_enter Tryz.func10, Tryz.ntmps10
    go_wp2_with fail
    refine D.mono ?_
    rintro e W2 ⟨hb2, ⟨t, rfl, hno⟩ | ⟨n, k, t, rfl, he, ok, h64', hr⟩⟩
    · have HE : Hid (R = 131) := by show _ = _; rw [← HR.out]; exact ckE_no (hno.resolve_left e0)
      have HB : Hid (Below w.heap.size w W2) := hb2
      clear D hno hb2
      go_upto_region 4 with fail
      refine ent1 W2 _ _ (Q := fun W => Code.wp _ _ _ _ W) ?_
      intro W3 hb3 hs3 V3
      go_wp2_with fail
      go_ret
      exact ⟨by rw [HE.out]; rfl, step HB.out hb3⟩
    · have HE : Hid (R = 0) := by show _ = _; rw [← HR.out]; exact ckE_ok (cond_short h64' he ok)
      have HB : Hid (Below w.heap.size w W2) := hb2
      clear D he ok hr hb2
      go_upto_region 4 with fail
      refine ent1 W2 _ _ (Q := fun W => Code.wp _ _ _ _ W) ?_
      intro W3 hb3 hs3 V3
      go_wp2_with fail
      go_ret
      exact ⟨by rw [HE.out]; rfl, step HB.out hb3⟩
end Go.Proofs.YtblafbbnplfpjaaGreatDoor
namespace Go.Proofs.YtblafbbnplfpjaaGreatDoor
open Go.RowKit Go.Shelf
set_option linter.unusedVariables false
set_option linter.unusedSimpArgs false

def mkN (k : Nat) : Nd := ⟨0, 8000024 + (k : Int), [], 0, 0, 0⟩
theorem mark13_any (i : Nat) (h1 : i < 12) (w : World) : Calls Tryz.prog 46 #[.int .i64 1, .int .i64 i] w fun e w' => e = .returned (.int .i64 (8000024 + i)) ∧ w' = w := by
  go_enter Tryz.func46, Tryz.ntmps46
  go_wp2_with fail
  go_ret
  exact ⟨rfl, rfl⟩
theorem results_nd {fn : Func} {j b : Nat} {x0 x1 x2 x3 x4 x5 : Value} {tmps : Array Value} {w : World} (h : fn.results = #[.cell j 48]) (hj : tmps.getD j undef = .pointer (some ⟨b, 0, none⟩)) (hv : Va w b 48 #[x0, x1, x2, x3, x4, x5]) :
    (results fn tmps).run Tryz.prog w = .ok (.agg #[x0, x1, x2, x3, x4, x5]) w := by
  have c0 := hv.n0
  have c1 := hv.n1
  have c2 := hv.n2
  have c3 := hv.n3
  have c4 := hv.n4
  have c5 := hv.n5
  rw [Array.getD_eq_getD_getElem?] at hj
  simp [results, h, hj, c0, c1, c2, c3, c4, c5, go_sem]
theorem markN_any (i : Nat) (h1 : i < 12) (w : World) : Calls Tryz.prog 23 #[.int .i64 1, .int .i64 i] w fun e w' => e = .returned (nv (mkN i)) ∧ Below w.heap.size w w' := by
  have hm := fun W => mark13_any i h1 W
  go_enter Tryz.func23, Tryz.ntmps23
  go_wp2_with fail
  refine ent1 w _ _ (Q := fun W => Calls _ _ _ W _) ?_
  intro W0 hB0 hs0 V0
  have c0 := V0.n0
  have c1 := V0.n1
  have c2 := V0.n2
  have c3 := V0.n3
  have c4 := V0.n4
  have c5 := V0.n5
  have HV0 : Hid (Va W0 w.heap.size 48 #[.int .i64 0, .int .i64 0, .string ⟨#[]⟩, .int .i64 0, .int .i64 0, .int .i64 0]) := V0
  have HB0 : Hid (Below w.heap.size w W0) := hB0
  clear V0 hB0 hs0
  refine (hm W0).mono ?_
  rintro e w' ⟨rfl, hw'⟩
  rw [hw']; clear hw' w'
  have f0 := HV0.out.frozen 0
  have f1 := HV0.out.frozen 1
  have f2 := HV0.out.frozen 2
  have f3 := HV0.out.frozen 3
  have f4 := HV0.out.frozen 4
  have f5 := HV0.out.frozen 5
  go_wp2_with fail
  refine bodyPost_ret (results_nd rfl rfl (HV0.out.set6 _ _ _ _ _ _)) rfl ?_
  exact ⟨rfl, below_6 HB0.out (Nat.le_refl _) _ _ _ _ _ _⟩
set_option maxHeartbeats 4000000 in
theorem lentN_any (a : Option Addr) (la ca : Nat) (ps : List Nd) (w : World) (h : Le elN w a la ps) (hn : a = none → la = 0 ∧ ca = 0) (hl : la ≤ 5000000000000) :
    Calls Tryz.prog 6 #[.slice a la ca] w fun e w' => e = .returned (.slice (some ⟨w.heap.size, 0, none⟩) la (la + 12)) ∧ Va w' w.heap.size 48 (rowE elN (ps ++ mkE mkN 12)).toArray ∧ Below w.heap.size w w' := by
  have hz := h.1
  obtain ⟨i0, hi, hz0, hz1, hz2⟩ := info_parts elN.inf
  have HB8 : Hid (i0.bytes * (la + 12) ≤ 281474976710656) := by show _ ≤ _; rw [hz2]; show 56 * _ ≤ _; omega
  have HNN : Hid (a = none → la = 0 ∧ ca = 0) := hn
  have HSL : Hid (Le elN w a la ps) := h
  have HLZ : Hid ((rowE elN ps).length = la * 6) := by show _ = _; rw [rowE_length, hz]; rfl
  clear hn h
  go_enter Tryz.func6, Tryz.ntmps6
  go_wp2_with (at_make; refine wpList_make_own w rfl _ _ 22 rfl w.heap.size 48 i0 (.agg #[.int .i64 0, .int .i64 0, .string ⟨#[]⟩, .int .i64 0, .int .i64 0, .int .i64 0]) 6 Tryz.underlying22 hi hz0 hz1 .i64 .i64 _ (la + 12) rfl rfl ?c1 HB8.out ?c2 (Nat.le_refl _) ?_)
  case c1 => omega
  case c2 => unfold maxLen; omega
  intro w1 ho1 hg1
  have hb1 : Below w.heap.size w w1 := (Below.refl _ _).grown hg1 (Nat.le_refl _) (fun k hk => by cases hk)
  have HR1 : Hid (∀ ad, a = some ad → ∀ (j : Nat) (u : Value), (rowE elN ps)[j]? = some u → w1.cell? (ad.add j) = some u) := le_row (HSL.out.after hb1)
  have HO1 : Hid (w1.ownsRow w.heap.size 48 6 (.slice (some ⟨w.heap.size, 0, none⟩) 0 (la + 12)) 0 []) := ho1
  have HB1 : Hid (Below w.heap.size w w1) := hb1
  have HZ : Hid (∀ u ∈ rowE elN ps, u.oneCell' = true) := rowE_one _ ps
  clear ho1 hg1 hb1
  go_wp2_with (at_builtin; refine wpList_append_fits_any w1 rfl _ _ 22 rfl w.heap.size 48 i0 6 Tryz.underlying22 hi hz1 w.heap.size 0 (la + 12) [] rfl HO1.out a la ca (rowE elN ps) rfl HLZ.out HNN.out HR1.out HZ.out (by omega) ?_; intro w2 ho2 hg2; simp only [Nat.zero_add, List.nil_append] at ho2 ⊢)
  have hb2 : Below w.heap.size w w2 := HB1.out.grown hg2 HB1.out.size (fun k hk => by cases hk; exact Nat.le_refl _)
  have HO2 : Hid (w2.ownsRow w.heap.size 48 6 (.slice (some ⟨w.heap.size, 0, none⟩) la (la + 12)) la (rowE elN ps)) := ho2
  have HB2 : Hid (Below w.heap.size w w2) := hb2
  clear ho2 hg2 hb2 HR1 HO1 HB1
  go_loopw [3, 4] (fun v ii wr => ∃ k : Nat, k ≤ 12 ∧ ii = .int .i64 k ∧ v = .slice (some ⟨w.heap.size, 0, none⟩) (la + k) (la + 12) ∧ Hid (wr.ownsRow w.heap.size 48 6 (.slice (some ⟨w.heap.size, 0, none⟩) (la + k) (la + 12)) (la + k) (rowE elN (ps ++ mkE mkN k))) ∧ Hid (Below w.heap.size w wr)) (fun _ ii _ => 12 - (intOf ii).toNat)
  case atStart => exact ⟨0, by omega, rfl, rfl, by rw [mkE, List.append_nil]; exact HO2, HB2.out⟩
  case round =>
    clear HO2 HB2
    obtain ⟨k, hk, rfl, rfl, HO, HB⟩ := hrel
    by_cases hlt : k < 12
    · have hki : (k : Int) < 12 := by omega
      have mk := markN_any k (by omega) wr
      go_wp2_with fail
      refine mk.mono ?_
      rintro e w3 ⟨rfl, hb3⟩
      have HB3 : Hid (Below w.heap.size w w3) := step HB.out hb3
      have HLK : Hid ((ps ++ mkE mkN k).length = la + k) := by show _ = _; rw [List.length_append, mkE_length]; omega
      have HO3 : Hid ((w3.alloc (.cells #[.int .i64 0, .int .i64 (8000024 + (k : Int)), .string ⟨#[]⟩, .int .i64 0, .int .i64 0, .int .i64 0] 48)).ownsRow w.heap.size 48 6 (.slice (some ⟨w.heap.size, 0, none⟩) (la + k) (la + 12)) (la + k) (rowE elN (ps ++ mkE mkN k))) :=
        own_of_ge (E := elN) (((ge_of_own (E := elN) HO.out HLK.out).after hb3).al _) HLK.out
      have HC : Hid (∀ (j : Nat) (u : Value), (rowE elN [mkN k])[j]? = some u → (w3.alloc (.cells #[.int .i64 0, .int .i64 (8000024 + (k : Int)), .string ⟨#[]⟩, .int .i64 0, .int .i64 0, .int .i64 0] 48)).cell? ((⟨w3.heap.size, 0, none⟩ : Addr).add j) = some u) :=
        Le.news (Le.one (E := elN) (Va.new w3 48 #[.int .i64 0, .int .i64 (8000024 + (k : Int)), .string ⟨#[]⟩, .int .i64 0, .int .i64 0, .int .i64 0]) rfl)
      have HZ1 : Hid (∀ u ∈ rowE elN [mkN k], u.oneCell' = true) := rowE_one _ _
      have hs3 := HB3.out.size
      clear hb3 HO HB mk
      go_wp2_with (at_builtin; refine wpList_append_fits _ rfl _ _ 22 rfl w.heap.size 48 i0 6 Tryz.underlying22 hi hz1 w.heap.size (la + k) (la + 12) (rowE elN (ps ++ mkE mkN k)) rfl HO3.out ⟨w3.heap.size, 0, none⟩ 1 1 (rowE elN [mkN k]) rfl rfl HC.out HZ1.out (by omega) ?_; intro w4 ho4 hg4)
      have hb4 : Below w.heap.size w w4 := (HB3.out.alloc hs3 _).grown hg4 (by simp; omega) (fun k hk => by cases hk; exact Nat.le_refl _)
      have HO5 : Hid (w4.ownsRow w.heap.size 48 6 (.slice (some ⟨w.heap.size, 0, none⟩) (la + (k + 1)) (la + 12)) (la + (k + 1)) (rowE elN (ps ++ mkE mkN (k + 1)))) := by
        have := ho4
        rw [← rowE_append, List.append_assoc] at this
        exact this
      clear ho4 hg4 HO3 HC HZ1 HB3
      go_wp2_with fail
      go_roundw
      case rel => exact ⟨k + 1, by omega, by go_num, rfl, HO5, hb4⟩
      case measure => simp [intOf]; omega
    · obtain rfl : k = 12 := by omega
      have HV : Hid (Va wr w.heap.size 48 (rowE elN (ps ++ mkE mkN 12)).toArray) := full_rowE (E := elN) HO.out
      clear HO
      go_wp2_with fail
      go_ret
      exact ⟨rfl, HV.out, HB.out⟩
set_option maxRecDepth 20000 in
set_option maxHeartbeats 8000000 in
theorem keptN_any (a : Option Addr) (la ca g : Nat) (ps : List Nd) (w : World) (h : Le elN w a la ps) (ho : Va w g 48 (rowE elN (ps ++ mkE mkN 12)).toArray) (hl : la ≤ 5000000000000) :
    Calls Tryz.prog 12 #[.slice (some ⟨g, 0, none⟩) la (la + 12), .slice a la ca] w fun e w' => e = .returned (.bool true) ∧ Below w.heap.size w w' := by
  have hz := h.1; (have g1 : ((la : Int) != la) = false := by simp); (have HLEN : Hid ((ps ++ mkE mkN 12).length = la + 12) := by show _ = _; rw [List.length_append, mkE_length]; omega)
  have HO : Hid (Le elN w (some ⟨g, 0, none⟩) (la + 12) (ps ++ mkE mkN 12)) := by
    have := le_allE (E := elN) ho
    rwa [HLEN.out] at this
  have HSL : Hid (Le elN w a la ps) := h; clear ho h
  go_enter Tryz.func12, Tryz.ntmps12
  (go_wp2_with fail)
  go_loopw [6] (fun ii wr => ∃ k : Nat, k ≤ la + 12 ∧ ii = .int .i64 k ∧ Hid (Below w.heap.size w wr)) (fun ii _ => la + 12 - (intOf ii).toNat)
  case atStart => exact ⟨0, by omega, rfl, Below.refl _ _⟩
  case round =>
    obtain ⟨k, hk, rfl, HB⟩ := hrel
    by_cases hlt : k < la + 12
    · have hsz := HB.out.size
      (obtain ⟨y, hy⟩ : ∃ y, (ps ++ mkE mkN 12).getD k nd0 = y := ⟨_, rfl⟩); (have d0 : wr.cell? ⟨g, k * 6, none⟩ = some (.int .i64 y.kd) := by have := (HO.out.after HB.out).at k hlt 0 (.int .i64 y.kd) (by rw [show elN.dft = nd0 from rfl, hy]; rfl); simpa [elN] using this); (have d1 : wr.cell? ⟨g, k * 6 + 1, none⟩ = some (.int .i64 y.ks) := by have := (HO.out.after HB.out).at k hlt 1 (.int .i64 y.ks) (by rw [show elN.dft = nd0 from rfl, hy]; rfl); simpa [elN] using this); (have d2 : wr.cell? ⟨g, k * 6 + 2, none⟩ = some (sv y.nm) := by have := (HO.out.after HB.out).at k hlt 2 (sv y.nm) (by rw [show elN.dft = nd0 from rfl, hy]; rfl); simpa [elN] using this); (have d3 : wr.cell? ⟨g, k * 6 + 3, none⟩ = some (.int .i64 y.op) := by have := (HO.out.after HB.out).at k hlt 3 (.int .i64 y.op) (by rw [show elN.dft = nd0 from rfl, hy]; rfl); simpa [elN] using this); (have d4 : wr.cell? ⟨g, k * 6 + 4, none⟩ = some (.int .i64 y.un) := by have := (HO.out.after HB.out).at k hlt 4 (.int .i64 y.un) (by rw [show elN.dft = nd0 from rfl, hy]; rfl); simpa [elN] using this)
      (have d5 : wr.cell? ⟨g, k * 6 + 5, none⟩ = some (.int .i64 y.pl) := by have := (HO.out.after HB.out).at k hlt 5 (.int .i64 y.pl) (by rw [show elN.dft = nd0 from rfl, hy]; rfl); simpa [elN] using this)
      by_cases hkl : k < la
      · obtain ⟨b, o, rfl⟩ := HSL.out.ex (by omega)
        (have ez : ps.getD k nd0 = y := by rw [← hy, List.getD_eq_getElem?_getD, List.getD_eq_getElem?_getD, List.getElem?_append_left (by omega)]); (have e0 : wr.cell? ⟨b, o + (k * 6), none⟩ = some (.int .i64 y.kd) := by have := (HSL.out.after HB.out).at k hkl 0 (.int .i64 y.kd) (by rw [show elN.dft = nd0 from rfl, ez]; rfl); simpa [elN, Nat.add_assoc] using this); (have e1 : wr.cell? ⟨b, o + k * 6 + 1, none⟩ = some (.int .i64 y.ks) := by have := (HSL.out.after HB.out).at k hkl 1 (.int .i64 y.ks) (by rw [show elN.dft = nd0 from rfl, ez]; rfl); simpa [elN, Nat.add_assoc] using this); (have e2 : wr.cell? ⟨b, o + k * 6 + 2, none⟩ = some (sv y.nm) := by have := (HSL.out.after HB.out).at k hkl 2 (sv y.nm) (by rw [show elN.dft = nd0 from rfl, ez]; rfl); simpa [elN, Nat.add_assoc] using this); (have e3 : wr.cell? ⟨b, o + k * 6 + 3, none⟩ = some (.int .i64 y.op) := by have := (HSL.out.after HB.out).at k hkl 3 (.int .i64 y.op) (by rw [show elN.dft = nd0 from rfl, ez]; rfl); simpa [elN, Nat.add_assoc] using this)
        (have e4 : wr.cell? ⟨b, o + k * 6 + 4, none⟩ = some (.int .i64 y.un) := by have := (HSL.out.after HB.out).at k hkl 4 (.int .i64 y.un) (by rw [show elN.dft = nd0 from rfl, ez]; rfl); simpa [elN, Nat.add_assoc] using this); (have e5 : wr.cell? ⟨b, o + k * 6 + 5, none⟩ = some (.int .i64 y.pl) := by have := (HSL.out.after HB.out).at k hkl 5 (.int .i64 y.pl) (by rw [show elN.dft = nd0 from rfl, ez]; rfl); simpa [elN, Nat.add_assoc] using this); (have q1 : decide (k < la) = true := by simp; omega); (have q2 : decide (la ≤ k) = false := by simp; omega); clear ez hy; obtain ⟨y0, y1, y2, y3, y4, y5⟩ := y
        dsimp only at d0 d1 d2 d3 d4 d5 e0 e1 e2 e3 e4 e5
        (go_wp2_with fail)
        go_quiet (fail)
        (go_wp2_with fail)
        go_roundw
        case rel => exact ⟨k + 1, by omega, by go_num, below_drewN HB.out _⟩
        case measure => simp [intOf]; omega
      · have ez : y = mkN (k - la) := by
          rw [← hy, List.getD_eq_getElem?_getD, List.getElem?_append_right (by omega), ← List.getD_eq_getElem?_getD, hz, mkE_getD _ _ 12 (k - la) (by omega)]
        clear hy; subst ez; (have q1 : decide (k < la) = false := by simp; omega); (have q2 : decide (la ≤ k) = true := by simp; omega); (have q1i : ¬ (k : Int) < la := by omega); (have q2i : (la : Int) ≤ k := by omega); (have hm1 : k - la < 12 := by omega); (have ew : IntKind.i64.wrap ((k : Int) - la) = k - la := by rw [IntKind.wrap_i64]; omega); (have hki : (k : Int) < (la : Int) + 12 := by omega); (have hki0 : ¬ (k : Int) < 0 := by omega); (obtain ⟨m, hm⟩ : ∃ m : Nat, k - la = m := ⟨_, rfl⟩); (have hmi : (k : Int) - la = (m : Int) := by omega); have HM : Hid ((k : Int) - la = (m : Int)) := hmi; have HMN : Hid (k - la = m) := hm; rw [hm] at d0 d1 d2 d3 d4 d5 hm1; rw [hmi] at ew; (have ewm : IntKind.i64.wrap (m : Int) = (m : Int) := by rw [IntKind.wrap_i64]; omega); (have HMK : Hid (∀ X : World, Calls Tryz.prog 23 #[.int .i64 1, .int .i64 (IntKind.i64.wrap ((k : Int) - (la : Int)))] X fun e w' => e = .returned (.agg #[.int .i64 0, .int .i64 (8000024 + (m : Int)), .string ⟨#[]⟩, .int .i64 0, .int .i64 0, .int .i64 0]) ∧ Below X.heap.size X w') := fun X => by rw [hmi, ewm]; exact markN_any m hm1 X)
        clear hmi; (have q3 : ((8000024 + (m : Int) : Int) == 8000024 + m) = true := by simp); have hS0 : wr.drew.cell? ⟨g, k * 6, none⟩ = some (.int .i64 0) ∧ wr.drew.cell? ⟨g, k * 6 + 1, none⟩ = some (.int .i64 (8000024 + (m : Int))) ∧ wr.drew.cell? ⟨g, k * 6 + 2, none⟩ = some (.string ⟨#[]⟩) ∧ wr.drew.cell? ⟨g, k * 6 + 3, none⟩ = some (.int .i64 0) ∧ wr.drew.cell? ⟨g, k * 6 + 4, none⟩ = some (.int .i64 0) ∧ wr.drew.cell? ⟨g, k * 6 + 5, none⟩ = some (.int .i64 0) ∧ Hid (Below wr.heap.size wr wr.drew) := ⟨d0, d1, d2, d3, d4, d5, below_drw wr⟩; (go_wp2_with fail); refine wp_region_noPanic ?_; refine wp_region_held_drew (S := (fun X : World => X.cell? ⟨g, k * 6, none⟩ = some (.int .i64 0) ∧ X.cell? ⟨g, k * 6 + 1, none⟩ = some (.int .i64 (8000024 + (m : Int))) ∧ X.cell? ⟨g, k * 6 + 2, none⟩ = some (.string ⟨#[]⟩) ∧ X.cell? ⟨g, k * 6 + 3, none⟩ = some (.int .i64 0) ∧ X.cell? ⟨g, k * 6 + 4, none⟩ = some (.int .i64 0) ∧ X.cell? ⟨g, k * 6 + 5, none⟩ = some (.int .i64 0) ∧ Hid (Below wr.heap.size wr X))) (by kernel_rfl) hS0 (fun hHeld => ?_)
        refine tjz 0 hHeld ?_; refine tjz 1 hHeld ?_; refine tjz 2 hHeld ?_; refine tjz 3 hHeld ?_; refine tjz 4 hHeld ?_; refine wpAnyH_take (i := 5) (v := undef) rfl (by kernel_rfl) (by kernel_rfl) (by kernel_rfl) (fun _ _ _ h => h) (Or.inr ⟨by rfl, rfl⟩) hHeld ?_; simp only [gA, gB, gC, Act.put, gD, gE, gF]; refine wpAnyH_take (i := 6) (v := undef) rfl (by kernel_rfl) (by kernel_rfl) (by kernel_rfl) (fun _ _ _ h => h) (Or.inr ⟨by rfl, rfl⟩) hHeld ?_; simp only [gA, gB, gC, Act.put, gD, gE, gF]; refine wpAnyH_take (i := 7) (v := undef) rfl (by kernel_rfl) (by kernel_rfl) (by kernel_rfl) (fun _ _ _ h => h) (Or.inr ⟨by rfl, rfl⟩) hHeld ?_; simp only [gA, gB, gC, Act.put, gD, gE, gF]; refine wpAnyH_take (i := 8) (v := undef) rfl (by kernel_rfl) (by kernel_rfl) (by kernel_rfl) (fun _ _ _ h => h) (Or.inr ⟨by rfl, rfl⟩) hHeld ?_
        simp only [gA, gB, gC, Act.put, gD, gE, gF]; refine wpAnyH_take (i := 9) (v := undef) rfl (by kernel_rfl) (by kernel_rfl) (by kernel_rfl) (fun _ _ _ h => h) (Or.inr ⟨by rfl, rfl⟩) hHeld ?_; simp only [gA, gB, gC, Act.put, gD, gE, gF]; refine wpAnyH_take (i := 10) (v := undef) rfl (by kernel_rfl) (by kernel_rfl) (by kernel_rfl) (fun _ _ _ h => h) (Or.inr ⟨by rfl, rfl⟩) hHeld ?_; simp only [gA, gB, gC, Act.put, gD, gE, gF]; refine wpAnyH_take (i := 11) (v := undef) rfl (by kernel_rfl) (by kernel_rfl) (by kernel_rfl) (fun _ _ _ h => h) (Or.inr ⟨by rfl, rfl⟩) hHeld ?_; simp only [gA, gB, gC, Act.put, gD, gE, gF]; refine wpAnyH_take (i := 12) (v := undef) rfl (by kernel_rfl) (by kernel_rfl) (by kernel_rfl) (fun _ _ _ h => h) (Or.inr ⟨by rfl, rfl⟩) hHeld ?_; simp only [gA, gB, gC, Act.put, gD, gE, gF]; refine wpAnyH_take (i := 13) (v := undef) rfl (by kernel_rfl) (by kernel_rfl) (by kernel_rfl) (fun _ _ _ h => h) (Or.inr ⟨by rfl, rfl⟩) hHeld ?_
        simp only [gA, gB, gC, Act.put, gD, gE, gF]; refine wpAnyH_take (i := 14) (v := undef) rfl (by kernel_rfl) (by kernel_rfl) (by kernel_rfl) (fun _ _ _ h => h) (Or.inr ⟨by rfl, rfl⟩) hHeld ?_; simp only [gA, gB, gC, Act.put, gD, gE, gF]; refine tjz 15 hHeld ?_; refine tjz 16 hHeld ?_; refine tjz 17 hHeld ?_; refine tjz 18 hHeld ?_; refine tjz 19 hHeld ?_; refine tjz 20 hHeld ?_; refine tjz 21 hHeld ?_; refine tjz 22 hHeld ?_; refine tjz 23 hHeld ?_; refine tjz 24 hHeld ?_
        refine tjz 25 hHeld ?_; refine tjz 26 hHeld ?_; refine tjz 27 hHeld ?_; refine tjz 28 hHeld ?_; refine tjz 29 hHeld ?_; refine ryz 30 (fun K hK => ?_); simp only [gA, gB, gC]; (go_simp); refine (HMK.out _).mono ?_; rintro e y ⟨rfl, hby⟩; have hSy : y.cell? ⟨g, k * 6, none⟩ = some (.int .i64 0) ∧ y.cell? ⟨g, k * 6 + 1, none⟩ = some (.int .i64 (8000024 + (m : Int))) ∧ y.cell? ⟨g, k * 6 + 2, none⟩ = some (.string ⟨#[]⟩) ∧ y.cell? ⟨g, k * 6 + 3, none⟩ = some (.int .i64 0) ∧ y.cell? ⟨g, k * 6 + 4, none⟩ = some (.int .i64 0) ∧ y.cell? ⟨g, k * 6 + 5, none⟩ = some (.int .i64 0) ∧ Hid (Below wr.heap.size wr y) := ⟨(hby.cell (p := ⟨g, k * 6, none⟩) (cell_lt hHeld.1)).trans hHeld.1, (hby.cell (p := ⟨g, k * 6 + 1, none⟩) (cell_lt hHeld.2.1)).trans hHeld.2.1, (hby.cell (p := ⟨g, k * 6 + 2, none⟩) (cell_lt hHeld.2.2.1)).trans hHeld.2.2.1, (hby.cell (p := ⟨g, k * 6 + 3, none⟩) (cell_lt hHeld.2.2.2.1)).trans hHeld.2.2.2.1, (hby.cell (p := ⟨g, k * 6 + 4, none⟩) (cell_lt hHeld.2.2.2.2.1)).trans hHeld.2.2.2.2.1, (hby.cell (p := ⟨g, k * 6 + 5, none⟩) (cell_lt hHeld.2.2.2.2.2.1)).trans hHeld.2.2.2.2.2.1, step hHeld.2.2.2.2.2.2.out hby⟩
        (try go_wp2_with fail); refine hK.out _ _ hSy (fun hHeld => ?_); clear hK K; refine tjz 31 hHeld ?_; refine tjz 32 hHeld ?_; refine tjz 33 hHeld ?_; refine tjz 34 hHeld ?_; refine dnz ?_; have HBy : Hid (Below w.heap.size w y) := step HB.out hSy.2.2.2.2.2.2.out; clear hSy hS0; (go_wp2_with fail)
        go_roundw
        case rel => exact ⟨k + 1, by omega, by go_num, HBy.out⟩
        case measure => simp [intOf]; omega
    · go_wp2_with fail
      go_ret
      exact ⟨rfl, HB.out⟩
end Go.Proofs.YtblafbbnplfpjaaGreatDoor
namespace Go.Proofs.YtblafbbnplfpjaaGreatDoor
open Go.RowKit Go.Shelf

theorem rlong_no (a : Option Addr) (len cap : Nat) (zs : List Int) (w : World) (h : Sl w a len zs) (hl : len ≤ 40000000000000) (hu : usedN zs ≤ 4096) :
    Calls Tryz.prog 109 #[.slice a len cap] w fun e w' => e = .returned (.bool false) ∧ Below w.heap.size w w' := by
  have e1 : decide ((4096 : Int) < usedN zs) = false := by simp; omega
  refine (rlong_any a len cap zs w h hl).mono ?_
  rintro e w' ⟨rfl, rfl⟩
  rw [e1]
  exact ⟨rfl, Below.refl _ _⟩
theorem rlong_yes (a : Option Addr) (len cap : Nat) (zs : List Int) (w : World) (h : Sl w a len zs) (hl : len ≤ 40000000000000) (hu : 4096 < usedN zs) :
    Calls Tryz.prog 109 #[.slice a len cap] w fun e w' => e = .returned (.bool true) ∧ Below w.heap.size w w' := by
  have e1 : decide ((4096 : Int) < usedN zs) = true := by simp; omega
  refine (rlong_any a len cap zs w h hl).mono ?_
  rintro e w' ⟨rfl, rfl⟩
  rw [e1]
  exact ⟨rfl, Below.refl _ _⟩
end Go.Proofs.YtblafbbnplfpjaaGreatDoor
