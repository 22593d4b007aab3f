/-
  The statements' chain and wide; the walk of TraitNumbers.
-/
import Derived.Test.YtmjfkciaohbkoaaDoorMgAl
import Derived.Test.YtmjfkciaohbkoaaDoorMgAj
namespace Go.Proofs.YtmjfkciaohbkoaaDoor
open Go.RowKit Go.Shelf
set_option linter.unusedVariables false

set_option maxHeartbeats 4000000 in
theorem chain_any (n : Nat) (hn : n ≤ 16) (w : World) :
    Calls Tryd.prog 5 #[.int .i64 n] w fun e w' => ∃ a' c', e = .returned (.slice a' (chN n).length c') ∧ Le elN w' a' (chN n).length (chN n) ∧ Below w.heap.size w w' := by
  go_enter Tryd.func5, Tryd.ntmps5
  go_wp2_with fail
  go_loopw [3, 4] (fun li j wr => ∃ i : Nat, j = .int .i64 i ∧ i ≤ n ∧ Hid (Ge elN wr w.heap.size li (List.replicate i ndN)) ∧ Hid (Below w.heap.size w wr)) (fun _ j _ => (n - (intOf j).toNat : Nat))
  case atStart => exact ⟨0, rfl, Nat.zero_le _, Ge.nil _ _, Below.refl _ _⟩
  case round =>
    obtain ⟨i, rfl, hi, HG, HB⟩ := hrel
    obtain ⟨L, hL⟩ : ∃ L, List.replicate i ndN = L := ⟨_, rfl⟩
    have hLl : L.length = i := by rw [← hL]; simp
    have HL : Hid (L ++ [ndN] = List.replicate (i + 1) ndN) := by show _ = _; rw [← hL, List.replicate_succ']
    have HL2 : Hid (i = n → L ++ [buyN] = chN n) := fun h => by rw [← hL, h]; rfl
    rw [hL] at HG
    obtain ⟨ao, co, hli, -, -, -⟩ := HG.out.shape
    subst hli
    clear hL
    have hsz := HB.out.size
    rcases Nat.lt_or_ge i n with hlt | hge
    · have hii : (i : Int) < (n : Int) := by omega
      have HN : Hid (Le elN (wr.alloc (.cells #[.int .i64 3, .int .i64 1, sv [], .int .i64 0, .int .i64 0, .int .i64 0] 32)) (some ⟨wr.heap.size, 0, none⟩) 1 [ndN]) := Le.one (Va.new wr _ _) rfl
      go_wp2_with (at_builtin; refine wpList_appE rfl _ _ _ rfl elN rfl w.heap.size _ L rfl (HG.out.al _) wr.heap.size 0 1 1 [ndN] rfl HN.out (by omega) (by simp; omega) ?_; intro v' w6 hg6 hgr6 hob6; obtain ⟨a6, c6, rfl, -, -, -⟩ := hg6.shape)
      have HG6 : Hid (Ge elN w6 w.heap.size (.slice a6 (L ++ [ndN]).length c6) (L ++ [ndN])) := hg6
      have HB6 : Hid (Below w.heap.size w w6) := HB.out.trans (appE_below hgr6 HG.out (by simp; omega) ((Below.refl _ _).alloc (by omega) _))
      clear hg6 hgr6 hob6 HG HB HN
      go_wp2_with fail
      go_roundw
      case rel => exact ⟨i + 1, rfl, by omega, by rw [← HL.out]; have h9 := HG6.out; rw [List.length_append, hLl] at h9; exact h9, HB6.out⟩
      case measure => simp [intOf]; omega
    · have hii : ¬ (i : Int) < (n : Int) := by omega
      have HL3 : Hid (L ++ [buyN] = chN n) := HL2.out (by omega)
      have HN : Hid (Le elN (wr.alloc (.cells #[.int .i64 4, .int .i64 0, sv [97], .int .i64 0, .int .i64 0, .int .i64 0] 32)) (some ⟨wr.heap.size, 0, none⟩) 1 [buyN]) := Le.one (Va.new wr _ _) rfl
      go_wp2_with (at_builtin; refine wpList_appE rfl _ _ _ rfl elN rfl w.heap.size _ L rfl (HG.out.al _) wr.heap.size 0 1 1 [buyN] rfl HN.out (by omega) (by simp; omega) ?_; intro v' w6 hg6 hgr6 hob6; obtain ⟨a6, c6, rfl, -, -, -⟩ := hg6.shape)
      have HG6 : Hid (Ge elN w6 w.heap.size (.slice a6 (L ++ [buyN]).length c6) (L ++ [buyN])) := hg6
      have B6 : Below w.heap.size w w6 := HB.out.trans (appE_below hgr6 HG.out (by simp; omega) ((Below.refl _ _).alloc (by omega) _))
      clear hg6 hgr6 hob6 HG HB HN
      go_wp2_with fail
      go_ret
      have hl : (chN n).length = i + 1 := by rw [← HL3.out, List.length_append, hLl]; rfl
      have h9 := HG6.out.toLe
      rw [HL3.out, hl] at h9
      rw [hl]
      first | exact ⟨a6, c6, rfl, h9, B6⟩ | exact ⟨a6, ⟨c6, rfl⟩, h9, B6⟩
set_option maxHeartbeats 4000000 in
theorem wide_any (n : Nat) (hn : n ≤ 63) (t : Nd) (w : World) :
    Calls Tryd.prog 6 #[.int .i64 n, nv t] w fun e w' => ∃ a' c', e = .returned (.slice a' (wdN n t).length c') ∧ Le elN w' a' (wdN n t).length (wdN n t) ∧ Below w.heap.size w w' := by
  go_enter Tryd.func6, Tryd.ntmps6
  go_upto_region 2 with fail
  refine ent2 w _ _ _ _ (Q := fun W => Code.wp _ _ _ _ W) ?_
  intro W1 hb1 hs1 V0 V1
  have HG1 : Hid (Ge elN W1 (w.heap.size + 1) (.slice (some ⟨w.heap.size + 1, 0, none⟩) 2 2) [ndN, ⟨2, (n : Int), [], 0, 0, 0⟩]) := Ge.of V1 (Nat.le_refl _) rfl rfl (by decide)
  have HB1 : Hid (Below w.heap.size w W1) := hb1
  have HV1 : Hid (Va W1 w.heap.size 32 #[.int .i64 t.kd, .int .i64 t.ks, sv t.nm, .int .i64 t.op, .int .i64 t.un, .int .i64 t.pl]) := V0
  have hsz1 : w.heap.size + 2 ≤ W1.heap.size := by omega
  clear V0 V1 hb1 hs1
  go_wp2_with fail
  go_loopw [5, 6] (fun li j wr => ∃ i : Nat, j = .int .i64 i ∧ i ≤ n ∧ Hid (Ge elN wr (w.heap.size + 1) li (ndN :: ⟨2, (n : Int), [], 0, 0, 0⟩ :: List.replicate i t)) ∧ Hid (Below w.heap.size w wr) ∧ Hid (Va wr w.heap.size 32 #[.int .i64 t.kd, .int .i64 t.ks, sv t.nm, .int .i64 t.op, .int .i64 t.un, .int .i64 t.pl]) ∧ w.heap.size + 2 ≤ wr.heap.size) (fun _ j _ => (n - (intOf j).toNat : Nat))
  case atStart => exact ⟨0, rfl, Nat.zero_le _, HG1.out, HB1.out, HV1.out, hsz1⟩
  case round =>
    clear HG1 HB1 HV1 hsz1
    obtain ⟨i, rfl, hi, HG, HB, HVb, hsz⟩ := hrel
    obtain ⟨L, hL⟩ : ∃ L, (ndN :: ⟨2, (n : Int), [], 0, 0, 0⟩ :: List.replicate i t) = L := ⟨_, rfl⟩
    have hLl : L.length = i + 2 := by rw [← hL]; simp
    have HL : Hid (L ++ [t] = ndN :: ⟨2, (n : Int), [], 0, 0, 0⟩ :: List.replicate (i + 1) t) := by show _ = _; rw [← hL, List.replicate_succ']; rfl
    have HL2 : Hid (i = n → L = wdN n t) := fun h => by rw [← hL, h]; rfl
    rw [hL] at HG
    obtain ⟨ao, co, hli, -, -, -⟩ := HG.out.shape
    subst hli
    clear hL
    rcases Nat.lt_or_ge i n with hlt | hge
    · have hii : (i : Int) < (n : Int) := by omega
      have n0 := HVb.out.n0
      have n1 := HVb.out.n1
      have n2 := HVb.out.n2
      have n3 := HVb.out.n3
      have n4 := HVb.out.n4
      have n5 := HVb.out.n5
      have HN : Hid (Le elN (wr.alloc (.cells #[.int .i64 t.kd, .int .i64 t.ks, sv t.nm, .int .i64 t.op, .int .i64 t.un, .int .i64 t.pl] 32)) (some ⟨wr.heap.size, 0, none⟩) 1 [t]) := Le.one (Va.new wr _ _) rfl
      go_wp2_with (at_builtin; refine wpList_appE rfl _ _ _ rfl elN rfl (w.heap.size + 1) _ L rfl (HG.out.al _) wr.heap.size 0 1 1 [t] rfl HN.out (by omega) (by simp; omega) ?_; intro v' w6 hg6 hgr6 hob6; obtain ⟨a6, c6, rfl, -, -, -⟩ := hg6.shape)
      have HG6 : Hid (Ge elN w6 (w.heap.size + 1) (.slice a6 (L ++ [t]).length c6) (L ++ [t])) := hg6
      have B6 : Below (w.heap.size + 1) wr w6 := appE_below hgr6 HG.out (by simp; omega) ((Below.refl _ _).alloc (by omega) _)
      have HB6 : Hid (Below w.heap.size w w6) := HB.out.trans (appE_below hgr6 (HG.out.le (Nat.le_succ _)) (by simp; omega) ((Below.refl _ _).alloc (by omega) _))
      have HV6 : Hid (Va w6 w.heap.size 32 #[.int .i64 t.kd, .int .i64 t.ks, sv t.nm, .int .i64 t.op, .int .i64 t.un, .int .i64 t.pl]) := HVb.out.below B6 (by omega)
      have hsz6 : w.heap.size + 2 ≤ w6.heap.size := by have := B6.size; omega
      clear hg6 hgr6 hob6 HG HB HN HVb B6 n0 n1 n2 n3 n4 n5
      go_wp2_with fail
      go_roundw
      case rel => exact ⟨i + 1, rfl, by omega, by rw [← HL.out]; have h9 := HG6.out; rw [List.length_append, hLl] at h9; exact h9, HB6.out, HV6.out, hsz6⟩
      case measure => simp [intOf]; omega
    · have hii : ¬ (i : Int) < (n : Int) := by omega
      have HL3 : Hid (L = wdN n t) := HL2.out (by omega)
      go_wp2_with fail
      go_ret
      have hl : (wdN n t).length = i + 2 := by rw [← HL3.out, hLl]
      have h9 := HG.out.toLe
      rw [HL3.out, hl] at h9
      rw [hl]
      first | exact ⟨ao, co, rfl, h9, HB.out⟩ | exact ⟨ao, ⟨co, rfl⟩, h9, HB.out⟩
theorem fit5 : ¬ FtOk [] [] 0 5 0 := fun h => absurd h.2.2.2.1 (by decide)
set_option maxHeartbeats 8000000 in
theorem numbers_walk (w : World) :
    Calls Tryd.prog 3 #[] w fun e w' => e = .returned (.bool true) ∧ Below w.heap.size w w' := by
  have B := Below.refl w.heap.size w
  go_enter Tryd.func3, Tryd.ntmps3
  go_wp2_with fail
  refine Calls.mono (chain_any 15 (by decide) _) ?_
  rintro e W1 ⟨a, c, rfl, hl, hb⟩
  replace B := step B hb
  clear hb
  have HL : Hid (Le elN W1 a (chN 15).length (chN 15)) := hl
  clear hl
  go_wp2_with fail
  have D := check13 (chN 15) a c W1 HL.out (ch64 15)
  rw [ckE_ok ch15] at D
  refine Calls.mono (D) ?_
  rintro e W2 ⟨rfl, hb⟩
  replace B := step B hb
  clear hb
  clear D HL
  go_wp2_with fail
  refine Calls.mono (chain_any 16 (by decide) _) ?_
  rintro e W3 ⟨a, c, rfl, hl, hb⟩
  replace B := step B hb
  clear hb
  have HL : Hid (Le elN W3 a (chN 16).length (chN 16)) := hl
  clear hl
  go_wp2_with fail
  have D := check13 (chN 16) a c W3 HL.out (ch64 16)
  rw [ckE_no ch16] at D
  refine Calls.mono (D) ?_
  rintro e W4 ⟨rfl, hb⟩
  replace B := step B hb
  clear hb
  clear D HL
  go_wp2_with fail
  refine Calls.mono (wide_any 62 (by decide) linN _) ?_
  rintro e W5 ⟨a, c, rfl, hl, hb⟩
  replace B := step B hb
  clear hb
  have HL : Hid (Le elN W5 a (wdN 62 linN).length (wdN 62 linN)) := hl
  clear hl
  go_wp2_with fail
  have D := check13 (wdN 62 linN) a c W5 HL.out (wdn64 62 (by decide) linN (nd64 (by decide)))
  rw [ckE_ok (wd62 lin_ok rfl (by decide))] at D
  refine Calls.mono (D) ?_
  rintro e W6 ⟨rfl, hb⟩
  replace B := step B hb
  clear hb
  clear D HL
  go_wp2_with fail
  refine Calls.mono (wide_any 63 (by decide) linN _) ?_
  rintro e W7 ⟨a, c, rfl, hl, hb⟩
  replace B := step B hb
  clear hb
  have HL : Hid (Le elN W7 a (wdN 63 linN).length (wdN 63 linN)) := hl
  clear hl
  go_wp2_with fail
  have D := check13 (wdN 63 linN) a c W7 HL.out (wdn64 63 (by decide) linN (nd64 (by decide)))
  rw [ckE_no (wd63 linN)] at D
  refine Calls.mono (D) ?_
  rintro e W8 ⟨rfl, hb⟩
  replace B := step B hb
  clear hb
  clear D HL
  go_wp2_with fail
  refine Calls.mono (wide_any 62 (by decide) linN _) ?_
  rintro e W9 ⟨a, c, rfl, hl, hb⟩
  replace B := step B hb
  clear hb
  have HL : Hid (Le elN W9 a (wdN 62 linN).length (wdN 62 linN)) := hl
  clear hl
  go_wp2_with fail
  refine Calls.mono (plain13 (wdN 62 linN) a c W9 HL.out (wdn64 62 (by decide) linN (nd64 (by decide)))) ?_
  rintro e W10 ⟨out, a2, c2, er, rfl, hge, hpl, hb⟩
  obtain rfl := plain_lin hpl
  replace B := step B hb
  clear hb
  clear HL hge hpl
  go_wp2_with fail
  refine Calls.mono (wide_any 62 (by decide) qtyN _) ?_
  rintro e W11 ⟨a, c, rfl, hl, hb⟩
  replace B := step B hb
  clear hb
  have HL : Hid (Le elN W11 a (wdN 62 qtyN).length (wdN 62 qtyN)) := hl
  clear hl
  go_wp2_with fail
  refine Calls.mono (plain13 (wdN 62 qtyN) a c W11 HL.out (wdn64 62 (by decide) qtyN (nd64 (by decide)))) ?_
  rintro e W12 ⟨out, a2, c2, er, rfl, hge, hpl, hb⟩
  obtain ⟨rfl, hl⟩ := plain_qty hpl
  rw [hl]
  clear hl
  replace B := step B hb
  clear hb
  clear HL hge hpl
  go_wp2_with fail
  refine Calls.mono (class_any cl8 W12 (by decide)) ?_
  rintro e W13 (⟨h, -⟩ | ⟨-, a3, c3, rfl, -, -, -, hb⟩)
  · rw [cl8_ok.1] at h; cases h
  rw [cl8_ok.2]
  replace B := step B hb
  clear hb
  go_wp2_with fail
  refine Calls.mono (class_any cl9 W13 (by decide)) ?_
  rintro e W14 (⟨-, rfl, hb⟩ | ⟨h, -⟩)
  rotate_left
  · rw [cl9_no] at h; cases h
  replace B := step B hb
  clear hb
  go_wp2_with fail
  have D := fit_any [] [] none 0 none 0 0 5 0 W14 (Le.nil _ _) (Le.nil _ _)
  rw [ftE_no fit5] at D
  refine Calls.mono (D) ?_
  rintro e W15 ⟨rfl, hb⟩
  replace B := step B hb
  clear hb
  clear D
  go_wp2_with fail
  go_ret
  exact ⟨rfl, B⟩
end Go.Proofs.YtmjfkciaohbkoaaDoor
