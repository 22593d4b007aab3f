/-
  The document's Sort.
-/
import Derived.Test.YtcfcknhmoecmoaaRsP
import Derived.Test.YtcfcknhmoecmoaaOdD
import Derived.Test.YtcfcknhmoecmoaaOd5
namespace Go.Proofs.Ytcfcknhmoecmoaa
open Go.RowKit Go.Shelf
set_option linter.unusedVariables false
set_option linter.unusedSimpArgs false

set_option maxRecDepth 20000 in
set_option maxHeartbeats 16000000 in
theorem rsort_ok (n : Nat) (a : Option Addr) (len cap : Nat) (xs : List Pr) (w : World) (h : La w a len xs) (hc : ckE n xs = 0) :
    Calls Try.prog 12 #[.int .i64 (n : Int), .slice a len cap] w fun e w' => (∃ v k, e = .returned (.tuple #[v, .int .i64 k]) ∧ SoR w' w.heap.size n xs v k) ∧ Below w.heap.size w w' := by
  have hC := rcheck_any n a len cap xs w h
  rw [hc] at hC
  obtain ⟨h0, h1, h2, h3⟩ := ckE_ok hc
  have HL : Hid (La w a len xs) := h
  have hlen := h.1
  have HCk : Hid (ckE n xs = 0) := hc
  have HOk : Hid (xs.all (okA n) = true) := h3
  have hn : n ≤ 4096 := by omega
  have hl6 : len ≤ 65536 := by omega
  have HLn : Hid (xs.length = len) := hlen
  have hmi := fun W => make_int n (by omega) W
  have hmr := make_rows n (by omega)
  have hmb := fun W => make_bool n (by omega) W
  clear h hc h3 h2 hlen h0 h1
  go_enter Try.func12, Try.ntmps12
  go_wp2_with (go_at_call 32; refine hC.mono ?_; rintro e w1 ⟨rfl, hw1⟩; rw [hw1]; clear hw1 w1 hC)
  obtain ⟨W0, hW0⟩ : ∃ W0, W0 = w.alloc (Obj.cells (Array.replicate n (Value.int .i64 0)) 3) := ⟨_, rfl⟩
  rw [← hW0]
  have HF0 : Hid (Fn n W0 w.heap.size (lnf ([] : List Pr))) := Fn.noughts (by rw [hW0]; exact Va.new _ _ _)
  have HB0 : Hid (Below w.heap.size w W0) := by rw [hW0]; exact (Below.refl _ _).alloc (Nat.le_refl _) _
  have HS0 : Hid (W0.heap.size = w.heap.size + 1) := by rw [hW0]; show _ = _; simp
  clear hW0 hmi
  refine ent1 W0 _ _ (Q := fun W => Code.wp _ _ _ _ W) ?_
  intro W1 hB1 hs1 V1
  have HD0 : Hid (Dg n W0 W1 _ (nlf (swp ([] : List Pr)))) := Dg.start V1 hB1
  clear V1 hB1 hs1 hmr
  obtain ⟨g, hg⟩ : ∃ g, w.heap.size + 1 = g := ⟨_, rfl⟩
  rw [hg]
  have HG : Hid (W0.heap.size = g) := by show _ = _; rw [← hg]; exact HS0.out
  have HGw : Hid (g = w.heap.size + 1) := hg.symm
  clear hg
  go_loopw [9] (fun j wz => ∃ (k : Nat) (Wb : World) (f : Nat → Value), j = .int .i64 k ∧ k ≤ len ∧ Hid (Wb.heap.size = g) ∧ Hid (Below w.heap.size w Wb) ∧ Hid (Fn n Wb w.heap.size (lnf (xs.take k))) ∧ Hid (Dg n Wb wz f (nlf (swp (xs.take k))))) (fun j _ => (len - (intOf j).toNat : Nat))
  case atStart => exact ⟨0, W0, _, rfl, Nat.zero_le _, HG.out, HB0.out, HF0.out, HD0.out⟩
  case round =>
    clear HF0 HB0 HS0 HD0 HG
    obtain ⟨k, Wb, f, rfl, hk, HG, HB, HF, HD⟩ := hrel
    have hgs := HG.out
    have HBr : Hid (Below w.heap.size w wr) := HB.out.trans (HD.out.below.mono (by rw [HG.out, HGw.out]; omega))
    rcases Nat.lt_or_ge k len with hlt | hge
    · obtain ⟨b, off, rfl, c0, c1⟩ := (HL.out.after HBr.out).arc hlt
      obtain ⟨b', off', e9, cw0, cw1⟩ := HL.out.arc hlt
      cases e9
      have hki : (k : Int) < len := by omega
      have hok := okA_iff.1 (okA_at HOk.out (i := k) (by rw [HLn.out]; exact hlt))
      obtain ⟨x, hx⟩ : ∃ x : Nat, (xs.getD k (0, 0)).1 = x := ⟨(xs.getD k (0, 0)).1.toNat, by omega⟩
      obtain ⟨y, hy⟩ : ∃ y : Nat, (xs.getD k (0, 0)).2 = y := ⟨(xs.getD k (0, 0)).2.toNat, by omega⟩
      have HT : Hid (xs.take (k + 1) = xs.take k ++ [((x : Int), (y : Int))]) := by
        show _ = _
        rw [take_snoc (0, 0) (by rw [HLn.out]; exact hlt), ← hx, ← hy]
      rw [hx] at c0 cw0 hok
      rw [hy] at c1 cw1 hok
      have HSw : Hid (∀ W, Below w.heap.size w W → W.cell? ⟨b, off + k * 2, none⟩ = some (.int .i64 (x : Int)) ∧ W.cell? ⟨b, off + k * 2 + 1, none⟩ = some (.int .i64 (y : Int)) ∧ Hid (Below w.heap.size w W)) := fun W hW =>
        ⟨(hW.cell (p := ⟨b, _, none⟩) (cell_lt cw0)).trans cw0, (hW.cell (p := ⟨b, _, none⟩) (cell_lt cw1)).trans cw1, hW⟩
      have hyi : (y : Int) < n := by omega
      have hxi : (x : Int) < n := by omega
      have hxx : x < n := by omega
      have hxn : y < n := by omega
      clear hx hy hok cw0 cw1
      have HFr : Hid (Fn n wr w.heap.size (lnf (xs.take k))) := Fv.after (HD.out.below.mono (Nat.le_refl _)) HF.out
      have cx := HFr.out.cell hxx
      have fx := Fv.frozen HFr.out x
      have hlk : lnf (xs.take k) x ≤ 65536 := by
        have := nlf_len (xs.take k) x
        rw [List.length_take] at this
        unfold lnf; omega
      obtain ⟨lx, hlx⟩ : ∃ lx, lx = lnf (xs.take k) x := ⟨_, rfl⟩
      have HLx : Hid (lx = lnf (xs.take k) x) := hlx
      rw [← hlx] at cx hlk
      clear hlx
      have hwl : IntKind.i64.wrap ((lx : Int) + 1) = (lx : Int) + 1 := by rw [IntKind.wrap_i64]; omega
      have hwlt : w.heap.size < wr.heap.size := HFr.out.lt
      go_wp2_with fail
      refine nameW (Q := fun W => Code.wp _ _ _ _ W) (fun W2 hW2 => ?_)
      obtain ⟨Wb2, hWb2⟩ : ∃ Wb2, Wb2 = Wb.setCell ⟨w.heap.size, x, none⟩ (.int .i64 ((lx : Int) + 1)) := ⟨_, rfl⟩
      have HD2 : Hid (Dg n Wb2 W2 f (nlf (swp (xs.take k)))) := by rw [hWb2, hW2]; exact HD.out.rebase (p := ⟨w.heap.size, x, none⟩) (by show w.heap.size < _; have := HGw.out; omega) _
      have hG2 : Wb2.heap.size = g := by rw [hWb2]; simpa using hgs
      have HF2 : Hid (Fn n Wb2 w.heap.size (lnf (xs.take (k + 1)))) := by
        rw [HT.out, lnf_snoc, ← HLx.out, hWb2]
        have h9 := Fn.set HF.out x (lx + 1)
        show Fn _ _ _ _
        simpa using h9
      have HB2 : Hid (Below w.heap.size w Wb2) := by rw [hWb2]; exact HB.out.setCell (p := ⟨w.heap.size, x, none⟩) (Nat.le_refl _) _
      have HBW : Hid (Below w.heap.size w W2) := by rw [hW2]; exact HBr.out.setCell (p := ⟨w.heap.size, x, none⟩) (Nat.le_refl _) _
      clear c0 c1 cx fx hW2 hWb2 HD HB HF HFr HBr HLx hgs HG hwl hlk hwlt
      subst hG2
      have HLn2 : Hid ((ints (nlf (swp (xs.take k)) y)).length + 1 ≤ 1000000000000) := by
        have := nlf_len (swp (xs.take k)) y
        rw [swp_length, List.length_take] at this
        show _ ≤ _; rw [ints_length]; omega
      have HDd : Hid (Dg n Wb2 W2.drew _ _) := HD2.out.drw 1
      refine wp_region_noPanic ?_
      refine wp_region_held_drew (S := (fun W => W.cell? ⟨b, off + k * 2, none⟩ = some (.int .i64 (x : Int)) ∧ W.cell? ⟨b, off + k * 2 + 1, none⟩ = some (.int .i64 (y : Int)) ∧ Hid (Below w.heap.size w W))) (by kernel_rfl) (HSw.out _ (below_drw1 HBW.out)) (fun hHeld => ?_)
      obtain ⟨xd, hxd⟩ : ∃ xd, xd = W2.drew := ⟨_, rfl⟩
      rw [← hxd] at HDd hHeld  ⊢
      clear hxd
      refine wpAnyH_take (i := 0) (v := ?_) rfl (by kernel_rfl) (by kernel_rfl) (by kernel_rfl) (fun _ _ _ h => h) (Or.inl ⟨by rfl, ?_⟩) hHeld ?_
      rotate_left
      · (intro W hSw; (try dsimp only at hSw); go_simp; all_goals (with_reducible rfl))
      simp only [List.getElem_toArray, List.getElem_cons_zero, Act.put, List.setIfInBounds_toArray, List.set_cons_zero, List.set_cons_succ]
      refine wpAnyH_take (i := 1) (v := ?_) rfl (by kernel_rfl) (by kernel_rfl) (by kernel_rfl) (fun _ _ _ h => h) (Or.inl ⟨by rfl, ?_⟩) hHeld ?_
      rotate_left
      · (intro W hSw; (try dsimp only at hSw); go_simp; all_goals (with_reducible rfl))
      simp only [List.getElem_toArray, List.getElem_cons_zero, List.getElem_cons_succ, Act.put, List.setIfInBounds_toArray, List.set_cons_zero, List.set_cons_succ]
      refine wpAnyH_take (i := 2) (v := ?_) rfl (by kernel_rfl) (by kernel_rfl) (by kernel_rfl) (fun _ _ _ h => h) (Or.inl ⟨by rfl, ?_⟩) hHeld ?_
      rotate_left
      · (intro W hSw; (try dsimp only at hSw); go_simp; all_goals (with_reducible rfl))
      simp only [List.getElem_toArray, List.getElem_cons_zero, List.getElem_cons_succ, Act.put, List.setIfInBounds_toArray, List.set_cons_zero, List.set_cons_succ]
      refine wpAnyH_take (i := 3) (v := ?_) rfl (by kernel_rfl) (by kernel_rfl) (by kernel_rfl) (fun _ _ _ h => h) (Or.inl ⟨by rfl, ?_⟩) hHeld ?_
      rotate_left
      · (intro W hSw; (try dsimp only at hSw); go_simp; all_goals (with_reducible rfl))
      simp only [List.getElem_toArray, List.getElem_cons_zero, List.getElem_cons_succ, Act.put, List.setIfInBounds_toArray, List.set_cons_zero, List.set_cons_succ]
      refine wpAnyH_take (i := 4) (v := ?_) rfl (by kernel_rfl) (by kernel_rfl) (by kernel_rfl) (fun _ _ _ h => h) (Or.inl ⟨by rfl, ?_⟩) hHeld ?_
      rotate_left
      · (intro W hSw; (try dsimp only at hSw); go_simp; all_goals (with_reducible rfl))
      simp only [List.getElem_toArray, List.getElem_cons_zero, List.getElem_cons_succ, Act.put, List.setIfInBounds_toArray, List.set_cons_zero, List.set_cons_succ]
      refine wpAnyH_take (i := 5) (v := ?_) rfl (by kernel_rfl) (by kernel_rfl) (by kernel_rfl) (fun _ _ _ h => h) (Or.inl ⟨by rfl, ?_⟩) hHeld ?_
      rotate_left
      · (intro W hSw; (try dsimp only at hSw); go_simp; all_goals (with_reducible rfl))
      simp only [List.getElem_toArray, List.getElem_cons_zero, List.getElem_cons_succ, Act.put, List.setIfInBounds_toArray, List.set_cons_zero, List.set_cons_succ]
      refine wpAnyH_take (i := 6) (v := ?_) rfl (by kernel_rfl) (by kernel_rfl) (by kernel_rfl) (fun _ _ _ h => h) (Or.inl ⟨by rfl, ?_⟩) hHeld ?_
      rotate_left
      · (intro W hSw; (try dsimp only at hSw); go_simp; all_goals (with_reducible rfl))
      simp only [List.getElem_toArray, List.getElem_cons_zero, List.getElem_cons_succ, Act.put, List.setIfInBounds_toArray, List.set_cons_zero, List.set_cons_succ]
      refine wpAnyH_take (i := 7) (v := ?_) rfl (by kernel_rfl) (by kernel_rfl) (by kernel_rfl) (fun _ _ _ h => h) (Or.inl ⟨by rfl, ?_⟩) hHeld ?_
      rotate_left
      · (intro W hSw; (try dsimp only at hSw); go_simp; all_goals (with_reducible rfl))
      simp only [List.getElem_toArray, List.getElem_cons_zero, List.getElem_cons_succ, Act.put, List.setIfInBounds_toArray, List.set_cons_zero, List.set_cons_succ]
      refine wpAnyH_take (i := 8) (v := ?_) rfl (by kernel_rfl) (by kernel_rfl) (by kernel_rfl) (fun _ _ _ h => h) (Or.inl ⟨by rfl, ?_⟩) hHeld ?_
      rotate_left
      · (intro W hSw; (try dsimp only at hSw); go_simp; all_goals (with_reducible rfl))
      simp only [List.getElem_toArray, List.getElem_cons_zero, List.getElem_cons_succ, Act.put, List.setIfInBounds_toArray, List.set_cons_zero, List.set_cons_succ]
      refine wpAnyH_take (i := 9) (v := ?_) rfl (by kernel_rfl) (by kernel_rfl) (by kernel_rfl) (fun _ _ _ h => h) (Or.inl ⟨by rfl, ?_⟩) hHeld ?_
      rotate_left
      · (intro W hSw; (try dsimp only at hSw); go_simp; all_goals (with_reducible rfl))
      simp only [List.getElem_toArray, List.getElem_cons_zero, List.getElem_cons_succ, Act.put, List.setIfInBounds_toArray, List.set_cons_zero, List.set_cons_succ]
      refine wpAnyH_take (i := 10) (v := ?_) rfl (by kernel_rfl) (by kernel_rfl) (by kernel_rfl) (fun _ _ _ h => h) (Or.inl ⟨by rfl, ?_⟩) hHeld ?_
      rotate_left
      · (intro W hSw; (try dsimp only at hSw); go_simp; all_goals (with_reducible rfl))
      simp only [List.getElem_toArray, List.getElem_cons_zero, List.getElem_cons_succ, Act.put, List.setIfInBounds_toArray, List.set_cons_zero, List.set_cons_succ]
      refine wpAnyH_take (i := 11) (v := ?_) rfl (by kernel_rfl) (by kernel_rfl) (by kernel_rfl) (fun _ _ _ h => h) (Or.inl ⟨by rfl, ?_⟩) hHeld ?_
      rotate_left
      · (intro W hSw; (try dsimp only at hSw); go_simp; all_goals (with_reducible rfl))
      simp only [List.getElem_toArray, List.getElem_cons_zero, List.getElem_cons_succ, Act.put, List.setIfInBounds_toArray, List.set_cons_zero, List.set_cons_succ]
      refine wpAnyH_take (i := 12) (v := ?_) rfl (by kernel_rfl) (by kernel_rfl) (by kernel_rfl) (fun _ _ _ h => h) (Or.inl ⟨by rfl, ?_⟩) hHeld ?_
      rotate_left
      · (intro W hSw; (try dsimp only at hSw); go_simp; all_goals (with_reducible rfl))
      simp only [List.getElem_toArray, List.getElem_cons_zero, List.getElem_cons_succ, Act.put, List.setIfInBounds_toArray, List.set_cons_zero, List.set_cons_succ]
      refine wpAnyH_take (i := 14) (v := ?_) rfl (by kernel_rfl) (by kernel_rfl) (by kernel_rfl) (fun _ _ _ h => h) (Or.inl ⟨by rfl, ?_⟩) hHeld ?_
      rotate_left
      · (intro W hSw; (try dsimp only at hSw); go_simp; all_goals (with_reducible rfl))
      simp only [List.getElem_toArray, List.getElem_cons_zero, List.getElem_cons_succ, Act.put, List.setIfInBounds_toArray, List.set_cons_zero, List.set_cons_succ]
      refine wpAnyH_take (i := 15) (v := ?_) rfl (by kernel_rfl) (by kernel_rfl) (by kernel_rfl) (fun _ _ _ h => h) (Or.inl ⟨by rfl, ?_⟩) hHeld ?_
      rotate_left
      · (intro W hSw; (try dsimp only at hSw); go_simp; all_goals (with_reducible rfl))
      simp only [List.getElem_toArray, List.getElem_cons_zero, List.getElem_cons_succ, Act.put, List.setIfInBounds_toArray, List.set_cons_zero, List.set_cons_succ]
      refine wpAnyH_take (i := 16) (v := ?_) rfl (by kernel_rfl) (by kernel_rfl) (by kernel_rfl) (fun _ _ _ h => h) (Or.inl ⟨by rfl, ?_⟩) hHeld ?_
      rotate_left
      · (intro W hSw; (try dsimp only at hSw); go_simp; all_goals (with_reducible rfl))
      simp only [List.getElem_toArray, List.getElem_cons_zero, List.getElem_cons_succ, Act.put, List.setIfInBounds_toArray, List.set_cons_zero, List.set_cons_succ]
      refine wpAnyH_take (i := 17) (v := ?_) rfl (by kernel_rfl) (by kernel_rfl) (by kernel_rfl) (fun _ _ _ h => h) (Or.inl ⟨by rfl, ?_⟩) hHeld ?_
      rotate_left
      · (intro W hSw; (try dsimp only at hSw); go_simp; all_goals (with_reducible rfl))
      simp only [List.getElem_toArray, List.getElem_cons_zero, List.getElem_cons_succ, Act.put, List.setIfInBounds_toArray, List.set_cons_zero, List.set_cons_succ]
      refine wpAnyH_take (i := 18) (v := ?_) rfl (by kernel_rfl) (by kernel_rfl) (by kernel_rfl) (fun _ _ _ h => h) (Or.inl ⟨by rfl, ?_⟩) hHeld ?_
      rotate_left
      · (intro W hSw; (try dsimp only at hSw); go_simp; all_goals (with_reducible rfl))
      simp only [List.getElem_toArray, List.getElem_cons_zero, List.getElem_cons_succ, Act.put, List.setIfInBounds_toArray, List.set_cons_zero, List.set_cons_succ]
      obtain ⟨ap, cpp, hfx, cp, hKd, hrow⟩ := HDd.out.row hxn
      have HFX : Hid (_ = _) := hfx
      have HKd : Hid (Ge elI xd (Wb2.heap.size + 1) _ _) := hKd
      have hszd := HDd.out.size
      clear hfx hKd hrow
      refine wpAnyH_ready (rs := [13, 19]) (by kernel_rfl) (by simp) ?_
      refine AllReadyH.cons rfl (fun K hK => ?_) (AllReadyH.cons rfl (fun K hK => ?_) AllReadyH.nil)
      ·
        simp only [List.getElem_toArray, List.getElem_cons_zero, List.getElem_cons_succ]
        go_simp
        refine hK.out _ _ hHeld (fun hHeld => ?_)
        clear hK K
        refine wpAnyH_ready (rs := [19]) (by kernel_rfl) (by simp) ?_
        refine AllReadyH.cons rfl (fun K hK => ?_) AllReadyH.nil
        simp only [List.getElem_toArray, List.getElem_cons_zero, List.getElem_cons_succ]
        go_simp
        refine ent1 xd _ _ (Q := fun V => K _ V) ?_
        intro x7 hb7 hs7 VG
        have HD7 : Hid (Dg n Wb2 x7 _ _) := HDd.out.after hb7
        have HK7 : Hid (Ge elI x7 (Wb2.heap.size + 1) _ _) := HKd.out.after hb7
        have hS7 := hHeld
        replace hHeld := HSw.out _ (step hHeld.2.2.out hb7)
        have cp7 := (hb7.cell (p := ⟨Wb2.heap.size, y, none⟩) (by show Wb2.heap.size < _; omega)).trans cp
        clear cp; have cp := cp7; clear cp7
        refine hK.out _ _ hHeld (fun hHeld => ?_)
        clear hK K
        refine wpAnyH_ready (rs := [20]) (by kernel_rfl) (by simp) ?_
        refine AllReadyH.cons rfl (fun K hK => ?_) AllReadyH.nil
        simp only [List.getElem_toArray, List.getElem_cons_zero, List.getElem_cons_succ]
        refine step_appE elI (o := { dst := some 61, op := .call { callee := .builtin .append, args := #[.tmp 54, .tmp 60], argTypes := #[25, 25] }, type := 25, pos := "ref.go:74", after := #[{ on := 13, ground := .data }, { on := 19, ground := .data }], guard := none }) rfl (.tmp 54) (.tmp 60) 25 rfl rfl (Wb2.heap.size + 1) _ _ rfl HK7.out xd.heap.size 0 1 1 [(x : Int)] rfl (Le.one VG rfl) HLn2.out (by have := hb7.size; omega) ?_
        intro v8 x8 hg8 hgr8 hob8
        have HD8 : Hid (Dg n Wb2 (x8.setCell ⟨Wb2.heap.size, y, none⟩ v8) (upf _ y v8) (upf _ y _)) := HD7.out.add hxn (by rw [HFX.out]; exact hgr8) (by rw [ints_snoc]; exact hg8) (by rw [HFX.out]; exact hob8)
        obtain ⟨q8, f8⟩ : x8.cell? ⟨Wb2.heap.size, y, none⟩ = some _ ∧ x8.frozen? ⟨Wb2.heap.size, y, none⟩ = false := by
          obtain ⟨a1, c1, e1, -, -, hr1⟩ := HD7.out.row hxn
          rw [HFX.out] at e1; cases e1
          exact hr1 x8 hgr8
        replace hHeld := HSw.out _ (hHeld.2.2.out.grown hgr8 hHeld.2.2.out.size (fun j hj => by have := HK7.out.block j hj; have := HGw.out; omega))
        obtain ⟨a8, c8, rfl, -, -, -⟩ := hg8.shape
        clear hg8 hob8 hgr8
        simp only [Act.put, List.setIfInBounds_toArray, List.set_cons_zero, List.set_cons_succ]
        refine hK.out _ _ hHeld (fun hHeld => ?_)
        clear hK K
        refine wpAnyH_take (i := 21) (v := ?_) rfl (by kernel_rfl) (by kernel_rfl) (by kernel_rfl) (fun _ _ _ h => h) (Or.inl ⟨by rfl, ?_⟩) hHeld ?_
        rotate_left
        · (intro W hSw; (try dsimp only at hSw); go_simp; all_goals (with_reducible rfl))
        simp only [List.getElem_toArray, List.getElem_cons_zero, List.getElem_cons_succ, Act.put, List.setIfInBounds_toArray, List.set_cons_zero, List.set_cons_succ]
        refine wpAnyH_ready (rs := [22]) (by kernel_rfl) (by simp) ?_
        refine AllReadyH.cons rfl (fun K hK => ?_) AllReadyH.nil
        simp only [List.getElem_toArray, List.getElem_cons_zero, List.getElem_cons_succ]
        go_simp
        refine hK.out _ _ (HSw.out _ (hHeld.2.2.out.setCell (p := ⟨Wb2.heap.size, y, none⟩) (by show w.heap.size ≤ Wb2.heap.size; have := HGw.out; omega) _)) (fun hHeld => ?_)
        clear hK K
        refine wpAnyH_done (by kernel_rfl) ?_ _
        refine NoPanic.normal ?_
        clear hHeld
        go_wp2_with fail
        go_roundw
        case rel => exact ⟨k + 1, Wb2, _, rfl, by omega, (rfl : Wb2.heap.size = _), HB2.out, HF2.out, by show Dg _ _ _ _ _; rw [HT.out, swp_snoc, nlf_snoc]; have h9 := HD8.out; rw [List.length_append] at h9; exact h9⟩
        case measure => simp [intOf]; omega
      ·
        simp only [List.getElem_toArray, List.getElem_cons_zero, List.getElem_cons_succ]
        go_simp
        refine ent1 xd _ _ (Q := fun V => K _ V) ?_
        intro x7 hb7 hs7 VG
        have HD7 : Hid (Dg n Wb2 x7 _ _) := HDd.out.after hb7
        have HK7 : Hid (Ge elI x7 (Wb2.heap.size + 1) _ _) := HKd.out.after hb7
        have hS7 := hHeld
        replace hHeld := HSw.out _ (step hHeld.2.2.out hb7)
        have cp7 := (hb7.cell (p := ⟨Wb2.heap.size, y, none⟩) (by show Wb2.heap.size < _; omega)).trans cp
        clear cp; have cp := cp7; clear cp7
        refine hK.out _ _ hHeld (fun hHeld => ?_)
        clear hK K
        refine wpAnyH_ready (rs := [13]) (by kernel_rfl) (by simp) ?_
        refine AllReadyH.cons rfl (fun K hK => ?_) AllReadyH.nil
        simp only [List.getElem_toArray, List.getElem_cons_zero, List.getElem_cons_succ]
        go_simp
        refine hK.out _ _ hHeld (fun hHeld => ?_)
        clear hK K
        refine wpAnyH_ready (rs := [20]) (by kernel_rfl) (by simp) ?_
        refine AllReadyH.cons rfl (fun K hK => ?_) AllReadyH.nil
        simp only [List.getElem_toArray, List.getElem_cons_zero, List.getElem_cons_succ]
        refine step_appE elI (o := { dst := some 61, op := .call { callee := .builtin .append, args := #[.tmp 54, .tmp 60], argTypes := #[25, 25] }, type := 25, pos := "ref.go:74", after := #[{ on := 13, ground := .data }, { on := 19, ground := .data }], guard := none }) rfl (.tmp 54) (.tmp 60) 25 rfl rfl (Wb2.heap.size + 1) _ _ rfl HK7.out xd.heap.size 0 1 1 [(x : Int)] rfl (Le.one VG rfl) HLn2.out (by have := hb7.size; omega) ?_
        intro v8 x8 hg8 hgr8 hob8
        have HD8 : Hid (Dg n Wb2 (x8.setCell ⟨Wb2.heap.size, y, none⟩ v8) (upf _ y v8) (upf _ y _)) := HD7.out.add hxn (by rw [HFX.out]; exact hgr8) (by rw [ints_snoc]; exact hg8) (by rw [HFX.out]; exact hob8)
        obtain ⟨q8, f8⟩ : x8.cell? ⟨Wb2.heap.size, y, none⟩ = some _ ∧ x8.frozen? ⟨Wb2.heap.size, y, none⟩ = false := by
          obtain ⟨a1, c1, e1, -, -, hr1⟩ := HD7.out.row hxn
          rw [HFX.out] at e1; cases e1
          exact hr1 x8 hgr8
        replace hHeld := HSw.out _ (hHeld.2.2.out.grown hgr8 hHeld.2.2.out.size (fun j hj => by have := HK7.out.block j hj; have := HGw.out; omega))
        obtain ⟨a8, c8, rfl, -, -, -⟩ := hg8.shape
        clear hg8 hob8 hgr8
        simp only [Act.put, List.setIfInBounds_toArray, List.set_cons_zero, List.set_cons_succ]
        refine hK.out _ _ hHeld (fun hHeld => ?_)
        clear hK K
        refine wpAnyH_take (i := 21) (v := ?_) rfl (by kernel_rfl) (by kernel_rfl) (by kernel_rfl) (fun _ _ _ h => h) (Or.inl ⟨by rfl, ?_⟩) hHeld ?_
        rotate_left
        · (intro W hSw; (try dsimp only at hSw); go_simp; all_goals (with_reducible rfl))
        simp only [List.getElem_toArray, List.getElem_cons_zero, List.getElem_cons_succ, Act.put, List.setIfInBounds_toArray, List.set_cons_zero, List.set_cons_succ]
        refine wpAnyH_ready (rs := [22]) (by kernel_rfl) (by simp) ?_
        refine AllReadyH.cons rfl (fun K hK => ?_) AllReadyH.nil
        simp only [List.getElem_toArray, List.getElem_cons_zero, List.getElem_cons_succ]
        go_simp
        refine hK.out _ _ (HSw.out _ (hHeld.2.2.out.setCell (p := ⟨Wb2.heap.size, y, none⟩) (by show w.heap.size ≤ Wb2.heap.size; have := HGw.out; omega) _)) (fun hHeld => ?_)
        clear hK K
        refine wpAnyH_done (by kernel_rfl) ?_ _
        refine NoPanic.normal ?_
        clear hHeld
        go_wp2_with fail
        go_roundw
        case rel => exact ⟨k + 1, Wb2, _, rfl, by omega, (rfl : Wb2.heap.size = _), HB2.out, HF2.out, by show Dg _ _ _ _ _; rw [HT.out, swp_snoc, nlf_snoc]; have h9 := HD8.out; rw [List.length_append] at h9; exact h9⟩
        case measure => simp [intOf]; omega
    · obtain rfl : k = len := by omega
      clear hge hk hgs
      have HW0 : Hid (Fn n Wb w.heap.size (wts (nlf xs) [])) := by
        have h9 := HF.out
        rw [List.take_of_length_le (by rw [HLn.out]; exact Nat.le_refl _)] at h9
        rw [show wts (nlf xs) [] = lnf xs from funext (fun p => wts_nil p)]
        exact h9
      have HD1 : Hid (Dg n Wb wr f (nlf (swp xs))) := by
        have h9 := HD.out
        rw [List.take_of_length_le (by rw [HLn.out]; exact Nat.le_refl _)] at h9
        exact h9
      have hwr : Hid (w.heap.size + 1 < wr.heap.size) := by have h1 := HD.out.size; have h2 := HG.out; have h3 := HGw.out; show _ < _; omega
      clear HF HD
      go_wp2_with fail
      refine ent1 wr _ _ (Q := fun W => Code.wp _ _ _ _ W) ?_
      intro W3 hB3 hs3 V3
      obtain ⟨s3, hs⟩ : ∃ s, wr.heap.size = s := ⟨_, rfl⟩
      rw [hs] at hB3 V3 hs3
      rw [hs]
      have HB3 : Hid (Below s3 wr W3) := hB3
      have HS3 : Hid (W3.heap.size = s3 + 1) := hs3
      have HR0 : Hid (Rsd (nlf (swp xs)) n w g s3 W3 (wts (nlf xs) [])) := ⟨Wb, wr, f, HG.out, hs, HB.out, HW0.out, HD1.out, hB3⟩
      have HT0 : Hid (Fb n W3 s3 (fun x => decide (x ∈ ([] : List Nat)))) := by
        have h9 : Fb n W3 s3 (fun _ => false) := Fb.falses V3
        rwa [show (fun x : Nat => decide (x ∈ ([] : List Nat))) = fun _ => false from funext (fun x => by simp)]
      have HO0 : Hid (Ge elI W3 (s3 + 1) (.slice none ([] : List Nat).length 0) (ints [])) := Ge.nil _ _
      have HC0 : Hid (So (Rn (nlf xs)) n []) := So.nil n
      clear hs hB3 hs3 V3 HW0 HD1 HG HB HBr HB3 HS3 hwr hmb
      have HTn : Hid (Tn (nlf xs) n (nlf (swp xs))) := swp_tn HOk.out
      have HNk : Hid (∀ x y, y ∈ nlf xs x → x < n ∧ y < n) := nlf_ok HOk.out
      have HTl : Hid (∀ x, (nlf (swp xs) x).length ≤ 65536) := fun x => by
        have := nlf_len (swp xs) x
        rw [swp_length, HLn.out] at this
        omega
      have HNl : Hid (∀ x, (nlf xs x).length ≤ 65536) := fun x => by
        have := nlf_len xs x
        rw [HLn.out] at this
        omega
      obtain ⟨N, hN⟩ : ∃ N, nlf xs = N := ⟨_, rfl⟩
      obtain ⟨T, hT⟩ : ∃ T, nlf (swp xs) = T := ⟨_, rfl⟩
      have HNx : Hid (nlf xs = N) := hN
      rw [hN] at HTn HNk HNl HR0 HC0
      rw [hT] at HTn HTl HR0
      clear hN hT
      go_wp2_with fail
      go_loopw [11] (fun lst wz => ∃ (out : List Nat) (wt : Nat → Nat), Hid (∃ ao co, lst = .slice ao out.length co) ∧ out.length ≤ n ∧ Hid (So (Rn N) n out) ∧ Hid (Rsd T n w g s3 wz wt) ∧ Hid (∀ p, p < n → wt p = wts N out p) ∧ Hid (Fb n wz s3 (fun x => decide (x ∈ out))) ∧ Hid (Ge elI wz (s3 + 1) lst (ints out))) (fun lst _ => (n + 1 - lenV lst : Nat))
      case atStart => exact ⟨[], _, ⟨_, _, rfl⟩, Nat.zero_le _, HC0.out, HR0.out, fun _ _ => rfl, HT0.out, HO0.out⟩
      case round =>
        clear HC0 HR0 HT0 HO0
        obtain ⟨out, wt, HV, hon, HC, HR, HW, HT, HO⟩ := hrel
        obtain ⟨ao, co, rfl⟩ := HV.out
        have HBw : Hid (Below w.heap.size w wr) := HR.out.below
        clear HV
        rcases Nat.lt_or_ge out.length n with hlt | hge
        · have hoi : (out.length : Int) < n := by omega
          have hw0 : IntKind.i64.wrap ((n : Int) - 1) = (n : Int) - 1 := by rw [IntKind.wrap_i64]; omega
          go_wp2_with fail
          go_loopw [12, 13] (fun l x wz => ∃ (m : Nat) (lv : Int), l = .int .i64 lv ∧ x = .int .i64 ((m : Int) - 1) ∧ m ≤ n ∧ Hid ((lv = -1 ∧ ∀ z, m ≤ z → ¬ AvN (Rn N) n out z) ∨ ∃ q : Nat, lv = q ∧ AvN (Rn N) n out q ∧ ∀ z, m ≤ z → AvN (Rn N) n out z → q ≤ z) ∧ Hid (wz = wr)) (fun _ x _ => ((intOf x + 1).toNat : Nat))
          case atStart => exact ⟨n, -1, rfl, rfl, Nat.le_refl _, .inl ⟨rfl, fun z hz hv => absurd (avn_iff.1 hv).1 (by omega)⟩, rfl⟩
          case round =>
            obtain ⟨m, lv, rfl, rfl, hm, HL2, HWz⟩ := hrel
            have hwz := HWz.out
            subst hwz
            rcases Nat.eq_zero_or_pos m with hm0 | hm0
            · subst hm0
              rcases HL2.out with ⟨rfl, hno⟩ | ⟨q, rfl, hq, hmin⟩
              · have HEi : Hid _ := HC.out.either HNk.out (fun x hx => hno x (Nat.zero_le _) hx)
                clear HL2 hno HWz
                go_wp2_with fail
                go_ret2
                refine ⟨⟨_, _, rfl, ?_⟩, HBw.out⟩
                rcases HEi.out with ⟨h1, -⟩ | ⟨-, y, -, hy⟩
                · omega
                · exact .ring HCk.out y (by rw [HNx.out]; exact hy)
              · obtain ⟨hqn, hqo, hq0⟩ := avn_iff.1 hq
                have hqi : (q : Int) < n := by omega
                have hq0i : ¬ (q : Int) < 0 := by omega
                have HG3 : Hid (So (Rn N) n (out ++ [q])) := HC.out.snoc hq (fun z hz => hmin z (Nat.zero_le _) hz)
                have HQo : Hid (q ∉ out) := hqo
                have ct := HT.out.cell hqn
                have ft := Fv.frozen HT.out q
                have HLt := HR.out.lt
                have HLt : Hid (w.heap.size < g ∧ g < s3 ∧ s3 ≤ wr.heap.size) := HLt
                have HB5 : Hid (Below s3 wr (wr.setCell ⟨s3, q, none⟩ (.bool true))) := Below.setCell (Below.refl _ _) (p := ⟨s3, q, none⟩) (Nat.le_refl _) _
                have HR5 : Hid (Rsd T n w g s3 (wr.setCell ⟨s3, q, none⟩ (.bool true)) wt) := HR.out.after HB5.out
                have HT5 : Hid (Fb n (wr.setCell ⟨s3, q, none⟩ (.bool true)) s3 (fun x => decide (x ∈ out ++ [q]))) := by
                  have h9 := Fb.set HT.out q true
                  rwa [show upf (fun x => decide (x ∈ out)) q true = fun x => decide (x ∈ out ++ [q]) from funext (fun z => by
                    by_cases e : z = q
                    · rw [e, upf_self]; simp
                    · rw [upf_ne _ _ e]; simp [e])] at h9
                have HO5 : Hid (Ge elI (wr.setCell ⟨s3, q, none⟩ (.bool true)) (s3 + 1) (.slice ao out.length co) (ints out)) := HO.out.far (p := ⟨s3, q, none⟩) (fun e => by have h9 : s3 + 1 ≤ s3 := HO.out.block _ e; omega) _
                have HVN : Hid (Le elI ((wr.setCell ⟨s3, q, none⟩ (.bool true)).alloc (.cells #[.int .i64 (q : Int)] 3)) (some ⟨wr.heap.size, 0, none⟩) 1 [(q : Int)]) := Le.one (by have := Va.new (wr.setCell ⟨s3, q, none⟩ (.bool true)) 3 #[.int .i64 (q : Int)]; rwa [World.size_setCell] at this) rfl
                have HLn3 : Hid ((ints out).length + 1 ≤ 1000000000000) := by show _ ≤ _; rw [ints_length]; omega
                have HOl : Hid (Ge elI (wr.setCell ⟨s3, q, none⟩ (.bool true)) (s3 + 1) (.slice ao (ints out).length co) (ints out)) := by rw [ints_length]; exact HO5.out
                have hlsz : (s3 : Nat) + 1 ≤ wr.heap.size := HT.out.lt
                have HWq : Hid (∀ p, p < n → wt p = wts N (out ++ [q]) p + ((T q).drop 0).count p) := fun p hp => by
                  rw [List.drop_zero, HW.out p hp, wts_snoc HQo.out p, HTn.out q p, if_pos hp]
                have htl := HTl.out q
                have HTk : Hid (∀ p, p ∈ T q → p < n) := fun p hp => (HTn.out.mem.1 hp).1
                clear HL2 hmin hq hqo hq0 HWz HR HT HO HB5 HC HW HO5
                rw [← ints_length out]
                go_wp2_with (at_builtin; refine wpList_appE rfl _ _ _ rfl elI rfl (s3 + 1) _ (ints out) rfl (HOl.out.al _) wr.heap.size 0 1 1 [(q : Int)] rfl HVN.out HLn3.out (by simp; omega) ?_; intro v5 w5 hg5 hgr5 hob5; have HR6 : Hid (Rsd T n w g s3 w5 wt) := HR5.out.after (((Below.refl _ _ : Below s3 _ _).alloc (by simp; omega) _).grown hgr5 (by simp; omega) (fun j hj => by have := HOl.out.block j hj; omega)); have HT6 : Hid (Fb n w5 s3 (fun x => decide (x ∈ out ++ [q]))) := Fv.kept (Fv.after ((Below.refl _ _).alloc (Nat.le_refl _) _) HT5.out) (hgr5.block s3 (by simp; omega) (fun e => by have := HOl.out.block _ e.symm; omega)); obtain ⟨a5, c5, rfl, -, -, -⟩ := hg5.shape; have HG6 : Hid (Ge elI w5 (s3 + 1) (.slice a5 (out ++ [q]).length c5) (ints (out ++ [q]))) := (by rw [ints_snoc, ← ints_length (out ++ [q]), ints_snoc]; exact hg5); clear hg5 hgr5 hob5 HR5 HT5 HVN HOl HLn3)
                rw [show (ints out).length + 1 = (out ++ [q]).length by rw [ints_length, List.length_append]; rfl]
                have hle0 : 0 ≤ (T q).length := Nat.zero_le _
                go_loopw [14] (fun u wz => ∃ (j : Nat) (wt : Nat → Nat), u = .int .i64 j ∧ j ≤ (T q).length ∧ Hid (Rsd T n w g s3 wz wt) ∧ Hid (∀ p, p < n → wt p = wts N (out ++ [q]) p + ((T q).drop j).count p) ∧ Hid (Fb n wz s3 (fun x => decide (x ∈ out ++ [q]))) ∧ Hid (Ge elI wz (s3 + 1) (.slice a5 (out ++ [q]).length c5) (ints (out ++ [q])))) (fun u _ => ((T q).length - (intOf u).toNat : Nat))
                case atStart => exact ⟨0, wt, rfl, Nat.zero_le _, HR6.out, HWq.out, HT6.out, HG6.out⟩
                case round =>
                  clear HR6 HWq HT6 HG6 hle0
                  obtain ⟨j, wt, rfl, hj, HR, HW, HT, HO⟩ := hrel
                  obtain ⟨ar, cr, crow, hLr⟩ := HR.out.rows.cell hqn
                  have HLr : Hid (Li wr ar (T q).length (ints (T q))) := hLr
                  clear hLr
                  rcases Nat.lt_or_ge j (T q).length with hlt2 | hge2
                  · have hji : (j : Int) < (T q).length := by omega
                    have hxg : (T q)[j]? = some ((T q).getD j 0) := by rw [List.getD_eq_getElem?_getD, List.getElem?_eq_getElem hlt2]; rfl
                    obtain ⟨b9, o9, rfl, c9⟩ := Li.node HLr.out hlt2
                    have hdr : (T q).drop j = (T q).getD j 0 :: (T q).drop (j + 1) := by
                      rw [List.drop_eq_getElem_cons hlt2]
                      congr 1
                      rw [List.getD_eq_getElem?_getD, List.getElem?_eq_getElem hlt2]; rfl
                    have hpk := HTk.out _ (List.mem_of_getElem? hxg)
                    clear hxg
                    generalize (T q).getD j 0 = p at *
                    have HDr : Hid ((T q).drop j = p :: (T q).drop (j + 1)) := hdr
                    have hpi : (p : Int) < n := by omega
                    obtain ⟨m, hm1⟩ : ∃ m, wt p = m + 1 := by
                      refine ⟨wt p - 1, ?_⟩
                      have := HW.out p hpk
                      rw [hdr, List.count_cons_self] at this
                      omega
                    have cm := Fn.cell HR.out.waits hpk
                    rw [hm1] at cm
                    have HM1 : Hid (wt p = m + 1) := hm1
                    have fm := Fv.frozen HR.out.waits p
                    have hmb : m + 1 ≤ 400000000 := by
                      have h5 := HW.out p hpk
                      have h6 : wts N (out ++ [q]) p ≤ (N p).length := List.countP_le_length
                      have h7 : ((T q).drop j).count p ≤ (T q).length := Nat.le_trans List.count_le_length (by rw [List.length_drop]; omega)
                      have := HNl.out p
                      omega
                    have hw1 : IntKind.i64.wrap (((m + 1 : Nat) : Int) - 1) = (m : Int) := by rw [IntKind.wrap_i64]; omega
                    have HR1 : Hid (Rsd T n w g s3 (wr.setCell ⟨w.heap.size, p, none⟩ (.int .i64 (m : Int))) (upf wt p m)) := HR.out.set p m
                    have HT1 : Hid (Fb n (wr.setCell ⟨w.heap.size, p, none⟩ (.int .i64 (m : Int))) s3 (fun x => decide (x ∈ out ++ [q]))) := Fv.kept HT.out (heap_setCell_other _ _ _ _ (by show s3 ≠ w.heap.size; have := HR.out.lt; omega))
                    have HO1 : Hid (Ge elI (wr.setCell ⟨w.heap.size, p, none⟩ (.int .i64 (m : Int))) (s3 + 1) (.slice a5 (out ++ [q]).length c5) (ints (out ++ [q]))) := HO.out.far (p := ⟨w.heap.size, p, none⟩) (fun e => by have h9 : s3 + 1 ≤ w.heap.size := HO.out.block _ e; have := HR.out.lt; omega) _
                    have HMn : Hid (∀ z, z < n → upf wt p m z = wts N (out ++ [q]) z + ((T q).drop (j + 1)).count z) := fun z hz => by
                      have h5 := HW.out z hz
                      rw [HDr.out] at h5
                      by_cases e : z = p
                      · rw [e, upf_self]
                        rw [e, List.count_cons_self, HM1.out] at h5
                        omega
                      · rw [upf_ne _ _ e, h5, List.count_cons_of_ne (fun h => e h.symm)]
                    clear hdr hm1
                    go_wp2_with fail
                    go_roundw
                    case rel => exact ⟨j + 1, _, rfl, by omega, HR1.out, HMn.out, HT1.out, HO1.out⟩
                    case measure => simp [intOf]; omega
                  · obtain rfl : j = (T q).length := by omega
                    clear hge2 hj
                    have hfew := HG3.out.few
                    go_wp2_with fail
                    go_roundw
                    case rel => exact ⟨out ++ [q], wt, ⟨a5, c5, rfl⟩, hfew, HG3.out, HR.out, fun p hp => by rw [HW.out p hp, List.drop_length]; rfl, HT.out, HO.out⟩
                    case measure =>
                      simp only [lenV, List.length_append, List.length_singleton]
                      omega
            · obtain ⟨z, rfl⟩ : ∃ z, m = z + 1 := ⟨m - 1, by omega⟩
              have hz1 : ((z + 1 : Nat) : Int) - 1 = (z : Int) := by omega
              have hzn : z < n := by omega
              have hzi : (z : Int) < n := by omega
              have hwz1 : IntKind.i64.wrap ((z : Int) - 1) = (z : Int) - 1 := by rw [IntKind.wrap_i64]; omega
              have ct := HT.out.cell hzn
              have cw := HR.out.waits.cell hzn
              have hwv := HW.out z hzn
              rw [hz1]
              by_cases hzo : z ∈ out
              · rw [decide_eq_true hzo] at ct
                have HN2 : Hid (¬ AvN (Rn N) n out z) := fun hv => (avn_iff.1 hv).2.1 hzo
                clear cw hwv hzo
                go_wp2_with fail
                go_roundw
                case rel =>
                  refine ⟨z, lv, rfl, rfl, by omega, ?_, trivial⟩
                  rcases HL2.out with ⟨e, hno⟩ | ⟨q, e, hq, hmin⟩
                  · exact .inl ⟨e, fun y hy => by
                      by_cases e2 : y = z
                      · rw [e2]; exact HN2.out
                      · exact hno y (by omega)⟩
                  · exact .inr ⟨q, e, hq, fun y hy hv => by
                      by_cases e2 : y = z
                      · rw [e2] at hv; exact absurd hv HN2.out
                      · exact hmin y (by omega) hv⟩
                case measure => simp [intOf]
              · rw [decide_eq_false hzo] at ct
                by_cases hw9 : wt z = 0
                · rw [hw9] at cw
                  have HN2 : Hid (AvN (Rn N) n out z) := avn_iff.2 ⟨hzn, hzo, by rw [← hwv]; exact hw9⟩
                  clear hwv hzo hw9
                  go_wp2_with fail
                  go_roundw
                  case rel => exact ⟨z, (z : Int), rfl, rfl, by omega, .inr ⟨z, rfl, HN2.out, fun y hy _ => hy⟩, trivial⟩
                  case measure => simp [intOf]
                · have HN2 : Hid (¬ AvN (Rn N) n out z) := fun hv => hw9 (by rw [hwv]; exact (avn_iff.1 hv).2.2)
                  generalize wt z = wz9 at *
                  have hw8 : ¬ (wz9 : Int) = 0 := by omega
                  clear hwv hzo
                  go_wp2_with fail
                  go_roundw
                  case rel =>
                    refine ⟨z, lv, rfl, rfl, by omega, ?_, trivial⟩
                    rcases HL2.out with ⟨e, hno⟩ | ⟨q, e, hq, hmin⟩
                    · exact .inl ⟨e, fun y hy => by
                        by_cases e2 : y = z
                        · rw [e2]; exact HN2.out
                        · exact hno y (by omega)⟩
                    · exact .inr ⟨q, e, hq, fun y hy hv => by
                        by_cases e2 : y = z
                        · rw [e2] at hv; exact absurd hv HN2.out
                        · exact hmin y (by omega) hv⟩
                  case measure => simp [intOf]
        · have hle : out.length = n := by omega
          have HEi : Hid _ := HC.out.either HNk.out (fun x hx => by
            obtain ⟨h1, h2, -⟩ := avn_iff.1 hx
            have := few_nat (n := n) (l := out ++ [x]) (by
              rw [List.nodup_append]
              exact ⟨HC.out.nodup, by simp, fun a ha b hb => by simp at hb; subst hb; exact fun e => h2 (by rw [← e]; exact ha)⟩) (fun z hz => by
                rcases List.mem_append.1 hz with h3 | h3
                · exact HC.out.lt h3
                · simp at h3; rw [h3]; exact h1)
            rw [List.length_append] at this
            simp only [List.length_singleton] at this
            omega)
          have hoi : ¬ (out.length : Int) < n := by omega
          have HLe9 : Hid (out.length = n) := hle
          have HLt := HR.out.lt
          have HLt : Hid (w.heap.size ≤ s3 + 1) := by show _ ≤ _; omega
          clear hle hge hon
          go_wp2_with fail
          go_ret2
          refine ⟨⟨_, _, rfl, ?_⟩, HBw.out⟩
          rcases HEi.out with ⟨-, h2⟩ | ⟨h1, -⟩
          · exact .ok HCk.out out (by rw [Int.toNat_natCast, HNx.out]; exact HC.out) (by rw [Int.toNat_natCast]; exact HLe9.out) (by rw [HNx.out]; exact h2) ao co (HO.out.le HLt.out)
          · have := HLe9.out; omega
end Go.Proofs.Ytcfcknhmoecmoaa
