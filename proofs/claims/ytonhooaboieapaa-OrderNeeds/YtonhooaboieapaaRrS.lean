/-
  The document's Ring, and who needs what.
-/
import Derived.Test.YtonhooaboieapaaRsP
import Derived.Test.YtonhooaboieapaaFaW
import Derived.Test.YtonhooaboieapaaOdL
namespace Go.Proofs.Ytonhooaboieapaa
open Go.RowKit Go.Shelf
set_option linter.unusedVariables false
set_option linter.unusedSimpArgs false

set_option maxRecDepth 20000 in
set_option maxHeartbeats 16000000 in
theorem rneeded_any (n : Nat) (hn : n ≤ 4096) (a : Option Addr) (len cap : Nat) (xs : List Pr) (w : World) (h : La w a len xs) (hl6 : len ≤ 65536) (hok : xs.all (okA n) = true) :
    Calls Try.prog 28 #[.int .i64 (n : Int), .slice a len cap] w fun e w' => ∃ f, e = .returned (.slice (some ⟨w.heap.size, 0, none⟩) n n) ∧ Dg n w w' f (nlf xs) := by
  have HLn : Hid (xs.length = len) := h.1
  have HL : Hid (La w a len xs) := h
  have HOk : Hid (xs.all (okA n) = true) := hok
  have hm := make_rows n (by omega)
  clear h hok
  go_enter Try.func28, Try.ntmps28
  go_wp2_with fail
  refine ent1 w _ _ (Q := fun W => Code.wp _ _ _ _ W) ?_
  intro W0 hB0 hs0 V0
  have HD0 : Hid (Dg n w W0 _ (nlf ([] : List Pr))) := Dg.start V0 hB0
  clear V0 hB0 hm hs0
  go_loopw [6] (fun j wr => ∃ (k : Nat) (f : Nat → Value), j = .int .i64 k ∧ k ≤ len ∧ Hid (Dg n w wr f (nlf (xs.take k)))) (fun j _ => (len - (intOf j).toNat : Nat))
  case atStart => exact ⟨0, _, rfl, Nat.zero_le _, HD0.out⟩
  case round =>
    clear HD0
    obtain ⟨k, f, rfl, hk, HD⟩ := hrel
    rcases Nat.lt_or_ge k len with hlt | hge
    · obtain ⟨b, off, rfl, cw0, cw1⟩ := HL.out.arc hlt
      have hki : (k : Int) < len := by omega
      have hok := okA_iff.1 (okA_at HOk.out (i := k) (by rw [HLn.out]; exact hlt))
      obtain ⟨x, hx⟩ : ∃ x : Nat, (xs.getD k (0, 0)).1 = x := ⟨(xs.getD k (0, 0)).1.toNat, by omega⟩
      obtain ⟨y, hy⟩ : ∃ y : Nat, (xs.getD k (0, 0)).2 = y := ⟨(xs.getD k (0, 0)).2.toNat, by omega⟩
      have HT : Hid (xs.take (k + 1) = xs.take k ++ [((x : Int), (y : Int))]) := by
        show _ = _
        rw [take_snoc (0, 0) (by rw [HLn.out]; exact hlt), ← hx, ← hy]
      rw [hx] at cw0 hok
      rw [hy] at cw1 hok
      have HSw : Hid (∀ W, Below w.heap.size w W → W.cell? ⟨b, off + k * 2, none⟩ = some (.int .i64 (x : Int)) ∧ W.cell? ⟨b, off + k * 2 + 1, none⟩ = some (.int .i64 (y : Int)) ∧ Hid (Below w.heap.size w W)) := fun W hW =>
        ⟨(hW.cell (p := ⟨b, _, none⟩) (cell_lt cw0)).trans cw0, (hW.cell (p := ⟨b, _, none⟩) (cell_lt cw1)).trans cw1, hW⟩
      have hyi : (y : Int) < n := by omega
      have hxi : (x : Int) < n := by omega
      have hxn : x < n := by omega
      clear hx hy hok cw0 cw1
      have HLn2 : Hid ((ints (nlf (xs.take k) x)).length + 1 ≤ 1000000000000) := by
        have := nlf_len (xs.take k) x
        rw [List.length_take] at this
        show _ ≤ _; rw [ints_length]; omega
      go_wp2_with fail
      have HDd : Hid (Dg n w wr.drew _ _) := HD.out.drw 1
      refine wp_region_noPanic ?_
      refine wp_region_held_drew (S := (fun W => W.cell? ⟨b, off + k * 2, none⟩ = some (.int .i64 (x : Int)) ∧ W.cell? ⟨b, off + k * 2 + 1, none⟩ = some (.int .i64 (y : Int)) ∧ Hid (Below w.heap.size w W))) (by kernel_rfl) (HSw.out _ (below_drw1 HD.out.below)) (fun hHeld => ?_)
      obtain ⟨xd, hxd⟩ : ∃ xd, xd = wr.drew := ⟨_, rfl⟩
      rw [← hxd] at HDd hHeld  ⊢
      clear hxd
      refine wpAnyH_take (i := 0) (v := ?_) rfl (by kernel_rfl) (by kernel_rfl) (by kernel_rfl) (fun _ _ _ h => h) (Or.inl ⟨by rfl, ?_⟩) hHeld ?_
      rotate_left
      · (intro W hSw; (try dsimp only at hSw); go_simp; all_goals (with_reducible rfl))
      simp only [List.getElem_toArray, List.getElem_cons_zero, Act.put, List.setIfInBounds_toArray, List.set_cons_zero, List.set_cons_succ]
      refine wpAnyH_take (i := 1) (v := ?_) rfl (by kernel_rfl) (by kernel_rfl) (by kernel_rfl) (fun _ _ _ h => h) (Or.inl ⟨by rfl, ?_⟩) hHeld ?_
      rotate_left
      · (intro W hSw; (try dsimp only at hSw); go_simp; all_goals (with_reducible rfl))
      simp only [List.getElem_toArray, List.getElem_cons_zero, List.getElem_cons_succ, Act.put, List.setIfInBounds_toArray, List.set_cons_zero, List.set_cons_succ]
      refine wpAnyH_take (i := 2) (v := ?_) rfl (by kernel_rfl) (by kernel_rfl) (by kernel_rfl) (fun _ _ _ h => h) (Or.inl ⟨by rfl, ?_⟩) hHeld ?_
      rotate_left
      · (intro W hSw; (try dsimp only at hSw); go_simp; all_goals (with_reducible rfl))
      simp only [List.getElem_toArray, List.getElem_cons_zero, List.getElem_cons_succ, Act.put, List.setIfInBounds_toArray, List.set_cons_zero, List.set_cons_succ]
      refine wpAnyH_take (i := 3) (v := ?_) rfl (by kernel_rfl) (by kernel_rfl) (by kernel_rfl) (fun _ _ _ h => h) (Or.inl ⟨by rfl, ?_⟩) hHeld ?_
      rotate_left
      · (intro W hSw; (try dsimp only at hSw); go_simp; all_goals (with_reducible rfl))
      simp only [List.getElem_toArray, List.getElem_cons_zero, List.getElem_cons_succ, Act.put, List.setIfInBounds_toArray, List.set_cons_zero, List.set_cons_succ]
      refine wpAnyH_take (i := 4) (v := ?_) rfl (by kernel_rfl) (by kernel_rfl) (by kernel_rfl) (fun _ _ _ h => h) (Or.inl ⟨by rfl, ?_⟩) hHeld ?_
      rotate_left
      · (intro W hSw; (try dsimp only at hSw); go_simp; all_goals (with_reducible rfl))
      simp only [List.getElem_toArray, List.getElem_cons_zero, List.getElem_cons_succ, Act.put, List.setIfInBounds_toArray, List.set_cons_zero, List.set_cons_succ]
      refine wpAnyH_take (i := 5) (v := ?_) rfl (by kernel_rfl) (by kernel_rfl) (by kernel_rfl) (fun _ _ _ h => h) (Or.inl ⟨by rfl, ?_⟩) hHeld ?_
      rotate_left
      · (intro W hSw; (try dsimp only at hSw); go_simp; all_goals (with_reducible rfl))
      simp only [List.getElem_toArray, List.getElem_cons_zero, List.getElem_cons_succ, Act.put, List.setIfInBounds_toArray, List.set_cons_zero, List.set_cons_succ]
      refine wpAnyH_take (i := 6) (v := ?_) rfl (by kernel_rfl) (by kernel_rfl) (by kernel_rfl) (fun _ _ _ h => h) (Or.inl ⟨by rfl, ?_⟩) hHeld ?_
      rotate_left
      · (intro W hSw; (try dsimp only at hSw); go_simp; all_goals (with_reducible rfl))
      simp only [List.getElem_toArray, List.getElem_cons_zero, List.getElem_cons_succ, Act.put, List.setIfInBounds_toArray, List.set_cons_zero, List.set_cons_succ]
      refine wpAnyH_take (i := 7) (v := ?_) rfl (by kernel_rfl) (by kernel_rfl) (by kernel_rfl) (fun _ _ _ h => h) (Or.inl ⟨by rfl, ?_⟩) hHeld ?_
      rotate_left
      · (intro W hSw; (try dsimp only at hSw); go_simp; all_goals (with_reducible rfl))
      simp only [List.getElem_toArray, List.getElem_cons_zero, List.getElem_cons_succ, Act.put, List.setIfInBounds_toArray, List.set_cons_zero, List.set_cons_succ]
      refine wpAnyH_take (i := 8) (v := ?_) rfl (by kernel_rfl) (by kernel_rfl) (by kernel_rfl) (fun _ _ _ h => h) (Or.inl ⟨by rfl, ?_⟩) hHeld ?_
      rotate_left
      · (intro W hSw; (try dsimp only at hSw); go_simp; all_goals (with_reducible rfl))
      simp only [List.getElem_toArray, List.getElem_cons_zero, List.getElem_cons_succ, Act.put, List.setIfInBounds_toArray, List.set_cons_zero, List.set_cons_succ]
      refine wpAnyH_take (i := 9) (v := ?_) rfl (by kernel_rfl) (by kernel_rfl) (by kernel_rfl) (fun _ _ _ h => h) (Or.inl ⟨by rfl, ?_⟩) hHeld ?_
      rotate_left
      · (intro W hSw; (try dsimp only at hSw); go_simp; all_goals (with_reducible rfl))
      simp only [List.getElem_toArray, List.getElem_cons_zero, List.getElem_cons_succ, Act.put, List.setIfInBounds_toArray, List.set_cons_zero, List.set_cons_succ]
      refine wpAnyH_take (i := 10) (v := ?_) rfl (by kernel_rfl) (by kernel_rfl) (by kernel_rfl) (fun _ _ _ h => h) (Or.inl ⟨by rfl, ?_⟩) hHeld ?_
      rotate_left
      · (intro W hSw; (try dsimp only at hSw); go_simp; all_goals (with_reducible rfl))
      simp only [List.getElem_toArray, List.getElem_cons_zero, List.getElem_cons_succ, Act.put, List.setIfInBounds_toArray, List.set_cons_zero, List.set_cons_succ]
      refine wpAnyH_take (i := 11) (v := ?_) rfl (by kernel_rfl) (by kernel_rfl) (by kernel_rfl) (fun _ _ _ h => h) (Or.inl ⟨by rfl, ?_⟩) hHeld ?_
      rotate_left
      · (intro W hSw; (try dsimp only at hSw); go_simp; all_goals (with_reducible rfl))
      simp only [List.getElem_toArray, List.getElem_cons_zero, List.getElem_cons_succ, Act.put, List.setIfInBounds_toArray, List.set_cons_zero, List.set_cons_succ]
      refine wpAnyH_take (i := 12) (v := ?_) rfl (by kernel_rfl) (by kernel_rfl) (by kernel_rfl) (fun _ _ _ h => h) (Or.inl ⟨by rfl, ?_⟩) hHeld ?_
      rotate_left
      · (intro W hSw; (try dsimp only at hSw); go_simp; all_goals (with_reducible rfl))
      simp only [List.getElem_toArray, List.getElem_cons_zero, List.getElem_cons_succ, Act.put, List.setIfInBounds_toArray, List.set_cons_zero, List.set_cons_succ]
      refine wpAnyH_take (i := 14) (v := ?_) rfl (by kernel_rfl) (by kernel_rfl) (by kernel_rfl) (fun _ _ _ h => h) (Or.inl ⟨by rfl, ?_⟩) hHeld ?_
      rotate_left
      · (intro W hSw; (try dsimp only at hSw); go_simp; all_goals (with_reducible rfl))
      simp only [List.getElem_toArray, List.getElem_cons_zero, List.getElem_cons_succ, Act.put, List.setIfInBounds_toArray, List.set_cons_zero, List.set_cons_succ]
      refine wpAnyH_take (i := 15) (v := ?_) rfl (by kernel_rfl) (by kernel_rfl) (by kernel_rfl) (fun _ _ _ h => h) (Or.inl ⟨by rfl, ?_⟩) hHeld ?_
      rotate_left
      · (intro W hSw; (try dsimp only at hSw); go_simp; all_goals (with_reducible rfl))
      simp only [List.getElem_toArray, List.getElem_cons_zero, List.getElem_cons_succ, Act.put, List.setIfInBounds_toArray, List.set_cons_zero, List.set_cons_succ]
      refine wpAnyH_take (i := 16) (v := ?_) rfl (by kernel_rfl) (by kernel_rfl) (by kernel_rfl) (fun _ _ _ h => h) (Or.inl ⟨by rfl, ?_⟩) hHeld ?_
      rotate_left
      · (intro W hSw; (try dsimp only at hSw); go_simp; all_goals (with_reducible rfl))
      simp only [List.getElem_toArray, List.getElem_cons_zero, List.getElem_cons_succ, Act.put, List.setIfInBounds_toArray, List.set_cons_zero, List.set_cons_succ]
      refine wpAnyH_take (i := 17) (v := ?_) rfl (by kernel_rfl) (by kernel_rfl) (by kernel_rfl) (fun _ _ _ h => h) (Or.inl ⟨by rfl, ?_⟩) hHeld ?_
      rotate_left
      · (intro W hSw; (try dsimp only at hSw); go_simp; all_goals (with_reducible rfl))
      simp only [List.getElem_toArray, List.getElem_cons_zero, List.getElem_cons_succ, Act.put, List.setIfInBounds_toArray, List.set_cons_zero, List.set_cons_succ]
      refine wpAnyH_take (i := 18) (v := ?_) rfl (by kernel_rfl) (by kernel_rfl) (by kernel_rfl) (fun _ _ _ h => h) (Or.inl ⟨by rfl, ?_⟩) hHeld ?_
      rotate_left
      · (intro W hSw; (try dsimp only at hSw); go_simp; all_goals (with_reducible rfl))
      simp only [List.getElem_toArray, List.getElem_cons_zero, List.getElem_cons_succ, Act.put, List.setIfInBounds_toArray, List.set_cons_zero, List.set_cons_succ]
      obtain ⟨ap, cpp, hfx, cp, hKd, hrow⟩ := HDd.out.row hxn
      have HFX : Hid (_ = _) := hfx
      have HKd : Hid (Ge elI xd (w.heap.size + 1) _ _) := hKd
      have hszd := HDd.out.size
      clear hfx hKd hrow
      refine wpAnyH_ready (rs := [13, 19]) (by kernel_rfl) (by simp) ?_
      refine AllReadyH.cons rfl (fun K hK => ?_) (AllReadyH.cons rfl (fun K hK => ?_) AllReadyH.nil)
      ·
        simp only [List.getElem_toArray, List.getElem_cons_zero, List.getElem_cons_succ]
        go_simp
        refine hK.out _ _ hHeld (fun hHeld => ?_)
        clear hK K
        refine wpAnyH_ready (rs := [19]) (by kernel_rfl) (by simp) ?_
        refine AllReadyH.cons rfl (fun K hK => ?_) AllReadyH.nil
        simp only [List.getElem_toArray, List.getElem_cons_zero, List.getElem_cons_succ]
        go_simp
        refine ent1 xd _ _ (Q := fun V => K _ V) ?_
        intro x7 hb7 hs7 VG
        have HD7 : Hid (Dg n w x7 _ _) := HDd.out.after hb7
        have HK7 : Hid (Ge elI x7 (w.heap.size + 1) _ _) := HKd.out.after hb7
        have hS7 := hHeld
        replace hHeld := HSw.out _ (step hHeld.2.2.out hb7)
        have cp7 := (hb7.cell (p := ⟨w.heap.size, x, none⟩) (by show w.heap.size < _; omega)).trans cp
        clear cp; have cp := cp7; clear cp7
        refine hK.out _ _ hHeld (fun hHeld => ?_)
        clear hK K
        refine wpAnyH_ready (rs := [20]) (by kernel_rfl) (by simp) ?_
        refine AllReadyH.cons rfl (fun K hK => ?_) AllReadyH.nil
        simp only [List.getElem_toArray, List.getElem_cons_zero, List.getElem_cons_succ]
        refine step_appE elI (o := { dst := some 35, op := .call { callee := .builtin .append, args := #[.tmp 28, .tmp 34], argTypes := #[23, 23] }, type := 23, pos := "ref.go:39", after := #[{ on := 13, ground := .data }, { on := 19, ground := .data }], guard := none }) rfl (.tmp 28) (.tmp 34) 23 rfl rfl (w.heap.size + 1) _ _ rfl HK7.out xd.heap.size 0 1 1 [(y : Int)] rfl (Le.one VG rfl) HLn2.out (by have := hb7.size; omega) ?_
        intro v8 x8 hg8 hgr8 hob8
        have HD8 : Hid (Dg n w (x8.setCell ⟨w.heap.size, x, none⟩ v8) (upf _ x v8) (upf _ x _)) := HD7.out.add hxn (by rw [HFX.out]; exact hgr8) (by rw [ints_snoc]; exact hg8) (by rw [HFX.out]; exact hob8)
        obtain ⟨q8, f8⟩ : x8.cell? ⟨w.heap.size, x, none⟩ = some _ ∧ x8.frozen? ⟨w.heap.size, x, none⟩ = false := by
          obtain ⟨a1, c1, e1, -, -, hr1⟩ := HD7.out.row hxn
          rw [HFX.out] at e1; cases e1
          exact hr1 x8 hgr8
        replace hHeld := HSw.out _ (hHeld.2.2.out.grown hgr8 hHeld.2.2.out.size (fun j hj => by have := HK7.out.block j hj; omega))
        obtain ⟨a8, c8, rfl, -, -, -⟩ := hg8.shape
        clear hg8 hob8 hgr8
        simp only [Act.put, List.setIfInBounds_toArray, List.set_cons_zero, List.set_cons_succ]
        refine hK.out _ _ hHeld (fun hHeld => ?_)
        clear hK K
        refine wpAnyH_take (i := 21) (v := ?_) rfl (by kernel_rfl) (by kernel_rfl) (by kernel_rfl) (fun _ _ _ h => h) (Or.inl ⟨by rfl, ?_⟩) hHeld ?_
        rotate_left
        · (intro W hSw; (try dsimp only at hSw); go_simp; all_goals (with_reducible rfl))
        simp only [List.getElem_toArray, List.getElem_cons_zero, List.getElem_cons_succ, Act.put, List.setIfInBounds_toArray, List.set_cons_zero, List.set_cons_succ]
        refine wpAnyH_ready (rs := [22]) (by kernel_rfl) (by simp) ?_
        refine AllReadyH.cons rfl (fun K hK => ?_) AllReadyH.nil
        simp only [List.getElem_toArray, List.getElem_cons_zero, List.getElem_cons_succ]
        go_simp
        refine hK.out _ _ (HSw.out _ (hHeld.2.2.out.setCell (p := ⟨w.heap.size, x, none⟩) (Nat.le_refl _) _)) (fun hHeld => ?_)
        clear hK K
        refine wpAnyH_done (by kernel_rfl) ?_ _
        refine NoPanic.normal ?_
        clear hHeld
        go_wp2_with fail
        go_roundw
        case rel => exact ⟨k + 1, _, rfl, by omega, by show Dg _ _ _ _ _; rw [HT.out, nlf_snoc]; have h9 := HD8.out; rw [List.length_append] at h9; exact h9⟩
        case measure => simp [intOf]; omega
      ·
        simp only [List.getElem_toArray, List.getElem_cons_zero, List.getElem_cons_succ]
        go_simp
        refine ent1 xd _ _ (Q := fun V => K _ V) ?_
        intro x7 hb7 hs7 VG
        have HD7 : Hid (Dg n w x7 _ _) := HDd.out.after hb7
        have HK7 : Hid (Ge elI x7 (w.heap.size + 1) _ _) := HKd.out.after hb7
        have hS7 := hHeld
        replace hHeld := HSw.out _ (step hHeld.2.2.out hb7)
        have cp7 := (hb7.cell (p := ⟨w.heap.size, x, none⟩) (by show w.heap.size < _; omega)).trans cp
        clear cp; have cp := cp7; clear cp7
        refine hK.out _ _ hHeld (fun hHeld => ?_)
        clear hK K
        refine wpAnyH_ready (rs := [13]) (by kernel_rfl) (by simp) ?_
        refine AllReadyH.cons rfl (fun K hK => ?_) AllReadyH.nil
        simp only [List.getElem_toArray, List.getElem_cons_zero, List.getElem_cons_succ]
        go_simp
        refine hK.out _ _ hHeld (fun hHeld => ?_)
        clear hK K
        refine wpAnyH_ready (rs := [20]) (by kernel_rfl) (by simp) ?_
        refine AllReadyH.cons rfl (fun K hK => ?_) AllReadyH.nil
        simp only [List.getElem_toArray, List.getElem_cons_zero, List.getElem_cons_succ]
        refine step_appE elI (o := { dst := some 35, op := .call { callee := .builtin .append, args := #[.tmp 28, .tmp 34], argTypes := #[23, 23] }, type := 23, pos := "ref.go:39", after := #[{ on := 13, ground := .data }, { on := 19, ground := .data }], guard := none }) rfl (.tmp 28) (.tmp 34) 23 rfl rfl (w.heap.size + 1) _ _ rfl HK7.out xd.heap.size 0 1 1 [(y : Int)] rfl (Le.one VG rfl) HLn2.out (by have := hb7.size; omega) ?_
        intro v8 x8 hg8 hgr8 hob8
        have HD8 : Hid (Dg n w (x8.setCell ⟨w.heap.size, x, none⟩ v8) (upf _ x v8) (upf _ x _)) := HD7.out.add hxn (by rw [HFX.out]; exact hgr8) (by rw [ints_snoc]; exact hg8) (by rw [HFX.out]; exact hob8)
        obtain ⟨q8, f8⟩ : x8.cell? ⟨w.heap.size, x, none⟩ = some _ ∧ x8.frozen? ⟨w.heap.size, x, none⟩ = false := by
          obtain ⟨a1, c1, e1, -, -, hr1⟩ := HD7.out.row hxn
          rw [HFX.out] at e1; cases e1
          exact hr1 x8 hgr8
        replace hHeld := HSw.out _ (hHeld.2.2.out.grown hgr8 hHeld.2.2.out.size (fun j hj => by have := HK7.out.block j hj; omega))
        obtain ⟨a8, c8, rfl, -, -, -⟩ := hg8.shape
        clear hg8 hob8 hgr8
        simp only [Act.put, List.setIfInBounds_toArray, List.set_cons_zero, List.set_cons_succ]
        refine hK.out _ _ hHeld (fun hHeld => ?_)
        clear hK K
        refine wpAnyH_take (i := 21) (v := ?_) rfl (by kernel_rfl) (by kernel_rfl) (by kernel_rfl) (fun _ _ _ h => h) (Or.inl ⟨by rfl, ?_⟩) hHeld ?_
        rotate_left
        · (intro W hSw; (try dsimp only at hSw); go_simp; all_goals (with_reducible rfl))
        simp only [List.getElem_toArray, List.getElem_cons_zero, List.getElem_cons_succ, Act.put, List.setIfInBounds_toArray, List.set_cons_zero, List.set_cons_succ]
        refine wpAnyH_ready (rs := [22]) (by kernel_rfl) (by simp) ?_
        refine AllReadyH.cons rfl (fun K hK => ?_) AllReadyH.nil
        simp only [List.getElem_toArray, List.getElem_cons_zero, List.getElem_cons_succ]
        go_simp
        refine hK.out _ _ (HSw.out _ (hHeld.2.2.out.setCell (p := ⟨w.heap.size, x, none⟩) (Nat.le_refl _) _)) (fun hHeld => ?_)
        clear hK K
        refine wpAnyH_done (by kernel_rfl) ?_ _
        refine NoPanic.normal ?_
        clear hHeld
        go_wp2_with fail
        go_roundw
        case rel => exact ⟨k + 1, _, rfl, by omega, by show Dg _ _ _ _ _; rw [HT.out, nlf_snoc]; have h9 := HD8.out; rw [List.length_append] at h9; exact h9⟩
        case measure => simp [intOf]; omega
    · obtain rfl : k = len := by omega
      clear hge hk
      go_wp2_with fail
      go_ret
      refine ⟨f, rfl, ?_⟩
      have := HD.out
      rwa [List.take_of_length_le (by rw [HLn.out]; exact Nat.le_refl _)] at this
end Go.Proofs.Ytonhooaboieapaa
