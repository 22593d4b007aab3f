/-
  The document's Ring, and who needs what.
-/
import Derived.Test.YtcfcknhmoecmoaaRsP
import Derived.Test.YtcfcknhmoecmoaaFaW
import Derived.Test.YtcfcknhmoecmoaaOdL
namespace Go.Proofs.Ytcfcknhmoecmoaa
open Go.RowKit Go.Shelf
set_option linter.unusedVariables false
set_option linter.unusedSimpArgs false

set_option maxRecDepth 20000 in
set_option maxHeartbeats 16000000 in
theorem rneeded_any (n : Nat) (hn : n ≤ 4096) (a : Option Addr) (len cap : Nat) (xs : List Pr) (w : World) (h : La w a len xs) (hl6 : len ≤ 65536) (hok : xs.all (okA n) = true) :
    Calls Try.prog 35 #[.int .i64 (n : Int), .slice a len cap] w fun e w' => ∃ f, e = .returned (.slice (some ⟨w.heap.size, 0, none⟩) n n) ∧ Dg n w w' f (nlf xs) := by
  have HLn : Hid (xs.length = len) := h.1
  have HL : Hid (La w a len xs) := h
  have HOk : Hid (xs.all (okA n) = true) := hok
  have hm := make_rows n (by omega)
  clear h hok
  go_enter Try.func35, Try.ntmps35
  go_wp2_with fail
  refine ent1 w _ _ (Q := fun W => Code.wp _ _ _ _ W) ?_
  intro W0 hB0 hs0 V0
  have HD0 : Hid (Dg n w W0 _ (nlf ([] : List Pr))) := Dg.start V0 hB0
  clear V0 hB0 hm hs0
  go_loopw [6] (fun j wr => ∃ (k : Nat) (f : Nat → Value), j = .int .i64 k ∧ k ≤ len ∧ Hid (Dg n w wr f (nlf (xs.take k)))) (fun j _ => (len - (intOf j).toNat : Nat))
  case atStart => exact ⟨0, _, rfl, Nat.zero_le _, HD0.out⟩
  case round =>
    clear HD0
    obtain ⟨k, f, rfl, hk, HD⟩ := hrel
    rcases Nat.lt_or_ge k len with hlt | hge
    · obtain ⟨b, off, rfl, cw0, cw1⟩ := HL.out.arc hlt
      have hki : (k : Int) < len := by omega
      have hok := okA_iff.1 (okA_at HOk.out (i := k) (by rw [HLn.out]; exact hlt))
      obtain ⟨x, hx⟩ : ∃ x : Nat, (xs.getD k (0, 0)).1 = x := ⟨(xs.getD k (0, 0)).1.toNat, by omega⟩
      obtain ⟨y, hy⟩ : ∃ y : Nat, (xs.getD k (0, 0)).2 = y := ⟨(xs.getD k (0, 0)).2.toNat, by omega⟩
      have HT : Hid (xs.take (k + 1) = xs.take k ++ [((x : Int), (y : Int))]) := by
        show _ = _
        rw [take_snoc (0, 0) (by rw [HLn.out]; exact hlt), ← hx, ← hy]
      rw [hx] at cw0 hok
      rw [hy] at cw1 hok
      have HSw : Hid (∀ W, Below w.heap.size w W → W.cell? ⟨b, off + k * 2, none⟩ = some (.int .i64 (x : Int)) ∧ W.cell? ⟨b, off + k * 2 + 1, none⟩ = some (.int .i64 (y : Int)) ∧ Hid (Below w.heap.size w W)) := fun W hW =>
        ⟨(hW.cell (p := ⟨b, _, none⟩) (cell_lt cw0)).trans cw0, (hW.cell (p := ⟨b, _, none⟩) (cell_lt cw1)).trans cw1, hW⟩
      have hyi : (y : Int) < n := by omega
      have hxi : (x : Int) < n := by omega
      have hxn : x < n := by omega
      clear hx hy hok cw0 cw1
      have HLn2 : Hid ((ints (nlf (xs.take k) x)).length + 1 ≤ 1000000000000) := by
        have := nlf_len (xs.take k) x
        rw [List.length_take] at this
        show _ ≤ _; rw [ints_length]; omega
      go_wp2_with fail
      have HDd : Hid (Dg n w wr.drew _ _) := HD.out.drw 1
      refine wp_region_noPanic ?_
      refine wp_region_held_drew (S := (fun W => W.cell? ⟨b, off + k * 2, none⟩ = some (.int .i64 (x : Int)) ∧ W.cell? ⟨b, off + k * 2 + 1, none⟩ = some (.int .i64 (y : Int)) ∧ Hid (Below w.heap.size w W))) (by kernel_rfl) (HSw.out _ (below_drw1 HD.out.below)) (fun hHeld => ?_)
      obtain ⟨xd, hxd⟩ : ∃ xd, xd = wr.drew := ⟨_, rfl⟩
      rw [← hxd] at HDd hHeld  ⊢
      clear hxd
      refine wpAnyH_take (i := 0) (v := ?_) rfl (by kernel_rfl) (by kernel_rfl) (by kernel_rfl) (fun _ _ _ h => h) (Or.inl ⟨by rfl, ?_⟩) hHeld ?_
      rotate_left
      · (intro W hSw; (try dsimp only at hSw); go_simp; all_goals (with_reducible rfl))
      simp only [List.getElem_toArray, List.getElem_cons_zero, Act.put, List.setIfInBounds_toArray, List.set_cons_zero, List.set_cons_succ]
      refine wpAnyH_take (i := 1) (v := ?_) rfl (by kernel_rfl) (by kernel_rfl) (by kernel_rfl) (fun _ _ _ h => h) (Or.inl ⟨by rfl, ?_⟩) hHeld ?_
      rotate_left
      · (intro W hSw; (try dsimp only at hSw); go_simp; all_goals (with_reducible rfl))
      simp only [List.getElem_toArray, List.getElem_cons_zero, List.getElem_cons_succ, Act.put, List.setIfInBounds_toArray, List.set_cons_zero, List.set_cons_succ]
      refine wpAnyH_take (i := 2) (v := ?_) rfl (by kernel_rfl) (by kernel_rfl) (by kernel_rfl) (fun _ _ _ h => h) (Or.inl ⟨by rfl, ?_⟩) hHeld ?_
      rotate_left
      · (intro W hSw; (try dsimp only at hSw); go_simp; all_goals (with_reducible rfl))
      simp only [List.getElem_toArray, List.getElem_cons_zero, List.getElem_cons_succ, Act.put, List.setIfInBounds_toArray, List.set_cons_zero, List.set_cons_succ]
      refine wpAnyH_take (i := 3) (v := ?_) rfl (by kernel_rfl) (by kernel_rfl) (by kernel_rfl) (fun _ _ _ h => h) (Or.inl ⟨by rfl, ?_⟩) hHeld ?_
      rotate_left
      · (intro W hSw; (try dsimp only at hSw); go_simp; all_goals (with_reducible rfl))
      simp only [List.getElem_toArray, List.getElem_cons_zero, List.getElem_cons_succ, Act.put, List.setIfInBounds_toArray, List.set_cons_zero, List.set_cons_succ]
      refine wpAnyH_take (i := 4) (v := ?_) rfl (by kernel_rfl) (by kernel_rfl) (by kernel_rfl) (fun _ _ _ h => h) (Or.inl ⟨by rfl, ?_⟩) hHeld ?_
      rotate_left
      · (intro W hSw; (try dsimp only at hSw); go_simp; all_goals (with_reducible rfl))
      simp only [List.getElem_toArray, List.getElem_cons_zero, List.getElem_cons_succ, Act.put, List.setIfInBounds_toArray, List.set_cons_zero, List.set_cons_succ]
      refine wpAnyH_take (i := 5) (v := ?_) rfl (by kernel_rfl) (by kernel_rfl) (by kernel_rfl) (fun _ _ _ h => h) (Or.inl ⟨by rfl, ?_⟩) hHeld ?_
      rotate_left
      · (intro W hSw; (try dsimp only at hSw); go_simp; all_goals (with_reducible rfl))
      simp only [List.getElem_toArray, List.getElem_cons_zero, List.getElem_cons_succ, Act.put, List.setIfInBounds_toArray, List.set_cons_zero, List.set_cons_succ]
      refine wpAnyH_take (i := 6) (v := ?_) rfl (by kernel_rfl) (by kernel_rfl) (by kernel_rfl) (fun _ _ _ h => h) (Or.inl ⟨by rfl, ?_⟩) hHeld ?_
      rotate_left
      · (intro W hSw; (try dsimp only at hSw); go_simp; all_goals (with_reducible rfl))
      simp only [List.getElem_toArray, List.getElem_cons_zero, List.getElem_cons_succ, Act.put, List.setIfInBounds_toArray, List.set_cons_zero, List.set_cons_succ]
      refine wpAnyH_take (i := 7) (v := ?_) rfl (by kernel_rfl) (by kernel_rfl) (by kernel_rfl) (fun _ _ _ h => h) (Or.inl ⟨by rfl, ?_⟩) hHeld ?_
      rotate_left
      · (intro W hSw; (try dsimp only at hSw); go_simp; all_goals (with_reducible rfl))
      simp only [List.getElem_toArray, List.getElem_cons_zero, List.getElem_cons_succ, Act.put, List.setIfInBounds_toArray, List.set_cons_zero, List.set_cons_succ]
      refine wpAnyH_take (i := 8) (v := ?_) rfl (by kernel_rfl) (by kernel_rfl) (by kernel_rfl) (fun _ _ _ h => h) (Or.inl ⟨by rfl, ?_⟩) hHeld ?_
      rotate_left
      · (intro W hSw; (try dsimp only at hSw); go_simp; all_goals (with_reducible rfl))
      simp only [List.getElem_toArray, List.getElem_cons_zero, List.getElem_cons_succ, Act.put, List.setIfInBounds_toArray, List.set_cons_zero, List.set_cons_succ]
      refine wpAnyH_take (i := 9) (v := ?_) rfl (by kernel_rfl) (by kernel_rfl) (by kernel_rfl) (fun _ _ _ h => h) (Or.inl ⟨by rfl, ?_⟩) hHeld ?_
      rotate_left
      · (intro W hSw; (try dsimp only at hSw); go_simp; all_goals (with_reducible rfl))
      simp only [List.getElem_toArray, List.getElem_cons_zero, List.getElem_cons_succ, Act.put, List.setIfInBounds_toArray, List.set_cons_zero, List.set_cons_succ]
      refine wpAnyH_take (i := 10) (v := ?_) rfl (by kernel_rfl) (by kernel_rfl) (by kernel_rfl) (fun _ _ _ h => h) (Or.inl ⟨by rfl, ?_⟩) hHeld ?_
      rotate_left
      · (intro W hSw; (try dsimp only at hSw); go_simp; all_goals (with_reducible rfl))
      simp only [List.getElem_toArray, List.getElem_cons_zero, List.getElem_cons_succ, Act.put, List.setIfInBounds_toArray, List.set_cons_zero, List.set_cons_succ]
      refine wpAnyH_take (i := 11) (v := ?_) rfl (by kernel_rfl) (by kernel_rfl) (by kernel_rfl) (fun _ _ _ h => h) (Or.inl ⟨by rfl, ?_⟩) hHeld ?_
      rotate_left
      · (intro W hSw; (try dsimp only at hSw); go_simp; all_goals (with_reducible rfl))
      simp only [List.getElem_toArray, List.getElem_cons_zero, List.getElem_cons_succ, Act.put, List.setIfInBounds_toArray, List.set_cons_zero, List.set_cons_succ]
      refine wpAnyH_take (i := 12) (v := ?_) rfl (by kernel_rfl) (by kernel_rfl) (by kernel_rfl) (fun _ _ _ h => h) (Or.inl ⟨by rfl, ?_⟩) hHeld ?_
      rotate_left
      · (intro W hSw; (try dsimp only at hSw); go_simp; all_goals (with_reducible rfl))
      simp only [List.getElem_toArray, List.getElem_cons_zero, List.getElem_cons_succ, Act.put, List.setIfInBounds_toArray, List.set_cons_zero, List.set_cons_succ]
      refine wpAnyH_take (i := 14) (v := ?_) rfl (by kernel_rfl) (by kernel_rfl) (by kernel_rfl) (fun _ _ _ h => h) (Or.inl ⟨by rfl, ?_⟩) hHeld ?_
      rotate_left
      · (intro W hSw; (try dsimp only at hSw); go_simp; all_goals (with_reducible rfl))
      simp only [List.getElem_toArray, List.getElem_cons_zero, List.getElem_cons_succ, Act.put, List.setIfInBounds_toArray, List.set_cons_zero, List.set_cons_succ]
      refine wpAnyH_take (i := 15) (v := ?_) rfl (by kernel_rfl) (by kernel_rfl) (by kernel_rfl) (fun _ _ _ h => h) (Or.inl ⟨by rfl, ?_⟩) hHeld ?_
      rotate_left
      · (intro W hSw; (try dsimp only at hSw); go_simp; all_goals (with_reducible rfl))
      simp only [List.getElem_toArray, List.getElem_cons_zero, List.getElem_cons_succ, Act.put, List.setIfInBounds_toArray, List.set_cons_zero, List.set_cons_succ]
      refine wpAnyH_take (i := 16) (v := ?_) rfl (by kernel_rfl) (by kernel_rfl) (by kernel_rfl) (fun _ _ _ h => h) (Or.inl ⟨by rfl, ?_⟩) hHeld ?_
      rotate_left
      · (intro W hSw; (try dsimp only at hSw); go_simp; all_goals (with_reducible rfl))
      simp only [List.getElem_toArray, List.getElem_cons_zero, List.getElem_cons_succ, Act.put, List.setIfInBounds_toArray, List.set_cons_zero, List.set_cons_succ]
      refine wpAnyH_take (i := 17) (v := ?_) rfl (by kernel_rfl) (by kernel_rfl) (by kernel_rfl) (fun _ _ _ h => h) (Or.inl ⟨by rfl, ?_⟩) hHeld ?_
      rotate_left
      · (intro W hSw; (try dsimp only at hSw); go_simp; all_goals (with_reducible rfl))
      simp only [List.getElem_toArray, List.getElem_cons_zero, List.getElem_cons_succ, Act.put, List.setIfInBounds_toArray, List.set_cons_zero, List.set_cons_succ]
      refine wpAnyH_take (i := 18) (v := ?_) rfl (by kernel_rfl) (by kernel_rfl) (by kernel_rfl) (fun _ _ _ h => h) (Or.inl ⟨by rfl, ?_⟩) hHeld ?_
      rotate_left
      · (intro W hSw; (try dsimp only at hSw); go_simp; all_goals (with_reducible rfl))
      simp only [List.getElem_toArray, List.getElem_cons_zero, List.getElem_cons_succ, Act.put, List.setIfInBounds_toArray, List.set_cons_zero, List.set_cons_succ]
      obtain ⟨ap, cpp, hfx, cp, hKd, hrow⟩ := HDd.out.row hxn
      have HFX : Hid (_ = _) := hfx
      have HKd : Hid (Ge elI xd (w.heap.size + 1) _ _) := hKd
      have hszd := HDd.out.size
      clear hfx hKd hrow
      refine wpAnyH_ready (rs := [13, 19]) (by kernel_rfl) (by simp) ?_
      refine AllReadyH.cons rfl (fun K hK => ?_) (AllReadyH.cons rfl (fun K hK => ?_) AllReadyH.nil)
      ·
        simp only [List.getElem_toArray, List.getElem_cons_zero, List.getElem_cons_succ]
        go_simp
        refine hK.out _ _ hHeld (fun hHeld => ?_)
        clear hK K
        refine wpAnyH_ready (rs := [19]) (by kernel_rfl) (by simp) ?_
        refine AllReadyH.cons rfl (fun K hK => ?_) AllReadyH.nil
        simp only [List.getElem_toArray, List.getElem_cons_zero, List.getElem_cons_succ]
        go_simp
        refine ent1 xd _ _ (Q := fun V => K _ V) ?_
        intro x7 hb7 hs7 VG
        have HD7 : Hid (Dg n w x7 _ _) := HDd.out.after hb7
        have HK7 : Hid (Ge elI x7 (w.heap.size + 1) _ _) := HKd.out.after hb7
        have hS7 := hHeld
        replace hHeld := HSw.out _ (step hHeld.2.2.out hb7)
        have cp7 := (hb7.cell (p := ⟨w.heap.size, x, none⟩) (by show w.heap.size < _; omega)).trans cp
        clear cp; have cp := cp7; clear cp7
        refine hK.out _ _ hHeld (fun hHeld => ?_)
        clear hK K
        refine wpAnyH_ready (rs := [20]) (by kernel_rfl) (by simp) ?_
        refine AllReadyH.cons rfl (fun K hK => ?_) AllReadyH.nil
        simp only [List.getElem_toArray, List.getElem_cons_zero, List.getElem_cons_succ]
        refine step_appE elI (o := { dst := some 35, op := .call { callee := .builtin .append, args := #[.tmp 28, .tmp 34], argTypes := #[25, 25] }, type := 25, pos := "ref.go:39", after := #[{ on := 13, ground := .data }, { on := 19, ground := .data }], guard := none }) rfl (.tmp 28) (.tmp 34) 25 rfl rfl (w.heap.size + 1) _ _ rfl HK7.out xd.heap.size 0 1 1 [(y : Int)] rfl (Le.one VG rfl) HLn2.out (by have := hb7.size; omega) ?_
        intro v8 x8 hg8 hgr8 hob8
        have HD8 : Hid (Dg n w (x8.setCell ⟨w.heap.size, x, none⟩ v8) (upf _ x v8) (upf _ x _)) := HD7.out.add hxn (by rw [HFX.out]; exact hgr8) (by rw [ints_snoc]; exact hg8) (by rw [HFX.out]; exact hob8)
        obtain ⟨q8, f8⟩ : x8.cell? ⟨w.heap.size, x, none⟩ = some _ ∧ x8.frozen? ⟨w.heap.size, x, none⟩ = false := by
          obtain ⟨a1, c1, e1, -, -, hr1⟩ := HD7.out.row hxn
          rw [HFX.out] at e1; cases e1
          exact hr1 x8 hgr8
        replace hHeld := HSw.out _ (hHeld.2.2.out.grown hgr8 hHeld.2.2.out.size (fun j hj => by have := HK7.out.block j hj; omega))
        obtain ⟨a8, c8, rfl, -, -, -⟩ := hg8.shape
        clear hg8 hob8 hgr8
        simp only [Act.put, List.setIfInBounds_toArray, List.set_cons_zero, List.set_cons_succ]
        refine hK.out _ _ hHeld (fun hHeld => ?_)
        clear hK K
        refine wpAnyH_take (i := 21) (v := ?_) rfl (by kernel_rfl) (by kernel_rfl) (by kernel_rfl) (fun _ _ _ h => h) (Or.inl ⟨by rfl, ?_⟩) hHeld ?_
        rotate_left
        · (intro W hSw; (try dsimp only at hSw); go_simp; all_goals (with_reducible rfl))
        simp only [List.getElem_toArray, List.getElem_cons_zero, List.getElem_cons_succ, Act.put, List.setIfInBounds_toArray, List.set_cons_zero, List.set_cons_succ]
        refine wpAnyH_ready (rs := [22]) (by kernel_rfl) (by simp) ?_
        refine AllReadyH.cons rfl (fun K hK => ?_) AllReadyH.nil
        simp only [List.getElem_toArray, List.getElem_cons_zero, List.getElem_cons_succ]
        go_simp
        refine hK.out _ _ (HSw.out _ (hHeld.2.2.out.setCell (p := ⟨w.heap.size, x, none⟩) (Nat.le_refl _) _)) (fun hHeld => ?_)
        clear hK K
        refine wpAnyH_done (by kernel_rfl) ?_ _
        refine NoPanic.normal ?_
        clear hHeld
        go_wp2_with fail
        go_roundw
        case rel => exact ⟨k + 1, _, rfl, by omega, by show Dg _ _ _ _ _; rw [HT.out, nlf_snoc]; have h9 := HD8.out; rw [List.length_append] at h9; exact h9⟩
        case measure => simp [intOf]; omega
      ·
        simp only [List.getElem_toArray, List.getElem_cons_zero, List.getElem_cons_succ]
        go_simp
        refine ent1 xd _ _ (Q := fun V => K _ V) ?_
        intro x7 hb7 hs7 VG
        have HD7 : Hid (Dg n w x7 _ _) := HDd.out.after hb7
        have HK7 : Hid (Ge elI x7 (w.heap.size + 1) _ _) := HKd.out.after hb7
        have hS7 := hHeld
        replace hHeld := HSw.out _ (step hHeld.2.2.out hb7)
        have cp7 := (hb7.cell (p := ⟨w.heap.size, x, none⟩) (by show w.heap.size < _; omega)).trans cp
        clear cp; have cp := cp7; clear cp7
        refine hK.out _ _ hHeld (fun hHeld => ?_)
        clear hK K
        refine wpAnyH_ready (rs := [13]) (by kernel_rfl) (by simp) ?_
        refine AllReadyH.cons rfl (fun K hK => ?_) AllReadyH.nil
        simp only [List.getElem_toArray, List.getElem_cons_zero, List.getElem_cons_succ]
        go_simp
        refine hK.out _ _ hHeld (fun hHeld => ?_)
        clear hK K
        refine wpAnyH_ready (rs := [20]) (by kernel_rfl) (by simp) ?_
        refine AllReadyH.cons rfl (fun K hK => ?_) AllReadyH.nil
        simp only [List.getElem_toArray, List.getElem_cons_zero, List.getElem_cons_succ]
        refine step_appE elI (o := { dst := some 35, op := .call { callee := .builtin .append, args := #[.tmp 28, .tmp 34], argTypes := #[25, 25] }, type := 25, pos := "ref.go:39", after := #[{ on := 13, ground := .data }, { on := 19, ground := .data }], guard := none }) rfl (.tmp 28) (.tmp 34) 25 rfl rfl (w.heap.size + 1) _ _ rfl HK7.out xd.heap.size 0 1 1 [(y : Int)] rfl (Le.one VG rfl) HLn2.out (by have := hb7.size; omega) ?_
        intro v8 x8 hg8 hgr8 hob8
        have HD8 : Hid (Dg n w (x8.setCell ⟨w.heap.size, x, none⟩ v8) (upf _ x v8) (upf _ x _)) := HD7.out.add hxn (by rw [HFX.out]; exact hgr8) (by rw [ints_snoc]; exact hg8) (by rw [HFX.out]; exact hob8)
        obtain ⟨q8, f8⟩ : x8.cell? ⟨w.heap.size, x, none⟩ = some _ ∧ x8.frozen? ⟨w.heap.size, x, none⟩ = false := by
          obtain ⟨a1, c1, e1, -, -, hr1⟩ := HD7.out.row hxn
          rw [HFX.out] at e1; cases e1
          exact hr1 x8 hgr8
        replace hHeld := HSw.out _ (hHeld.2.2.out.grown hgr8 hHeld.2.2.out.size (fun j hj => by have := HK7.out.block j hj; omega))
        obtain ⟨a8, c8, rfl, -, -, -⟩ := hg8.shape
        clear hg8 hob8 hgr8
        simp only [Act.put, List.setIfInBounds_toArray, List.set_cons_zero, List.set_cons_succ]
        refine hK.out _ _ hHeld (fun hHeld => ?_)
        clear hK K
        refine wpAnyH_take (i := 21) (v := ?_) rfl (by kernel_rfl) (by kernel_rfl) (by kernel_rfl) (fun _ _ _ h => h) (Or.inl ⟨by rfl, ?_⟩) hHeld ?_
        rotate_left
        · (intro W hSw; (try dsimp only at hSw); go_simp; all_goals (with_reducible rfl))
        simp only [List.getElem_toArray, List.getElem_cons_zero, List.getElem_cons_succ, Act.put, List.setIfInBounds_toArray, List.set_cons_zero, List.set_cons_succ]
        refine wpAnyH_ready (rs := [22]) (by kernel_rfl) (by simp) ?_
        refine AllReadyH.cons rfl (fun K hK => ?_) AllReadyH.nil
        simp only [List.getElem_toArray, List.getElem_cons_zero, List.getElem_cons_succ]
        go_simp
        refine hK.out _ _ (HSw.out _ (hHeld.2.2.out.setCell (p := ⟨w.heap.size, x, none⟩) (Nat.le_refl _) _)) (fun hHeld => ?_)
        clear hK K
        refine wpAnyH_done (by kernel_rfl) ?_ _
        refine NoPanic.normal ?_
        clear hHeld
        go_wp2_with fail
        go_roundw
        case rel => exact ⟨k + 1, _, rfl, by omega, by show Dg _ _ _ _ _; rw [HT.out, nlf_snoc]; have h9 := HD8.out; rw [List.length_append] at h9; exact h9⟩
        case measure => simp [intOf]; omega
    · obtain rfl : k = len := by omega
      clear hge hk
      go_wp2_with fail
      go_ret
      refine ⟨f, rfl, ?_⟩
      have := HD.out
      rwa [List.take_of_length_le (by rw [HLn.out]; exact Nat.le_refl _)] at this
set_option maxRecDepth 20000 in
set_option maxHeartbeats 16000000 in
theorem rring_ok (n : Nat) (a : Option Addr) (len cap : Nat) (xs : List Pr) (w : World) (h : La w a len xs) (hc : ckE n xs = 0) :
    Calls Try.prog 17 #[.int .i64 (n : Int), .slice a len cap] w fun e w' => (∃ v k, e = .returned (.tuple #[v, .int .i64 k]) ∧ RiR w' w.heap.size n xs v k) ∧ Below w.heap.size w w' := by
  have hC := rcheck_any n a len cap xs w h
  rw [hc] at hC
  obtain ⟨h0, h1, h2, h3⟩ := ckE_ok hc
  have HL : Hid (La w a len xs) := h
  have hlen := h.1
  have HCk : Hid (ckE n xs = 0) := hc
  have HOk : Hid (xs.all (okA n) = true) := h3
  have hn : n ≤ 4096 := by omega
  have hl6 : len ≤ 65536 := by omega
  have HLn : Hid (xs.length = len) := hlen
  have hNd := rneeded_any n hn a len cap xs w h hl6 h3
  have hmr := make_rows n (by omega)
  clear h hc h3 h2 hlen h0 h1
  go_enter Try.func17, Try.ntmps17
  go_wp2_with (first
    | (go_at_call 32; refine hC.mono ?_; rintro e w1 ⟨rfl, hw1⟩; rw [hw1]; clear hw1 w1 hC)
    | (go_at_call 35; refine hNd.mono ?_; rintro e w2 ⟨fn, rfl, hD⟩; have HDn : Hid (Dg n w w2 fn (nlf xs)) := hD; clear hD hNd))
  refine ent1 w2 _ _ (Q := fun W => Code.wp _ _ _ _ W) ?_
  intro W1 hB1 hs1 V1
  have HD0 : Hid (Dg n w2 W1 _ (nlf (swp ([] : List Pr)))) := Dg.start V1 hB1
  have HL2 : Hid (La w2 a len xs) := HL.out.after HDn.out.below
  clear V1 hB1 hs1 hmr
  go_loopw [9] (fun j wz => ∃ (k : Nat) (f : Nat → Value), j = .int .i64 k ∧ k ≤ len ∧ Hid (Dg n w2 wz f (nlf (swp (xs.take k))))) (fun j _ => (len - (intOf j).toNat : Nat))
  case atStart => exact ⟨0, _, rfl, Nat.zero_le _, HD0.out⟩
  case round =>
    clear HD0
    obtain ⟨k, f, rfl, hk, HD⟩ := hrel
    rcases Nat.lt_or_ge k len with hlt | hge
    · obtain ⟨b, off, rfl, cw0, cw1⟩ := HL2.out.arc hlt
      have hki : (k : Int) < len := by omega
      have hok := okA_iff.1 (okA_at HOk.out (i := k) (by rw [HLn.out]; exact hlt))
      obtain ⟨x, hx⟩ : ∃ x : Nat, (xs.getD k (0, 0)).1 = x := ⟨(xs.getD k (0, 0)).1.toNat, by omega⟩
      obtain ⟨y, hy⟩ : ∃ y : Nat, (xs.getD k (0, 0)).2 = y := ⟨(xs.getD k (0, 0)).2.toNat, by omega⟩
      have HT : Hid (xs.take (k + 1) = xs.take k ++ [((x : Int), (y : Int))]) := by
        show _ = _
        rw [take_snoc (0, 0) (by rw [HLn.out]; exact hlt), ← hx, ← hy]
      rw [hx] at cw0 hok
      rw [hy] at cw1 hok
      have HSw : Hid (∀ W, Below w2.heap.size w2 W → W.cell? ⟨b, off + k * 2, none⟩ = some (.int .i64 (x : Int)) ∧ W.cell? ⟨b, off + k * 2 + 1, none⟩ = some (.int .i64 (y : Int)) ∧ Hid (Below w2.heap.size w2 W)) := fun W hW =>
        ⟨(hW.cell (p := ⟨b, _, none⟩) (cell_lt cw0)).trans cw0, (hW.cell (p := ⟨b, _, none⟩) (cell_lt cw1)).trans cw1, hW⟩
      have hyi : (y : Int) < n := by omega
      have hxi : (x : Int) < n := by omega
      have hxn : y < n := by omega
      clear hx hy hok cw0 cw1
      have HLn2 : Hid ((ints (nlf (swp (xs.take k)) y)).length + 1 ≤ 1000000000000) := by
        have := nlf_len (swp (xs.take k)) y
        rw [swp_length, List.length_take] at this
        show _ ≤ _; rw [ints_length]; omega
      go_wp2_with fail
      have HDd : Hid (Dg n w2 wr.drew _ _) := HD.out.drw 1
      refine wp_region_noPanic ?_
      refine wp_region_held_drew (S := (fun W => W.cell? ⟨b, off + k * 2, none⟩ = some (.int .i64 (x : Int)) ∧ W.cell? ⟨b, off + k * 2 + 1, none⟩ = some (.int .i64 (y : Int)) ∧ Hid (Below w2.heap.size w2 W))) (by kernel_rfl) (HSw.out _ (below_drw1 HD.out.below)) (fun hHeld => ?_)
      obtain ⟨xd, hxd⟩ : ∃ xd, xd = wr.drew := ⟨_, rfl⟩
      rw [← hxd] at HDd hHeld  ⊢
      clear hxd
      refine wpAnyH_take (i := 0) (v := ?_) rfl (by kernel_rfl) (by kernel_rfl) (by kernel_rfl) (fun _ _ _ h => h) (Or.inl ⟨by rfl, ?_⟩) hHeld ?_
      rotate_left
      · (intro W hSw; (try dsimp only at hSw); go_simp; all_goals (with_reducible rfl))
      simp only [List.getElem_toArray, List.getElem_cons_zero, Act.put, List.setIfInBounds_toArray, List.set_cons_zero, List.set_cons_succ]
      refine wpAnyH_take (i := 1) (v := ?_) rfl (by kernel_rfl) (by kernel_rfl) (by kernel_rfl) (fun _ _ _ h => h) (Or.inl ⟨by rfl, ?_⟩) hHeld ?_
      rotate_left
      · (intro W hSw; (try dsimp only at hSw); go_simp; all_goals (with_reducible rfl))
      simp only [List.getElem_toArray, List.getElem_cons_zero, List.getElem_cons_succ, Act.put, List.setIfInBounds_toArray, List.set_cons_zero, List.set_cons_succ]
      refine wpAnyH_take (i := 2) (v := ?_) rfl (by kernel_rfl) (by kernel_rfl) (by kernel_rfl) (fun _ _ _ h => h) (Or.inl ⟨by rfl, ?_⟩) hHeld ?_
      rotate_left
      · (intro W hSw; (try dsimp only at hSw); go_simp; all_goals (with_reducible rfl))
      simp only [List.getElem_toArray, List.getElem_cons_zero, List.getElem_cons_succ, Act.put, List.setIfInBounds_toArray, List.set_cons_zero, List.set_cons_succ]
      refine wpAnyH_take (i := 3) (v := ?_) rfl (by kernel_rfl) (by kernel_rfl) (by kernel_rfl) (fun _ _ _ h => h) (Or.inl ⟨by rfl, ?_⟩) hHeld ?_
      rotate_left
      · (intro W hSw; (try dsimp only at hSw); go_simp; all_goals (with_reducible rfl))
      simp only [List.getElem_toArray, List.getElem_cons_zero, List.getElem_cons_succ, Act.put, List.setIfInBounds_toArray, List.set_cons_zero, List.set_cons_succ]
      refine wpAnyH_take (i := 4) (v := ?_) rfl (by kernel_rfl) (by kernel_rfl) (by kernel_rfl) (fun _ _ _ h => h) (Or.inl ⟨by rfl, ?_⟩) hHeld ?_
      rotate_left
      · (intro W hSw; (try dsimp only at hSw); go_simp; all_goals (with_reducible rfl))
      simp only [List.getElem_toArray, List.getElem_cons_zero, List.getElem_cons_succ, Act.put, List.setIfInBounds_toArray, List.set_cons_zero, List.set_cons_succ]
      refine wpAnyH_take (i := 5) (v := ?_) rfl (by kernel_rfl) (by kernel_rfl) (by kernel_rfl) (fun _ _ _ h => h) (Or.inl ⟨by rfl, ?_⟩) hHeld ?_
      rotate_left
      · (intro W hSw; (try dsimp only at hSw); go_simp; all_goals (with_reducible rfl))
      simp only [List.getElem_toArray, List.getElem_cons_zero, List.getElem_cons_succ, Act.put, List.setIfInBounds_toArray, List.set_cons_zero, List.set_cons_succ]
      refine wpAnyH_take (i := 6) (v := ?_) rfl (by kernel_rfl) (by kernel_rfl) (by kernel_rfl) (fun _ _ _ h => h) (Or.inl ⟨by rfl, ?_⟩) hHeld ?_
      rotate_left
      · (intro W hSw; (try dsimp only at hSw); go_simp; all_goals (with_reducible rfl))
      simp only [List.getElem_toArray, List.getElem_cons_zero, List.getElem_cons_succ, Act.put, List.setIfInBounds_toArray, List.set_cons_zero, List.set_cons_succ]
      refine wpAnyH_take (i := 7) (v := ?_) rfl (by kernel_rfl) (by kernel_rfl) (by kernel_rfl) (fun _ _ _ h => h) (Or.inl ⟨by rfl, ?_⟩) hHeld ?_
      rotate_left
      · (intro W hSw; (try dsimp only at hSw); go_simp; all_goals (with_reducible rfl))
      simp only [List.getElem_toArray, List.getElem_cons_zero, List.getElem_cons_succ, Act.put, List.setIfInBounds_toArray, List.set_cons_zero, List.set_cons_succ]
      refine wpAnyH_take (i := 8) (v := ?_) rfl (by kernel_rfl) (by kernel_rfl) (by kernel_rfl) (fun _ _ _ h => h) (Or.inl ⟨by rfl, ?_⟩) hHeld ?_
      rotate_left
      · (intro W hSw; (try dsimp only at hSw); go_simp; all_goals (with_reducible rfl))
      simp only [List.getElem_toArray, List.getElem_cons_zero, List.getElem_cons_succ, Act.put, List.setIfInBounds_toArray, List.set_cons_zero, List.set_cons_succ]
      refine wpAnyH_take (i := 9) (v := ?_) rfl (by kernel_rfl) (by kernel_rfl) (by kernel_rfl) (fun _ _ _ h => h) (Or.inl ⟨by rfl, ?_⟩) hHeld ?_
      rotate_left
      · (intro W hSw; (try dsimp only at hSw); go_simp; all_goals (with_reducible rfl))
      simp only [List.getElem_toArray, List.getElem_cons_zero, List.getElem_cons_succ, Act.put, List.setIfInBounds_toArray, List.set_cons_zero, List.set_cons_succ]
      refine wpAnyH_take (i := 10) (v := ?_) rfl (by kernel_rfl) (by kernel_rfl) (by kernel_rfl) (fun _ _ _ h => h) (Or.inl ⟨by rfl, ?_⟩) hHeld ?_
      rotate_left
      · (intro W hSw; (try dsimp only at hSw); go_simp; all_goals (with_reducible rfl))
      simp only [List.getElem_toArray, List.getElem_cons_zero, List.getElem_cons_succ, Act.put, List.setIfInBounds_toArray, List.set_cons_zero, List.set_cons_succ]
      refine wpAnyH_take (i := 11) (v := ?_) rfl (by kernel_rfl) (by kernel_rfl) (by kernel_rfl) (fun _ _ _ h => h) (Or.inl ⟨by rfl, ?_⟩) hHeld ?_
      rotate_left
      · (intro W hSw; (try dsimp only at hSw); go_simp; all_goals (with_reducible rfl))
      simp only [List.getElem_toArray, List.getElem_cons_zero, List.getElem_cons_succ, Act.put, List.setIfInBounds_toArray, List.set_cons_zero, List.set_cons_succ]
      refine wpAnyH_take (i := 12) (v := ?_) rfl (by kernel_rfl) (by kernel_rfl) (by kernel_rfl) (fun _ _ _ h => h) (Or.inl ⟨by rfl, ?_⟩) hHeld ?_
      rotate_left
      · (intro W hSw; (try dsimp only at hSw); go_simp; all_goals (with_reducible rfl))
      simp only [List.getElem_toArray, List.getElem_cons_zero, List.getElem_cons_succ, Act.put, List.setIfInBounds_toArray, List.set_cons_zero, List.set_cons_succ]
      refine wpAnyH_take (i := 14) (v := ?_) rfl (by kernel_rfl) (by kernel_rfl) (by kernel_rfl) (fun _ _ _ h => h) (Or.inl ⟨by rfl, ?_⟩) hHeld ?_
      rotate_left
      · (intro W hSw; (try dsimp only at hSw); go_simp; all_goals (with_reducible rfl))
      simp only [List.getElem_toArray, List.getElem_cons_zero, List.getElem_cons_succ, Act.put, List.setIfInBounds_toArray, List.set_cons_zero, List.set_cons_succ]
      refine wpAnyH_take (i := 15) (v := ?_) rfl (by kernel_rfl) (by kernel_rfl) (by kernel_rfl) (fun _ _ _ h => h) (Or.inl ⟨by rfl, ?_⟩) hHeld ?_
      rotate_left
      · (intro W hSw; (try dsimp only at hSw); go_simp; all_goals (with_reducible rfl))
      simp only [List.getElem_toArray, List.getElem_cons_zero, List.getElem_cons_succ, Act.put, List.setIfInBounds_toArray, List.set_cons_zero, List.set_cons_succ]
      refine wpAnyH_take (i := 16) (v := ?_) rfl (by kernel_rfl) (by kernel_rfl) (by kernel_rfl) (fun _ _ _ h => h) (Or.inl ⟨by rfl, ?_⟩) hHeld ?_
      rotate_left
      · (intro W hSw; (try dsimp only at hSw); go_simp; all_goals (with_reducible rfl))
      simp only [List.getElem_toArray, List.getElem_cons_zero, List.getElem_cons_succ, Act.put, List.setIfInBounds_toArray, List.set_cons_zero, List.set_cons_succ]
      refine wpAnyH_take (i := 17) (v := ?_) rfl (by kernel_rfl) (by kernel_rfl) (by kernel_rfl) (fun _ _ _ h => h) (Or.inl ⟨by rfl, ?_⟩) hHeld ?_
      rotate_left
      · (intro W hSw; (try dsimp only at hSw); go_simp; all_goals (with_reducible rfl))
      simp only [List.getElem_toArray, List.getElem_cons_zero, List.getElem_cons_succ, Act.put, List.setIfInBounds_toArray, List.set_cons_zero, List.set_cons_succ]
      refine wpAnyH_take (i := 18) (v := ?_) rfl (by kernel_rfl) (by kernel_rfl) (by kernel_rfl) (fun _ _ _ h => h) (Or.inl ⟨by rfl, ?_⟩) hHeld ?_
      rotate_left
      · (intro W hSw; (try dsimp only at hSw); go_simp; all_goals (with_reducible rfl))
      simp only [List.getElem_toArray, List.getElem_cons_zero, List.getElem_cons_succ, Act.put, List.setIfInBounds_toArray, List.set_cons_zero, List.set_cons_succ]
      obtain ⟨ap, cpp, hfx, cp, hKd, hrow⟩ := HDd.out.row hxn
      have HFX : Hid (_ = _) := hfx
      have HKd : Hid (Ge elI xd (w2.heap.size + 1) _ _) := hKd
      have hszd := HDd.out.size
      clear hfx hKd hrow
      refine wpAnyH_ready (rs := [13, 19]) (by kernel_rfl) (by simp) ?_
      refine AllReadyH.cons rfl (fun K hK => ?_) (AllReadyH.cons rfl (fun K hK => ?_) AllReadyH.nil)
      ·
        simp only [List.getElem_toArray, List.getElem_cons_zero, List.getElem_cons_succ]
        go_simp
        refine hK.out _ _ hHeld (fun hHeld => ?_)
        clear hK K
        refine wpAnyH_ready (rs := [19]) (by kernel_rfl) (by simp) ?_
        refine AllReadyH.cons rfl (fun K hK => ?_) AllReadyH.nil
        simp only [List.getElem_toArray, List.getElem_cons_zero, List.getElem_cons_succ]
        go_simp
        refine ent1 xd _ _ (Q := fun V => K _ V) ?_
        intro x7 hb7 hs7 VG
        have HD7 : Hid (Dg n w2 x7 _ _) := HDd.out.after hb7
        have HK7 : Hid (Ge elI x7 (w2.heap.size + 1) _ _) := HKd.out.after hb7
        have hS7 := hHeld
        replace hHeld := HSw.out _ (step hHeld.2.2.out hb7)
        have cp7 := (hb7.cell (p := ⟨w2.heap.size, y, none⟩) (by show w2.heap.size < _; omega)).trans cp
        clear cp; have cp := cp7; clear cp7
        refine hK.out _ _ hHeld (fun hHeld => ?_)
        clear hK K
        refine wpAnyH_ready (rs := [20]) (by kernel_rfl) (by simp) ?_
        refine AllReadyH.cons rfl (fun K hK => ?_) AllReadyH.nil
        simp only [List.getElem_toArray, List.getElem_cons_zero, List.getElem_cons_succ]
        refine step_appE elI (o := { dst := some 54, op := .call { callee := .builtin .append, args := #[.tmp 47, .tmp 53], argTypes := #[25, 25] }, type := 25, pos := "ref.go:106", after := #[{ on := 13, ground := .data }, { on := 19, ground := .data }], guard := none }) rfl (.tmp 47) (.tmp 53) 25 rfl rfl (w2.heap.size + 1) _ _ rfl HK7.out xd.heap.size 0 1 1 [(x : Int)] rfl (Le.one VG rfl) HLn2.out (by have := hb7.size; omega) ?_
        intro v8 x8 hg8 hgr8 hob8
        have HD8 : Hid (Dg n w2 (x8.setCell ⟨w2.heap.size, y, none⟩ v8) (upf _ y v8) (upf _ y _)) := HD7.out.add hxn (by rw [HFX.out]; exact hgr8) (by rw [ints_snoc]; exact hg8) (by rw [HFX.out]; exact hob8)
        obtain ⟨q8, f8⟩ : x8.cell? ⟨w2.heap.size, y, none⟩ = some _ ∧ x8.frozen? ⟨w2.heap.size, y, none⟩ = false := by
          obtain ⟨a1, c1, e1, -, -, hr1⟩ := HD7.out.row hxn
          rw [HFX.out] at e1; cases e1
          exact hr1 x8 hgr8
        replace hHeld := HSw.out _ (hHeld.2.2.out.grown hgr8 hHeld.2.2.out.size (fun j hj => by have := HK7.out.block j hj; omega))
        obtain ⟨a8, c8, rfl, -, -, -⟩ := hg8.shape
        clear hg8 hob8 hgr8
        simp only [Act.put, List.setIfInBounds_toArray, List.set_cons_zero, List.set_cons_succ]
        refine hK.out _ _ hHeld (fun hHeld => ?_)
        clear hK K
        refine wpAnyH_take (i := 21) (v := ?_) rfl (by kernel_rfl) (by kernel_rfl) (by kernel_rfl) (fun _ _ _ h => h) (Or.inl ⟨by rfl, ?_⟩) hHeld ?_
        rotate_left
        · (intro W hSw; (try dsimp only at hSw); go_simp; all_goals (with_reducible rfl))
        simp only [List.getElem_toArray, List.getElem_cons_zero, List.getElem_cons_succ, Act.put, List.setIfInBounds_toArray, List.set_cons_zero, List.set_cons_succ]
        refine wpAnyH_ready (rs := [22]) (by kernel_rfl) (by simp) ?_
        refine AllReadyH.cons rfl (fun K hK => ?_) AllReadyH.nil
        simp only [List.getElem_toArray, List.getElem_cons_zero, List.getElem_cons_succ]
        go_simp
        refine hK.out _ _ (HSw.out _ (hHeld.2.2.out.setCell (p := ⟨w2.heap.size, y, none⟩) (Nat.le_refl _) _)) (fun hHeld => ?_)
        clear hK K
        refine wpAnyH_done (by kernel_rfl) ?_ _
        refine NoPanic.normal ?_
        clear hHeld
        go_wp2_with fail
        go_roundw
        case rel => exact ⟨k + 1, _, rfl, by omega, by show Dg _ _ _ _ _; rw [HT.out, swp_snoc, nlf_snoc]; have h9 := HD8.out; rw [List.length_append] at h9; exact h9⟩
        case measure => simp [intOf]; omega
      ·
        simp only [List.getElem_toArray, List.getElem_cons_zero, List.getElem_cons_succ]
        go_simp
        refine ent1 xd _ _ (Q := fun V => K _ V) ?_
        intro x7 hb7 hs7 VG
        have HD7 : Hid (Dg n w2 x7 _ _) := HDd.out.after hb7
        have HK7 : Hid (Ge elI x7 (w2.heap.size + 1) _ _) := HKd.out.after hb7
        have hS7 := hHeld
        replace hHeld := HSw.out _ (step hHeld.2.2.out hb7)
        have cp7 := (hb7.cell (p := ⟨w2.heap.size, y, none⟩) (by show w2.heap.size < _; omega)).trans cp
        clear cp; have cp := cp7; clear cp7
        refine hK.out _ _ hHeld (fun hHeld => ?_)
        clear hK K
        refine wpAnyH_ready (rs := [13]) (by kernel_rfl) (by simp) ?_
        refine AllReadyH.cons rfl (fun K hK => ?_) AllReadyH.nil
        simp only [List.getElem_toArray, List.getElem_cons_zero, List.getElem_cons_succ]
        go_simp
        refine hK.out _ _ hHeld (fun hHeld => ?_)
        clear hK K
        refine wpAnyH_ready (rs := [20]) (by kernel_rfl) (by simp) ?_
        refine AllReadyH.cons rfl (fun K hK => ?_) AllReadyH.nil
        simp only [List.getElem_toArray, List.getElem_cons_zero, List.getElem_cons_succ]
        refine step_appE elI (o := { dst := some 54, op := .call { callee := .builtin .append, args := #[.tmp 47, .tmp 53], argTypes := #[25, 25] }, type := 25, pos := "ref.go:106", after := #[{ on := 13, ground := .data }, { on := 19, ground := .data }], guard := none }) rfl (.tmp 47) (.tmp 53) 25 rfl rfl (w2.heap.size + 1) _ _ rfl HK7.out xd.heap.size 0 1 1 [(x : Int)] rfl (Le.one VG rfl) HLn2.out (by have := hb7.size; omega) ?_
        intro v8 x8 hg8 hgr8 hob8
        have HD8 : Hid (Dg n w2 (x8.setCell ⟨w2.heap.size, y, none⟩ v8) (upf _ y v8) (upf _ y _)) := HD7.out.add hxn (by rw [HFX.out]; exact hgr8) (by rw [ints_snoc]; exact hg8) (by rw [HFX.out]; exact hob8)
        obtain ⟨q8, f8⟩ : x8.cell? ⟨w2.heap.size, y, none⟩ = some _ ∧ x8.frozen? ⟨w2.heap.size, y, none⟩ = false := by
          obtain ⟨a1, c1, e1, -, -, hr1⟩ := HD7.out.row hxn
          rw [HFX.out] at e1; cases e1
          exact hr1 x8 hgr8
        replace hHeld := HSw.out _ (hHeld.2.2.out.grown hgr8 hHeld.2.2.out.size (fun j hj => by have := HK7.out.block j hj; omega))
        obtain ⟨a8, c8, rfl, -, -, -⟩ := hg8.shape
        clear hg8 hob8 hgr8
        simp only [Act.put, List.setIfInBounds_toArray, List.set_cons_zero, List.set_cons_succ]
        refine hK.out _ _ hHeld (fun hHeld => ?_)
        clear hK K
        refine wpAnyH_take (i := 21) (v := ?_) rfl (by kernel_rfl) (by kernel_rfl) (by kernel_rfl) (fun _ _ _ h => h) (Or.inl ⟨by rfl, ?_⟩) hHeld ?_
        rotate_left
        · (intro W hSw; (try dsimp only at hSw); go_simp; all_goals (with_reducible rfl))
        simp only [List.getElem_toArray, List.getElem_cons_zero, List.getElem_cons_succ, Act.put, List.setIfInBounds_toArray, List.set_cons_zero, List.set_cons_succ]
        refine wpAnyH_ready (rs := [22]) (by kernel_rfl) (by simp) ?_
        refine AllReadyH.cons rfl (fun K hK => ?_) AllReadyH.nil
        simp only [List.getElem_toArray, List.getElem_cons_zero, List.getElem_cons_succ]
        go_simp
        refine hK.out _ _ (HSw.out _ (hHeld.2.2.out.setCell (p := ⟨w2.heap.size, y, none⟩) (Nat.le_refl _) _)) (fun hHeld => ?_)
        clear hK K
        refine wpAnyH_done (by kernel_rfl) ?_ _
        refine NoPanic.normal ?_
        clear hHeld
        go_wp2_with fail
        go_roundw
        case rel => exact ⟨k + 1, _, rfl, by omega, by show Dg _ _ _ _ _; rw [HT.out, swp_snoc, nlf_snoc]; have h9 := HD8.out; rw [List.length_append] at h9; exact h9⟩
        case measure => simp [intOf]; omega
    · obtain rfl : k = len := by omega
      clear hge hk
      have HD1 : Hid (Dg n w2 wr f (nlf (swp xs))) := by
        have h9 := HD.out
        rwa [List.take_of_length_le (by rw [HLn.out]; exact Nat.le_refl _)] at h9
      have HTn : Hid (Tn (nlf xs) n (nlf (swp xs))) := swp_tn HOk.out
      have HNk : Hid (∀ x y, y ∈ nlf xs x → x < n ∧ y < n) := nlf_ok HOk.out
      have HTl : Hid (∀ x, (nlf (swp xs) x).length ≤ 65536) := fun x => by
        have := nlf_len (swp xs) x
        rw [swp_length, HLn.out] at this
        omega
      have HNl : Hid (∀ x, (nlf xs x).length ≤ 65536) := fun x => by
        have := nlf_len xs x
        rw [HLn.out] at this
        omega
      have HRn : Hid (Rw n wr w.heap.size (nlf xs)) := Rw.after HD1.out.below HDn.out.rows
      have HRt : Hid (Rw n wr w2.heap.size (nlf (swp xs))) := HD1.out.rows
      have HB1 : Hid (Below w.heap.size w wr) := HDn.out.below.trans (HD1.out.below.mono HDn.out.below.size)
      obtain ⟨N, hN⟩ : ∃ N, nlf xs = N := ⟨_, rfl⟩
      obtain ⟨T, hT⟩ : ∃ T, nlf (swp xs) = T := ⟨_, rfl⟩
      have HNx : Hid (nlf xs = N) := hN
      rw [hN] at HTn HNk HNl HRn
      rw [hT] at HTn HTl HRt
      clear hN hT HD HD1 HDn HL2
      have HTT : Hid (∀ x p, p ∈ T x → p < n ∧ x ∈ N p) := fun x p hp => HTn.out.mem.1 hp
      have HNN : Hid (∀ x y, y ∈ N x → x < n ∧ x ∈ T y) := fun x y hy => ⟨(HNk.out x y hy).1, HTn.out.mem.2 ⟨(HNk.out x y hy).1, hy⟩⟩
      obtain ⟨w3, hw3⟩ : ∃ w3, w3 = wr := ⟨_, rfl⟩
      rw [← hw3] at HRn HRt HB1 ⊢
      clear hw3
      obtain ⟨gN, hgN⟩ : ∃ g, w.heap.size = g := ⟨_, rfl⟩
      obtain ⟨gT, hgT⟩ : ∃ g, w2.heap.size = g := ⟨_, rfl⟩
      have HgN : Hid (w.heap.size = gN) := hgN
      rw [hgN] at HRn
      rw [hgT] at HRt
      rw [hgN, hgT]
      clear hgN hgT
      go_wp2_with fail
      have HB3 : Hid (Below w3.heap.size w3 w3) := Below.refl _ _
      go_loopw [10] (fun v wz => ∃ m : Nat, v = .int .i64 m ∧ m ≤ n ∧ Hid (∀ y, y < m → ¬ RgN (Rn N) y) ∧ Hid (Below w3.heap.size w3 wz)) (fun v _ => (n - (intOf v).toNat : Nat))
      case atStart => exact ⟨0, rfl, Nat.zero_le _, fun y hy => absurd hy (by omega), HB3.out⟩
      case round =>
        clear HB3
        obtain ⟨m, rfl, hm, HM, HB⟩ := hrel
        rcases Nat.lt_or_ge m n with hlt | hge
        · have hmi : (m : Int) < n := by omega
          have hF := far_any n hn gT m N T wr (HRt.out.after HB.out) hlt HTT.out HNN.out HTl.out
          go_wp2_with fail
          refine hF.mono ?_
          rintro e w5 ⟨fv, rfl, hFn, hFr, hb5⟩
          have HFn : Hid (Fn n w5 wr.heap.size fv) := hFn
          have HFr : Hid (Fr N n m fv) := hFr
          have HB5 : Hid (Below w3.heap.size w3 w5) := step HB.out hb5
          have HZ : Hid (w3.heap.size ≤ wr.heap.size ∧ wr.heap.size < w5.heap.size) := ⟨HB.out.size, hFn.lt⟩
          clear hF hFn hFr hb5 HB
          obtain ⟨gF, hgF⟩ : ∃ g, wr.heap.size = g := ⟨_, rfl⟩
          rw [hgF] at HFn HZ ⊢
          clear hgF
          have cf := HFn.out.cell hlt
          by_cases hf0 : fv m = 0
          · rw [hf0] at cf
            have HMn : Hid (∀ y, y < m + 1 → ¬ RgN (Rn N) y) := fun y hy hr => by
              by_cases e : y = m
              · rw [e] at hr
                obtain ⟨j, hj⟩ := hr
                obtain ⟨k, -, hk⟩ := ds_there (by omega) hj
                have h1 := HFr.out.2.1 m k hk
                have h2 := hk.1
                omega
              · exact HM.out y (by omega) hr
            clear hf0
            go_wp2_with fail
            go_roundw
            case rel => exact ⟨m + 1, rfl, by omega, HMn.out, HB5.out⟩
            case measure => simp [intOf]; omega
          · have hds := (HFr.out.1 m hf0).2
            have hLb := HFr.out.2.2 m
            obtain ⟨L, hL⟩ : ∃ L, fv m = L := ⟨_, rfl⟩
            rw [hL] at hds hLb cf hf0
            have HDs : Hid (Ds (Rn N) L m m) := hds
            have hLi : ¬ (L : Int) = 0 := by omega
            have hLb : ((L : Int) == 0) = false := by simp; omega
            have hwL : IntKind.i64.wrap ((L : Int) - 1) = (L : Int) - 1 := by rw [IntKind.wrap_i64]; omega
            have cf2 : (w5.alloc (.cells #[.int .i64 (m : Int)] 3)).cell? ⟨gF, m, none⟩ = some (.int .i64 (L : Int)) := by
              have h9 := Fn.cell (show Fn n (w5.alloc (.cells #[.int .i64 (m : Int)] 3)) gF fv from Fv.after ((Below.refl _ _).alloc (Nat.le_refl _) _) HFn.out) hlt
              rwa [hL] at h9
            clear hL hds
            go_wp2_with fail
            refine ent1 w5 _ _ (Q := fun W => Code.wp _ _ _ _ W) ?_
            intro W6 hB6 hs6 V6
            have HG6 : Hid (Ge elI W6 w5.heap.size (.slice (some ⟨w5.heap.size, 0, none⟩) [m].length 1) (ints [m])) := Ge.of (E := elI) V6 (Nat.le_refl _) rfl rfl (by show 1 ≤ _; unfold maxLen; omega)
            have HB6 : Hid (Below w5.heap.size w5 W6) := hB6
            have HR6 : Hid (Rtl (Rn N) m L [m]) := Rtl.start HDs.out
            clear hB6 hs6 V6 cf cf2
            go_loopw [12, 13, 14] (fun vo va vl wz => ∃ (out : List Nat) (x : Nat), Hid (∃ ao co, vo = .slice ao out.length co) ∧ va = .int .i64 x ∧ vl = .int .i64 ((L : Int) - (out.length : Int)) ∧ out.length ≤ L ∧ Hid (out[out.length - 1]? = some x) ∧ Hid (Rtl (Rn N) m L out) ∧ Hid (Ge elI wz w5.heap.size vo (ints out)) ∧ Hid (Below w5.heap.size w5 wz)) (fun _ _ vl _ => ((intOf vl).toNat : Nat))
            case atStart => exact ⟨[m], m, ⟨_, _, rfl⟩, rfl, rfl, by show 1 ≤ L; omega, rfl, HR6.out, HG6.out, HB6.out⟩
            case round =>
              clear HG6 HB6 HR6
              obtain ⟨out, x, HV, rfl, rfl, hol, HX, HR, HG, HBz⟩ := hrel
              obtain ⟨ao, co, rfl⟩ := HV.out
              clear HV
              have ho0 : 0 < out.length := by
                have := HR.out.first
                rcases Nat.eq_zero_or_pos out.length with h | h
                · rw [List.getElem?_eq_none (by omega)] at this; cases this
                · exact h
              have HBw : Hid (Below w3.heap.size w3 wr) := HB5.out.trans (HBz.out.mono HB5.out.size)
              rcases Nat.lt_or_ge out.length L with hlt3 | hge3
              · obtain ⟨l, hl⟩ : ∃ l, L - out.length = l := ⟨_, rfl⟩
                have hdx := HR.out.dist _ x HX.out
                rw [show L - (out.length - 1) = l + 1 by omega] at hdx
                have hnx := hdx.next (by omega)
                have HNx2 : Hid (∃ z, Rn N x z ∧ Ds (Rn N) l z m) := hnx
                have hxn : x < n := by
                  obtain ⟨z, h1, -⟩ := hnx
                  exact (HNk.out x z h1).1
                have hxi : (x : Int) < n := by omega
                have hle : (L : Int) - (out.length : Int) = (l : Int) := by omega
                have hl1 : (0 : Int) < (l : Int) := by omega
                have hwl : IntKind.i64.wrap ((l : Int) - 1) = (l : Int) - 1 := by rw [IntKind.wrap_i64]; omega
                have HLo : Hid (L - out.length = l) := hl
                obtain ⟨ar, cr, crow0, hLr⟩ := HRn.out.cell hxn
                have crow := (HBw.out.cell (p := ⟨gN, x, none⟩) HRn.out.lt).trans crow0
                have HLr : Hid (Li wr ar (N x).length (ints (N x))) := Li.after HBw.out hLr
                have HFz : Hid (Fn n wr gF fv) := Fv.after HBz.out HFn.out
                have hnl := HNl.out x
                rw [hle]
                clear hdx hnx hl crow0 hLr hle
                go_wp2_with fail
                go_loopw [15, 16] (fun vn vi wz => ∃ (nv i : Nat), vn = .int .i64 nv ∧ vi = .int .i64 i ∧ i ≤ (N x).length ∧ Hid ((nv = n ∧ ∀ j z, j < i → (N x)[j]? = some z → fv z ≠ l) ∨ (nv ∈ N x ∧ fv nv = l ∧ ∀ j z, j < i → (N x)[j]? = some z → fv z = l → nv ≤ z)) ∧ Hid (wz = wr)) (fun _ vi _ => ((N x).length - (intOf vi).toNat : Nat))
                case atStart => exact ⟨n, 0, rfl, rfl, Nat.zero_le _, .inl ⟨rfl, fun j z hj => absurd hj (by omega)⟩, rfl⟩
                case round =>
                  obtain ⟨nv, i, rfl, rfl, hi, HI, HWz⟩ := hrel
                  have hwz := HWz.out
                  subst hwz
                  rcases Nat.lt_or_ge i (N x).length with hlt4 | hge4
                  · have hii : (i : Int) < (N x).length := by omega
                    obtain ⟨b2, o2, rfl, c2⟩ := Li.node HLr.out hlt4
                    have hzg : (N x)[i]? = some ((N x).getD i 0) := by rw [List.getD_eq_getElem?_getD, List.getElem?_eq_getElem hlt4]; rfl
                    have hzn := (HNk.out x _ (List.mem_of_getElem? hzg)).2
                    have HZg : Hid ((N x)[i]? = some ((N x).getD i 0)) := hzg
                    clear hzg
                    generalize (N x).getD i 0 = z at *
                    have hzi : (z : Int) < n := by omega
                    have cz := HFz.out.cell hzn
                    by_cases hfz : fv z = l
                    · rw [hfz] at cz
                      have HI2 : Hid ((min nv z = n ∧ ∀ j u, j < i + 1 → (N x)[j]? = some u → fv u ≠ l) ∨ (min nv z ∈ N x ∧ fv (min nv z) = l ∧ ∀ j u, j < i + 1 → (N x)[j]? = some u → fv u = l → min nv z ≤ u)) := by
                        right
                        rcases HI.out with ⟨h1, h2⟩ | ⟨h1, h2, h3⟩
                        · rw [show min nv z = z by omega]
                          refine ⟨List.mem_of_getElem? HZg.out, hfz, fun j u hj hu hf => ?_⟩
                          by_cases e : j = i
                          · subst e; rw [HZg.out] at hu; cases hu; exact Nat.le_refl _
                          · exact absurd hf (h2 j u (by omega) hu)
                        · refine ⟨?_, ?_, fun j u hj hu hf => ?_⟩
                          · rcases Nat.le_total nv z with e | e
                            · rw [Nat.min_eq_left e]; exact h1
                            · rw [Nat.min_eq_right e]; exact List.mem_of_getElem? HZg.out
                          · rcases Nat.le_total nv z with e | e
                            · rw [Nat.min_eq_left e]; exact h2
                            · rw [Nat.min_eq_right e]; exact hfz
                          · by_cases e : j = i
                            · subst e; rw [HZg.out] at hu; cases hu; exact Nat.min_le_right _ _
                            · exact Nat.le_trans (Nat.min_le_left _ _) (h3 j u (by omega) hu hf)
                      clear hfz
                      go_wp2_with fail
                      go_roundw
                      case rel => exact ⟨min nv z, i + 1, by show Value.int _ _ = Value.int _ _; congr 1; omega, rfl, by omega, HI2.out, trivial⟩
                      case measure => simp [intOf]; omega
                    · have HI2 : Hid ((nv = n ∧ ∀ j u, j < i + 1 → (N x)[j]? = some u → fv u ≠ l) ∨ (nv ∈ N x ∧ fv nv = l ∧ ∀ j u, j < i + 1 → (N x)[j]? = some u → fv u = l → nv ≤ u)) := by
                        rcases HI.out with ⟨h1, h2⟩ | ⟨h1, h2, h3⟩
                        · refine .inl ⟨h1, fun j u hj hu => ?_⟩
                          by_cases e : j = i
                          · subst e; rw [HZg.out] at hu; cases hu; exact hfz
                          · exact h2 j u (by omega) hu
                        · refine .inr ⟨h1, h2, fun j u hj hu hf => ?_⟩
                          by_cases e : j = i
                          · subst e; rw [HZg.out] at hu; cases hu; exact absurd hf hfz
                          · exact h3 j u (by omega) hu hf
                      generalize fv z = fz at *
                      have hfi : ((fz : Int) == (l : Int)) = false := by simp; omega
                      have hfi2 : ¬ (fz : Int) = (l : Int) := by omega
                      clear hfz
                      go_wp2_with fail
                      go_roundw
                      case rel => exact ⟨nv, i + 1, rfl, rfl, by omega, HI2.out, trivial⟩
                      case measure => simp [intOf]; omega
                  · obtain rfl : i = (N x).length := by omega
                    have hnv : nv ∈ N x ∧ fv nv = l ∧ ∀ z, z ∈ N x → Ds (Rn N) l z m → nv ≤ z := by
                      obtain ⟨z0, h1, h2⟩ := HNx2.out
                      have hf0 := HFr.out.2.1 z0 l h2
                      obtain ⟨j0, hj0⟩ := List.mem_iff_getElem?.1 h1
                      rcases HI.out with ⟨-, h4⟩ | ⟨h4, h5, h6⟩
                      · exact absurd hf0 (h4 j0 z0 (List.getElem?_eq_some_iff.1 hj0).1 hj0)
                      · refine ⟨h4, h5, fun z hz hd => ?_⟩
                        obtain ⟨j, hj⟩ := List.mem_iff_getElem?.1 hz
                        exact h6 j z (List.getElem?_eq_some_iff.1 hj).1 hj (HFr.out.2.1 z l hd)
                    have HRS : Hid (Rtl (Rn N) m L (out ++ [nv])) := by
                      have hl0 : fv nv ≠ 0 := by rw [hnv.2.1]; omega
                      have hd := (HFr.out.1 nv hl0).2
                      rw [hnv.2.1] at hd
                      exact HR.out.snoc hlt3 HX.out hnv.1 (by rw [HLo.out]; exact hd) (fun z hz hd2 => hnv.2.2 z hz (by rw [HLo.out] at hd2; exact hd2))
                    have HGi : Hid (Ge elI wr w5.heap.size (.slice ao (ints out).length co) (ints out)) := by rw [ints_length]; exact HG.out
                    have HVN : Hid (Le elI (wr.alloc (.cells #[.int .i64 (nv : Int)] 3)) (some ⟨wr.heap.size, 0, none⟩) 1 [(nv : Int)]) := Le.one (Va.new wr _ _) rfl
                    have HLn3 : Hid ((ints out).length + 1 ≤ 1000000000000) := by show _ ≤ _; rw [ints_length]; omega
                    have HBs : Hid (w5.heap.size ≤ wr.heap.size) := HBz.out.size
                    have hlo := HLo.out
                    clear hge4 hi HI hnv HR HG HWz
                    rw [← ints_length out]
                    go_wp2_with (at_builtin; refine wpList_appE rfl _ _ _ rfl elI rfl w5.heap.size _ (ints out) rfl (HGi.out.al _) wr.heap.size 0 1 1 [(nv : Int)] rfl HVN.out HLn3.out (by have := HBs.out; simp; omega) ?_; intro v7 w7 hg7 hgr7 hob7; have HB7 : Hid (Below w5.heap.size w5 w7) := (HBz.out.alloc HBs.out _).grown hgr7 (by have := HBs.out; simp; omega) (fun j hj => HGi.out.block j hj); obtain ⟨a7, c7, rfl, -, -, -⟩ := hg7.shape; have HG7 : Hid (Ge elI w7 w5.heap.size (.slice a7 (out ++ [nv]).length c7) (ints (out ++ [nv]))) := (by rw [ints_snoc, ← ints_length (out ++ [nv]), ints_snoc]; exact hg7); clear hg7 hgr7 hob7 HGi HVN HLn3)
                    go_roundw
                    case rel => exact ⟨out ++ [nv], nv, ⟨a7, c7, by rw [ints_length, List.length_append]; rfl⟩, rfl, by simp only [List.length_append, List.length_singleton]; congr 1; omega, by rw [List.length_append]; show out.length + 1 ≤ L; omega, by show _ = _; simp, HRS.out, by have h9 := HG7.out; rw [ints_length]; rw [List.length_append] at h9; exact h9, HB7.out⟩
                    case measure => simp [intOf]; omega
              · have hle2 : out.length = L := by omega
                have HLe : Hid (out.length = L) := hle2
                have hl1 : ¬ (0 : Int) < (L : Int) - (out.length : Int) := by omega
                have HBs : Hid (w.heap.size ≤ w5.heap.size) := by have h1 := HB1.out.size; have h2 := HZ.out; show _ ≤ _; omega
                clear hle2 hge3
                go_wp2_with fail
                go_ret2
                refine ⟨⟨_, _, rfl, ?_⟩, HB1.out.trans (HBw.out.mono HB1.out.size)⟩
                have hR := HR.out
                have hD := HDs.out
                refine .ring HCk.out m L out ?_ (fun y hy => ?_) (by rw [HNx.out]; exact hR) HLe.out ao co (HG.out.le HBs.out)
                · rw [HNx.out]
                  obtain ⟨j, rfl⟩ : ∃ j, L = j + 1 := ⟨L - 1, by have := hD.1; omega⟩
                  exact ⟨j, hD.2.1⟩
                · rw [HNx.out] at hy
                  exact Classical.byContradiction (fun hno => HM.out y (by omega) hy)
        · obtain rfl : m = n := by omega
          clear hge hm
          go_wp2_with fail
          go_ret2
          refine ⟨⟨_, _, rfl, ?_⟩, HB1.out.trans (HB.out.mono HB1.out.size)⟩
          refine .none HCk.out (fun y hy => ?_)
          rw [HNx.out] at hy
          obtain ⟨j, z, h1, h2⟩ := hy
          exact HM.out y (HNk.out y z h1).1 ⟨j, z, h1, h2⟩
end Go.Proofs.Ytcfcknhmoecmoaa
