/-
  order: needsOf (of each node what it needs), turned (of each node those that need it).
-/
import Derived.Test.YtonhooaboieapaaOd1
namespace Go.Proofs.Ytonhooaboieapaa
open Go.RowKit Go.Shelf
set_option linter.unusedVariables false
set_option linter.unusedSimpArgs false

/-- An arc's variable, with its cells. -/
theorem arcHeld {W : World} {b : Nat} {x y : Value} (h : Va W b 38 #[x, y]) : W.cell? ⟨b, 0, none⟩ = some x ∧ W.cell? ⟨b, 1, none⟩ = some y ∧ Hid (Va W b 38 #[x, y]) := ⟨h.c0, h.c1, h⟩
/-- What a node needs, as the arcs stand. -/
def nlf (xs : List Pr) (p : Nat) : List Nat := (xs.filter (fun q => q.1 == (p : Int))).map (fun q => q.2.toNat)
theorem nlf_snoc (xs : List Pr) (x y : Nat) : nlf (xs ++ [((x : Int), (y : Int))]) = upf (nlf xs) x (nlf xs x ++ [y]) := by
  funext p
  unfold nlf upf
  by_cases e : p = x
  · subst e; simp [List.filter_append]
  · have e2 : ¬ x = p := fun h => e h.symm
    have e3 : ¬ (x : Int) = (p : Int) := fun h => e2 (Int.ofNat_inj.1 h)
    simp [List.filter_append, e, e3]
theorem nlf_len (xs : List Pr) (p : Nat) : (nlf xs p).length ≤ xs.length := by
  unfold nlf
  rw [List.length_map]
  exact List.length_filter_le _ _
theorem nlf_mem {xs : List Pr} {x y : Nat} (h : y ∈ nlf xs x) : ∃ z : Int, z.toNat = y ∧ ((x : Int), z) ∈ xs := by
  unfold nlf at h
  obtain ⟨q, h1, h2⟩ := List.mem_map.1 h
  obtain ⟨h3, h4⟩ := List.mem_filter.1 h1
  refine ⟨q.2, h2, ?_⟩
  have : q.1 = (x : Int) := by simpa using h4
  rw [← this]; exact h3
theorem okA_iff {n : Int} {p : Pr} : okA n p = true ↔ (0 ≤ p.1 ∧ p.1 < n) ∧ 0 ≤ p.2 ∧ p.2 < n := by
  unfold okA ndB
  simp
theorem nlf_ok {n : Nat} {xs : List Pr} (h : xs.all (okA n) = true) : ∀ x y, y ∈ nlf xs x → x < n ∧ y < n := by
  intro x y hy
  obtain ⟨z, h1, h2⟩ := nlf_mem hy
  have := okA_iff.1 (List.all_eq_true.1 h _ h2)
  simp only at this
  omega
theorem nlf_iff {n : Nat} {xs : List Pr} (h : xs.all (okA n) = true) (x y : Nat) : y ∈ nlf xs x ↔ ((x : Int), (y : Int)) ∈ xs := by
  constructor
  · intro hy
    obtain ⟨z, h1, h2⟩ := nlf_mem hy
    have := okA_iff.1 (List.all_eq_true.1 h _ h2)
    simp only at this
    have e : z = (y : Int) := by omega
    rw [← e]; exact h2
  · intro hm
    unfold nlf
    refine List.mem_map.2 ⟨((x : Int), (y : Int)), List.mem_filter.2 ⟨hm, by simp⟩, by simp⟩
set_option maxHeartbeats 4000000 in
theorem needsOf_any (n : Nat) (hn : n ≤ 4096) (a : Option Addr) (len cap : Nat) (xs : List Pr) (w : World) (h : La w a len xs) (hl : len ≤ 65536) (hok : xs.all (okA n) = true) :
    Calls Try.prog 25 #[.int .i64 (n : Int), .slice a len cap] w fun e w' => ∃ f, e = .returned (.slice (some ⟨w.heap.size, 0, none⟩) n n) ∧ Dg n w w' f (nlf xs) := by
  have HLn : Hid (xs.length = len) := h.1
  have HL : Hid (La w a len xs) := h
  have HOk : Hid (xs.all (okA n) = true) := hok
  have hm := make_rows n (by omega)
  clear h hok
  go_enter Try.func25, Try.ntmps25
  go_wp2_with fail
  refine ent1 w _ _ (Q := fun W => Code.wp _ _ _ _ W) ?_
  intro W0 hB0 hs0 V0
  have HD0 : Hid (Dg n w W0 _ (nlf ([] : List Pr))) := Dg.start V0 hB0
  clear V0 hB0 hm hs0
  go_loopw [12] (fun j wr => ∃ (k : Nat) (f : Nat → Value), j = .int .i64 k ∧ k ≤ len ∧ Hid (Dg n w wr f (nlf (xs.take k)))) (fun j _ => (len - (intOf j).toNat : Nat))
  case atStart => exact ⟨0, _, rfl, Nat.zero_le _, HD0.out⟩
  case round =>
    clear HD0
    obtain ⟨k, f, rfl, hk, HD⟩ := hrel
    rcases Nat.lt_or_ge k len with hlt | hge
    · obtain ⟨b, off, rfl, c0, c1⟩ := (HL.out.after HD.out.below).arc hlt
      have hki : (k : Int) < len := by omega
      have hok := okA_iff.1 (okA_at HOk.out (i := k) (by rw [HLn.out]; exact hlt))
      obtain ⟨x, hx⟩ : ∃ x : Nat, (xs.getD k (0, 0)).1 = x := ⟨(xs.getD k (0, 0)).1.toNat, by omega⟩
      obtain ⟨y, hy⟩ : ∃ y : Nat, (xs.getD k (0, 0)).2 = y := ⟨(xs.getD k (0, 0)).2.toNat, by omega⟩
      have HT : Hid (xs.take (k + 1) = xs.take k ++ [((x : Int), (y : Int))]) := by
        show _ = _
        rw [take_snoc (0, 0) (by rw [HLn.out]; exact hlt), ← hx, ← hy]
      rw [hx] at c0 hok
      rw [hy] at c1 hok
      have hxn : x < n := by omega
      have hxi : (x : Int) < n := by omega
      clear hx hy hok
      go_wp2_with fail
      refine ent1 wr _ _ (Q := fun W => Code.wp _ _ _ _ W) ?_
      intro W2 hB2 hs2 V2
      have d0 := V2.c0
      have d1 := V2.c1
      have HD2 : Hid (Dg n w W2 f (nlf (xs.take k))) := HD.out.after hB2
      have HDr : Hid (w.heap.size + 1 ≤ wr.heap.size) := HD.out.size
      have HV2 : Hid (Va W2 wr.heap.size 38 #[.int .i64 (x : Int), .int .i64 (y : Int)]) := V2
      clear c0 c1 hB2 hs2 HD V2
      have HLn2 : Hid ((ints (nlf (xs.take k) x)).length + 1 ≤ 1000000000000) := by
        have := nlf_len (xs.take k) x
        rw [List.length_take] at this
        show _ ≤ _; rw [ints_length]; omega
      have hsz2 := HD2.out.size
      have hszw : w.heap.size ≠ wr.heap.size := by have := HDr.out; omega
      have HDd : Hid (Dg n w W2.drew _ _) := HD2.out.drw 1
      refine wp_region_noPanic ?_
      refine wp_region_held_drew (S := (fun W => W.cell? ⟨wr.heap.size, 0, none⟩ = some (.int .i64 (x : Int)) ∧ W.cell? ⟨wr.heap.size, 1, none⟩ = some (.int .i64 (y : Int)) ∧ Hid (Va W wr.heap.size 38 #[.int .i64 (x : Int), .int .i64 (y : Int)]))) (by kernel_rfl) ⟨d0, d1, HV2.out.drw⟩ (fun hHeld => ?_)
      obtain ⟨xd, hxd⟩ : ∃ xd, xd = W2.drew := ⟨_, rfl⟩
      rw [← hxd] at HDd hHeld  ⊢
      clear hxd
      refine wpAnyH_take (i := 0) (v := ?_) rfl (by kernel_rfl) (by kernel_rfl) (by kernel_rfl) (fun _ _ _ h => h) (Or.inl ⟨by rfl, ?_⟩) hHeld ?_
      rotate_left
      · (intro W hSw; (try dsimp only at hSw); go_simp; all_goals (with_reducible rfl))
      simp only [List.getElem_toArray, List.getElem_cons_zero, Act.put, List.setIfInBounds_toArray, List.set_cons_zero, List.set_cons_succ]
      refine wpAnyH_take (i := 1) (v := ?_) rfl (by kernel_rfl) (by kernel_rfl) (by kernel_rfl) (fun _ _ _ h => h) (Or.inl ⟨by rfl, ?_⟩) hHeld ?_
      rotate_left
      · (intro W hSw; (try dsimp only at hSw); go_simp; all_goals (with_reducible rfl))
      simp only [List.getElem_toArray, List.getElem_cons_zero, List.getElem_cons_succ, Act.put, List.setIfInBounds_toArray, List.set_cons_zero, List.set_cons_succ]
      refine wpAnyH_take (i := 2) (v := ?_) rfl (by kernel_rfl) (by kernel_rfl) (by kernel_rfl) (fun _ _ _ h => h) (Or.inl ⟨by rfl, ?_⟩) hHeld ?_
      rotate_left
      · (intro W hSw; (try dsimp only at hSw); go_simp; all_goals (with_reducible rfl))
      simp only [List.getElem_toArray, List.getElem_cons_zero, List.getElem_cons_succ, Act.put, List.setIfInBounds_toArray, List.set_cons_zero, List.set_cons_succ]
      refine wpAnyH_take (i := 3) (v := ?_) rfl (by kernel_rfl) (by kernel_rfl) (by kernel_rfl) (fun _ _ _ h => h) (Or.inl ⟨by rfl, ?_⟩) hHeld ?_
      rotate_left
      · (intro W hSw; (try dsimp only at hSw); go_simp; all_goals (with_reducible rfl))
      simp only [List.getElem_toArray, List.getElem_cons_zero, List.getElem_cons_succ, Act.put, List.setIfInBounds_toArray, List.set_cons_zero, List.set_cons_succ]
      refine wpAnyH_take (i := 4) (v := ?_) rfl (by kernel_rfl) (by kernel_rfl) (by kernel_rfl) (fun _ _ _ h => h) (Or.inl ⟨by rfl, ?_⟩) hHeld ?_
      rotate_left
      · (intro W hSw; (try dsimp only at hSw); go_simp; all_goals (with_reducible rfl))
      simp only [List.getElem_toArray, List.getElem_cons_zero, List.getElem_cons_succ, Act.put, List.setIfInBounds_toArray, List.set_cons_zero, List.set_cons_succ]
      refine wpAnyH_take (i := 5) (v := ?_) rfl (by kernel_rfl) (by kernel_rfl) (by kernel_rfl) (fun _ _ _ h => h) (Or.inl ⟨by rfl, ?_⟩) hHeld ?_
      rotate_left
      · (intro W hSw; (try dsimp only at hSw); go_simp; all_goals (with_reducible rfl))
      simp only [List.getElem_toArray, List.getElem_cons_zero, List.getElem_cons_succ, Act.put, List.setIfInBounds_toArray, List.set_cons_zero, List.set_cons_succ]
      refine wpAnyH_take (i := 6) (v := ?_) rfl (by kernel_rfl) (by kernel_rfl) (by kernel_rfl) (fun _ _ _ h => h) (Or.inl ⟨by rfl, ?_⟩) hHeld ?_
      rotate_left
      · (intro W hSw; (try dsimp only at hSw); go_simp; all_goals (with_reducible rfl))
      simp only [List.getElem_toArray, List.getElem_cons_zero, List.getElem_cons_succ, Act.put, List.setIfInBounds_toArray, List.set_cons_zero, List.set_cons_succ]
      refine wpAnyH_take (i := 8) (v := ?_) rfl (by kernel_rfl) (by kernel_rfl) (by kernel_rfl) (fun _ _ _ h => h) (Or.inl ⟨by rfl, ?_⟩) hHeld ?_
      rotate_left
      · (intro W hSw; (try dsimp only at hSw); go_simp; all_goals (with_reducible rfl))
      simp only [List.getElem_toArray, List.getElem_cons_zero, List.getElem_cons_succ, Act.put, List.setIfInBounds_toArray, List.set_cons_zero, List.set_cons_succ]
      refine wpAnyH_take (i := 9) (v := ?_) rfl (by kernel_rfl) (by kernel_rfl) (by kernel_rfl) (fun _ _ _ h => h) (Or.inl ⟨by rfl, ?_⟩) hHeld ?_
      rotate_left
      · (intro W hSw; (try dsimp only at hSw); go_simp; all_goals (with_reducible rfl))
      simp only [List.getElem_toArray, List.getElem_cons_zero, List.getElem_cons_succ, Act.put, List.setIfInBounds_toArray, List.set_cons_zero, List.set_cons_succ]
      obtain ⟨ap, cpp, hfx, cp, hKd, hrow⟩ := HDd.out.row hxn
      have HFX : Hid (_ = _) := hfx
      have HKd : Hid (Ge elI xd (w.heap.size + 1) _ _) := hKd
      have hszd := HDd.out.size
      clear hfx hKd hrow
      refine wpAnyH_ready (rs := [7, 10]) (by kernel_rfl) (by simp) ?_
      refine AllReadyH.cons rfl (fun K hK => ?_) (AllReadyH.cons rfl (fun K hK => ?_) AllReadyH.nil)
      ·
        simp only [List.getElem_toArray, List.getElem_cons_zero, List.getElem_cons_succ]
        go_simp
        refine hK.out _ _ hHeld (fun hHeld => ?_)
        clear hK K
        refine wpAnyH_ready (rs := [10]) (by kernel_rfl) (by simp) ?_
        refine AllReadyH.cons rfl (fun K hK => ?_) AllReadyH.nil
        simp only [List.getElem_toArray, List.getElem_cons_zero, List.getElem_cons_succ]
        go_simp
        refine ent1 xd _ _ (Q := fun V => K _ V) ?_
        intro x7 hb7 hs7 VG
        have HD7 : Hid (Dg n w x7 _ _) := HDd.out.after hb7
        have HK7 : Hid (Ge elI x7 (w.heap.size + 1) _ _) := HKd.out.after hb7
        have hS7 := hHeld
        replace hHeld := arcHeld (Va.after hb7 hHeld.2.2.out)
        have cp7 := (hb7.cell (p := ⟨w.heap.size, x, none⟩) (by show w.heap.size < _; omega)).trans cp
        clear cp; have cp := cp7; clear cp7
        refine hK.out _ _ hHeld (fun hHeld => ?_)
        clear hK K
        refine wpAnyH_ready (rs := [11]) (by kernel_rfl) (by simp) ?_
        refine AllReadyH.cons rfl (fun K hK => ?_) AllReadyH.nil
        simp only [List.getElem_toArray, List.getElem_cons_zero, List.getElem_cons_succ]
        refine step_appE elI (o := { dst := some 27, op := .call { callee := .builtin .append, args := #[.tmp 23, .tmp 26], argTypes := #[23, 23] }, type := 23, pos := "order.go:72", after := #[{ on := 7, ground := .data }, { on := 10, ground := .data }], guard := none }) rfl (.tmp 23) (.tmp 26) 23 rfl rfl (w.heap.size + 1) _ _ rfl HK7.out xd.heap.size 0 1 1 [(y : Int)] rfl (Le.one VG rfl) HLn2.out (by have := hb7.size; omega) ?_
        intro v8 x8 hg8 hgr8 hob8
        have HD8 : Hid (Dg n w (x8.setCell ⟨w.heap.size, x, none⟩ v8) (upf _ x v8) (upf _ x _)) := HD7.out.add hxn (by rw [HFX.out]; exact hgr8) (by rw [ints_snoc]; exact hg8) (by rw [HFX.out]; exact hob8)
        obtain ⟨q8, f8⟩ : x8.cell? ⟨w.heap.size, x, none⟩ = some _ ∧ x8.frozen? ⟨w.heap.size, x, none⟩ = false := by
          obtain ⟨a1, c1, e1, -, -, hr1⟩ := HD7.out.row hxn
          rw [HFX.out] at e1; cases e1
          exact hr1 x8 hgr8
        replace hHeld := arcHeld ((hgr8.block _ (Va.lt hHeld.2.2.out) (fun e => HK7.out.apart hHeld.2.2.out (by decide) e.symm)).trans hHeld.2.2.out)
        obtain ⟨a8, c8, rfl, -, -, -⟩ := hg8.shape
        clear hg8 hob8 hgr8
        simp only [Act.put, List.setIfInBounds_toArray, List.set_cons_zero, List.set_cons_succ]
        refine hK.out _ _ hHeld (fun hHeld => ?_)
        clear hK K
        refine wpAnyH_take (i := 12) (v := ?_) rfl (by kernel_rfl) (by kernel_rfl) (by kernel_rfl) (fun _ _ _ h => h) (Or.inl ⟨by rfl, ?_⟩) hHeld ?_
        rotate_left
        · (intro W hSw; (try dsimp only at hSw); go_simp; all_goals (with_reducible rfl))
        simp only [List.getElem_toArray, List.getElem_cons_zero, List.getElem_cons_succ, Act.put, List.setIfInBounds_toArray, List.set_cons_zero, List.set_cons_succ]
        refine wpAnyH_ready (rs := [13]) (by kernel_rfl) (by simp) ?_
        refine AllReadyH.cons rfl (fun K hK => ?_) AllReadyH.nil
        simp only [List.getElem_toArray, List.getElem_cons_zero, List.getElem_cons_succ]
        go_simp
        refine hK.out _ _ (arcHeld (Va.other hHeld.2.2.out (p := ⟨w.heap.size, x, none⟩) (fun e => hszw e.symm) _)) (fun hHeld => ?_)
        clear hK K
        refine wpAnyH_done (by kernel_rfl) ?_ _
        refine NoPanic.normal ?_
        clear hHeld
        go_wp2_with fail
        go_roundw
        case rel => exact ⟨k + 1, _, rfl, by omega, by show Dg _ _ _ _ _; rw [HT.out, nlf_snoc]; have h9 := HD8.out; rw [List.length_append] at h9; exact h9⟩
        case measure => simp [intOf]; omega
      ·
        simp only [List.getElem_toArray, List.getElem_cons_zero, List.getElem_cons_succ]
        go_simp
        refine ent1 xd _ _ (Q := fun V => K _ V) ?_
        intro x7 hb7 hs7 VG
        have HD7 : Hid (Dg n w x7 _ _) := HDd.out.after hb7
        have HK7 : Hid (Ge elI x7 (w.heap.size + 1) _ _) := HKd.out.after hb7
        have hS7 := hHeld
        replace hHeld := arcHeld (Va.after hb7 hHeld.2.2.out)
        have cp7 := (hb7.cell (p := ⟨w.heap.size, x, none⟩) (by show w.heap.size < _; omega)).trans cp
        clear cp; have cp := cp7; clear cp7
        refine hK.out _ _ hHeld (fun hHeld => ?_)
        clear hK K
        refine wpAnyH_ready (rs := [7]) (by kernel_rfl) (by simp) ?_
        refine AllReadyH.cons rfl (fun K hK => ?_) AllReadyH.nil
        simp only [List.getElem_toArray, List.getElem_cons_zero, List.getElem_cons_succ]
        go_simp
        refine hK.out _ _ hHeld (fun hHeld => ?_)
        clear hK K
        refine wpAnyH_ready (rs := [11]) (by kernel_rfl) (by simp) ?_
        refine AllReadyH.cons rfl (fun K hK => ?_) AllReadyH.nil
        simp only [List.getElem_toArray, List.getElem_cons_zero, List.getElem_cons_succ]
        refine step_appE elI (o := { dst := some 27, op := .call { callee := .builtin .append, args := #[.tmp 23, .tmp 26], argTypes := #[23, 23] }, type := 23, pos := "order.go:72", after := #[{ on := 7, ground := .data }, { on := 10, ground := .data }], guard := none }) rfl (.tmp 23) (.tmp 26) 23 rfl rfl (w.heap.size + 1) _ _ rfl HK7.out xd.heap.size 0 1 1 [(y : Int)] rfl (Le.one VG rfl) HLn2.out (by have := hb7.size; omega) ?_
        intro v8 x8 hg8 hgr8 hob8
        have HD8 : Hid (Dg n w (x8.setCell ⟨w.heap.size, x, none⟩ v8) (upf _ x v8) (upf _ x _)) := HD7.out.add hxn (by rw [HFX.out]; exact hgr8) (by rw [ints_snoc]; exact hg8) (by rw [HFX.out]; exact hob8)
        obtain ⟨q8, f8⟩ : x8.cell? ⟨w.heap.size, x, none⟩ = some _ ∧ x8.frozen? ⟨w.heap.size, x, none⟩ = false := by
          obtain ⟨a1, c1, e1, -, -, hr1⟩ := HD7.out.row hxn
          rw [HFX.out] at e1; cases e1
          exact hr1 x8 hgr8
        replace hHeld := arcHeld ((hgr8.block _ (Va.lt hHeld.2.2.out) (fun e => HK7.out.apart hHeld.2.2.out (by decide) e.symm)).trans hHeld.2.2.out)
        obtain ⟨a8, c8, rfl, -, -, -⟩ := hg8.shape
        clear hg8 hob8 hgr8
        simp only [Act.put, List.setIfInBounds_toArray, List.set_cons_zero, List.set_cons_succ]
        refine hK.out _ _ hHeld (fun hHeld => ?_)
        clear hK K
        refine wpAnyH_take (i := 12) (v := ?_) rfl (by kernel_rfl) (by kernel_rfl) (by kernel_rfl) (fun _ _ _ h => h) (Or.inl ⟨by rfl, ?_⟩) hHeld ?_
        rotate_left
        · (intro W hSw; (try dsimp only at hSw); go_simp; all_goals (with_reducible rfl))
        simp only [List.getElem_toArray, List.getElem_cons_zero, List.getElem_cons_succ, Act.put, List.setIfInBounds_toArray, List.set_cons_zero, List.set_cons_succ]
        refine wpAnyH_ready (rs := [13]) (by kernel_rfl) (by simp) ?_
        refine AllReadyH.cons rfl (fun K hK => ?_) AllReadyH.nil
        simp only [List.getElem_toArray, List.getElem_cons_zero, List.getElem_cons_succ]
        go_simp
        refine hK.out _ _ (arcHeld (Va.other hHeld.2.2.out (p := ⟨w.heap.size, x, none⟩) (fun e => hszw e.symm) _)) (fun hHeld => ?_)
        clear hK K
        refine wpAnyH_done (by kernel_rfl) ?_ _
        refine NoPanic.normal ?_
        clear hHeld
        go_wp2_with fail
        go_roundw
        case rel => exact ⟨k + 1, _, rfl, by omega, by show Dg _ _ _ _ _; rw [HT.out, nlf_snoc]; have h9 := HD8.out; rw [List.length_append] at h9; exact h9⟩
        case measure => simp [intOf]; omega
    · obtain rfl : k = len := by omega
      clear hge hk
      go_wp2_with fail
      go_ret
      refine ⟨f, rfl, ?_⟩
      have := HD.out
      rwa [List.take_of_length_le (by rw [HLn.out]; exact Nat.le_refl _)] at this

/-- The rows turned, so far: the nodes ahead of one, and the first of its own. -/
structure TnK (N : Nat → List Nat) (k j : Nat) (T : Nat → List Nat) : Prop where
  cnt : ∀ x p, (T x).count p = (if p < k then (N p).count x else 0) + (if p = k then ((N k).take j).count x else 0)
  len : ∀ x, (T x).length ≤ k * 65536 + j
theorem TnK.start (N : Nat → List Nat) : TnK N 0 0 (fun _ => []) := ⟨fun x p => by simp, fun x => by simp⟩
theorem TnK.add {N : Nat → List Nat} {k j x : Nat} {T : Nat → List Nat} (h : TnK N k j T) (hx : (N k)[j]? = some x) : TnK N k (j + 1) (upf T x (T x ++ [k])) := by
  refine ⟨fun z p => ?_, fun z => ?_⟩
  · have h1 := h.cnt z p
    rw [take_more _ _ hx, List.count_append]
    by_cases e : z = x
    · subst e
      rw [upf_self, List.count_append, h1]
      by_cases e2 : p = k
      · subst e2; simp
      · have e3 : ¬ k = p := fun h => e2 h.symm
        simp [e2, e3]
    · rw [upf_ne _ _ e, h1]
      have e3 : ¬ x = z := fun h => e h.symm
      simp [e, e3]
  · by_cases e : z = x
    · rw [e, upf_self, List.length_append]
      have := h.len x
      simp; omega
    · rw [upf_ne _ _ e]
      have := h.len z
      omega
theorem TnK.next {N : Nat → List Nat} {k : Nat} {T : Nat → List Nat} (h : TnK N k (N k).length T) (hl : (N k).length ≤ 65536) : TnK N (k + 1) 0 T := by
  refine ⟨fun x p => ?_, fun x => ?_⟩
  · rw [h.cnt x p, List.take_length]
    by_cases e : p = k
    · subst e; simp
    · by_cases e2 : p < k
      · rw [if_pos e2, if_neg e, if_pos (by omega)]; simp
      · rw [if_neg e2, if_neg e, if_neg (by omega)]; simp
  · refine Nat.le_trans (h.len x) ?_
    rw [Nat.add_mul, Nat.one_mul]
    exact Nat.add_le_add_left hl _
/-- Who needs a node, as often as it does. -/
def Tn (N : Nat → List Nat) (n : Nat) (T : Nat → List Nat) : Prop := ∀ x p, (T x).count p = if p < n then (N p).count x else 0
theorem TnK.done {N : Nat → List Nat} {n : Nat} {T : Nat → List Nat} (h : TnK N n 0 T) : Tn N n T := fun x p => by rw [h.cnt x p]; simp
theorem Tn.mem {N : Nat → List Nat} {n : Nat} {T : Nat → List Nat} (h : Tn N n T) {x p : Nat} : p ∈ T x ↔ p < n ∧ x ∈ N p := by
  rw [← List.count_pos_iff, h x p]
  by_cases e : p < n
  · rw [if_pos e, List.count_pos_iff]; exact ⟨fun h => ⟨e, h⟩, fun h => h.2⟩
  · rw [if_neg e]; exact ⟨fun h => absurd h (by omega), fun h => absurd h.1 e⟩
set_option maxHeartbeats 4000000 in
theorem turned_any (n : Nat) (hn : n ≤ 4096) (b : Nat) (N : Nat → List Nat) (w : World) (h : Rw n w b N) (hl : ∀ p, (N p).length ≤ 65536) (hN : ∀ x y, y ∈ N x → x < n ∧ y < n) :
    Calls Try.prog 34 #[.slice (some ⟨b, 0, none⟩) n n] w fun e w' => ∃ f T, e = .returned (.slice (some ⟨w.heap.size, 0, none⟩) n n) ∧ Dg n w w' f T ∧ Tn N n T ∧ ∀ x, (T x).length ≤ 300000000 := by
  have HR : Hid (Rw n w b N) := h
  have HLe : Hid (∀ p, (N p).length ≤ 65536) := hl
  have HNn : Hid (∀ x y, y ∈ N x → x < n ∧ y < n) := hN
  have hm := make_rows n (by omega)
  clear h hl hN
  go_enter Try.func34, Try.ntmps34
  go_wp2_with fail
  refine ent1 w _ _ (Q := fun W => Code.wp _ _ _ _ W) ?_
  intro W0 hB0 hs0 V0
  have HD0 : Hid (Dg n w W0 _ (fun _ => [])) := Dg.start V0 hB0
  clear V0 hB0 hm hs0
  go_loopw [13] (fun j wr => ∃ (k : Nat) (f : Nat → Value) (T : Nat → List Nat), j = .int .i64 k ∧ k ≤ n ∧ Hid (Dg n w wr f T) ∧ Hid (TnK N k 0 T)) (fun j _ => (n - (intOf j).toNat : Nat))
  case atStart => exact ⟨0, _, _, rfl, Nat.zero_le _, HD0.out, TnK.start N⟩
  case round =>
    clear HD0
    obtain ⟨k, f, T, rfl, hk, HD, HT⟩ := hrel
    rcases Nat.lt_or_ge k n with hlt | hge
    · have hki : (k : Int) < n := by omega
      obtain ⟨a, c, ck0, hLk⟩ := HR.out.cell hlt
      have ck := (HD.out.below.cell (p := ⟨b, k, none⟩) HR.out.lt).trans ck0
      have HLk : Hid (Li w a (N k).length (ints (N k))) := hLk
      have hl6 := HLe.out k
      clear hLk ck0
      go_wp2_with fail
      have HD1 : Hid (Dg n w wr f T) := HD.out
      have HT1 : Hid (TnK N k 0 T) := HT.out
      clear HD HT ck
      go_loopw [20] (fun j wz => ∃ (i : Nat) (f : Nat → Value) (T : Nat → List Nat), j = .int .i64 i ∧ i ≤ (N k).length ∧ Hid (Dg n w wz f T) ∧ Hid (TnK N k i T)) (fun j _ => ((N k).length - (intOf j).toNat : Nat))
      case atStart => exact ⟨0, f, T, rfl, Nat.zero_le _, HD1.out, HT1.out⟩
      case round =>
        clear HD1 HT1
        obtain ⟨i, f, T, rfl, hi, HD, HT⟩ := hrel
        rcases Nat.lt_or_ge i (N k).length with hilt | hige
        · have hii : (i : Int) < (N k).length := by omega
          obtain ⟨b', off', rfl, cx⟩ := Li.node (HLk.out.after HD.out.below) hilt
          have hxg : (N k)[i]? = some ((N k).getD i 0) := by rw [List.getD_eq_getElem?_getD, List.getElem?_eq_getElem hilt]; rfl
          have hxn := (HNn.out k _ (List.mem_of_getElem? hxg)).2
          have HX : Hid ((N k)[i]? = some ((N k).getD i 0)) := hxg
          clear hxg
          generalize (N k).getD i 0 = x at *
          have hxi : (x : Int) < n := by omega
          obtain ⟨ap, cpp, hfx, cp, hKd, hrow⟩ := HD.out.row hxn
          have HFX : Hid (f x = _) := hfx
          have HKd : Hid (Ge elI wr (w.heap.size + 1) (.slice ap (ints (T x)).length cpp) (ints (T x))) := hKd
          have HLn2 : Hid ((ints (T x)).length + 1 ≤ 1000000000000) := by
            have := HT.out.len x
            show _ ≤ _; rw [ints_length]; omega
          have hszd := HD.out.size
          clear hfx hKd hrow
          go_wp2_with (at_builtin; refine wpList_appE rfl _ _ _ rfl elI rfl (w.heap.size + 1) _ (ints (T x)) rfl (HKd.out.al _) wr.heap.size 0 1 1 [(k : Int)] rfl (Le.one (Va.new wr _ _) rfl) HLn2.out (by simp; omega) ?_; intro v' w1 hg1 hgr1 hob; have HD1 : Hid (Dg n w (w1.setCell ⟨w.heap.size, x, none⟩ v') (upf f x v') (upf T x (T x ++ [k]))) := (HD.out.al _).add hxn (by rw [HFX.out]; exact hgr1) (by rw [ints_snoc]; exact hg1) (by rw [HFX.out]; exact hob); obtain ⟨q1, g1⟩ : w1.cell? ⟨w.heap.size, x, none⟩ = some _ ∧ w1.frozen? ⟨w.heap.size, x, none⟩ = false := (by obtain ⟨a1, c1, e1, -, -, hr1⟩ := (HD.out.al (.cells #[.int .i64 (k : Int)] 3)).row hxn; rw [HFX.out] at e1; cases e1; exact hr1 w1 hgr1); obtain ⟨a9, c9, rfl, -, -, -⟩ := hg1.shape; clear hg1 hgr1 hob cp)
          have HD2 : Hid (Dg n w (w1.setCell ⟨w.heap.size, x, none⟩ (.slice a9 ((ints (T x)).length + 1) c9)) (upf f x (.slice a9 ((ints (T x)).length + 1) c9)) (upf T x (T x ++ [k]))) := by
            have h9 := HD1.out; rw [List.length_append] at h9; exact h9
          go_roundw
          case rel => exact ⟨i + 1, _, _, rfl, by omega, HD2.out, HT.out.add HX.out⟩
          case measure => simp [intOf]; omega
        · obtain rfl : i = (N k).length := by omega
          clear hige hi
          go_wp2_with fail
          go_roundw
          case rel => exact ⟨k + 1, f, T, rfl, by omega, HD.out, HT.out.next hl6⟩
          case measure => simp [intOf]; omega
    · obtain rfl : k = n := by omega
      clear hge hk
      go_wp2_with fail
      go_ret
      exact ⟨f, T, rfl, HD.out, HT.out.done, fun x => by have := HT.out.len x; omega⟩
end Go.Proofs.Ytonhooaboieapaa
