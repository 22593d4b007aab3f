/-
  order: the node that is nearest (the comparison by steps, slices.MinFunc with it).
-/
import Derived.Test.YtonhooaboieapaaOd2
import Derived.Test.YtonhooaboieapaaShelf
namespace Go.Proofs.Ytonhooaboieapaa
open Go.RowKit Go.Shelf
set_option linter.unusedVariables false
set_option linter.unusedSimpArgs false

def orZ (p q : Int) : Int := if p = 0 then q else p
theorem cell_two {w : World} {b : Nat} {p q : Int} (h : Va w b 3 #[.int .i64 p, .int .i64 q]) : w.cell? ⟨b, 0, none⟩ = some (.int .i64 p) ∧ w.cell? ⟨b, 1, none⟩ = some (.int .i64 q) := ⟨h.c0, h.c1⟩
set_option maxHeartbeats 4000000 in
theorem or_any {w : World} {b : Nat} {p q : Int} (h : Va w b 3 #[.int .i64 p, .int .i64 q]) :
    Calls Try.prog 42 #[.slice (some ⟨b, 0, none⟩) 2 2] w fun e w' => e = .returned (.int .i64 (orZ p q)) ∧ w' = w := by
  obtain ⟨c0, c1⟩ := cell_two h
  clear h
  unfold orZ
  by_cases hp : p = 0
  · rw [if_pos hp]
    subst hp
    by_cases hq : q = 0
    · subst hq
      go_enter Try.func42, Try.ntmps42
      go_wp2_with fail
      refine wp_loop_rounds 3 ?_
      rw [rounds_succ]
      go_wp2_with fail
      rw [rounds_succ]
      go_wp2_with fail
      rw [rounds_succ]
      go_wp2_with fail
      go_ret
      exact ⟨rfl, rfl⟩
    · go_enter Try.func42, Try.ntmps42
      go_wp2_with fail
      refine wp_loop_rounds 3 ?_
      rw [rounds_succ]
      go_wp2_with fail
      rw [rounds_succ]
      go_wp2_with fail
      go_ret
      exact ⟨rfl, rfl⟩
  · rw [if_neg hp]
    go_enter Try.func42, Try.ntmps42
    go_wp2_with fail
    refine wp_loop_rounds 3 ?_
    rw [rounds_succ]
    go_wp2_with fail
    go_ret
    exact ⟨rfl, rfl⟩
/-- Nearer, or as near and less. -/
def Nr (st : Nat → Nat) (x y : Nat) : Prop := st x < st y ∨ (st x = st y ∧ x < y)
theorem Nr.trans {st : Nat → Nat} {x y z : Nat} (h : Nr st x y) (g : Nr st y z) : Nr st x z := by unfold Nr at *; omega
theorem cmp_sign (st : Nat → Nat) (x y : Nat) : orZ (Lib.compareInt (st x : Int) (st y)) (Lib.compareInt (x : Int) y) < 0 ↔ Nr st x y := by
  unfold orZ Lib.compareInt Nr
  repeat' split
  all_goals omega
/-- The variable that holds the steps, and the row. -/
def Sv (n : Nat) (w : World) (bs gs : Nat) (st : Nat → Nat) : Prop := Va w bs 23 #[.slice (some ⟨gs, 0, none⟩) n n] ∧ Fn n w gs st
theorem Sv.after {n : Nat} {w w' : World} {bs gs : Nat} {st : Nat → Nat} (hb : Below w.heap.size w w') (h : Sv n w bs gs st) : Sv n w' bs gs st := ⟨h.1.after hb, Fv.after hb h.2⟩
set_option maxRecDepth 20000 in
set_option maxHeartbeats 8000000 in
theorem cmpS_any {n : Nat} {w : World} {bs gs : Nat} {st : Nat → Nat} (h : Sv n w bs gs st) {x y : Nat} (hx : x < n) (hy : y < n) :
    Calls Try.prog 41 #[.int .i64 (x : Int), .int .i64 (y : Int), .pointer (some ⟨bs, 0, none⟩)] w fun e w' => e = .returned (.int .i64 (orZ (Lib.compareInt (st x : Int) (st y)) (Lib.compareInt (x : Int) y))) ∧ Below w.heap.size w w' := by
  have hxi : (x : Int) < n := by omega
  have hyi : (y : Int) < n := by omega
  have HC : Hid (∀ (p q : Int) (W : World), Calls Try.prog 43 #[.int .i64 p, .int .i64 q] W fun e w' => e = .returned (.int .i64 (Lib.compareInt p q)) ∧ w' = W) := fun p q W => Try.cmp_Compare_int p q W
  have q0 := h.1.cell
  have q1 := h.2.cell hx
  have q2 := h.2.cell hy
  have B0 : Below w.heap.size w w := Below.refl _ _
  clear h
  generalize (st x : Int) = sx at *
  generalize (st y : Int) = sy at *
  go_enter Try.func41, Try.ntmps41
  go_wp2_with fail
  refine wp_region_noPanic ?_
  replace B0 := Below.drew B0
  have HS0 : w.drew.cell? ⟨bs, 0, none⟩ = some (.slice (some ⟨gs, 0, none⟩) n n) ∧ w.drew.cell? ⟨gs, x, none⟩ = some (.int .i64 sx) ∧ w.drew.cell? ⟨gs, y, none⟩ = some (.int .i64 sy) := ⟨q0, q1, q2⟩
  refine wp_region_held_drew (S := (fun W => W.cell? ⟨bs, 0, none⟩ = some (.slice (some ⟨gs, 0, none⟩) n n) ∧ W.cell? ⟨gs, x, none⟩ = some (.int .i64 sx) ∧ W.cell? ⟨gs, y, none⟩ = some (.int .i64 sy))) (by kernel_rfl) HS0 (fun hHeld => ?_)
  clear HS0 q0 q1 q2
  obtain ⟨xd, hxd⟩ : ∃ xd, xd = w.drew := ⟨_, rfl⟩
  rw [← hxd] at B0 hHeld ⊢
  clear hxd
  refine wpAnyH_take (i := 0) (v := ?_) rfl (by kernel_rfl) (by kernel_rfl) (by kernel_rfl) (fun _ _ _ h => h) (Or.inl ⟨by rfl, ?_⟩) hHeld ?_
  rotate_left
  · (intro W hSw; (try dsimp only at hSw); go_simp; all_goals (with_reducible rfl))
  simp only [List.getElem_toArray, List.getElem_cons_zero, Act.put, List.setIfInBounds_toArray, List.set_cons_zero, List.set_cons_succ]
  refine wpAnyH_take (i := 1) (v := ?_) rfl (by kernel_rfl) (by kernel_rfl) (by kernel_rfl) (fun _ _ _ h => h) (Or.inl ⟨by rfl, ?_⟩) hHeld ?_
  rotate_left
  · (intro W hSw; (try dsimp only at hSw); go_simp; all_goals (with_reducible rfl))
  simp only [List.getElem_toArray, List.getElem_cons_zero, List.getElem_cons_succ, Act.put, List.setIfInBounds_toArray, List.set_cons_zero, List.set_cons_succ]
  refine wpAnyH_take (i := 2) (v := ?_) rfl (by kernel_rfl) (by kernel_rfl) (by kernel_rfl) (fun _ _ _ h => h) (Or.inl ⟨by rfl, ?_⟩) hHeld ?_
  rotate_left
  · (intro W hSw; (try dsimp only at hSw); go_simp; all_goals (with_reducible rfl))
  simp only [List.getElem_toArray, List.getElem_cons_zero, List.getElem_cons_succ, Act.put, List.setIfInBounds_toArray, List.set_cons_zero, List.set_cons_succ]
  refine wpAnyH_take (i := 3) (v := ?_) rfl (by kernel_rfl) (by kernel_rfl) (by kernel_rfl) (fun _ _ _ h => h) (Or.inl ⟨by rfl, ?_⟩) hHeld ?_
  rotate_left
  · (intro W hSw; (try dsimp only at hSw); go_simp; all_goals (with_reducible rfl))
  simp only [List.getElem_toArray, List.getElem_cons_zero, List.getElem_cons_succ, Act.put, List.setIfInBounds_toArray, List.set_cons_zero, List.set_cons_succ]
  refine wpAnyH_take (i := 4) (v := ?_) rfl (by kernel_rfl) (by kernel_rfl) (by kernel_rfl) (fun _ _ _ h => h) (Or.inl ⟨by rfl, ?_⟩) hHeld ?_
  rotate_left
  · (intro W hSw; (try dsimp only at hSw); go_simp; all_goals (with_reducible rfl))
  simp only [List.getElem_toArray, List.getElem_cons_zero, List.getElem_cons_succ, Act.put, List.setIfInBounds_toArray, List.set_cons_zero, List.set_cons_succ]
  refine wpAnyH_take (i := 5) (v := ?_) rfl (by kernel_rfl) (by kernel_rfl) (by kernel_rfl) (fun _ _ _ h => h) (Or.inl ⟨by rfl, ?_⟩) hHeld ?_
  rotate_left
  · (intro W hSw; (try dsimp only at hSw); go_simp; all_goals (with_reducible rfl))
  simp only [List.getElem_toArray, List.getElem_cons_zero, List.getElem_cons_succ, Act.put, List.setIfInBounds_toArray, List.set_cons_zero, List.set_cons_succ]
  refine wpAnyH_take (i := 6) (v := ?_) rfl (by kernel_rfl) (by kernel_rfl) (by kernel_rfl) (fun _ _ _ h => h) (Or.inl ⟨by rfl, ?_⟩) hHeld ?_
  rotate_left
  · (intro W hSw; (try dsimp only at hSw); go_simp; all_goals (with_reducible rfl))
  simp only [List.getElem_toArray, List.getElem_cons_zero, List.getElem_cons_succ, Act.put, List.setIfInBounds_toArray, List.set_cons_zero, List.set_cons_succ]
  refine wpAnyH_take (i := 7) (v := ?_) rfl (by kernel_rfl) (by kernel_rfl) (by kernel_rfl) (fun _ _ _ h => h) (Or.inl ⟨by rfl, ?_⟩) hHeld ?_
  rotate_left
  · (intro W hSw; (try dsimp only at hSw); go_simp; all_goals (with_reducible rfl))
  simp only [List.getElem_toArray, List.getElem_cons_zero, List.getElem_cons_succ, Act.put, List.setIfInBounds_toArray, List.set_cons_zero, List.set_cons_succ]
  refine wpAnyH_take (i := 9) (v := ?_) rfl (by kernel_rfl) (by kernel_rfl) (by kernel_rfl) (fun _ _ _ h => h) (Or.inl ⟨by rfl, ?_⟩) hHeld ?_
  rotate_left
  · (intro W hSw; (try dsimp only at hSw); go_simp; all_goals (with_reducible rfl))
  simp only [List.getElem_toArray, List.getElem_cons_zero, List.getElem_cons_succ, Act.put, List.setIfInBounds_toArray, List.set_cons_zero, List.set_cons_succ]
  refine wpAnyH_take (i := 10) (v := ?_) rfl (by kernel_rfl) (by kernel_rfl) (by kernel_rfl) (fun _ _ _ h => h) (Or.inl ⟨by rfl, ?_⟩) hHeld ?_
  rotate_left
  · (intro W hSw; (try dsimp only at hSw); go_simp; all_goals (with_reducible rfl))
  simp only [List.getElem_toArray, List.getElem_cons_zero, List.getElem_cons_succ, Act.put, List.setIfInBounds_toArray, List.set_cons_zero, List.set_cons_succ]
  refine wpAnyH_ready (rs := [8]) (by kernel_rfl) (by simp) ?_
  refine AllReadyH.cons rfl (fun K hK => ?_) AllReadyH.nil
  simp only [List.getElem_toArray, List.getElem_cons_zero, List.getElem_cons_succ]
  go_simp
  refine (HC.out _ _ _).mono ?_
  rintro e w1 ⟨rfl, hw1⟩
  rw [hw1]
  clear hw1 w1
  try go_wp2_with fail
  refine hK.out _ _ hHeld (fun hHeld => ?_)
  clear hK K
  refine wpAnyH_ready (rs := [11]) (by kernel_rfl) (by simp) ?_
  refine AllReadyH.cons rfl (fun K hK => ?_) AllReadyH.nil
  simp only [List.getElem_toArray, List.getElem_cons_zero, List.getElem_cons_succ]
  go_simp
  refine (HC.out _ _ _).mono ?_
  rintro e w1 ⟨rfl, hw1⟩
  rw [hw1]
  clear hw1 w1
  try go_wp2_with fail
  refine hK.out _ _ hHeld (fun hHeld => ?_)
  clear hK K
  refine wpAnyH_ready (rs := [12]) (by kernel_rfl) (by simp) ?_
  refine AllReadyH.cons rfl (fun K hK => ?_) AllReadyH.nil
  simp only [List.getElem_toArray, List.getElem_cons_zero, List.getElem_cons_succ]
  go_simp
  refine ent1 xd _ _ (Q := fun V => K _ V) ?_
  intro x7 hb7 hs7 VG
  have B7 : Below w.heap.size w x7 := step B0 hb7
  have hH7 : x7.cell? ⟨bs, 0, none⟩ = some (.slice (some ⟨gs, 0, none⟩) n n) ∧ x7.cell? ⟨gs, x, none⟩ = some (.int .i64 sx) ∧ x7.cell? ⟨gs, y, none⟩ = some (.int .i64 sy) := ⟨(hb7.cell (p := ⟨bs, 0, none⟩) (cell_lt hHeld.1)).trans hHeld.1, (hb7.cell (p := ⟨gs, x, none⟩) (cell_lt hHeld.2.1)).trans hHeld.2.1, (hb7.cell (p := ⟨gs, y, none⟩) (cell_lt hHeld.2.2)).trans hHeld.2.2⟩
  clear hb7 hs7 hHeld
  refine hK.out _ _ hH7 (fun hHeld => ?_)
  clear hK K
  refine wpAnyH_ready (rs := [13]) (by kernel_rfl) (by simp) ?_
  refine AllReadyH.cons rfl (fun K hK => ?_) AllReadyH.nil
  simp only [List.getElem_toArray, List.getElem_cons_zero, List.getElem_cons_succ]
  go_simp
  refine (or_any VG).mono ?_
  rintro e w1 ⟨rfl, hw1⟩
  rw [hw1]
  clear hw1 w1
  try go_wp2_with fail
  refine hK.out _ _ hHeld (fun hHeld => ?_)
  clear hK K
  refine wpAnyH_take (i := 14) (v := ?_) rfl (by kernel_rfl) (by kernel_rfl) (by kernel_rfl) (fun _ _ _ h => h) (Or.inl ⟨by rfl, ?_⟩) hHeld ?_
  rotate_left
  · (intro W hSw; (try dsimp only at hSw); go_simp; all_goals (with_reducible rfl))
  simp only [List.getElem_toArray, List.getElem_cons_zero, List.getElem_cons_succ, Act.put, List.setIfInBounds_toArray, List.set_cons_zero, List.set_cons_succ]
  refine wpAnyH_done (by kernel_rfl) ?_ _
  refine NoPanic.normal ?_
  clear hHeld
  go_wp2_with fail
  go_ret
  exact ⟨rfl, B7⟩
/-- The nearest of a list. -/
def NrM (st : Nat → Nat) (l : List Nat) (m : Nat) : Prop := m ∈ l ∧ ∀ y ∈ l, ¬ Nr st y m
theorem getD_in {l : List Nat} {i : Nat} (h : i < l.length) : l.getD i 0 ∈ l := by
  rw [List.getD_eq_getElem?_getD, List.getElem?_eq_getElem h]; exact List.getElem_mem _
theorem take_one {l : List Nat} (h : 0 < l.length) : l.take 1 = [l.getD 0 0] := by
  cases l with
  | nil => simp at h
  | cons x l => rfl
set_option maxHeartbeats 8000000 in
theorem minFunc_any {n : Nat} {w : World} {bs gs : Nat} {st : Nat → Nat} (h : Sv n w bs gs st) {a : Option Addr} {c : Nat} {l : List Nat} (hL : Li w a l.length (ints l)) (h0 : 0 < l.length) (hl : l.length ≤ 1000000) (hn : ∀ x ∈ l, x < n) :
    Calls Try.prog 40 #[.slice a l.length c, .func (.func 41) #[] #[.pointer (some ⟨bs, 0, none⟩)]] w fun e w' => (∃ m : Nat, e = .returned (.int .i64 (m : Int)) ∧ NrM st l m) ∧ Below w.heap.size w w' := by
  have HS : Hid (Sv n w bs gs st) := h
  have HL : Hid (Li w a l.length (ints l)) := hL
  have HN : Hid (∀ x ∈ l, x < n) := hn
  obtain ⟨b, off, rfl, c0⟩ := Li.node hL h0
  rw [Nat.add_zero] at c0
  have h1i : ¬ (l.length : Int) < 1 := by omega
  have h0i : (0 : Int) < (l.length : Int) := by omega
  have hT1 : Hid (NrM st (l.take 1) (l.getD 0 0)) := by
    show NrM _ _ _
    rw [take_one h0]
    exact ⟨by simp only [List.mem_singleton], fun y hy => by simp only [List.mem_singleton] at hy; subst hy; unfold Nr; omega⟩
  have hm0 : Hid (l.getD 0 0 ∈ l) := getD_in h0
  generalize l.getD 0 0 = m0 at *
  clear h hL hn
  go_enter Try.func40, Try.ntmps40
  go_wp2_with fail
  go_loopw [5, 6] (fun v i wz => ∃ (m k : Nat), v = .int .i64 m ∧ i = .int .i64 k ∧ 1 ≤ k ∧ k ≤ l.length ∧ Hid (NrM st (l.take k) m) ∧ Hid (m ∈ l) ∧ Hid (Below w.heap.size w wz)) (fun _ i _ => (l.length - (intOf i).toNat : Nat))
  case atStart => exact ⟨m0, 1, rfl, rfl, Nat.le_refl _, h0, hT1.out, hm0.out, Below.refl _ _⟩
  case round =>
    clear hT1 hm0 c0
    obtain ⟨m, k, rfl, rfl, hk1, hk2, HM, HIn, HB⟩ := hrel
    rcases Nat.lt_or_ge k l.length with hlt | hge
    · have hki : (k : Int) < (l.length : Int) := by omega
      obtain ⟨b', off', e', ck⟩ := Li.node (HL.out.after HB.out) hlt
      cases e'
      have hyl := getD_in hlt
      have HTk : Hid (l.take (k + 1) = l.take k ++ [l.getD k 0]) := take_snoc 0 hlt
      generalize l.getD k 0 = y at *
      have HYl : Hid (y ∈ l) := hyl
      have hyn := HN.out y hyl
      have hmn := HN.out m HIn.out
      have hC := cmpS_any (HS.out.after HB.out) hyn hmn
      have hsg := cmp_sign st y m
      clear hyl
      generalize orZ (Lib.compareInt (st y : Int) (st m)) (Lib.compareInt (y : Int) m) = cv at *
      by_cases hlt2 : cv < 0
      · have HNr : Hid (Nr st y m) := hsg.1 hlt2
        have HM2 : Hid (NrM st (l.take (k + 1)) y) := by
          show NrM _ _ _
          rw [HTk.out]
          refine ⟨by simp, fun z hz => ?_⟩
          rcases List.mem_append.1 hz with hz | hz
          · intro h9; exact HM.out.2 z hz (h9.trans HNr.out)
          · simp at hz; subst hz; unfold Nr; omega
        clear hsg
        go_wp2_with (go_at_call 41; refine hC.mono ?_; rintro e w1 ⟨rfl, hb1⟩; have HB1 : Hid (Below w.heap.size w w1) := step HB.out hb1; have ck1 := (hb1.cell (p := ⟨b, off + k, none⟩) (cell_lt ck)).trans ck; clear hb1 hC)
        go_roundw
        case rel => exact ⟨y, k + 1, rfl, by push_cast; rfl, by omega, by omega, HM2.out, HYl.out, HB1.out⟩
        case measure => simp [intOf]; omega
      · have HNr : Hid (¬ Nr st y m) := fun h => hlt2 (hsg.2 h)
        have HM2 : Hid (NrM st (l.take (k + 1)) m) := by
          show NrM _ _ _
          rw [HTk.out]
          refine ⟨List.mem_append_left _ HM.out.1, fun z hz => ?_⟩
          rcases List.mem_append.1 hz with hz | hz
          · exact HM.out.2 z hz
          · simp at hz; subst hz; exact HNr.out
        clear hsg
        go_wp2_with (go_at_call 41; refine hC.mono ?_; rintro e w1 ⟨rfl, hb1⟩; have HB1 : Hid (Below w.heap.size w w1) := step HB.out hb1; clear hb1 hC)
        go_roundw
        case rel => exact ⟨m, k + 1, rfl, by push_cast; rfl, by omega, by omega, HM2.out, HIn.out, HB1.out⟩
        case measure => simp [intOf]; omega
    · obtain rfl : k = l.length := by omega
      have hle : ¬ ((l.length : Nat) : Int) < l.length := by omega
      clear hge hk2 hk1
      go_wp2_with fail
      go_ret
      refine ⟨⟨m, rfl, ?_⟩, HB.out⟩
      have := HM.out
      rwa [List.take_length] at this
set_option maxHeartbeats 4000000 in
theorem nearest_any {n : Nat} {w : World} {bs gs bn b0 : Nat} {st : Nat → Nat} {N : Nat → List Nat} (h : Sv n w bs gs st) (hV : Va w bn 45 #[.slice (some ⟨b0, 0, none⟩) n n]) (hR : Rw n w b0 N) {x : Nat} (hx : x < n) (h0 : 0 < (N x).length) (hl : (N x).length ≤ 65536) (hn : ∀ y ∈ N x, y < n) :
    Calls Try.prog 39 #[.int .i64 (x : Int), .pointer (some ⟨bn, 0, none⟩), .pointer (some ⟨bs, 0, none⟩)] w fun e w' => (∃ m : Nat, e = .returned (.int .i64 (m : Int)) ∧ NrM st (N x) m) ∧ Below w.heap.size w w' := by
  obtain ⟨a, c, ck, hLi⟩ := hR.cell hx
  have c0 := hV.cell
  have hxi : (x : Int) < n := by omega
  have hM := minFunc_any (c := c) h hLi h0 (by omega) hn
  clear h hV hR hLi
  go_enter Try.func39, Try.ntmps39
  go_wp2_with (go_at_call 40; refine hM.mono ?_; rintro e w1 ⟨⟨m, rfl, hm⟩, hb1⟩; have HM : Hid (NrM st (N x) m) := hm; have HB : Hid (Below w.heap.size w w1) := hb1; clear hm hb1 hM)
  go_ret
  exact ⟨⟨m, rfl, HM.out⟩, HB.out⟩
end Go.Proofs.Ytonhooaboieapaa
