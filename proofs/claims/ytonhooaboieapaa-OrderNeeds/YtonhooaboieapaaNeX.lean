/-
  order: Needs.
-/
import Derived.Test.YtonhooaboieapaaNeW
namespace Go.Proofs.Ytonhooaboieapaa
open Go.RowKit Go.Shelf
set_option linter.unusedVariables false
set_option linter.unusedSimpArgs false

theorem ndB_iff {n x : Int} : ndB n x = true ↔ 0 ≤ x ∧ x < n := by unfold ndB; rw [decide_eq_true_iff]
theorem all_at {n : Int} {l : List Int} (h : l.all (ndB n) = true) {i : Nat} (hi : i < l.length) : ndB n (l.getD i (-1)) = true := by
  refine List.all_eq_true.1 h _ ?_
  rw [List.getD_eq_getElem?_getD, List.getElem?_eq_getElem hi]
  exact List.getElem_mem _
/-- Nodes, as natural numbers. -/
theorem nodes_nat {n : Int} {l : List Int} (h : l.all (ndB n) = true) : l = ints (l.map Int.toNat) ∧ ∀ x ∈ l.map Int.toNat, (x : Int) < n := by
  constructor
  · simp only [ints, List.map_map]
    have h6 : l.map ((fun n : Nat => (n : Int)) ∘ Int.toNat) = l.map id := List.map_congr_left (fun z hz => by
      have := ndB_iff.1 (List.all_eq_true.1 h z hz)
      simp; omega)
    simpa using h6.symm
  · intro x hx
    obtain ⟨z, hz, rfl⟩ := List.mem_map.1 hx
    have := ndB_iff.1 (List.all_eq_true.1 h z hz)
    omega
/-- What Needs answers. -/
inductive NeR (w : World) (n : Int) (xs : List Pr) (fr : List Int) : Option Addr → Nat → Nat → Int → Prop
  | bad (h : ckE n xs ≠ 0) : NeR w n xs fr none 0 0 (ckE n xs)
  | arg (h : ckE n xs = 0) (hf : fr.all (ndB n) = false) : NeR w n xs fr none 0 0 2
  | ok (h : ckE n xs = 0) (hf : fr.all (ndB n) = true) (l : List Nat) (hp : l.Pairwise (· < ·)) (hm : ∀ y, y ∈ l ↔ Nd (Rn (nlf xs)) (fr.map Int.toNat) y) (a : Option Addr) (c : Nat) (hL : Li w a l.length (ints l)) : NeR w n xs fr a l.length c 0
theorem NeR.after {w w' : World} {n : Int} {xs : List Pr} {fr : List Int} {a : Option Addr} {l c : Nat} {e : Int} (hb : Below w.heap.size w w') (h : NeR w n xs fr a l c e) : NeR w' n xs fr a l c e := by
  cases h with
  | bad h => exact .bad h
  | arg h hf => exact .arg h hf
  | ok h hf l hp hm a c hL => exact .ok h hf l hp hm a c (hL.after hb)
set_option maxHeartbeats 4000000 in
theorem needs_bad (n : Int) (a : Option Addr) (len cap : Nat) (xs : List Pr) (v : Value) (w : World) (h : La w a len xs) (hc : ckE n xs ≠ 0) :
    Calls Try.prog 8 #[.int .i64 n, .slice a len cap, v] w fun e w' => e = .returned (.tuple #[.slice none 0 0, .int .i64 (ckE n xs)]) ∧ Below w.heap.size w w' := by
  have hC := ocheck_any n a len cap xs w h
  clear h
  generalize ckE n xs = k at *
  go_enter Try.func8, Try.ntmps8
  go_wp2_with (go_at_call 22; refine hC.mono ?_; rintro e w1 ⟨rfl, hb1⟩; have HB1 : Hid (Below w.heap.size w w1) := hb1; clear hb1 hC)
  go_ret2
  exact ⟨rfl, HB1.out⟩
set_option maxHeartbeats 1600000 in
theorem needs_ok (n : Nat) (a : Option Addr) (len cap : Nat) (xs : List Pr) (af : Option Addr) (lf cf : Nat) (fr : List Int) (w : World) (h : La w a len xs) (hF : Li w af lf fr) (hl8 : lf ≤ 17592186043904) (hc : ckE n xs = 0) :
    Calls Try.prog 8 #[.int .i64 (n : Int), .slice a len cap, .slice af lf cf] w fun e w' => ∃ (a' : Option Addr) (l' c' : Nat) (k : Int), e = .returned (.tuple #[.slice a' l' c', .int .i64 k]) ∧ NeR w' n xs fr a' l' c' k ∧ Below w.heap.size w w' ∧ Nwb w.heap.size a' := by
  have hC := ocheck_any n a len cap xs w h
  rw [hc] at hC
  obtain ⟨h0, h1, h2, h3⟩ := ckE_ok hc
  have HL : Hid (La w a len xs) := h
  have HF : Hid (Li w af lf fr) := hF
  have hlen := h.1
  have HFl : Hid (fr.length = lf) := hF.1
  have HOk : Hid (ckE n xs = 0 ∧ xs.all (okA n) = true) := ⟨hc, h3⟩
  have hn : n ≤ 4096 := by omega
  have hl6 : len ≤ 65536 := by omega
  have HLen : Hid (xs.length = len) := hlen
  clear h hc h3 h2 hlen h0 h1 hF
  go_enter Try.func8, Try.ntmps8
  go_wp2_with (go_at_call 22; refine hC.mono ?_; rintro e w1 ⟨rfl, hb1⟩; have HB1 : Hid (Below w.heap.size w w1) := hb1; clear hb1 hC)
  go_loopw [19] (fun j wr => ∃ k : Nat, j = .int .i64 k ∧ k ≤ lf ∧ Hid ((fr.take k).all (ndB n) = true) ∧ Hid (Below w.heap.size w wr)) (fun j _ => (lf - (intOf j).toNat : Nat))
  case atStart => exact ⟨0, rfl, Nat.zero_le _, rfl, HB1.out⟩
  case round =>
    clear HB1
    obtain ⟨k, rfl, hk, HA, HB⟩ := hrel
    rcases Nat.lt_or_ge k lf with hlt | hge
    · have hki : (k : Int) < lf := by omega
      obtain ⟨b, off, rfl, c0⟩ := (HF.out.after HB.out).at hlt
      have HT : Hid (fr.take (k + 1) = fr.take k ++ [fr.getD k (-1)]) := take_snoc _ (by rw [HFl.out]; exact hlt)
      have HM : Hid (fr.getD k (-1) ∈ fr) := by
        show _ ∈ fr
        rw [List.getD_eq_getElem?_getD, List.getElem?_eq_getElem (by rw [HFl.out]; exact hlt)]; exact List.getElem_mem _
      generalize fr.getD k (-1) = x at *
      have HN : Hid (∀ W, Calls Try.prog 23 #[.int .i64 (n : Int), .int .i64 x] W fun e w' => e = .returned (.bool (ndB n x)) ∧ w' = W) := fun W => isNode_any n x W
      by_cases e1 : ndB n x = true
      · go_wp2_with (go_at_call 23; refine (HN.out _).mono ?_; rintro e w3 ⟨rfl, hw3⟩; rw [hw3]; clear hw3 w3)
        go_roundw
        case rel => exact ⟨k + 1, rfl, by omega, by
          show (fr.take (k + 1)).all _ = true
          rw [HT.out, List.all_append, HA.out, List.all_cons, List.all_nil]; simp [e1], HB.out⟩
        case measure => simp [intOf]; omega
      · have e1' : ndB n x = false := by simpa using e1
        clear e1
        go_wp2_with (go_at_call 23; refine (HN.out _).mono ?_; rintro e w3 ⟨rfl, hw3⟩; rw [hw3]; clear hw3 w3)
        go_ret2
        refine ⟨_, _, _, _, rfl, .arg HOk.out.1 ?_, HB.out, fun p hp => by cases hp⟩
        rw [← Bool.not_eq_true]
        intro hall
        have := List.all_eq_true.1 hall _ HM.out
        rw [e1'] at this; cases this
    · obtain rfl : k = lf := by omega
      have HAl : Hid (fr.all (ndB n) = true) := by
        have := HA.out
        rwa [List.take_of_length_le (by rw [HFl.out]; exact Nat.le_refl _)] at this
      clear hge hk HA
      go_wp2_with (first
        | (go_at_call 25; refine (needsOf_any n hn a len cap xs wr (HL.out.after HB.out) hl6 HOk.out.2).mono ?_; rintro e w2 ⟨f, rfl, hD⟩; have HD : Hid (Dg n wr w2 f (nlf xs)) := hD; clear hD; have HB2 : Hid (Below w.heap.size w w2) := HB.out.trans (HD.out.below.mono HB.out.size))
        | (go_at_call 24; refine (needed_walk n hn wr.heap.size (nlf xs) af _ cf (fr.map Int.toNat) w2 HD.out.rows (by rw [← (nodes_nat HAl.out).1]; exact HF.out.after HB2.out) (by rw [List.length_map]; exact HFl.out) hl8 (fun x hx => by have := (nodes_nat HAl.out).2 x hx; omega) (nlf_ok HOk.out.2) (fun p => Nat.le_trans (nlf_len xs p) (by have := HLen.out; omega))).mono ?_; rintro e w3 ⟨l, ⟨a', c', rfl, hLi, hnw⟩, hpw, hmm, hb3⟩; have HNW : Hid (Nwb w.heap.size a') := fun p hp => Nat.le_trans HB2.out.size (hnw p hp); have HLi : Hid (Li w3 a' l.length (ints l)) := hLi; have HPM : Hid (l.Pairwise (· < ·) ∧ ∀ y, y ∈ l ↔ Nd (Rn (nlf xs)) (fr.map Int.toNat) y) := ⟨hpw, hmm⟩; have HB3 : Hid (Below w.heap.size w w3) := step HB2.out hb3; clear hLi hpw hmm hb3 hnw))
      go_ret2
      exact ⟨_, _, _, _, rfl, .ok HOk.out.1 HAl.out l HPM.out.1 HPM.out.2 _ _ HLi.out, HB3.out, HNW.out⟩
theorem oneeds_new (n : Int) (a : Option Addr) (len cap : Nat) (xs : List Pr) (af : Option Addr) (lf cf : Nat) (fr : List Int) (w : World) (h : La w a len xs) (hF : Li w af lf fr) (hl8 : lf ≤ 17592186043904) :
    Calls Try.prog 8 #[.int .i64 n, .slice a len cap, .slice af lf cf] w fun e w' => ∃ (a' : Option Addr) (l' c' : Nat) (k : Int), e = .returned (.tuple #[.slice a' l' c', .int .i64 k]) ∧ NeR w' n xs fr a' l' c' k ∧ Below w.heap.size w w' ∧ Nwb w.heap.size a' := by
  by_cases hc : ckE n xs = 0
  · obtain ⟨h0, -⟩ := ckE_ok hc
    obtain ⟨m, rfl⟩ : ∃ m : Nat, n = m := ⟨n.toNat, by omega⟩
    exact needs_ok m a len cap xs af lf cf fr w h hF hl8 hc
  · refine (needs_bad n a len cap xs _ w h hc).mono ?_
    rintro e w' ⟨rfl, hb⟩
    exact ⟨_, _, _, _, rfl, .bad hc, hb, fun p hp => by cases hp⟩
theorem oneeds_any (n : Int) (a : Option Addr) (len cap : Nat) (xs : List Pr) (af : Option Addr) (lf cf : Nat) (fr : List Int) (w : World) (h : La w a len xs) (hF : Li w af lf fr) (hl8 : lf ≤ 17592186043904) :
    Calls Try.prog 8 #[.int .i64 n, .slice a len cap, .slice af lf cf] w fun e w' => ∃ (a' : Option Addr) (l' c' : Nat) (k : Int), e = .returned (.tuple #[.slice a' l' c', .int .i64 k]) ∧ NeR w' n xs fr a' l' c' k ∧ Below w.heap.size w w' := by
  refine (oneeds_new n a len cap xs af lf cf fr w h hF hl8).mono ?_
  rintro e w' ⟨a', l', c', k, rfl, h1, h2, -⟩
  exact ⟨a', l', c', k, rfl, h1, h2⟩
end Go.Proofs.Ytonhooaboieapaa
