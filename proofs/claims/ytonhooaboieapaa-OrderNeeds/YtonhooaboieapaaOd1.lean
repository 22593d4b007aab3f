/-
  order: arcs in memory; isNode, check, needsOf, turned.
-/
import Derived.Test.YtonhooaboieapaaOdB
namespace Go.Proofs.Ytonhooaboieapaa
open Go.RowKit Go.Shelf
set_option linter.unusedVariables false
set_option linter.unusedSimpArgs false

abbrev Pr := Int × Int
theorem infoA : (Try.prog.info? 38).map (fun i => (i.zero, i.size, i.bytes)) = some (some (.agg #[.int .i64 0, .int .i64 0]), 2, 16) := by kernel_rfl
/-- Arcs. -/
def elA : El Pr where
  enc := fun p => [.int .i64 p.1, .int .i64 p.2]
  dft := (0, 0)
  te := 38
  tl := 22
  z := .agg #[.int .i64 0, .int .i64 0]
  s := 2
  by8 := 16
  len := fun _ => rfl
  one := fun x v hv => by
    simp at hv
    rcases hv with rfl | rfl <;> rfl
  pos := by decide
  und := Try.underlying22
  inf := infoA
  zs := rfl
  bt := by decide
/-- Arcs that can be read. -/
def La (w : World) (a : Option Addr) (len : Nat) (xs : List Pr) : Prop := Le elA w a len xs
theorem La.after {w w' : World} {a : Option Addr} {len : Nat} {xs : List Pr} (hb : Below w.heap.size w w') (h : La w a len xs) : La w' a len xs := Le.after hb h
theorem La.arc {w : World} {a : Option Addr} {len : Nat} {xs : List Pr} (h : La w a len xs) {i : Nat} (hi : i < len) : ∃ b off, a = some ⟨b, off, none⟩ ∧ w.cell? ⟨b, off + i * 2, none⟩ = some (.int .i64 (xs.getD i (0, 0)).1) ∧ w.cell? ⟨b, off + i * 2 + 1, none⟩ = some (.int .i64 (xs.getD i (0, 0)).2) := by
  obtain ⟨b, off, e⟩ := Le.ex h (by omega)
  subst e
  exact ⟨b, off, rfl, Le.at h i hi 0 _ rfl, Le.at h i hi 1 _ rfl⟩
/-- Is a number a node? -/
def ndB (n x : Int) : Bool := decide (0 ≤ x ∧ x < n)
theorem isNode_any (n x : Int) (w : World) : Calls Try.prog 23 #[.int .i64 n, .int .i64 x] w fun e w' => e = .returned (.bool (ndB n x)) ∧ w' = w := by
  unfold ndB
  by_cases h0 : 0 ≤ x
  · by_cases h1 : x < n
    · rw [decide_eq_true ⟨h0, h1⟩]
      go_enter Try.func23, Try.ntmps23
      go_wp2_with fail
      go_ret
      exact ⟨rfl, rfl⟩
    · rw [decide_eq_false (fun h => h1 h.2)]
      go_enter Try.func23, Try.ntmps23
      go_wp2_with fail
      go_ret
      exact ⟨rfl, rfl⟩
  · rw [decide_eq_false (fun h => h0 h.1)]
    go_enter Try.func23, Try.ntmps23
    go_wp2_with fail
    go_ret
    exact ⟨rfl, rfl⟩
/-- Are an arc's ends nodes? -/
def okA (n : Int) (p : Pr) : Bool := ndB n p.1 && ndB n p.2
/-- What is refused. -/
def ckE (n : Int) (xs : List Pr) : Int := if n < 0 ∨ 4096 < n then 2 else if 65536 < xs.length then 3 else if xs.all (okA n) then 0 else 170
theorem ckE_ok {n : Int} {xs : List Pr} (h : ckE n xs = 0) : 0 ≤ n ∧ n ≤ 4096 ∧ xs.length ≤ 65536 ∧ xs.all (okA n) = true := by
  unfold ckE at h
  split at h
  · omega
  · split at h
    · omega
    · split at h
      · rename_i h3; exact ⟨by omega, by omega, by omega, h3⟩
      · omega
theorem okA_at {n : Int} {xs : List Pr} (h : xs.all (okA n) = true) {i : Nat} (hi : i < xs.length) : okA n (xs.getD i (0, 0)) = true := by
  have := List.all_eq_true.1 h (xs.getD i (0, 0)) (by rw [List.getD_eq_getElem?_getD, List.getElem?_eq_getElem hi]; exact List.getElem_mem _)
  exact this
theorem take_snoc {α : Type} {l : List α} {i : Nat} (d : α) (hi : i < l.length) : l.take (i + 1) = l.take i ++ [l.getD i d] := by
  rw [List.take_succ_eq_append_getElem hi, List.getD_eq_getElem?_getD, List.getElem?_eq_getElem hi]; rfl
set_option maxHeartbeats 4000000 in
theorem ocheck_any (n : Int) (a : Option Addr) (len cap : Nat) (xs : List Pr) (w : World) (h : La w a len xs) :
    Calls Try.prog 22 #[.int .i64 n, .slice a len cap] w fun e w' => e = .returned (.int .i64 (ckE n xs)) ∧ Below w.heap.size w w' := by
  have hl := h.1
  have HL : Hid (La w a len xs) := h
  have HN : Hid (∀ x W, Calls Try.prog 23 #[.int .i64 n, .int .i64 x] W fun e w' => e = .returned (.bool (ndB n x)) ∧ w' = W) := fun x W => isNode_any n x W
  clear h
  by_cases h0 : n < 0
  · have HE : Hid (ckE n xs = 2) := if_pos (.inl h0)
    go_enter Try.func22, Try.ntmps22
    go_wp2_with fail
    go_ret
    exact ⟨by rw [HE.out]; rfl, Below.refl _ _⟩
  by_cases h1 : 4096 < n
  · have HE : Hid (ckE n xs = 2) := if_pos (.inr h1)
    go_enter Try.func22, Try.ntmps22
    go_wp2_with fail
    go_ret
    exact ⟨by rw [HE.out]; rfl, Below.refl _ _⟩
  by_cases h2 : 65536 < len
  · have h2i : (65536 : Int) < len := by omega
    have HE : Hid (ckE n xs = 3) := by
      show ckE n xs = 3
      unfold ckE
      rw [if_neg (by omega), if_pos (by omega)]
    go_enter Try.func22, Try.ntmps22
    go_wp2_with fail
    go_ret
    exact ⟨by rw [HE.out]; rfl, Below.refl _ _⟩
  have h2i : ¬ (65536 : Int) < len := by omega
  have h0d : decide (n < 0) = false := decide_eq_false h0
  have HE : Hid (ckE n xs = if xs.all (okA n) then 0 else 170) := by
    show ckE n xs = _
    unfold ckE
    rw [if_neg (by omega), if_neg (by omega)]
  have HLn : Hid (xs.length = len) := hl
  have hl6 : len ≤ 65536 := by omega
  clear hl
  go_enter Try.func22, Try.ntmps22
  go_wp2_with fail
  go_loopw [20] (fun j wr => ∃ k : Nat, j = .int .i64 k ∧ k ≤ len ∧ Hid ((xs.take k).all (okA n) = true) ∧ Hid (Below w.heap.size w wr)) (fun j _ => (len - (intOf j).toNat : Nat))
  case atStart => exact ⟨0, rfl, Nat.zero_le _, rfl, Below.refl _ _⟩
  case round =>
    obtain ⟨k, rfl, hk, HA, HB⟩ := hrel
    rcases Nat.lt_or_ge k len with hlt | hge
    · have hki : (k : Int) < len := by omega
      obtain ⟨b, off, rfl, c0, c1⟩ := (HL.out.after HB.out).arc hlt
      have HT : Hid (xs.take (k + 1) = xs.take k ++ [xs.getD k (0, 0)]) := take_snoc _ (by rw [HLn.out]; exact hlt)
      have HM : Hid (xs.getD k (0, 0) ∈ xs) := by
        show _ ∈ xs
        rw [List.getD_eq_getElem?_getD, List.getElem?_eq_getElem (by rw [HLn.out]; exact hlt)]; exact List.getElem_mem _
      have HO : Hid (okA n (xs.getD k (0, 0)) = (ndB n (xs.getD k (0, 0)).1 && ndB n (xs.getD k (0, 0)).2)) := rfl
      generalize xs.getD k (0, 0) = p at *
      obtain ⟨x, y⟩ := p
      simp only at c0 c1
      go_wp2_with fail
      refine ent1 wr _ _ (Q := fun W => Calls _ _ _ W _) ?_
      intro W2 hB2 hs2 V2
      have d0 := V2.c0
      have d1 := V2.c1
      have HB2 : Hid (Below w.heap.size w W2) := step HB.out hB2
      clear c0 c1 hB2 hs2 HB
      refine (HN.out x W2).mono ?_
      rintro e w3 ⟨rfl, hw3⟩
      rw [hw3]
      clear hw3 w3
      by_cases e1 : ndB n x = true
      · by_cases e2 : ndB n y = true
        · go_wp2_with (go_at_call 23; refine (HN.out _ _).mono ?_; rintro e w3 ⟨rfl, hw3⟩; rw [hw3]; clear hw3 w3)
          go_roundw
          case rel => exact ⟨k + 1, rfl, by omega, by
            show (xs.take (k + 1)).all _ = true
            rw [HT.out, List.all_append, HA.out, List.all_cons, List.all_nil, HO.out]; simp [e1, e2], HB2.out⟩
          case measure => simp [intOf]; omega
        · have e2' : ndB n y = false := by simpa using e2
          clear e2
          go_wp2_with (go_at_call 23; refine (HN.out _ _).mono ?_; rintro e w3 ⟨rfl, hw3⟩; rw [hw3]; clear hw3 w3)
          go_ret
          refine ⟨?_, HB2.out⟩
          rw [HE.out, if_neg]
          · rfl
          · intro hall
            have := List.all_eq_true.1 hall _ HM.out
            rw [HO.out] at this; simp [e2'] at this
      · have e1' : ndB n x = false := by simpa using e1
        clear e1
        go_wp2_with (go_at_call 23; refine (HN.out _ _).mono ?_; rintro e w3 ⟨rfl, hw3⟩; rw [hw3]; clear hw3 w3)
        go_ret
        refine ⟨?_, HB2.out⟩
        rw [HE.out, if_neg]
        · rfl
        · intro hall
          have := List.all_eq_true.1 hall _ HM.out
          rw [HO.out] at this; simp [e1'] at this
    · obtain rfl : k = len := by omega
      clear hge hk
      go_wp2_with fail
      go_ret
      refine ⟨?_, HB.out⟩
      rw [HE.out, if_pos]
      · rfl
      · have := HA.out
        rwa [List.take_of_length_le (by rw [HLn.out]; exact Nat.le_refl _)] at this
end Go.Proofs.Ytonhooaboieapaa
