/-
  order: awake.
-/
import Derived.Test.YtonhooaboieapaaOdA
namespace Go.Proofs.Ytonhooaboieapaa
open Go.RowKit Go.Shelf
set_option linter.unusedVariables false
set_option linter.unusedSimpArgs false

def exS : List Pr := [(0, 2), (2, 3), (1, 3)]
def exR : List Pr := [(1, 3), (3, 1)]
theorem so_dec {N : Nat → List Nat} {n : Nat} {out : List Nat} (h : ∀ i, i < out.length → (out.getD i 0 < n ∧ out.getD i 0 ∉ out.take i ∧ ∀ y ∈ N (out.getD i 0), y ∈ out.take i) ∧ ∀ z, z < n → (z ∉ out.take i ∧ ∀ y ∈ N z, y ∈ out.take i) → out.getD i 0 ≤ z) : So (Rn N) n out := by
  intro i x hx
  obtain ⟨hi, e⟩ := List.getElem?_eq_some_iff.1 hx
  have e2 : out.getD i 0 = x := by rw [List.getD_eq_getElem?_getD, hx]; rfl
  obtain ⟨⟨h1, h2, h3⟩, h4⟩ := h i hi
  rw [e2] at h1 h2 h3 h4
  exact ⟨⟨h1, h2, h3⟩, fun z hz => h4 z hz.1 ⟨hz.2.1, hz.2.2⟩⟩
theorem exS_so : So (Rn (nlf exS)) 4 [3, 1, 2, 0] := so_dec (by decide)
theorem exS_ok : ckE 4 exS = 0 := by decide
theorem exR_ok : ckE 4 exR = 0 := by decide
theorem sort_ex {w : World} {B : Nat} {v : Value} {k : Int} (h : SoR w B 4 exS v k) : k = 0 ∧ ∃ a c, v = .slice a 4 c ∧ Ge elI w B (.slice a 4 c) (ints [3, 1, 2, 0]) := by
  cases h with
  | bad h => exact absurd exS_ok h
  | ring h y hr =>
    exfalso
    have hy : y < 4 := by obtain ⟨j, z, h1, h2⟩ := hr; exact (nlf_ok (n := 4) (xs := exS) (by decide) y z h1).1
    refine exS_so.noring (x := y) ?_ hr
    have : y = 0 ∨ y = 1 ∨ y = 2 ∨ y = 3 := by omega
    rcases this with rfl | rfl | rfl | rfl <;> decide
  | ok h out ho hl hr a c hg =>
    have e : out = [3, 1, 2, 0] := So.unique (by rw [hl]; rfl) ho exS_so
    subst e
    exact ⟨rfl, a, c, rfl, hg⟩
theorem exR_ds : Ds (Rn (nlf exR)) 2 1 1 := ⟨by omega, ⟨3, by decide, 1, by decide, rfl⟩, fun i hi hw => by
  match i, hi, hw with
  | 1, _, ⟨z, h1, h2⟩ =>
    exfalso
    cases h2
    revert h1
    decide
  | i + 2, _, _ => omega⟩
theorem ring_ex {w : World} {B : Nat} {v : Value} {k : Int} (h : RiR w B 4 exR v k) : k = 0 ∧ ∃ a c, v = .slice a 2 c ∧ Ge elI w B (.slice a 2 c) (ints [1, 3]) := by
  cases h with
  | bad h => exact absurd exR_ok h
  | none h hr => exact absurd ⟨1, exR_ds.2.1⟩ (hr 1)
  | ring h m L out hm hl hr hf a c hg =>
    have h1 := hl 1 ⟨1, exR_ds.2.1⟩
    have h2 : m ≠ 0 := by
      rintro rfl
      obtain ⟨j, z, h3, h4⟩ := hm
      revert h3
      show z ∈ nlf exR 0 → False
      simp [nlf, exR]
    obtain rfl : m = 1 := by omega
    have hL : L = 2 := hr.far.unique exR_ds
    subst hL
    obtain ⟨x, y, rfl⟩ : ∃ x y, out = [x, y] := by
      match out, hf with
      | [x, y], _ => exact ⟨x, y, rfl⟩
    have e1 : x = 1 := Option.some.inj hr.first
    subst e1
    have h4 := (hr.next 0 1 y rfl rfl).1
    have e2 : y = 3 := by
      have h5 : y ∈ nlf exR 1 := h4
      simp [nlf, exR] at h5
      exact h5
    subst e2
    exact ⟨rfl, a, c, rfl, hg⟩
theorem la_va {w : World} {b : Nat} {cs : Array Value} {xs : List Pr} (h : Va w b 38 cs) (hc : cs.toList = rowE elA xs) (hl : xs.length ≤ 1000) : La w (some ⟨b, 0, none⟩) xs.length xs :=
  (Ge.of (E := elA) (B := 0) h (Nat.zero_le _) rfl hc (by unfold maxLen; omega)).toLe
theorem li_va {w : World} {b : Nat} {cs : Array Value} {l : List Int} (h : Va w b 3 cs) (hc : cs.toList = rowE elI l) (hl : l.length ≤ 1000) : Li w (some ⟨b, 0, none⟩) l.length l :=
  (Ge.of (E := elI) (B := 0) h (Nat.zero_le _) rfl hc (by unfold maxLen; omega)).toLe.li
set_option maxRecDepth 20000 in
set_option maxHeartbeats 4000000 in
theorem awake17 (w : World) : Calls Try.prog 5 #[] w fun e w' => e = .returned (.bool true) ∧ Below w.heap.size w w' := by
  go_enter Try.func5, Try.ntmps5
  go_wp2_with fail
  refine ent1 w _ _ (Q := fun W => Calls _ _ _ W _) ?_
  intro W0 hB0 hs0 V0
  have HL0 : La W0 (some ⟨w.heap.size, 0, none⟩) 3 exS := la_va (xs := exS) V0 rfl (by decide)
  have HB0 : Hid (Below w.heap.size w W0) := hB0
  clear V0 hB0 hs0
  refine (sort_all 4 _ 3 3 exS W0 HL0).mono ?_
  rintro e w1 ⟨⟨v, k, rfl, hs⟩, hb1⟩
  obtain ⟨rfl, a1, c1, rfl, hg⟩ := sort_ex hs
  have HG1 : Hid (Ge elI w1 W0.heap.size (.slice a1 4 c1) (ints [3, 1, 2, 0])) := hg
  have HB1 : Hid (Below w.heap.size w w1) := step HB0.out hb1
  clear hs hg hb1 HL0 HB0
  go_wp2_with fail
  refine ent1 w1 _ _ (Q := fun W => Calls _ _ _ W _) ?_
  intro W2 hB2 hs2 V2
  have HL2 : La W2 (some ⟨w1.heap.size, 0, none⟩) 2 exR := la_va (xs := exR) V2 rfl (by decide)
  have HG2 : Hid (Ge elI W2 W0.heap.size (.slice a1 4 c1) (ints [3, 1, 2, 0])) := HG1.out.after hB2
  have HB2 : Hid (Below w.heap.size w W2) := step HB1.out hB2
  clear V2 hB2 hs2 HG1 HB1
  refine (oring_all 4 _ 2 2 exR W2 HL2).mono ?_
  rintro e w3 ⟨⟨v, k, rfl, hs⟩, hb3⟩
  obtain ⟨rfl, a3, c3, rfl, hg⟩ := ring_ex hs
  have HG3 : Hid (Ge elI w3 W2.heap.size (.slice a3 2 c3) (ints [1, 3])) := hg
  have HS3 : Hid (Ge elI w3 W0.heap.size (.slice a1 4 c1) (ints [3, 1, 2, 0])) := HG2.out.after hb3
  have HB3 : Hid (Below w.heap.size w w3) := step HB2.out hb3
  clear hs hg hb3 HL2 HB2 HG2
  go_wp2_with fail
  refine ent1 w3 _ _ (Q := fun W => Calls _ _ _ W _) ?_
  intro W4 hB4 hs4 V4
  have HG4 : Hid (Ge elI W4 W2.heap.size (.slice a3 2 c3) (ints [1, 3])) := HG3.out.after hB4
  have HB4 : Hid (Below w.heap.size w W4) := step HB3.out hB4
  have hS := osame (ints [3, 1, 2, 0]) a1 c1 _ 4 W4 ((HS3.out.after hB4).toLe.li) (li_va (l := ints [3, 1, 2, 0]) V4 rfl (by decide)) (by decide)
  clear V4 hB4 hs4 HG3 HB3 HS3
  refine hS.mono ?_
  rintro e w5 ⟨rfl, hb5⟩
  have HG5 : Hid (Ge elI w5 W2.heap.size (.slice a3 2 c3) (ints [1, 3])) := HG4.out.after hb5
  have HB5 : Hid (Below w.heap.size w w5) := step HB4.out hb5
  clear hb5 HG4 HB4
  go_wp2_with fail
  refine ent1 w5 _ _ (Q := fun W => Calls _ _ _ W _) ?_
  intro W6 hB6 hs6 V6
  have HB6 : Hid (Below w.heap.size w W6) := step HB5.out hB6
  have hS := osame (ints [1, 3]) a3 c3 _ 2 W6 ((HG5.out.after hB6).toLe.li) (li_va (l := ints [1, 3]) V6 rfl (by decide)) (by decide)
  clear V6 hB6 hs6 HG5 HB5
  refine hS.mono ?_
  rintro e w7 ⟨rfl, hb7⟩
  have HB7 : Hid (Below w.heap.size w w7) := step HB6.out hb7
  clear hb7 HB6
  go_wp2_with fail
  go_ret
  exact ⟨rfl, HB7.out⟩
end Go.Proofs.Ytonhooaboieapaa
