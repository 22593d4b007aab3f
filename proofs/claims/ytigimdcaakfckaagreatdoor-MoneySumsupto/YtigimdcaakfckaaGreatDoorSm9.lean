/-
  The document's Sum, Add, Sub.
-/
import Derived.Test.YtigimdcaakfckaaGreatDoorKeptI
import Derived.Test.YtigimdcaakfckaaGreatDoorAw9
namespace Go.Proofs.YtigimdcaakfckaaGreatDoor
open Go.RowKit Go.Shelf
set_option linter.unusedVariables false

theorem hf_bounds {z : Int} (b : b64 z) : -4294967296 < z.tmod 4294967296 ∧ z.tmod 4294967296 < 4294967296 ∧ -2147483648 ≤ z.tdiv 4294967296 ∧ z.tdiv 4294967296 ≤ 2147483647 := by
  obtain ⟨b1, b2⟩ := b
  rcases Int.lt_or_le z 0 with g | g
  · obtain ⟨e1, e2⟩ := hf_neg g
    rw [e1, e2]; omega
  · obtain ⟨e1, e2⟩ := hf_pos g
    rw [e1, e2]; omega
set_option maxHeartbeats 1000000 in
theorem rsum9 (a : Option Addr) (len cap : Nat) (zs : List Int) (w : World) (h : Li w a len zs) (hl : len ≤ 1073741824) :
    Calls Tryz.prog 11 #[.slice a len cap] w fun e w' => e = .returned (.tuple #[.int .i64 (fit9 (lsum zs)).1, .int .i64 (fit9 (lsum zs)).2]) ∧ w' = w := by
  have HL : Hid (Li w a len zs) := h
  clear h
  go_enter Tryz.func11, Tryz.ntmps11
  go_wp2_with fail
  go_loopw [4, 5, 6] (fun hi lo i wr => ∃ (k : Nat) (low high : Int), lo = .int .i64 low ∧ hi = .int .i64 high ∧ i = .int .i64 k ∧ k ≤ len ∧ Hid (HInv zs k low high) ∧ wr = w) (fun hi lo i _ => ((len : Int) - intOf i).toNat)
  case atStart => exact ⟨0, 0, 0, rfl, rfl, rfl, by omega, hinv_nil _, rfl⟩
  case round =>
    obtain ⟨k, low, high, rfl, rfl, rfl, hk, HI, rfl⟩ := hrel
    have hlow : 0 ≤ low ∧ low ≤ 4611686018427387904 := by obtain ⟨i1, i2, i3, i4, i5⟩ := HI.out; omega
    have hhigh : -4611686018427387904 ≤ high ∧ high ≤ 4611686018427387904 := by obtain ⟨i1, i2, i3, i4, i5⟩ := HI.out; omega
    obtain ⟨lo1, lo2⟩ := hlow
    obtain ⟨hi1, hi2⟩ := hhigh
    by_cases hkl : k < len
    · have hki : (k : Int) < len := by omega
      obtain ⟨b, off, rfl, hcell⟩ := HL.out.2.2 (by omega)
      have ck := hcell k hkl
      have hz := HL.out.get hkl
      have HS : Hid _ := hinv_step HI.out (by rw [HL.out.1]; exact hkl) hz.1 hz.2
      obtain ⟨z, hzz⟩ : ∃ z, zs.getD k 0 = z := ⟨_, rfl⟩
      rw [hzz] at ck hz HS
      obtain ⟨h1, h2, h3, h4⟩ := hf_bounds hz
      have hA := hf_low (z := z)
      have hB := hf_high (z := z)
      obtain ⟨b1, b2⟩ := hz
      obtain ⟨x, hx⟩ : ∃ x, z.tmod 4294967296 = x := ⟨_, rfl⟩
      obtain ⟨y, hy⟩ : ∃ y, z.tdiv 4294967296 = y := ⟨_, rfl⟩
      rw [hx] at hA hB h1 h2
      rw [hy] at hA hB h3 h4
      clear hcell hzz
      by_cases hx0 : x < 0
      · obtain ⟨e1, e2⟩ := hA hx0
        rw [← e1, ← e2] at HS
        clear hA hB e1 e2
        go_wp2_with fail
        go_roundw
        case rel => exact ⟨k + 1, _, _, rfl, rfl, by simp, by omega, HS, trivial⟩
        case measure => simp [intOf]; omega
      · obtain ⟨e1, e2⟩ := hB hx0
        rw [← e1, ← e2] at HS
        clear hA hB e1 e2
        go_wp2_with fail
        go_roundw
        case rel => exact ⟨k + 1, _, _, rfl, rfl, by simp, by omega, HS, trivial⟩
        case measure => simp [intOf]; omega
    · have hki : ¬ (k : Int) < len := by omega
      obtain rfl : k = len := by omega
      have hI : HInv zs zs.length low high := by have := HI.out; rwa [← HL.out.1] at this
      obtain ⟨e1, e2⟩ := hinv_end hI
      obtain ⟨f1, f2⟩ := hf_pos lo1
      rw [← f1, ← f2] at e1
      rw [← f2] at e2
      have r1 : 0 ≤ low.tmod 4294967296 ∧ low.tmod 4294967296 < 4294967296 := by rw [f1]; omega
      have q1 : 0 ≤ low.tdiv 4294967296 ∧ low.tdiv 4294967296 ≤ 1073741824 := by rw [f2]; omega
      obtain ⟨r, hr⟩ : ∃ r, low.tmod 4294967296 = r := ⟨_, rfl⟩
      obtain ⟨q, hq⟩ : ∃ q, low.tdiv 4294967296 = q := ⟨_, rfl⟩
      rw [hr] at e1 r1
      rw [hq] at e1 e2 q1
      obtain ⟨r1, r2⟩ := r1
      obtain ⟨q1, q2⟩ := q1
      clear hI f1 f2
      by_cases hin : -2147483648 ≤ high + q ∧ high + q < 2147483648
      · obtain ⟨n1, n2⟩ := hin
        obtain ⟨s1, s2⟩ := e2.1 ⟨n1, n2⟩
        have HE : Hid (fit9 (lsum zs) = ((high + q) * 4294967296 + r, 0)) := by show _ = _; rw [fit9_in s1 s2, e1]
        have c1 : ¬ high + q < -2147483648 := by omega
        have c2 : ¬ 2147483648 ≤ high + q := by omega
        clear e1 e2 s1 s2
        go_wp2_with fail
        go_ret2
        exact ⟨by rw [HE.out]; rfl, rfl⟩
      · have HE : Hid (fit9 (lsum zs) = (0, 5)) := by
          apply fit9_out
          have := mt e2.2 hin
          omega
        clear e1 e2
        by_cases c1 : high + q < -2147483648
        · go_wp2_with fail
          go_ret2
          exact ⟨by rw [HE.out]; rfl, rfl⟩
        · have c2 : 2147483648 ≤ high + q := by omega
          go_wp2_with fail
          go_ret2
          exact ⟨by rw [HE.out]; rfl, rfl⟩
theorem radd9 (a b : Int) (ha : b64 a) (hb : b64 b) (w : World) {X er : Int} (hf : fit9 (a + b) = (X, er)) :
    Calls Tryz.prog 9 #[.int .i64 a, .int .i64 b] w fun e w' => e = .returned (.tuple #[.int .i64 X, .int .i64 er]) ∧ Below w.heap.size w w' := by
  have hs : ∀ W g, Va W g 2 #[.int .i64 a, .int .i64 b] → Calls Tryz.prog 11 #[.slice (some ⟨g, 0, none⟩) 2 2] W fun e w' => e = .returned (.tuple #[.int .i64 X, .int .i64 er]) ∧ w' = W := by
    intro W g V
    have hL : Li W (some ⟨g, 0, none⟩) 2 [a, b] := li_va (zs := [a, b]) V (by intro z hz; simp at hz; rcases hz with rfl | rfl <;> assumption)
    have h := rsum9 (some ⟨g, 0, none⟩) 2 2 _ W hL (by omega)
    have e : lsum [a, b] = a + b := by simp [lsum]
    rw [e, hf] at h
    exact h
  clear hf
  obtain ⟨a1, a2⟩ := ha
  obtain ⟨b1, b2⟩ := hb
  go_enter Tryz.func9, Tryz.ntmps9
  go_wp2_with fail
  refine ent1 w _ _ (Q := fun W => Calls Tryz.prog _ _ W _) ?_
  intro x1 hb hs_x1 Vl
  refine (hs _ _ Vl).mono ?_
  rintro e w' ⟨rfl, hw⟩
  rw [hw]
  clear hw
  go_wp2_with fail
  go_ret2
  exact ⟨rfl, hb⟩
theorem rsub9 (a b : Int) (ha : b64 a) (hb : b64 b) (w : World) {X er : Int} (hf : fit9 (a - b) = (X, er)) :
    Calls Tryz.prog 10 #[.int .i64 a, .int .i64 b] w fun e w' => e = .returned (.tuple #[.int .i64 X, .int .i64 er]) ∧ Below w.heap.size w w' := by
  have hs : ∀ W g, Va W g 2 #[.int .i64 a, .int .i64 (-1 - b), .int .i64 1] → Calls Tryz.prog 11 #[.slice (some ⟨g, 0, none⟩) 3 3] W fun e w' => e = .returned (.tuple #[.int .i64 X, .int .i64 er]) ∧ w' = W := by
    intro W g V
    have hL : Li W (some ⟨g, 0, none⟩) 3 [a, -1 - b, 1] := li_va (zs := [a, -1 - b, 1]) V (by
      intro z hz; simp at hz
      obtain ⟨b1, b2⟩ := hb
      rcases hz with rfl | rfl | rfl
      · exact ha
      · exact ⟨by omega, by omega⟩
      · exact ⟨by omega, by omega⟩)
    have h := rsum9 (some ⟨g, 0, none⟩) 3 3 _ W hL (by omega)
    have e : lsum [a, -1 - b, 1] = a - b := by simp [lsum]; omega
    rw [e, hf] at h
    exact h
  clear hf
  obtain ⟨a1, a2⟩ := ha
  obtain ⟨b1, b2⟩ := hb
  go_enter Tryz.func10, Tryz.ntmps10
  go_wp2_with fail
  refine ent1 w _ _ (Q := fun W => Calls Tryz.prog _ _ W _) ?_
  intro x1 hb hs_x1 Vl
  refine (hs _ _ Vl).mono ?_
  rintro e w' ⟨rfl, hw⟩
  rw [hw]
  clear hw
  go_wp2_with fail
  go_ret2
  exact ⟨rfl, hb⟩
/-- The sums with their answers named, as calls that leave the world or add to it. -/
theorem below_of {w : World} {f : Nat} {args : Array Value} {v : Value} (h : Calls Tryz.prog f args w fun e w' => e = .returned v ∧ w' = w) : Calls Tryz.prog f args w fun e w' => e = .returned v ∧ Below w.heap.size w w' :=
  h.mono fun e w' ⟨h1, h2⟩ => ⟨h1, by rw [h2]; exact Below.refl _ _⟩
theorem OwI.after {w w' : World} (hb : Below w.heap.size w w') {g : Nat} {cs : List Int} (h : OwI w g cs) : OwI w' g cs := h.below hb h.lt
theorem OwI.li {w : World} {g : Nat} {zs ms : List Int} (h : OwI w g (zs ++ ms)) (hz : ∀ z ∈ zs, b64 z) : Li w (some ⟨g, 0, none⟩) zs.length zs := by
  refine ⟨rfl, hz, fun _ => ⟨g, 0, rfl, fun i hi => ?_⟩⟩
  rw [Nat.zero_add, h.cell i (by rw [List.length_append]; omega), List.getD_eq_getElem?_getD, List.getD_eq_getElem?_getD, List.getElem?_append_left hi]
end Go.Proofs.YtigimdcaakfckaaGreatDoor
