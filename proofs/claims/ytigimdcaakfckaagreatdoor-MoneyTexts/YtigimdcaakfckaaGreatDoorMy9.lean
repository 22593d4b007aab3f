/-
  money.Add, Sub, Sum.
-/
import Derived.Test.YtigimdcaakfckaaGreatDoorMsP
import Derived.Test.YtigimdcaakfckaaGreatDoorBsM
namespace Go.Proofs.YtigimdcaakfckaaGreatDoor
open Go.RowKit Go.Shelf
set_option linter.unusedVariables false

/-- A list of int64s as it lies. -/
def Li (w : World) (a : Option Addr) (len : Nat) (zs : List Int) : Prop :=
  zs.length = len ∧ (∀ z ∈ zs, b64 z) ∧ (0 < len → ∃ b off, a = some ⟨b, off, none⟩ ∧ ∀ i, i < len → w.cell? ⟨b, off + i, none⟩ = some (.int .i64 (zs.getD i 0)))
theorem Li.get {w : World} {a : Option Addr} {len : Nat} {zs : List Int} (h : Li w a len zs) {k : Nat} (hk : k < len) : b64 (zs.getD k 0) := by
  have hl : k < zs.length := by rw [h.1]; exact hk
  rw [List.getD_eq_getElem?_getD, List.getElem?_eq_getElem hl]
  exact h.2.1 _ (List.getElem_mem hl)
theorem wrap_cases {s : Int} (h1 : -18446744073709551616 ≤ s) (h2 : s < 18446744073709551616) : (-9223372036854775808 ≤ s ∧ s ≤ 9223372036854775807 ∧ wrap64 s = s) ∨ (s < -9223372036854775808 ∧ wrap64 s = s + 18446744073709551616) ∨ (9223372036854775807 < s ∧ wrap64 s = s - 18446744073709551616) := by
  unfold wrap64; omega
theorem add9 (a b : Int) (ha : b64 a) (hb : b64 b) (w : World) : Calls Tryz.prog 13 #[.int .i64 a, .int .i64 b] w fun e w' => e = .returned (.tuple #[.int .i64 (fit9 (a + b)).1, .int .i64 (fit9 (a + b)).2]) ∧ w' = w := by
  obtain ⟨a1, a2⟩ := ha
  obtain ⟨b1, b2⟩ := hb
  have hc := wrap_cases (s := a + b) (by omega) (by omega)
  obtain ⟨v, hv⟩ : ∃ v, wrap64 (a + b) = v := ⟨_, rfl⟩
  rw [hv] at hc
  rcases hc with ⟨c1, c2, c3⟩ | hc
  · rw [fit9_in c1 c2]
    have hx : (!decide (v < a) == decide (b < 0)) = false := by by_cases h0 : b < 0 <;> simp [h0] <;> omega
    have HC : Hid (v = a + b) := c3
    clear c1 c2 c3
    go_enter Tryz.func13, Tryz.ntmps13
    go_wp2_with fail
    all_goals (go_ret2; exact ⟨by show Ending.returned (.tuple #[.int .i64 (wrap64 (a + b)), .int .i64 0]) = _; rw [hv, HC.out], rfl⟩)
  · rw [fit9_out (by omega)]
    have hx : (!decide (v < a) == decide (b < 0)) = true := by by_cases h0 : b < 0 <;> simp [h0] <;> omega
    clear hc
    go_enter Tryz.func13, Tryz.ntmps13
    go_wp2_with fail
    all_goals (go_ret2; exact ⟨rfl, rfl⟩)
theorem sub9 (a b : Int) (ha : b64 a) (hb : b64 b) (w : World) : Calls Tryz.prog 14 #[.int .i64 a, .int .i64 b] w fun e w' => e = .returned (.tuple #[.int .i64 (fit9 (a - b)).1, .int .i64 (fit9 (a - b)).2]) ∧ w' = w := by
  obtain ⟨a1, a2⟩ := ha
  obtain ⟨b1, b2⟩ := hb
  have hc := wrap_cases (s := a - b) (by omega) (by omega)
  obtain ⟨v, hv⟩ : ∃ v, wrap64 (a - b) = v := ⟨_, rfl⟩
  rw [hv] at hc
  rcases hc with ⟨c1, c2, c3⟩ | hc
  · rw [fit9_in c1 c2]
    have hx : (!decide (a < v) == decide (b < 0)) = false := by by_cases h0 : b < 0 <;> simp [h0] <;> omega
    have HC : Hid (v = a - b) := c3
    clear c1 c2 c3
    go_enter Tryz.func14, Tryz.ntmps14
    go_wp2_with fail
    all_goals (go_ret2; exact ⟨by show Ending.returned (.tuple #[.int .i64 (wrap64 (a - b)), .int .i64 0]) = _; rw [hv, HC.out], rfl⟩)
  · rw [fit9_out (by omega)]
    have hx : (!decide (a < v) == decide (b < 0)) = true := by by_cases h0 : b < 0 <;> simp [h0] <;> omega
    clear hc
    go_enter Tryz.func14, Tryz.ntmps14
    go_wp2_with fail
    all_goals (go_ret2; exact ⟨rfl, rfl⟩)
set_option maxHeartbeats 1000000 in
theorem sum9 (a : Option Addr) (len cap : Nat) (zs : List Int) (w : World) (h : Li w a len zs) (hl : len ≤ 20000000000000) :
    Calls Tryz.prog 15 #[.slice a len cap] w fun e w' => e = .returned (.tuple #[.int .i64 (fit9 (lsum zs)).1, .int .i64 (fit9 (lsum zs)).2]) ∧ w' = w := by
  have HL : Hid (Li w a len zs) := h
  clear h
  go_enter Tryz.func15, Tryz.ntmps15
  go_wp2_with fail
  go_loopw [4, 5, 12] (fun lo hi i wr => ∃ (k : Nat) (low high : Int), lo = .int .u64 low ∧ hi = .int .i64 high ∧ i = .int .i64 k ∧ k ≤ len ∧ Hid (SI zs k low high) ∧ wr = w) (fun lo hi i _ => ((len : Int) - intOf i).toNat)
  case atStart => exact ⟨0, 0, 0, rfl, rfl, rfl, by omega, si_nil _, rfl⟩
  case round =>
    obtain ⟨k, low, high, rfl, rfl, rfl, hk, HI, rfl⟩ := hrel
    by_cases hkl : k < len
    · have hki : (k : Int) < len := by omega
      obtain ⟨b, off, rfl, hcell⟩ := HL.out.2.2 (by omega)
      have ck := hcell k hkl
      have hz := HL.out.get hkl
      have HS : Hid _ := si_step HI.out (by rw [HL.out.1]; exact hkl) hz
      obtain ⟨z, hzz⟩ : ∃ z, zs.getD k 0 = z := ⟨_, rfl⟩
      rw [hzz] at ck hz HS
      obtain ⟨b1, b2⟩ := hz
      obtain ⟨i1, i2, i3, i4, i5⟩ := HI.out
      obtain ⟨y, hy⟩ : ∃ y, z % 18446744073709551616 = y := ⟨_, rfl⟩
      rw [hy] at HS
      have hyw : IntKind.u64.wrap z = y := hy
      have hy0 : 0 ≤ y := by omega
      have hyl : y < 18446744073709551616 := by omega
      clear hcell hzz i1
      go_wp2_with (simp only [add64_0 low y i2 hy0])
      go_roundw
      case rel => exact ⟨k + 1, _, _, rfl, rfl, by simp, by omega, HS.out, trivial⟩
      case measure => simp [intOf]; omega
    · have hki : ¬ (k : Int) < len := by omega
      obtain rfl : k = len := by omega
      obtain ⟨sg, hsg⟩ : ∃ sg, sg = if low < 9223372036854775808 then low else low - 18446744073709551616 := ⟨_, rfl⟩
      have hw : wrap64 low = sg := by
        obtain ⟨i1, i2, i3, i4, i5⟩ := HI.out
        unfold wrap64
        rw [hsg]; split <;> omega
      have hI : SI zs zs.length low high := by have := HI.out; rwa [← HL.out.1] at this
      obtain ⟨e1, e2⟩ := si_end hI sg hsg
      obtain ⟨hi2, hh2⟩ : ∃ q, sg / 9223372036854775808 = q := ⟨_, rfl⟩
      rw [hh2] at e1 e2
      have b1 : -9223372036854775808 ≤ sg ∧ sg ≤ 9223372036854775807 := by
        obtain ⟨i1, i2, i3, i4, i5⟩ := HI.out
        rw [hsg]; split <;> omega
      clear hsg hI
      by_cases hq : high = hi2
      · have HE : Hid (fit9 (lsum zs) = (sg, 0)) := e1 hq
        have hqb : (high == hi2) = true := by simpa using hq
        clear e1 e2
        subst hq
        go_wp2_with fail
        go_ret2
        exact ⟨by rw [HE.out]; rfl, rfl⟩
      · have HE : Hid (fit9 (lsum zs) = (0, 5)) := e2 hq
        have hqb : (high == hi2) = false := by simpa using hq
        clear e1 e2
        go_wp2_with fail
        go_ret2
        exact ⟨by rw [HE.out]; rfl, rfl⟩
end Go.Proofs.YtigimdcaakfckaaGreatDoor
