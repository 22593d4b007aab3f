/-
  strconv.FormatUint at any base; the table of math/bits.
-/
import Derived.Test.YtclefkmhchfkkaaGreatDoorFmtB
import Derived.Test.YtclefkmhchfkkaaGreatDoorFmt10
import Derived.Lib.TrailingZeros
import Derived.Lib.LaidTab
import Derived.Shelf.Spec.TrailingZeros
namespace Go.Proofs.YtclefkmhchfkkaaGreatDoor
open Go.RowKit Go.Shelf Go.Sort
set_option linter.unusedVariables false

/-- The table of math/bits.TrailingZeros64. -/
def tzTab : List Int := Go.Lib.deBruijn64tab.map fun n : Nat => (n : Int)
def Tz (w : World) : Prop := Go.Lib.TabIs Tryz.prog w "math/bits.deBruijn64tab" .u8 tzTab
theorem Tz.to {w w' : World} (h : Tz w) (hb : Below w.heap.size w w') : Tz w' := Go.Lib.tabBelow_of_tabIs h w' hb
theorem gTz : Tryz.prog.globalNamed "math/bits.deBruijn64tab" = some 5 := by kernel_rfl
set_option maxHeartbeats 4000000 in
theorem tz64 (x k idx : Nat) (w : World) (hT : Tz w) (hx0 : ((x : Int) == 0) = false) (key : IntKind.u64.wrap (bits BinOp.and IntKind.u64 (x : Int) (IntKind.u64.wrap (-(x : Int))) * 285870213051353865) / 288230376151711744 = (idx : Int)) (hi : idx < 64) (hk : k < 64) (hv : tzTab[idx]? = some (k : Int)) :
    Calls Tryz.prog 106 #[.int .u64 x] w fun e w' => e = .returned (.int .i64 k) ∧ w' = w := by
  have hcell : w.cell? ⟨5, idx, none⟩ = some (.int .u8 k) := by
    have h := Go.Lib.TabIs.cell hT gTz idx (show idx < 64 from hi)
    rw [h]
    obtain ⟨h1, h2⟩ := List.getElem?_eq_some_iff.1 hv
    first | rw [h2] | (rw [List.getD_eq_getElem?_getD, hv]; rfl)
  go_enter Tryz.func106, Tryz.ntmps106
  go_wp2_with (simp only [key])
  go_ret
  exact ⟨rfl, rfl⟩
theorem tz_two (sh : Nat) (h : sh ≤ 5) (w : World) (hT : Tz w) :
    Calls Tryz.prog 94 #[.int .u64 ((2 ^ sh : Nat) : Int)] w fun e w' => e = .returned (.int .i64 sh) ∧ w' = w := by
  have hall : ∀ s : Fin 6, tzTab[2 ^ s.1 * 285870213051353865 % 18446744073709551616 / 288230376151711744]? = some (s.1 : Int) ∧ 2 ^ s.1 * 285870213051353865 % 18446744073709551616 / 288230376151711744 < 64 ∧ 2 ^ s.1 &&& (18446744073709551616 - 2 ^ s.1) = 2 ^ s.1 ∧ 2 ^ s.1 < 18446744073709551616 ∧ 2 ^ s.1 ≠ 0 := by decide
  obtain ⟨h1, h2, h3, h4, h5⟩ := hall ⟨sh, by omega⟩
  have hc := tz64 (2 ^ sh) sh _ w hT (beq_false_of_ne (by exact_mod_cast h5)) (tz64_key (2 ^ sh) (2 ^ sh) h4 h5 h3) h2 (by omega) h1
  clear h1 h2 h3 h4 h5 hall
  generalize ((2 ^ sh : Nat) : Int) = x at hc ⊢
  go_enter Tryz.func94, Tryz.ntmps94
  go_wp2_with (go_at_call 106; refine hc.mono ?_; rintro e w' ⟨rfl, rfl⟩)
  go_ret
  exact ⟨rfl, rfl⟩
theorem and_i64 : ∀ b : Fin 37, 1 ≤ b.1 → bits .and .i64 (b.1 : Int) ((b.1 : Int) - 1) = ((b.1 &&& (b.1 - 1) : Nat) : Int) := by decide
theorem two_of : ∀ b : Fin 37, 2 ≤ b.1 → b.1 &&& (b.1 - 1) = 0 → ∃ s : Fin 6, b.1 = 2 ^ s.1 := by decide
theorem pow2_any (b : Nat) (h2 : 2 ≤ b) (h36 : b ≤ 36) (w : World) : Calls Tryz.prog 93 #[.int .i64 b] w fun e w' => e = .returned (.bool (decide (b &&& (b - 1) = 0))) ∧ w' = w := by
  have ha := and_i64 ⟨b, by omega⟩ (by show 1 ≤ b; omega)
  simp only at ha
  obtain ⟨y, hy⟩ : ∃ y, b &&& (b - 1) = y := ⟨_, rfl⟩
  rw [hy] at ha ⊢
  go_enter Tryz.func93, Tryz.ntmps93
  go_wp2_with fail
  go_ret
  refine ⟨?_, rfl⟩
  by_cases h : y = 0
  · subst h; simp
  · simp [h]
/-- The two tables. -/
def Tb (w : World) : Prop := Pt w ∧ Tz w
theorem Tb.to {w w' : World} (h : Tb w) (hb : Below w.heap.size w w') : Tb w' := ⟨h.1.to hb, h.2.to hb⟩
theorem fbits_any (U b : Nat) (hU : U < 18446744073709551616) (hb2 : 2 ≤ b) (hb36 : b ≤ 36) (hb10 : b ≠ 10) (w : World) (hT : Tz w) :
    Calls Tryz.prog 76 #[.slice none 0 0, .int .u64 U, .int .i64 b, .bool false, .bool false] w fun e W' => ∃ l, e = .returned (.tuple #[.slice none 0 0, .string ⟨List.toArray l⟩]) ∧ Tx b l U ∧ Below w.heap.size w W' := by
  by_cases h : b &&& (b - 1) = 0
  · obtain ⟨s, hs⟩ := two_of ⟨b, by omega⟩ hb2 h
    have hs' : b = 2 ^ s.1 := hs
    refine bits_two U b s.1 (by omega) hs' hU hb2 hb36 hb10 w (fun W => by have := pow2_any b hb2 hb36 W; rw [decide_eq_true h] at this; exact this) Tz (fun W W' hb h => h.to hb) hT (fun W hW => ?_)
    have := tz_two s.1 (by omega) W hW
    rw [← hs'] at this
    exact this
  · exact bits_gen U b hU hb2 hb36 hb10 w (fun W => by have := pow2_any b hb2 hb36 W; rw [decide_eq_false h] at this; exact this)
theorem ifmt_any (U b : Nat) (hU : U < 18446744073709551616) (hb2 : 2 ≤ b) (hb36 : b ≤ 36) (hb10 : b ≠ 10) (w : World) (hT : Tz w) :
    Calls Tryz.prog 58 #[.int .u64 U, .int .i64 b] w fun e W' => ∃ l, e = .returned (.string ⟨List.toArray l⟩) ∧ Tx b l U ∧ Below w.heap.size w W' := by
  have hb3 : ¬ (b : Int) = 10 := by omega
  go_enter Tryz.func58, Tryz.ntmps58
  go_wp2_with (go_at_call 76; refine (fbits_any U b hU hb2 hb36 hb10 _ hT).mono ?_; rintro e w' ⟨l, rfl, hl, hb⟩)
  go_ret
  exact ⟨l, rfl, hl, hb⟩
theorem fmt_any (U b : Nat) (hU : U < 18446744073709551616) (hb2 : 2 ≤ b) (hb36 : b ≤ 36) (w : World) (hT : Tb w) :
    Calls Tryz.prog 33 #[.int .u64 U, .int .i64 b] w fun e W' => ∃ l, e = .returned (.string ⟨List.toArray l⟩) ∧ Tx b l U ∧ Below w.heap.size w W' := by
  by_cases h10 : b = 10
  · subst h10
    exact (fmt10 U hU w hT.1).mono fun e w' h => ⟨_, h.1, dec_tx U, h.2⟩
  · go_enter Tryz.func33, Tryz.ntmps33
    go_wp2_with (go_at_call 58; refine (ifmt_any U b hU hb2 hb36 h10 _ hT.2).mono ?_; rintro e w' ⟨l, rfl, hl, hb⟩)
    go_ret
    exact ⟨l, rfl, hl, hb⟩
end Go.Proofs.YtclefkmhchfkkaaGreatDoor
