/-
  order: Sort.
-/
import Derived.Test.YtonhooaboieapaaOd4
namespace Go.Proofs.Ytonhooaboieapaa
open Go.RowKit Go.Shelf
set_option linter.unusedVariables false
set_option linter.unusedSimpArgs false

/-- What Sort answers. -/
inductive SoR (w : World) (B : Nat) (n : Int) (xs : List Pr) : Value → Int → Prop
  | bad (h : ckE n xs ≠ 0) : SoR w B n xs (.slice none 0 0) (ckE n xs)
  | ring (h : ckE n xs = 0) (y : Nat) (hr : RgN (Rn (nlf xs)) y) : SoR w B n xs (.slice none 0 0) 171
  | ok (h : ckE n xs = 0) (out : List Nat) (ho : So (Rn (nlf xs)) n.toNat out) (hl : out.length = n.toNat) (hr : ∀ y, ¬ RgN (Rn (nlf xs)) y) (a : Option Addr) (c : Nat) (hg : Ge elI w B (.slice a out.length c) (ints out)) : SoR w B n xs (.slice a out.length c) 0
theorem SoR.after {w w' : World} {B : Nat} {n : Int} {xs : List Pr} {v : Value} {e : Int} (hb : Below w.heap.size w w') (h : SoR w B n xs v e) : SoR w' B n xs v e := by
  cases h with
  | bad h => exact .bad h
  | ring h y hr => exact .ring h y hr
  | ok h out ho hl hr a c hg => exact .ok h out ho hl hr a c (hg.after hb)
set_option maxHeartbeats 4000000 in
theorem sort_bad (n : Int) (a : Option Addr) (len cap : Nat) (xs : List Pr) (w : World) (h : La w a len xs) (hc : ckE n xs ≠ 0) :
    Calls Try.prog 18 #[.int .i64 n, .slice a len cap] w fun e w' => e = .returned (.tuple #[.slice none 0 0, .int .i64 (ckE n xs)]) ∧ Below w.heap.size w w' := by
  have hC := ocheck_any n a len cap xs w h
  clear h
  generalize ckE n xs = k at *
  go_enter Try.func18, Try.ntmps18
  go_wp2_with (go_at_call 22; refine hC.mono ?_; rintro e w1 ⟨rfl, hb1⟩; have HB1 : Hid (Below w.heap.size w w1) := hb1; clear hb1 hC)
  go_ret2
  exact ⟨rfl, HB1.out⟩
set_option maxHeartbeats 4000000 in
theorem sort_ok (n : Nat) (a : Option Addr) (len cap : Nat) (xs : List Pr) (w : World) (h : La w a len xs) (hc : ckE n xs = 0) :
    Calls Try.prog 18 #[.int .i64 (n : Int), .slice a len cap] w fun e w' => (∃ v k, e = .returned (.tuple #[v, .int .i64 k]) ∧ SoR w' w.heap.size n xs v k) ∧ Below w.heap.size w w' := by
  have hC := ocheck_any n a len cap xs w h
  rw [hc] at hC
  obtain ⟨h0, h1, h2, h3⟩ := ckE_ok hc
  have HL : Hid (La w a len xs) := h
  have hlen := h.1
  have HOk : Hid (ckE n xs = 0 ∧ xs.all (okA n) = true) := ⟨hc, h3⟩
  have hn : n ≤ 4096 := by omega
  have hl6 : len ≤ 65536 := by omega
  have HLen : Hid (xs.length = len) := hlen
  clear h hc h3 h2 hlen h0 h1
  go_enter Try.func18, Try.ntmps18
  go_wp2_with (first
    | (go_at_call 22; refine hC.mono ?_; rintro e w1 ⟨rfl, hb1⟩; have HB1 : Hid (Below w.heap.size w w1) := hb1; clear hb1 hC)
    | (go_at_call 25; refine (needsOf_any n hn a len cap xs w1 (HL.out.after HB1.out) hl6 HOk.out.2).mono ?_; rintro e w2 ⟨f, rfl, hD⟩; have HD : Hid (Dg n w1 w2 f (nlf xs)) := hD; clear hD)
    | (go_at_call 29; refine (sorted_any n hn w1.heap.size (nlf xs) w2 HD.out.rows (fun p => Nat.le_trans (nlf_len xs p) (by have := HLen.out; omega)) (nlf_ok HOk.out.2)).mono ?_; rintro e w3 ⟨⟨lst, out, rfl, hso, hno, hg⟩, hb3⟩; have HSo : Hid (So (Rn (nlf xs)) n out ∧ ∀ x, ¬ AvN (Rn (nlf xs)) n out x) := ⟨hso, hno⟩; have HG : Hid (Ge elI w3 w2.heap.size lst (ints out)) := hg; have HB3 : Hid (Below w.heap.size w w3) := step (HB1.out.trans (HD.out.below.mono HB1.out.size)) hb3; obtain ⟨al, cl, rfl, -, -, -⟩ := hg.shape; have hll := ints_length out; have hlt := (HSo.out.1.either (nlf_ok HOk.out.2) HSo.out.2); have HEi : Hid _ := hlt; have hle := HSo.out.1.few; have hBz : w.heap.size ≤ w2.heap.size := Nat.le_trans HB1.out.size HD.out.below.size; clear hso hno hg hb3 hlt; rw [hll]))
  · rename_i hlt
    go_ret2
    refine ⟨⟨_, _, rfl, ?_⟩, HB3.out⟩
    rcases HEi.out with ⟨h1, -⟩ | ⟨-, y, -, hy⟩
    · omega
    · exact .ring HOk.out.1 y hy
  · rename_i hlt
    go_ret2
    refine ⟨⟨_, _, rfl, ?_⟩, HB3.out⟩
    rcases HEi.out with ⟨h1, h2⟩ | ⟨h1, -⟩
    · have hg := HG.out.le hBz
      rw [hll] at hg
      exact .ok HOk.out.1 out (by rw [Int.toNat_natCast]; exact HSo.out.1) (by rw [Int.toNat_natCast]; exact h1) h2 al cl hg
    · omega
/-- Sort, of anything. -/
theorem sort_all (n : Int) (a : Option Addr) (len cap : Nat) (xs : List Pr) (w : World) (h : La w a len xs) :
    Calls Try.prog 18 #[.int .i64 n, .slice a len cap] w fun e w' => (∃ v k, e = .returned (.tuple #[v, .int .i64 k]) ∧ SoR w' w.heap.size n xs v k) ∧ Below w.heap.size w w' := by
  by_cases hc : ckE n xs = 0
  · obtain ⟨h0, -, -, -⟩ := ckE_ok hc
    obtain ⟨m, rfl⟩ : ∃ m : Nat, n = m := ⟨n.toNat, by omega⟩
    exact sort_ok m a len cap xs w h hc
  · refine (sort_bad n a len cap xs w h hc).mono ?_
    rintro e w' ⟨rfl, hb⟩
    exact ⟨⟨_, _, rfl, .bad hc⟩, hb⟩
end Go.Proofs.Ytonhooaboieapaa
