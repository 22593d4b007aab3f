/-
  read of the text 12.
-/
import Derived.Test.YtbadjonlhijoaaaGrowN
namespace Go.Proofs.Ytbadjonlhijoaaa
open Go.RowKit Go.Shelf
set_option linter.unusedVariables false

theorem Nt.al' {w : World} {a : Option Addr} {l c : Nat} {zs : List Int} (h : Nt w a l c zs) (o : Obj) : Nt (w.alloc o) a l c zs := Nt.after ((Below.refl _ _).alloc (Nat.le_refl _) o) h
theorem small_pos (x : Int) (hx : Word x) (h0 : x ≠ 0) (w : World) :
    Calls Try.prog 25 #[.int .u64 x] w fun e w' => e = .returned (.agg #[.slice (some ⟨w.heap.size + 1, 0, none⟩) 1 1]) ∧ Nt w' (some ⟨w.heap.size + 1, 0, none⟩) 1 1 [x] ∧ Below w.heap.size w w' := by
  have g1 : (x == 0) = false := by simpa using h0
  go_enter Try.func25, Try.ntmps25
  go_wp2_with fail
  refine bodyPost_ret (results_c rfl rfl ((Va.new w _ _).old _)) rfl ?_
  have s := sl_one (w.alloc (Obj.cells #[Value.slice (some { block := w.heap.size + 1, off := 0 }) 1 1] 25)) x hx
  simp only [World.alloc, Array.size_push] at s
  refine ⟨rfl, ⟨s, ?_, Nat.le_refl _, by omega⟩, ((Below.refl _ _).alloc (Nat.le_refl _) _).alloc (by simp) _⟩
  simp [usedN, h0]
/-- A list in a block that stays is the same list. -/
theorem Nt.at {w w' : World} {g l c : Nat} {zs : List Int} (h : Nt w (some ⟨g, 0, none⟩) l c zs) (k : w'.heap[g]? = w.heap[g]?) : Nt w' (some ⟨g, 0, none⟩) l c zs := by
  obtain ⟨⟨h1, h2, h3⟩, h4⟩ := h
  refine ⟨⟨h1, h2, fun h0 => ?_⟩, h4⟩
  obtain ⟨bb, off, e, hc⟩ := h3 h0
  cases e
  exact ⟨_, _, rfl, fun i hi => (World.cell?_of_block (w := w) k).trans (hc i hi)⟩
set_option maxHeartbeats 4000000 in
set_option maxRecDepth 20000 in
theorem read12 (w : World) :
    Calls Try.prog 50 #[.string ⟨#[49, 50]⟩, .int .i64 10, .int .i64 19] w fun e w' => ∃ g cap p m k zs, e = .returned (.tuple #[.slice (some ⟨g, 0, none⟩) 1 cap, .int .i64 0, .int .i64 0]) ∧ g < w'.heap.size ∧ w'.cell? ⟨g, 0, none⟩ = some (.slice p m k) ∧ Nt w' p m k zs ∧ num zs = 12 ∧ Below w.heap.size w w' := by
  obtain ⟨i0, hi, hz0, hz1, hz2⟩ := info_parts infoN
  obtain ⟨w1, hmk, hrow, hgr⟩ := run_make_own (P := Try.prog) w w.heap.size 93 25 i0 (.agg #[.slice none 0 0]) 1 Try.underlying93 hi hz0 hz1 .i64 .i64 1 (by rw [hz2]; omega) (by unfold maxLen; omega) (Nat.le_refl _)
  have HG : Hid (Grn w1 w.heap.size (.slice (some ⟨w.heap.size, 0, none⟩) 0 1) []) := hrow
  have HW1 : Hid (w.heap.size < w1.heap.size) := by
    obtain ⟨-, h2 | ⟨g, cap, cur, e, -, hh, -⟩⟩ := HG.out
    · cases h2.1
    · cases e; exact (Array.getElem?_eq_some_iff.1 hh).1
  have HB : Hid (Below w.heap.size w w1) := (Below.refl _ _).grown hgr (Nat.le_refl _) (fun k e => by cases e)
  have hmk' : (Instr.makeSlice 93 (.int .i64 0) (.int .i64 1)).run Try.prog w = .ok (.slice (some ⟨w.heap.size, 0, none⟩) 0 1) w1 := hmk
  have hn0 : ∀ ty, (Instr.next (.pointer (some ⟨w1.heap.size, 0, none⟩)) true ty).run Try.prog (w1.iter ⟨#[49, 50]⟩ 0) = .ok (.tuple #[.bool true, .int .i64 0, .int .i32 49]) (w1.iter ⟨#[49, 50]⟩ 1) := fun ty => run_next_ascii (P := Try.prog) w1 ⟨#[49, 50]⟩ 0 ty (by decide) (by decide)
  have hn1 : ∀ ty, (Instr.next (.pointer (some ⟨w1.heap.size, 0, none⟩)) true ty).run Try.prog (w1.iter ⟨#[49, 50]⟩ 1) = .ok (.tuple #[.bool true, .int .i64 1, .int .i32 50]) (w1.iter ⟨#[49, 50]⟩ 2) := fun ty => run_next_ascii (P := Try.prog) w1 ⟨#[49, 50]⟩ 1 ty (by decide) (by decide)
  clear hrow hgr hi hz0 hz1 hz2 hmk
  go_enter Try.func50, Try.ntmps50
  go_wp2_with fail
  refine wp_loop_rounds 3 ?_
  rw [rounds_succ]
  go_wp2_with fail
  refine (worth_digit 49 (by omega) (by omega) _).mono ?_
  rintro e w' ⟨rfl, rfl⟩
  go_wp2_with fail
  refine (worth_digit 49 (by omega) (by omega) _).mono ?_
  rintro e w' ⟨rfl, rfl⟩
  go_wp2_with fail
  rw [rounds_succ]
  go_wp2_with fail
  refine (worth_digit 50 (by omega) (by omega) _).mono ?_
  rintro e w' ⟨rfl, rfl⟩
  go_wp2_with fail
  refine (worth_digit 50 (by omega) (by omega) _).mono ?_
  rintro e w' ⟨rfl, rfl⟩
  go_wp2_with fail
  refine (small_pos 12 ⟨by omega, by omega⟩ (by omega) _).mono ?_
  rintro e w2 ⟨rfl, h2, hb2⟩
  have ez : (w1.iter ⟨#[49, 50]⟩ 2).heap.size = w1.heap.size + 1 := by show (w1.heap.push _).size = _; simp
  rw [ez] at h2 ⊢
  have HL2 : Hid (w1.heap.size + 1 + 1 < w2.heap.size) := by
    obtain ⟨bb, off, e, hc⟩ := h2.1.2.2 (by omega)
    cases e
    exact Rd.lt (v := .int .u64 12) (hc 0 (by omega))
  have HB1 : Below w1.heap.size w1 (w1.iter ⟨#[49, 50]⟩ 2) := (Below.refl _ _).alloc (Nat.le_refl _) _
  have HIT : Hid (w2.heap[w1.heap.size]? = some (.stringIter ⟨#[49, 50]⟩ 2)) := (hb2.block _ (by show w1.heap.size < (w1.heap.push _).size; simp)).trans (World.iter_heap w1 _ _)
  have hlt2 : Hid (w1.heap.size < w2.heap.size) := (Array.getElem?_eq_some_iff.1 HIT.out).1
  have HG2 : Hid (Grn w2 w.heap.size (.slice (some ⟨w.heap.size, 0, none⟩) 0 1) []) := (HG.out.after HB1).after hb2
  have HB2 : Hid (Below w.heap.size w w2) := (HB.out.trans (HB1.mono HB.out.size)).trans (hb2.mono (by have := HB.out.size; have := HB1.size; omega))
  have HN2 : Hid (Nt w2 (some ⟨w1.heap.size + 1 + 1, 0, none⟩) 1 1 [12]) := h2
  clear hn0 hn1 hmk' HG HB HB1 hb2 h2 ez
  go_wp2_with (at_builtin; refine wpList_appn rfl (.tmp 57) (.tmp 60) rfl w.heap.size (.slice (some ⟨w.heap.size, 0, none⟩) 0 1) [] rfl (HG2.out.after ((Below.refl _ _).alloc (Nat.le_refl _) _)) w2.heap.size 1 (some ⟨w1.heap.size + 1 + 1, 0, none⟩) 1 1 rfl (Va.new w2 _ _).cell (by simp) (by have := HB2.out.size; simp; omega) ?_; intro v3 w3 hG3 hb3 hfar; have HIT3 : Hid (w3.heap[w1.heap.size]? = some (.stringIter ⟨#[49, 50]⟩ 2)) := (hfar.out w1.heap.size (by have := hlt2.out; simp; omega) (fun e => by have h5 := HW1.out; have h6 : some w1.heap.size = some w.heap.size := e; have h7 := Option.some.inj h6; omega)).trans ((Below.heap_alloc _ _ _ hlt2.out).trans HIT.out); have HN3 : Hid (Nt w3 (some ⟨w1.heap.size + 1 + 1, 0, none⟩) 1 1 [12]) := Nt.at (Nt.al' HN2.out _) (hfar.out (w1.heap.size + 1 + 1) (by have := HL2.out; simp; omega) (fun e => by have h5 := HW1.out; have h6 : some (w1.heap.size + 1 + 1) = some w.heap.size := e; have h7 := Option.some.inj h6; omega)); obtain ⟨g, cap, rfl, hcap, hgl, hce⟩ := hG3.out.lies (by simp))
  rw [rounds_succ]
  have hn2 := fun ty => Go.Lib.run_next_end_at (P := Try.prog) w3 w1.heap.size ⟨#[49, 50]⟩ 2 ty HIT3.out (by decide)
  go_wp2_with fail
  refine (reverse_one _ _ _).mono ?_
  rintro e w' ⟨⟨v, rfl⟩, rfl⟩
  go_wp2_with fail
  go_ret3
  exact ⟨g, cap, _, _, _, [12], rfl, hgl, hce 0 _ rfl, HN3.out, by simp [num], (HB2.out.alloc HB2.out.size _).trans hb3⟩
end Go.Proofs.Ytbadjonlhijoaaa
