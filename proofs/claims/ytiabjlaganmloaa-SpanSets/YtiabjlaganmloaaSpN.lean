/-
  span.Of: the set that it makes lies in new memory; lists that it does not take.
-/
import Derived.Test.YtiabjlaganmloaaJoiW
namespace Go.Proofs.Ytiabjlaganmloaa
open Go.RowKit Go.Shelf
set_option linter.unusedVariables false
set_option linter.unusedSimpArgs false

/-- A set that is there, in blocks from B on. -/
def StF (w : World) (B p : Nat) (ps : List Pr) : Prop := Few ps ∧ ps.length ≤ 4096 ∧ B ≤ p ∧ ∃ a cap, Va w p 94 #[.slice a ps.length cap, .bool true] ∧ ps.length ≤ cap ∧ Ls w a ps.length ps ∧ (a = none → cap = 0) ∧ ∀ b off, a = some ⟨b, off, none⟩ → B ≤ b
theorem StF.st {w : World} {B p : Nat} {ps : List Pr} (h : StF w B p ps) : St w p ps := by
  obtain ⟨h1, h2, -, a, cap, h3, h4, h5, h6, -⟩ := h
  exact ⟨h1, h2, a, cap, h3, h4, h5, h6⟩
theorem StF.le {w : World} {B B' p : Nat} {ps : List Pr} (h : StF w B p ps) (hb : B' ≤ B) : StF w B' p ps := by
  obtain ⟨h1, h2, h0, a, cap, h3, h4, h5, h6, h7⟩ := h
  exact ⟨h1, h2, by omega, a, cap, h3, h4, h5, h6, fun b off e => Nat.le_trans hb (h7 b off e)⟩
theorem StF.after {w w' : World} {B p : Nat} {ps : List Pr} (hb : Below w.heap.size w w') (h : StF w B p ps) : StF w' B p ps := by
  obtain ⟨h1, h2, h0, a, cap, h3, h4, h5, h6, h7⟩ := h
  exact ⟨h1, h2, h0, a, cap, h3.after hb, h4, h5.after hb, h6, h7⟩
/-- What is written into a block that lies below leaves the set. -/
theorem StF.other {w w' : World} {B p g : Nat} {ps : List Pr} (h : StF w B p ps) (hg : g < B) (hk : ∀ k, k < w.heap.size → k ≠ g → w'.heap[k]? = w.heap[k]?) : St w' p ps := by
  obtain ⟨h1, h2, h0, a, cap, h3, h4, h5, h6, h7⟩ := h
  refine ⟨h1, h2, a, cap, ?_, h4, ?_, h6⟩
  · unfold Va at h3 ⊢
    rw [hk p (Array.getElem?_eq_some_iff.1 h3).1 (by omega)]; exact h3
  · refine ⟨h5.1, fun hp => ?_⟩
    obtain ⟨b, off, e, hc⟩ := h5.2 hp
    have hb := h7 b off e
    have hlt := cell_lt (hc 0 hp).1
    have hcell : ∀ i, w'.cell? ⟨b, i, none⟩ = w.cell? ⟨b, i, none⟩ := fun i => by simp only [World.cell?, hk b hlt (by omega)]
    exact ⟨b, off, e, fun i hi => ⟨(hcell _).trans (hc i hi).1, (hcell _).trans (hc i hi).2⟩⟩
theorem setOf_new (B : Nat) (v : Value) (ps : List Pr) (w : World) (hg : Gs w B v ps) (hf : Few ps) (h : ps.length ≤ 4096) (hB : B ≤ w.heap.size) :
    Calls Try.prog 44 #[v] w fun e w' => ∃ p, e = .returned (.tuple #[.pointer (some ⟨p, 0, none⟩), .int .i64 0]) ∧ StF w' B p ps ∧ Below w.heap.size w w' := by
  obtain ⟨a, cap, rfl, hc, hm, hs⟩ := hg.shape
  have h1 : ¬ ((4096 : Int) < ps.length) := by omega
  have HL : Hid (Ls w a ps.length ps) := hg.ls
  have HA : Hid (a = none → cap = 0) := fun e => by
    rcases hs with ⟨-, -, h⟩ | ⟨g, h⟩
    · exact h
    · rw [e] at h; cases h
  have HK : Hid (∀ b off, a = some ⟨b, off, none⟩ → B ≤ b) := fun b off e => hg.block b (by rw [e]; rfl)
  clear hs hg
  go_enter Try.func44, Try.ntmps44
  go_wp2_with fail
  go_ret2
  exact ⟨_, rfl, ⟨hf, h, hB, a, cap, Va.new w _ _, hc, HL.out.after ((Below.refl _ _).alloc (Nat.le_refl _) _), HA.out, HK.out⟩, (Below.refl _ _).alloc (Nat.le_refl _) _⟩
set_option maxHeartbeats 2000000 in
/-- Spans that may be, few of them: the set of their days. -/
theorem of_new (a : Option Addr) (len cap : Nat) (ps : List Pr) (w : World) (h : Ls w a len ps) (hm : ∀ p ∈ ps, May p) (hl : len ≤ 4096) :
    Calls Try.prog 15 #[.slice a len cap] w fun e w' => ∃ p cs, e = .returned (.tuple #[.pointer (some ⟨p, 0, none⟩), .int .i64 0]) ∧ StF w' w.heap.size p cs ∧ Hid (∀ d, inS cs d ↔ inS ps d) ∧ Below w.heap.size w w' := by
  have HM : Hid (∀ p ∈ ps, May p) := hm
  have HL : Hid (Ls w a len ps) := h
  have hlz : ¬ ((4096 : Int) < len) := by omega
  clear hm h
  go_enter Try.func15, Try.ntmps15
  go_wp2_with fail
  go_loopw [12] (fun i wr => ∃ k : Nat, k ≤ len ∧ i = .int .i64 (k : Int) ∧ Below w.heap.size w wr) (fun i _ => len - (intOf i).toNat)
  case atStart => exact ⟨0, Nat.zero_le _, rfl, Below.refl _ _⟩
  case round =>
    obtain ⟨k, hk, rfl, hB⟩ := hrel
    by_cases hlt : k < len
    · have hkz : (k : Int) < len := by omega
      obtain ⟨b, off, rfl, hc⟩ := (HL.out.after hB).2 (by omega)
      have c0 := (hc k hlt).1
      have c1 := (hc k hlt).2
      have hck := fun W => check_any (ps.getD k (0, 0)).1 (ps.getD k (0, 0)).2 W
      rw [show chk ((ps.getD k (0, 0)).1, (ps.getD k (0, 0)).2) = 0 from chk_ok (HM.out _ (by
        rw [List.getD_eq_getElem?_getD, List.getElem?_eq_getElem (by have := HL.out.1; omega)]
        exact List.getElem_mem _))] at hck
      generalize (ps.getD k (0, 0)).1 = x0 at *
      generalize (ps.getD k (0, 0)).2 = x1 at *
      have hs := hB.size
      clear hc
      go_wp2_with (go_at_call 12; refine (hck _).mono ?_; rintro e w' ⟨rfl, rfl⟩)
      exact ⟨⟨k + 1, by omega, by go_num, (hB.alloc hs _).alloc (by simp; omega) _⟩, by simp [intOf]; omega⟩
    · have hkz : ¬ (k : Int) < len := by omega
      have hcl := clone_any a len cap ps wr (HL.out.after hB) (by omega)
      go_wp2_with (go_at_call 46; refine hcl.mono ?_; rintro e w2 ⟨v, rfl, hg, hb2⟩)
      have hpl : ps.length ≤ 4096 := by have := HL.out.1; omega
      refine (fewest_any wr.heap.size v ps w2 hg HM.out (by omega) hb2.size).mono ?_
      rintro e w3 ⟨v3, cs, rfl, hg3, hfw, hb3, -⟩
      have hcs : cs.length ≤ 4096 := Nat.le_trans hfw.out.2.2 hpl
      have HB : Hid (Below w.heap.size w w3) := (hB.trans (hb2.mono hB.size)).trans (hb3 w.heap.size hB.size)
      have HF : Hid (∀ d, inS cs d ↔ inS ps d) := hfw.out.2.1
      have hso := setOf_new wr.heap.size v3 cs w3 hg3 hfw.out.1 hcs (by have h1 := hb2.size; have h2 := (hb3 w.heap.size hB.size).size; first | omega | exact hSZ w3)
      obtain ⟨av, cv, rfl, -, -, -⟩ := hg3.shape
      clear hg hg3 hb2 hb3 hcl hfw
      go_wp2_with fail
      refine hso.mono ?_
      rintro e w4 ⟨p, rfl, hst, hb4⟩
      go_wp2_with fail
      go_ret2
      exact ⟨p, cs, rfl, hst.le hB.size, HF, step HB.out hb4⟩
/-- What is wrong of a list of spans. -/
noncomputable def ofE (ps : List Pr) : Int := if 4096 < ps.length then 3 else 110
set_option maxHeartbeats 2000000 in
theorem of_bad (a : Option Addr) (len cap : Nat) (ps : List Pr) (w : World) (h : Ls w a len ps) (hl : len ≤ 9000000000000) (hn : ¬ Tks ps) :
    Calls Try.prog 15 #[.slice a len cap] w fun e w' => e = .returned (.tuple #[.pointer none, .int .i64 (ofE ps)]) ∧ Below w.heap.size w w' := by
  obtain rfl := h.1
  have HL : Hid (Ls w a ps.length ps) := h
  clear h
  by_cases h5 : 4096 < ps.length
  · have h5z : (4096 : Int) < ps.length := by omega
    have HE : Hid (ofE ps = 3) := by show _ = _; unfold ofE; rw [if_pos h5]
    go_enter Try.func15, Try.ntmps15
    go_wp2_with fail
    go_ret2
    exact ⟨by rw [HE.out]; rfl, Below.refl _ _⟩
  · have h5z : ¬ (4096 : Int) < ps.length := by omega
    have HE : Hid (ofE ps = 110) := by show _ = _; unfold ofE; rw [if_neg h5]
    have HNM : Hid (¬ ∀ j, j < ps.length → May (ps.getD j (0, 0))) := fun hall => hn ⟨by omega, fun p hp => by
      obtain ⟨i, hi, rfl⟩ := List.mem_iff_getElem.1 hp
      have := hall i hi
      rwa [List.getD_eq_getElem?_getD, List.getElem?_eq_getElem hi] at this⟩
    clear hn
    go_enter Try.func15, Try.ntmps15
    go_wp2_with fail
    go_loopw [12] (fun i wr => ∃ k : Nat, k ≤ ps.length ∧ i = .int .i64 (k : Int) ∧ Below w.heap.size w wr ∧ Hid (∀ j, j < k → May (ps.getD j (0, 0)))) (fun i _ => ps.length - (intOf i).toNat)
    case atStart => exact ⟨0, Nat.zero_le _, rfl, Below.refl _ _, fun j hj => absurd hj (Nat.not_lt_zero _)⟩
    case round =>
      obtain ⟨k, hk, rfl, hB, hI⟩ := hrel
      have hs := hB.size
      by_cases hlt : k < ps.length
      · have hkz : (k : Int) < ps.length := by omega
        obtain ⟨b, off, rfl, hc⟩ := (HL.out.after hB).2 (by omega)
        have c0 := (hc k hlt).1
        have c1 := (hc k hlt).2
        have hck := fun W => check_any (ps.getD k (0, 0)).1 (ps.getD k (0, 0)).2 W
        by_cases hm : May (ps.getD k (0, 0))
        · rw [show chk ((ps.getD k (0, 0)).1, (ps.getD k (0, 0)).2) = 0 from chk_ok hm] at hck
          have HI : Hid (∀ j, j < k + 1 → May (ps.getD j (0, 0))) := fun j hj => by
            by_cases h' : j = k
            · rw [h']; exact hm
            · exact hI.out j (by omega)
          clear hc hI hm
          generalize (ps.getD k (0, 0)).1 = x0 at *
          generalize (ps.getD k (0, 0)).2 = x1 at *
          go_wp2_with (go_at_call 12; refine (hck _).mono ?_; rintro e w' ⟨rfl, rfl⟩)
          exact ⟨⟨k + 1, by omega, by go_num, (hB.alloc hs _).alloc (by simp; omega) _, HI⟩, by simp [intOf]; omega⟩
        · rw [show chk ((ps.getD k (0, 0)).1, (ps.getD k (0, 0)).2) = 110 from chk_no hm] at hck
          clear hc hI hm
          generalize (ps.getD k (0, 0)).1 = x0 at *
          generalize (ps.getD k (0, 0)).2 = x1 at *
          go_wp2_with (go_at_call 12; refine (hck _).mono ?_; rintro e w' ⟨rfl, rfl⟩)
          go_ret2
          exact ⟨by rw [HE.out]; rfl, (hB.alloc hs _).alloc (by simp; omega) _⟩
      · exact absurd (fun j hj => hI.out j (by omega)) HNM.out
set_option maxHeartbeats 2000000 in
theorem rof_bad (a : Option Addr) (len cap : Nat) (ps : List Pr) (w : World) (h : Ls w a len ps) (hl : len ≤ 9000000000000) (hn : ¬ Tks ps) :
    Calls Try.prog 16 #[.slice a len cap] w fun e w' => e = .returned (.tuple #[.slice none 0 0, .int .i64 (ofE ps)]) ∧ Below w.heap.size w w' := by
  obtain rfl := h.1
  have HL : Hid (Ls w a ps.length ps) := h
  clear h
  by_cases h5 : 4096 < ps.length
  · have h5z : (4096 : Int) < ps.length := by omega
    have HE : Hid (ofE ps = 3) := by show _ = _; unfold ofE; rw [if_pos h5]
    go_enter Try.func16, Try.ntmps16
    go_wp2_with fail
    go_ret2
    exact ⟨by rw [HE.out]; rfl, Below.refl _ _⟩
  · have h5z : ¬ (4096 : Int) < ps.length := by omega
    have HE : Hid (ofE ps = 110) := by show _ = _; unfold ofE; rw [if_neg h5]
    have HNM : Hid (¬ ∀ j, j < ps.length → May (ps.getD j (0, 0))) := fun hall => hn ⟨by omega, fun p hp => by
      obtain ⟨i, hi, rfl⟩ := List.mem_iff_getElem.1 hp
      have := hall i hi
      rwa [List.getD_eq_getElem?_getD, List.getElem?_eq_getElem hi] at this⟩
    clear hn
    go_enter Try.func16, Try.ntmps16
    go_wp2_with fail
    go_loopw [4] (fun i wr => ∃ k : Nat, k ≤ ps.length ∧ i = .int .i64 (k : Int) ∧ Below w.heap.size w wr ∧ Hid (∀ j, j < k → May (ps.getD j (0, 0)))) (fun i _ => ps.length - (intOf i).toNat)
    case atStart => exact ⟨0, Nat.zero_le _, rfl, Below.refl _ _, fun j hj => absurd hj (Nat.not_lt_zero _)⟩
    case round =>
      obtain ⟨k, hk, rfl, hB, hI⟩ := hrel
      have hs := hB.size
      by_cases hlt : k < ps.length
      · have hkz : (k : Int) < ps.length := by omega
        obtain ⟨b, off, rfl, hc⟩ := (HL.out.after hB).2 (by omega)
        have c0 := (hc k hlt).1
        have c1 := (hc k hlt).2
        have hck := fun W => rmay_any (ps.getD k (0, 0)).1 (ps.getD k (0, 0)).2 W
        by_cases hm : May (ps.getD k (0, 0))
        · rw [show mayB ((ps.getD k (0, 0)).1, (ps.getD k (0, 0)).2) = true from mayB_true hm] at hck
          have HI : Hid (∀ j, j < k + 1 → May (ps.getD j (0, 0))) := fun j hj => by
            by_cases h' : j = k
            · rw [h']; exact hm
            · exact hI.out j (by omega)
          clear hc hI hm
          generalize (ps.getD k (0, 0)).1 = x0 at *
          generalize (ps.getD k (0, 0)).2 = x1 at *
          go_wp2_with (go_at_call 42; refine (hck _).mono ?_; rintro e w' ⟨rfl, rfl⟩)
          exact ⟨⟨k + 1, by omega, by go_num, hB.alloc hs _, HI⟩, by simp [intOf]; omega⟩
        · rw [show mayB ((ps.getD k (0, 0)).1, (ps.getD k (0, 0)).2) = false from mayB_false hm] at hck
          clear hc hI hm
          generalize (ps.getD k (0, 0)).1 = x0 at *
          generalize (ps.getD k (0, 0)).2 = x1 at *
          go_wp2_with (go_at_call 42; refine (hck _).mono ?_; rintro e w' ⟨rfl, rfl⟩)
          go_ret2
          exact ⟨by rw [HE.out]; rfl, hB.alloc hs _⟩
      · exact absurd (fun j hj => hI.out j (by omega)) HNM.out
end Go.Proofs.Ytiabjlaganmloaa
