/-
  juris: awake.
-/
import Derived.Test.YtfmbloagmeodeaaJu9
namespace Go.Proofs.Ytfmbloagmeodeaa
open Go.RowKit Go.Shelf
set_option linter.unusedVariables false

/-- The chapter's tree. -/
def exL : List Int := [-1, 0, 0, 1, -1, 3]
theorem va_li {w : World} {b : Nat} {ps : List Int} {cs : Array Value} (h : Va w b 3 cs) (hc : cs.toList = ps.map (Value.int .i64)) : Li w (some ⟨b, 0, none⟩) ps.length ps := by
  refine ⟨rfl, fun _ => ⟨b, 0, rfl, fun i hi => ?_⟩⟩
  rw [Nat.zero_add, Va.cellAt h i, ← Array.getElem?_toList, hc, List.getElem?_map, List.getD_eq_getElem?_getD, List.getElem?_eq_getElem hi]
  rfl
theorem example_any (w : World) : Calls Try.prog 32 #[] w fun e w' => (∃ a, e = .returned (.slice a 6 6) ∧ Li w' a 6 exL) ∧ Below w.heap.size w w' := by
  go_enter Try.func32, Try.ntmps32
  go_wp2_with fail
  refine ent1 w _ _ (Q := fun W => bodyPost _ _ _ _ _ W) ?_
  intro W0 hB0 hs0 V0
  go_ret
  exact ⟨⟨_, rfl, va_li (ps := exL) V0 rfl⟩, hB0⟩
theorem okp_dec (ps : List Int) (h : ∀ i, i < ps.length → ps.getD i (-1) = -1 ∨ (0 ≤ ps.getD i (-1) ∧ ps.getD i (-1) < (ps.length : Int))) : Okp ps := by
  intro i k hk
  have hi : i < ps.length := by
    rcases Nat.lt_or_ge i ps.length with h' | h'
    · exact h'
    · rw [List.getElem?_eq_none h'] at hk; cases hk
  have e : ps.getD i (-1) = k := by rw [List.getD_eq_getElem?_getD, hk]; rfl
  have := h i hi
  rwa [e] at this
theorem ex_ok : Okp exL := okp_dec _ (by decide)
theorem ex_tre : Tre exL := (tre_iff ex_ok).2 (by decide)
theorem rg_ok : Okp [1, 2, 1] := okp_dec _ (by decide)
theorem rg1 : Rg [1, 2, 1] 1 := ⟨2, by omega, by decide⟩
theorem rg0 : ¬ Rg [1, 2, 1] 0 := fun h => by
  obtain ⟨j, h1, h2, e⟩ := rg_few rg_ok (by decide) h
  have : j = 1 ∨ j = 2 ∨ j = 3 := by have : j ≤ 3 := h2; omega
  rcases this with rfl | rfl | rfl <;> revert e <;> decide
theorem NewR.tre {w' : World} {qs : List Int} {q : Option Addr} {er pl : Int} (hl : qs.length ≤ 4096) (hT : Tre qs) (h : NewR w' qs q er pl) : er = 0 ∧ pl = 0 ∧ ∃ p a cap, q = some ⟨p, 0, none⟩ ∧ Tv w' q a qs.length cap qs true := by
  rcases h with ⟨h1, -⟩ | ⟨-, i, hi, hb, -, rfl, rfl, rfl⟩ | ⟨-, hO, i, hi, hr, -, rfl, rfl, rfl⟩ | ⟨-, hT, rfl, rfl, h2⟩
  · omega
  · exfalso
    have := hT.1 i (qs.getD i (-1)) (by rw [List.getD_eq_getElem?_getD, List.getElem?_eq_getElem hi]; rfl)
    exact absurd this (by have := hb.1; have := hb.2; omega)
  · exact absurd hr (hT.2 i hi)
  · exact ⟨rfl, rfl, h2⟩
theorem new_ring {w' : World} {q : Option Addr} {er pl : Int} (h : NewR w' [1, 2, 1] q er pl) : q = none ∧ er = 171 ∧ pl = 1 := by
  rcases h with ⟨h1, -⟩ | ⟨-, i, hi, hb, -, rfl, rfl, rfl⟩ | ⟨-, hO, i, hi, hr, hm, rfl, rfl, rfl⟩ | ⟨-, hT, rfl, rfl, h2⟩
  · simp at h1
  · exfalso
    have := rg_ok i (([1, 2, 1] : List Int).getD i (-1)) (by rw [List.getD_eq_getElem?_getD, List.getElem?_eq_getElem hi]; rfl)
    exact absurd this (by have := hb.1; have := hb.2; omega)
  · refine ⟨rfl, rfl, ?_⟩
    have h0 : i ≠ 0 := fun e => rg0 (by rw [← e]; exact hr)
    have h1 : ¬ 1 < i := fun e => hm 1 e rg1
    have : i = 1 := by omega
    rw [this]; rfl
  · exact absurd rg1 (hT.2 1 (by decide))
theorem meet_ex {m : Int} {ok : Bool} (h : MeR (pthZ exL 5) (pthZ exL 2) m ok) : m = 0 ∧ ok = true := by
  rw [show pthZ exL 5 = [5, 3, 1, 0] by decide, show pthZ exL 2 = [2, 0] by decide] at h
  rcases h with ⟨rfl, rfl, h1⟩ | ⟨rfl, pre, x, rfl, h2, h3, h4⟩
  · exact absurd (h1 0 (by decide)) (by decide)
  · refine ⟨?_, rfl⟩
    obtain ⟨t, ht⟩ := h2
    match pre, ht with
    | [], ht => simp at ht; obtain ⟨rfl, -⟩ := ht; exact absurd h3 (by decide)
    | [a], ht => simp at ht; obtain ⟨rfl, rfl, -⟩ := ht; rfl
    | a :: b :: c, ht =>
      exfalso
      have := congrArg List.length ht
      simp at this
theorem meet_exw {w : World} {q a : Option Addr} {cap : Nat} (h : Tv w q a 6 cap exL true) : Calls Try.prog 21 #[.pointer q, .int .i64 5, .int .i64 2] w fun e w' => e = .returned (.tuple #[.int .i64 0, .bool true]) ∧ Below w.heap.size w w' := by
  refine (meet_any (ps := exL) h ex_tre (by decide) 5 2).mono ?_
  rintro e w' ⟨⟨m, ok, rfl, hm⟩, hb⟩
  obtain ⟨rfl, rfl⟩ := meet_ex hm
  exact ⟨rfl, hb⟩
theorem deep_exw {w : World} {q a : Option Addr} {cap : Nat} (h : Tv w q a 6 cap exL true) : Calls Try.prog 18 #[.pointer q, .int .i64 5] w fun e w' => e = .returned (.tuple #[.int .i64 3, .int .i64 0]) ∧ Below w.heap.size w w' := by
  have := deep_ok (ps := exL) h ex_tre (by decide) 5 (by decide)
  rw [show (((pthZ exL ((5 : Nat) : Int)).length : Int) - 1) = 3 by decide] at this
  exact this
theorem within_exw {w : World} {q a : Option Addr} {cap : Nat} (h : Tv w q a 6 cap exL true) : Calls Try.prog 22 #[.pointer q, .int .i64 5, .int .i64 1] w fun e w' => e = .returned (.bool true) ∧ Below w.heap.size w w' := by
  have := within_any (ps := exL) h ex_tre (by decide) 5 1
  rw [show wnB exL 5 1 = true by decide] at this
  exact this
theorem within_exv {w : World} {q a : Option Addr} {cap : Nat} (h : Tv w q a 6 cap exL true) : Calls Try.prog 22 #[.pointer q, .int .i64 1, .int .i64 5] w fun e w' => e = .returned (.bool false) ∧ Below w.heap.size w w' := by
  have := within_any (ps := exL) h ex_tre (by decide) 1 5
  rw [show wnB exL 1 5 = false by decide] at this
  exact this
theorem path_exw {w : World} {q a : Option Addr} {cap : Nat} (h : Tv w q a 6 cap exL true) : Calls Try.prog 24 #[.pointer q, .int .i64 5, .int .i64 9] w fun e w' => (∃ a' c', e = .returned (.slice a' 4 c') ∧ Li w' a' 4 [5, 3, 1, 0]) ∧ Below w.heap.size w w' := by
  have := lpath_any (ps := exL) h ex_tre (by decide) 5 9 (by decide)
  rw [show ints ((pthZ exL 5).take (9 : Int).toNat) = [5, 3, 1, 0] by decide] at this
  refine this.mono ?_
  rintro e w' ⟨⟨v, rfl, hG⟩, hb⟩
  obtain ⟨a', c', rfl, hL⟩ := hG.sl
  exact ⟨⟨a', c', rfl, hL⟩, hb⟩
set_option maxHeartbeats 8000000 in
theorem awake15 (w : World) : Calls Try.prog 9 #[] w fun e w' => e = .returned (.bool true) ∧ Below w.heap.size w w' := by
  have nf := neF
  have q1 : fq 0 0 0 0 = true := by decide
  have q2 : fq 171 1 171 1 = true := by decide
  go_enter Try.func9, Try.ntmps9
  go_wp2_with (first
    | (go_at_call 32; refine (example_any w).mono ?_; rintro e w1 ⟨⟨a1, rfl, hL1⟩, hb1⟩; have HL1 : Hid (Li w1 a1 6 exL) := hL1; have HB1 : Hid (Below w.heap.size w w1) := hb1; clear hL1 hb1)
    | (go_at_call 30; refine (new_any exL a1 6 w1 HL1.out (by decide)).mono ?_; rintro e w2 ⟨⟨q, er, pl, rfl, hR⟩, hb2⟩; obtain ⟨rfl, rfl, p, a2, c2, rfl, hT⟩ := hR.tre (by decide) ex_tre; have HT : Hid (Tv w2 (some ⟨p, 0, none⟩) a2 6 c2 exL true) := hT; have HB2 : Hid (Below w.heap.size w w2) := step HB1.out hb2; clear hT hb2 hR HL1 HB1)
    | (go_at_call 30; refine ent2 w2 _ _ _ _ (Q := fun W => Calls _ _ _ W _) ?_; intro W3 hB3 hs3 V3 V4; refine (new_any [1, 2, 1] _ 3 W3 (va_li (ps := [1, 2, 1]) V4 rfl) (by decide)).mono ?_; rintro e w4 ⟨⟨q, er, pl, rfl, hR⟩, hb4⟩; obtain ⟨rfl, rfl, rfl⟩ := new_ring hR; have d0 := (V3.after hb4).c0; have d1 := (V3.after hb4).c1; have hlt4 := (V3.after hb4).lt; have HT4 : Hid (Tv w4 (some ⟨p, 0, none⟩) a2 6 c2 exL true) := (HT.out.after hB3).after hb4; have HB4 : Hid (Below w.heap.size w w4) := step (step HB2.out hB3) hb4; clear hR hb4 hB3 hs3 V3 V4 HT HB2)
    | (go_at_call 21; refine ent1 w4 _ _ (Q := fun W => Calls _ _ _ W _) ?_; intro W5 hB5 hs5 V5; refine (meet_exw (HT4.out.after hB5)).mono ?_; rintro e w6 ⟨rfl, hb6⟩; have HT6 : Hid (Tv w6 (some ⟨p, 0, none⟩) a2 6 c2 exL true) := (HT4.out.after hB5).after hb6; have HB6 : Hid (Below w.heap.size w w6) := step (step HB4.out hB5) hb6; clear hb6 hB5 hs5 V5 HT4 HB4 d0 d1 hlt4)
    | (go_at_call 18; refine (deep_exw HT6.out).mono ?_; rintro e w7 ⟨rfl, hb7⟩; have HT7 : Hid (Tv w7 (some ⟨p, 0, none⟩) a2 6 c2 exL true) := HT6.out.after hb7; have HB7 : Hid (Below w.heap.size w w7) := step HB6.out hb7; clear hb7 HT6 HB6)
    | (go_at_call 22; refine (within_exw HT7.out).mono ?_; rintro e w8 ⟨rfl, hb8⟩; have HT8 : Hid (Tv w8 (some ⟨p, 0, none⟩) a2 6 c2 exL true) := HT7.out.after hb8; have HB8 : Hid (Below w.heap.size w w8) := step HB7.out hb8; clear hb8 HT7 HB7)
    | (go_at_call 22; refine (within_exv HT8.out).mono ?_; rintro e w9 ⟨rfl, hb9⟩; have HT9 : Hid (Tv w9 (some ⟨p, 0, none⟩) a2 6 c2 exL true) := HT8.out.after hb9; have HB9 : Hid (Below w.heap.size w w9) := step HB8.out hb9; clear hb9 HT8 HB8)
    | (go_at_call 24; refine (path_exw HT9.out).mono ?_; rintro e w10 ⟨⟨a3, c3, rfl, hL10⟩, hb10⟩; have HL10 : Hid (Li w10 a3 4 [5, 3, 1, 0]) := hL10; have HB10 : Hid (Below w.heap.size w w10) := step HB9.out hb10; clear hb10 HT9 HB9 hL10)
    | (go_at_call 11; refine ent1 w10 _ _ (Q := fun W => Calls _ _ _ W _) ?_; intro W11 hB11 hs11 V11; refine (sameInts_eq [5, 3, 1, 0] a3 c3 _ 4 W11 (HL10.out.after hB11) (va_li (ps := [5, 3, 1, 0]) V11 rfl) (by decide)).mono ?_; rintro e w12 ⟨rfl, hb12⟩; have HB12 : Hid (Below w.heap.size w w12) := step (step HB10.out hB11) hb12; clear hb12 HB10 HL10 hB11 hs11 V11))
  go_ret
  exact ⟨rfl, HB12.out⟩
end Go.Proofs.Ytfmbloagmeodeaa
