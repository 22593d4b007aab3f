/-
  juris: lists of ints held one against the other, copied; Pick; few; awake.
-/
import Derived.Test.YtfmbloagmeodeaaJu8
import Derived.Test.YtfmbloagmeodeaaJuF
namespace Go.Proofs.Ytfmbloagmeodeaa
open Go.RowKit Go.Shelf
set_option linter.unusedVariables false

theorem nameR (w : World) (n : Nat) {Q : World → Prop} (h : ∀ W, (∀ a, W.cell? a = w.cell? a) → Below w.heap.size w W → W.heap.size = w.heap.size → Q W) : Q (w.drewN n) :=
  h _ (fun _ => rfl) (below_drewN (Below.refl _ _) n) rfl
set_option maxHeartbeats 2000000 in
theorem sameInts_eq (l : List Int) (a1 : Option Addr) (c1 : Nat) (a2 : Option Addr) (c2 : Nat) (w : World) (h1 : Li w a1 l.length l) (h2 : Li w a2 l.length l) (hl : l.length ≤ 1000000000000) :
    Calls Try.prog 11 #[.slice a1 l.length c1, .slice a2 l.length c2] w fun e w' => e = .returned (.bool true) ∧ Below w.heap.size w w' := by
  have H1 : Hid (Li w a1 l.length l) := h1
  have H2 : Hid (Li w a2 l.length l) := h2
  clear h1 h2
  go_enter Try.func11, Try.ntmps11
  go_wp2_with fail
  go_loopw [5] (fun j wr => ∃ i : Nat, j = .int .i64 i ∧ i ≤ l.length ∧ Hid (Below w.heap.size w wr)) (fun j _ => (l.length - (intOf j).toNat : Nat))
  case atStart => exact ⟨0, rfl, Nat.zero_le _, Below.refl _ _⟩
  case round =>
    obtain ⟨i, rfl, hi, HB⟩ := hrel
    rcases Nat.lt_or_ge i l.length with hlt | hge
    · have hii : (i : Int) < l.length := by omega
      obtain ⟨b1, o1, rfl, k1⟩ := (H1.out.after HB.out).at hlt
      obtain ⟨b2, o2, rfl, k2⟩ := (H2.out.after HB.out).at hlt
      generalize l.getD i (-1) = x at *
      go_wp2_with fail
      go_quiet (fail)
      refine nameR wr _ (Q := fun W => Exit.then _ _ _ _ W) (fun wq hcell hBw hsq => ?_)
      have HBq : Hid (Below w.heap.size w wq) := step HB.out hBw
      clear hcell hBw hsq HB k1 k2
      go_wp2_with fail
      go_roundw
      case rel => exact ⟨i + 1, rfl, by omega, HBq.out⟩
      case measure => simp [intOf]; omega
    · obtain rfl : i = l.length := by omega
      clear hge hi
      go_wp2_with fail
      go_ret
      exact ⟨rfl, HB.out⟩
set_option maxHeartbeats 1000000 in
theorem copy_int (a : Option Addr) (cap : Nat) (ps : List Int) (w : World) (h : Li w a ps.length ps) (hn : a = none → cap = 0) (hl : ps.length ≤ 1000000000000) :
    Calls Try.prog 31 #[.slice a ps.length cap] w fun e w' => (∃ v, e = .returned v ∧ Ge elI w' w.heap.size v ps) ∧ Below w.heap.size w w' := by
  cases a with
  | none =>
    have h0 : ps.length = 0 := by
      rcases Nat.eq_zero_or_pos ps.length with h' | h'
      · exact h'
      · obtain ⟨b, off, e, -⟩ := h.2 h'; cases e
    have hp : ps = [] := List.length_eq_zero_iff.1 h0
    obtain rfl := hn rfl
    subst hp
    clear h0 hn
    simp only [List.length_nil] at *
    go_enter Try.func31, Try.ntmps31
    go_wp2_with fail
    go_ret
    exact ⟨⟨_, rfl, Ge.nil _ _⟩, Below.refl _ _⟩
  | some ad =>
    have HC : Hid (∀ j u, (rowE elI ps)[j]? = some u → w.cell? (ad.add j) = some u) := fun j u hj => by
      have h0 : 0 < ps.length := by
        rcases ps with _ | ⟨y, ys⟩
        · simp [rowE] at hj
        · simp
      obtain ⟨b, off, e, hc⟩ := h.le.2 h0
      cases e
      rw [Addr.add_lit]
      exact hc j u hj
    obtain ⟨i0, hi, hz0, hz1, hz2⟩ := info_parts infoI
    have HR : Hid ((rowE elI ps).length = ps.length) := by
      show _ = _
      rw [rowE_length]; exact Nat.mul_one _
    have HG0 : Hid (w.ownsRow w.heap.size 3 1 (.slice none 0 0) 0 []) := Ge.nil (E := elI) w w.heap.size
    clear h hn
    generalize hlen : ps.length = len at *
    have HP : Hid (ps.length = len) := hlen
    clear hlen
    go_enter Try.func31, Try.ntmps31
    go_wp2_with (at_builtin; refine wpList_append_own _ rfl _ _ 22 rfl w.heap.size 3 i0 (.int .i64 0) 1 8 Try.underlying22 hi hz0 hz1 hz2 rfl (by decide) _ _ _ rfl HG0.out ad len cap (rowE elI ps) rfl (by rw [HR.out]; simp) (fun j u hj => HC.out j u hj) (rowE_one elI _) (by unfold maxLen; omega) (by omega) (by simp) ?_; intro v' w1 hown hgrow hnil)
    obtain ⟨a2, c2, rfl⟩ : ∃ a2 c2, v' = .slice a2 (0 + len) c2 := by
      rcases hown.2 with ⟨e, h'⟩ | ⟨g, cp, cur, e, -⟩
      · exact ⟨none, 0, by rw [e, h']⟩
      · exact ⟨_, cp, e⟩
    go_wp2_with fail
    go_ret
    refine ⟨⟨_, rfl, ?_⟩, (Below.refl _ w).grown hgrow (by simp) (by intro k hk; cases hk)⟩
    show World.ownsRow _ _ _ _ _ _ _
    rw [HP.out]
    have h9 : w1.ownsRow w.heap.size 3 1 (.slice a2 len c2) len (rowE elI ps) := by simpa using hown
    rw [Nat.zero_add]
    exact h9
theorem Li.take {w : World} {a : Option Addr} {ps : List Int} {n : Nat} (h : Li w a n ps) (k : Nat) (hk : k ≤ n) : Li w a k (ps.take k) := by
  refine ⟨by rw [List.length_take, h.1]; omega, fun h0 => ?_⟩
  obtain ⟨b, off, e, hc⟩ := h.2 (by omega)
  refine ⟨b, off, e, fun i hi => ?_⟩
  rw [hc i (by omega), List.getD_eq_getElem?_getD, List.getD_eq_getElem?_getD, List.getElem?_take_of_lt hi]
theorem pick_any (x : Int) (n : Int) (h1 : -9223372036854775808 ≤ x) (h2 : x ≤ 9223372036854775807) (hn : 1 ≤ n) (hn2 : n ≤ 1000000000) (w : World) :
    Calls Try.prog 28 #[.int .i64 x, .int .i64 n] w fun e w' => e = .returned (.int .i64 (x % n)) ∧ w' = w := by
  have g1 : ¬ (n < 1) := by omega
  have hd : ¬ (n = 0) := by omega
  have ht := Int.tmod_lt_of_pos x (show 0 < n by omega)
  have he : x % n = if x.tmod n < 0 then x.tmod n + n else x.tmod n := by
    rw [Int.tmod_eq_emod]
    have := Int.emod_nonneg x (show n ≠ 0 by omega)
    have := Int.emod_lt_of_pos x (show 0 < n by omega)
    grind
  have ht2 : - n ≤ x.tmod n := by
    have := Int.emod_nonneg x (show n ≠ 0 by omega)
    split at he <;> omega
  have w1 : IntKind.i64.wrap (x.tmod n) = x.tmod n := by rw [IntKind.wrap_i64]; omega
  by_cases hx : x.tmod n < 0
  · rw [if_pos hx] at he
    have w2 : IntKind.i64.wrap (x.tmod n + n) = x.tmod n + n := by rw [IntKind.wrap_i64]; omega
    have HE : Hid (x % n = x.tmod n + n) := he
    clear he
    go_enter Try.func28, Try.ntmps28
    go_wp2_with fail
    go_ret
    exact ⟨by rw [HE.out]; rfl, rfl⟩
  · rw [if_neg hx] at he
    have HE : Hid (x % n = x.tmod n) := he
    clear he
    go_enter Try.func28, Try.ntmps28
    go_wp2_with fail
    go_ret
    exact ⟨by rw [HE.out]; rfl, rfl⟩
/-- Are two faults one? -/
def fq (x0 x1 y0 y1 : Int) : Bool := decide (x0 = y0 ∧ x1 = y1)
theorem neF (x0 x1 y0 y1 : Int) (w : World) : Sem.run Try.prog (binOp .neq 57 (.agg #[.int .i64 x0, .int .i64 x1]) (.agg #[.int .i64 y0, .int .i64 y1])) w = .ok (.bool (!fq x0 x1 y0 y1)) w := by
  have u3 := Try.underlying3
  have a3 := Try.isAgg3
  have z3 := Try.sizeOf3
  have u4 := Try.underlying36
  have a4 := Try.isAgg36
  have z4 := Try.sizeOf36
  have hS : Try.prog.underlying 57 = some (.struct (Try.prog.fieldsOf 57)) := by kernel_rfl
  have hp : Try.prog.stoodInHeld 57 = false := by kernel_rfl
  rw [run_neq_struct, show (10000 : Nat) = 9999 + 1 from rfl, run_equalIn_agg w 9999 57 _ _ hS hp]
  simp only [Program.fieldsOf, Try.underlying57]
  go_simp
  by_cases h1 : x0 = y0 <;> by_cases h2 : x1 = y1 <;> simp [h1, h2, fq]
theorem fq_ne {x y : Int} (h : ¬ (x = 0 ∧ y = 0)) : fq x y 0 0 = false := decide_eq_false h
/-- What few answers. -/
def FewR (w' : World) (qs : List Int) (q : Option Addr) (n : Int) : Prop :=
  (¬ Tre qs ∧ q = none ∧ n = 0) ∨ (Tre qs ∧ n = qs.length ∧ ∃ p a cap, q = some ⟨p, 0, none⟩ ∧ Tv w' q a qs.length cap qs true)
theorem NewR.few {w' : World} {qs : List Int} {q : Option Addr} {er pl : Int} (hl : qs.length ≤ 300) (h : NewR w' qs q er pl) : (¬ Tre qs ∧ q = none ∧ fq er pl 0 0 = false) ∨ (Tre qs ∧ fq er pl 0 0 = true ∧ ∃ p a cap, q = some ⟨p, 0, none⟩ ∧ Tv w' q a qs.length cap qs true) := by
  rcases h with ⟨h1, -⟩ | ⟨-, i, hi, hb, -, rfl, rfl, rfl⟩ | ⟨-, hO, i, hi, hr, -, rfl, rfl, rfl⟩ | ⟨-, hT, rfl, rfl, h2⟩
  · omega
  · refine .inl ⟨fun hT => ?_, rfl, fq_ne (by omega)⟩
    have := hT.1 i (qs.getD i (-1)) (by rw [List.getD_eq_getElem?_getD, List.getElem?_eq_getElem hi]; rfl)
    exact absurd this (by have := hb.1; have := hb.2; omega)
  · exact .inl ⟨fun hT => hT.2 i hi hr, rfl, fq_ne (by omega)⟩
  · exact .inr ⟨hT, by simp [fq], h2⟩
set_option maxHeartbeats 4000000 in
theorem few_any (ps : List Int) (a : Option Addr) (cap : Nat) (w : World) (hL : Li w a ps.length ps) (hc : ps.length ≤ cap) (hn : a = none → cap = 0) (hl : cap ≤ 17592186043904) :
    Calls Try.prog 27 #[.slice a ps.length cap, .int .i64 300] w fun e w' => (∃ q n, e = .returned (.tuple #[.pointer q, .int .i64 n]) ∧ FewR w' (ps.take 300) q n) ∧ Below w.heap.size w w' := by
  have nf := neF
  have HL : Hid (Li w a ps.length ps) := hL
  by_cases h3 : (300 : Int) < ps.length
  · have hC := copy_int a cap (ps.take 300) w (by have := hL.take 300 (by omega); rwa [show (ps.take 300).length = 300 by rw [List.length_take]; omega]) hn (by rw [List.length_take]; omega)
    rw [show (ps.take 300).length = 300 by rw [List.length_take]; omega] at hC
    have hq3 : (ps.take 300).length = 300 := by rw [List.length_take]; omega
    generalize ps.take 300 = qs at *
    have hci : (300 : Int) ≤ cap := by omega
    have hN := fun (a : Option Addr) (cap : Nat) (w : World) (h : Li w a qs.length qs) => new_any qs a cap w h (by omega)
    rw [hq3] at hN
    have HN : Hid _ := hN
    clear hL hn hN
    go_enter Try.func27, Try.ntmps27
    go_wp2_with (first
      | (go_at_call 31; refine hC.mono ?_; rintro e w1 ⟨⟨v, rfl, hG⟩, hb1⟩; obtain ⟨a1, c1, rfl, hL1⟩ := hG.sl; rw [hq3] at hL1 ⊢; have HL1 : Hid (Li w1 a1 300 qs) := hL1; have HB1 : Hid (Below w.heap.size w w1) := hb1; clear hL1 hb1 hG)
      | (go_at_call 30; refine (HN.out a1 c1 w1 HL1.out).mono ?_; rintro e w2 ⟨⟨q, er, pl, rfl, hR⟩, hb2⟩; have HR : Hid (NewR w2 qs q er pl) := hR; have HB2 : Hid (Below w1.heap.size w1 w2) := hb2; clear hR hb2))
    · rename_i hf
      refine ent1 w2 _ _ (Q := fun W => bodyPost _ _ _ _ _ W) ?_
      intro W3 hB3 hs3 V3
      go_ret2
      refine ⟨⟨none, 0, rfl, ?_⟩, step (step HB1.out HB2.out) hB3⟩
      rcases HR.out.few (by omega) with ⟨hT, rfl, -⟩ | ⟨hT, hf', -⟩
      · exact .inl ⟨hT, rfl, rfl⟩
      · rw [hf'] at hf; cases hf
    · rename_i hf
      refine ent1 w2 _ _ (Q := fun W => bodyPost _ _ _ _ _ W) ?_
      intro W3 hB3 hs3 V3
      go_ret2
      refine ⟨⟨_, _, rfl, ?_⟩, step (step HB1.out HB2.out) hB3⟩
      rcases HR.out.few (by omega) with ⟨hT, rfl, hf'⟩ | ⟨hT, hf', p, a3, c3, rfl, hv⟩
      · rw [hf'] at hf; cases hf
      · exact .inr ⟨hT, by rw [hq3]; rfl, p, a3, c3, rfl, hv.after hB3⟩
  · have hC := copy_int a cap ps w hL hn (by omega)
    rw [show ps.take 300 = ps from List.take_of_length_le (by omega)]
    obtain ⟨qs, hqs⟩ : ∃ qs, qs = ps := ⟨_, rfl⟩
    have hq3 : qs.length = ps.length := by rw [hqs]
    rw [← hqs]
    have hN := fun (a : Option Addr) (cap : Nat) (w : World) (h : Li w a qs.length qs) => new_any qs a cap w h (by omega)
    rw [← hqs] at hC
    have HN : Hid _ := hN
    clear hL hn hN
    subst hqs
    go_enter Try.func27, Try.ntmps27
    go_wp2_with (first
      | (go_at_call 31; refine hC.mono ?_; rintro e w1 ⟨⟨v, rfl, hG⟩, hb1⟩; obtain ⟨a1, c1, rfl, hL1⟩ := hG.sl; have HL1 : Hid (Li w1 a1 qs.length qs) := hL1; have HB1 : Hid (Below w.heap.size w w1) := hb1; clear hL1 hb1 hG)
      | (go_at_call 30; refine (HN.out a1 c1 w1 HL1.out).mono ?_; rintro e w2 ⟨⟨q, er, pl, rfl, hR⟩, hb2⟩; have HR : Hid (NewR w2 qs q er pl) := hR; have HB2 : Hid (Below w1.heap.size w1 w2) := hb2; clear hR hb2))
    · rename_i hf
      refine ent1 w2 _ _ (Q := fun W => bodyPost _ _ _ _ _ W) ?_
      intro W3 hB3 hs3 V3
      go_ret2
      refine ⟨⟨none, 0, rfl, ?_⟩, step (step HB1.out HB2.out) hB3⟩
      rcases HR.out.few (by omega) with ⟨hT, rfl, -⟩ | ⟨hT, hf', -⟩
      · exact .inl ⟨hT, rfl, rfl⟩
      · rw [hf'] at hf; cases hf
    · rename_i hf
      refine ent1 w2 _ _ (Q := fun W => bodyPost _ _ _ _ _ W) ?_
      intro W3 hB3 hs3 V3
      go_ret2
      refine ⟨⟨_, _, rfl, ?_⟩, step (step HB1.out HB2.out) hB3⟩
      rcases HR.out.few (by omega) with ⟨hT, rfl, hf'⟩ | ⟨hT, hf', p, a3, c3, rfl, hv⟩
      · rw [hf'] at hf; cases hf
      · exact .inr ⟨hT, rfl, p, a3, c3, rfl, hv.after hB3⟩
end Go.Proofs.Ytfmbloagmeodeaa
