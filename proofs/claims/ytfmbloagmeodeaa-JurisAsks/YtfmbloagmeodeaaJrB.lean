/-
  juris: the document's New; the statements' tree.
-/
import Derived.Test.YtfmbloagmeodeaaJrA
namespace Go.Proofs.Ytfmbloagmeodeaa
open Go.RowKit Go.Shelf
set_option linter.unusedVariables false

set_option maxHeartbeats 1000000 in
theorem copy_big (a : Option Addr) (cap : Nat) (ps : List Int) (w : World) (h : Li w a ps.length ps) (hn : a = none → cap = 0) (hl : ps.length ≤ 17592186043904) :
    Calls Try.prog 31 #[.slice a ps.length cap] w fun e w' => (∃ v, e = .returned v ∧ Ge elI w' w.heap.size v ps) ∧ Below w.heap.size w w' := by
  cases a with
  | none =>
    have h0 : ps.length = 0 := by
      rcases Nat.eq_zero_or_pos ps.length with h' | h'
      · exact h'
      · obtain ⟨b, off, e, -⟩ := h.2 h'; cases e
    have hp : ps = [] := List.length_eq_zero_iff.1 h0
    obtain rfl := hn rfl
    subst hp
    clear h0 hn
    simp only [List.length_nil] at *
    go_enter Try.func31, Try.ntmps31
    go_wp2_with fail
    go_ret
    exact ⟨⟨_, rfl, Ge.nil _ _⟩, Below.refl _ _⟩
  | some ad =>
    have HC : Hid (∀ j u, (rowE elI ps)[j]? = some u → w.cell? (ad.add j) = some u) := fun j u hj => by
      have h0 : 0 < ps.length := by
        rcases ps with _ | ⟨y, ys⟩
        · simp [rowE] at hj
        · simp
      obtain ⟨b, off, e, hc⟩ := h.le.2 h0
      cases e
      rw [Addr.add_lit]
      exact hc j u hj
    obtain ⟨i0, hi, hz0, hz1, hz2⟩ := info_parts infoI
    have HR : Hid ((rowE elI ps).length = ps.length) := by
      show _ = _
      rw [rowE_length]; exact Nat.mul_one _
    have HG0 : Hid (w.ownsRow w.heap.size 3 1 (.slice none 0 0) 0 []) := Ge.nil (E := elI) w w.heap.size
    clear h hn
    generalize hlen : ps.length = len at *
    have HP : Hid (ps.length = len) := hlen
    clear hlen
    go_enter Try.func31, Try.ntmps31
    go_wp2_with (at_builtin; refine wpList_append_own _ rfl _ _ 22 rfl w.heap.size 3 i0 (.int .i64 0) 1 8 Try.underlying22 hi hz0 hz1 hz2 rfl (by decide) _ _ _ rfl HG0.out ad len cap (rowE elI ps) rfl (by rw [HR.out]; simp) (fun j u hj => HC.out j u hj) (rowE_one elI _) (by unfold maxLen; omega) (by omega) (by simp) ?_; intro v' w1 hown hgrow hnil)
    obtain ⟨a2, c2, rfl⟩ : ∃ a2 c2, v' = .slice a2 (0 + len) c2 := by
      rcases hown.2 with ⟨e, h'⟩ | ⟨g, cp, cur, e, -⟩
      · exact ⟨none, 0, by rw [e, h']⟩
      · exact ⟨_, cp, e⟩
    go_wp2_with fail
    go_ret
    refine ⟨⟨_, rfl, ?_⟩, (Below.refl _ w).grown hgrow (by simp) (by intro k hk; cases hk)⟩
    show World.ownsRow _ _ _ _ _ _ _
    rw [HP.out]
    have h9 : w1.ownsRow w.heap.size 3 1 (.slice a2 len c2) len (rowE elI ps) := by simpa using hown
    rw [Nat.zero_add]
    exact h9
set_option maxHeartbeats 1000000 in
theorem new_long (ps : List Int) (a : Option Addr) (cap : Nat) (w : World) (hl : 4096 < ps.length) (hl2 : ps.length ≤ 17592186043904) :
    Calls Try.prog 30 #[.slice a ps.length cap] w fun e w' => e = .returned (.tuple #[.pointer none, .agg #[.int .i64 3, .int .i64 (-1)]]) ∧ Below w.heap.size w w' := by
  have hlong : (4096 : Int) < ps.length := by omega
  go_enter Try.func30, Try.ntmps30
  go_wp2_with fail
  refine ent1 w _ _ (Q := fun W => bodyPost _ _ _ _ _ W) ?_
  intro W0 hB0 hs0 V0
  refine bodyPost_ret (results_tf rfl rfl V0) rfl ?_
  exact ⟨rfl, hB0⟩
/-- What is said of a list of parents: which error, and where. -/
def NewQ (ps : List Int) (er pl : Int) : Prop :=
  (4096 < ps.length ∧ er = 3 ∧ pl = -1) ∨
  (ps.length ≤ 4096 ∧ ∃ i : Nat, i < ps.length ∧ Bd ps i ∧ (∀ k, k < i → ¬ Bd ps k) ∧ er = 150 ∧ pl = i) ∨
  (ps.length ≤ 4096 ∧ Okp ps ∧ ∃ i : Nat, i < ps.length ∧ Rg ps i ∧ (∀ k, k < i → ¬ Rg ps k) ∧ er = 171 ∧ pl = i) ∨
  (ps.length ≤ 4096 ∧ Tre ps ∧ er = 0 ∧ pl = 0)
theorem bd_not {ps : List Int} {i : Nat} (hi : i < ps.length) (hb : Bd ps i) (hO : Okp ps) : False := by
  have := okp_in hO hi
  exact absurd this (by have := hb.1; have := hb.2; omega)
theorem NewQ.unique {ps : List Int} {er pl er' pl' : Int} (h : NewQ ps er pl) (g : NewQ ps er' pl') : er = er' ∧ pl = pl' := by
  rcases h with ⟨h1, rfl, rfl⟩ | ⟨h1, i, hi, hb, hm, rfl, rfl⟩ | ⟨h1, hO, i, hi, hr, hm, rfl, rfl⟩ | ⟨h1, hT, rfl, rfl⟩ <;>
  rcases g with ⟨g1, rfl, rfl⟩ | ⟨g1, j, hj, gb, gm, rfl, rfl⟩ | ⟨g1, gO, j, hj, gr, gm, rfl, rfl⟩ | ⟨g1, gT, rfl, rfl⟩
  · exact ⟨rfl, rfl⟩
  · omega
  · omega
  · omega
  · omega
  · have h2 : ¬ i < j := fun h => gm i h hb
    have h3 : ¬ j < i := fun h => hm j h gb
    exact ⟨rfl, by omega⟩
  · exact (bd_not hi hb gO).elim
  · exact (bd_not hi hb gT.1).elim
  · omega
  · exact (bd_not hj gb hO).elim
  · have h2 : ¬ i < j := fun h => gm i h hr
    have h3 : ¬ j < i := fun h => hm j h gr
    exact ⟨rfl, by omega⟩
  · exact absurd hr (gT.2 i hi)
  · omega
  · exact (bd_not hj gb hT.1).elim
  · exact absurd gr (hT.2 j hj)
  · exact ⟨rfl, rfl⟩
/-- What New answers, with what is in memory. -/
def NewT (w' : World) (ps : List Int) (q : Option Addr) (er pl : Int) : Prop := NewQ ps er pl ∧ ((er ≠ 0 ∧ q = none) ∨ (er = 0 ∧ ps.length ≤ 4096 ∧ Tre ps ∧ ∃ p a cap, q = some ⟨p, 0, none⟩ ∧ Tv w' q a ps.length cap ps true))
theorem newt_any (ps : List Int) (a : Option Addr) (cap : Nat) (w : World) (hL : Li w a ps.length ps) (hl : ps.length ≤ 17592186043904) :
    Calls Try.prog 30 #[.slice a ps.length cap] w fun e w' => (∃ q er pl, e = .returned (.tuple #[.pointer q, .agg #[.int .i64 er, .int .i64 pl]]) ∧ NewT w' ps q er pl) ∧ Below w.heap.size w w' := by
  rcases Nat.lt_or_ge 4096 ps.length with h | h
  · refine (new_long ps a cap w h hl).mono ?_
    rintro e w' ⟨rfl, hb⟩
    exact ⟨⟨none, 3, -1, rfl, .inl ⟨h, rfl, rfl⟩, .inl ⟨by decide, rfl⟩⟩, hb⟩
  · refine (new_any ps a cap w hL (by omega)).mono ?_
    rintro e w' ⟨⟨q, er, pl, rfl, hR⟩, hb⟩
    refine ⟨⟨q, er, pl, rfl, ?_⟩, hb⟩
    rcases hR with ⟨h1, -⟩ | ⟨h1, i, hi, hbd, hm, rfl, rfl, rfl⟩ | ⟨h1, hO, i, hi, hr, hm, rfl, rfl, rfl⟩ | ⟨h1, hT, rfl, rfl, h2⟩
    · omega
    · exact ⟨.inr (.inl ⟨h1, i, hi, hbd, hm, rfl, rfl⟩), .inl ⟨by decide, rfl⟩⟩
    · exact ⟨.inr (.inr (.inl ⟨h1, hO, i, hi, hr, hm, rfl, rfl⟩)), .inl ⟨by decide, rfl⟩⟩
    · exact ⟨.inr (.inr (.inr ⟨h1, hT, rfl, rfl⟩)), .inr ⟨rfl, h1, hT, h2⟩⟩
set_option maxRecDepth 20000 in
set_option maxHeartbeats 4000000 in
theorem rnew_any (ps : List Int) (a : Option Addr) (cap : Nat) (w : World) (hL : Li w a ps.length ps) (hl : ps.length ≤ 17592186043904) :
    Calls Try.prog 29 #[.slice a ps.length cap] w fun e w' => (∃ er pl, e = .returned (.tuple #[.int .i64 er, .int .i64 pl]) ∧ NewQ ps er pl) ∧ Below w.heap.size w w' := by
  have HL : Hid (Li w a ps.length ps) := hL
  clear hL
  by_cases hlong : (4096 : Int) < ps.length
  · have HL2 : Hid (4096 < ps.length) := by show _ < _; omega
    go_enter Try.func29, Try.ntmps29
    go_wp2_with fail
    go_ret2
    exact ⟨⟨_, _, rfl, .inl ⟨HL2.out, rfl, rfl⟩⟩, Below.refl _ _⟩
  · have hl2 : ps.length ≤ 4096 := by omega
    have HL2 : Hid (ps.length ≤ 4096) := hl2
    have hI := fun i => rplace_any a ps.length cap i w
    go_enter Try.func29, Try.ntmps29
    go_wp2_with fail
    clear hlong
    go_loopw [4] (fun j wr => ∃ k : Nat, j = .int .i64 k ∧ k ≤ ps.length ∧ Hid (∀ i, i < k → ¬ Bd ps i) ∧ wr = w) (fun j _ => (ps.length - (intOf j).toNat : Nat))
    case atStart => exact ⟨0, rfl, Nat.zero_le _, fun i hi => absurd hi (Nat.not_lt_zero _), rfl⟩
    case round =>
      obtain ⟨k, rfl, hk, HA, hwr⟩ := hrel
      subst hwr
      rcases Nat.lt_or_ge k ps.length with hlt | hge
      · obtain ⟨b, off, rfl, hc⟩ := HL.out.at hlt
        have hki : (k : Int) < ps.length := by omega
        obtain ⟨x, hx⟩ : ∃ x, ps.getD k (-1) = x := ⟨_, rfl⟩
        rw [hx] at hc
        have hI1 := hI x
        have HBd : Hid (Bd ps k ↔ x ≠ -1 ∧ plB ps.length x = false) := by
          show _ ↔ _
          unfold Bd plB
          rw [hx]
          simp
        clear hx hI
        by_cases hn : x = -1
        · subst hn
          go_wp2_with fail
          go_roundw
          case rel => exact ⟨k + 1, rfl, by omega, fun i hi => by
            by_cases e : i = k
            · subst e; exact fun hb => (HBd.out.1 hb).1 rfl
            · exact HA.out i (by omega), by trivial⟩
          case measure => simp [intOf]; omega
        · cases hp : plB ps.length x with
          | true =>
            rw [hp] at hI1
            have HP : Hid (plB ps.length x = true) := hp
            clear hp
            go_wp2_with (go_at_call 37; refine hI1.mono ?_; rintro e w1 ⟨rfl, hw⟩; rw [hw]; clear hw w1)
            go_roundw
            case rel => exact ⟨k + 1, rfl, by omega, fun i hi => by
              by_cases e : i = k
              · subst e; exact fun hb => by have := (HBd.out.1 hb).2; rw [HP.out] at this; cases this
              · exact HA.out i (by omega), by trivial⟩
            case measure => simp [intOf]; omega
          | false =>
            rw [hp] at hI1
            have HP : Hid (plB ps.length x = false) := hp
            have HN : Hid (x ≠ -1) := hn
            clear hp
            go_wp2_with (go_at_call 37; refine hI1.mono ?_; rintro e w1 ⟨rfl, hw⟩; rw [hw]; clear hw w1)
            go_ret2
            exact ⟨⟨_, _, rfl, .inr (.inl ⟨HL2.out, k, hlt, HBd.out.2 ⟨HN.out, HP.out⟩, HA.out, rfl, rfl⟩)⟩, Below.refl _ _⟩
      · obtain rfl : k = ps.length := by omega
        clear hge hk hI
        have HO : Hid (Okp ps) := okp_of HA.out
        have hR := roots_any ps HO.out HL2.out a cap wr HL.out
        rcases tre_or HO.out with hT | hRg
        · rw [trB_true hT] at hR
          have HT : Hid (Tre ps) := hT
          clear hT
          go_wp2_with (go_at_call 41; refine hR.mono ?_; rintro e w1 ⟨rfl, hb1⟩; have HB1 : Hid (Below wr.heap.size wr w1) := hb1; clear hb1 hR)
          go_ret2
          exact ⟨⟨_, _, rfl, .inr (.inr (.inr ⟨HL2.out, HT.out, rfl, rfl⟩))⟩, HB1.out⟩
        · obtain ⟨m, hm, hrm, hmin⟩ := rg_least hRg
          rw [trB_false (fun hT => hT.2 m hm hrm)] at hR
          have HM : Hid (Rg ps m ∧ ∀ k, k < m → ¬ Rg ps k) := ⟨hrm, hmin⟩
          clear hRg hrm hmin
          go_wp2_with (go_at_call 41; refine hR.mono ?_; rintro e w1 ⟨rfl, hb1⟩; have HB1 : Hid (Below wr.heap.size wr w1) := hb1; clear hb1 hR)
          have HL1 : Hid (Li w1 a ps.length ps) := HL.out.after HB1.out
          have HBw : Hid (∃ w0 : World, w0 = w1) := ⟨_, rfl⟩
          go_loopw [5] (fun j wq => ∃ k : Nat, j = .int .i64 k ∧ k ≤ m ∧ wq = w1) (fun j _ => (ps.length - (intOf j).toNat : Nat))
          case atStart => exact ⟨0, rfl, Nat.zero_le _, rfl⟩
          case round =>
            obtain ⟨k, rfl, hk, hwq⟩ := hrel
            subst hwq
            have hkl : k < ps.length := by omega
            have hki : (k : Int) < ps.length := by omega
            have hRi := ring_any ps HO.out HL2.out a cap _ HL1.out k hkl
            rcases Nat.lt_or_ge k m with hlt | hge
            · rw [rnB_false (HM.out.2 k hlt)] at hRi
              go_wp2_with (go_at_call 42; refine hRi.mono ?_; rintro e w2 ⟨rfl, hw⟩; rw [hw]; clear hw w2)
              go_roundw
              case rel => exact ⟨k + 1, rfl, by omega, by trivial⟩
              case measure => simp [intOf]; omega
            · obtain rfl : k = m := by omega
              rw [rnB_true HM.out.1] at hRi
              go_wp2_with (go_at_call 42; refine hRi.mono ?_; rintro e w2 ⟨rfl, hw⟩; rw [hw]; clear hw w2)
              go_ret2
              exact ⟨⟨_, _, rfl, .inr (.inr (.inl ⟨HL2.out, HO.out, k, hkl, HM.out.1, HM.out.2, rfl, rfl⟩))⟩, HB1.out⟩
theorem Tv.live {w : World} {q a : Option Addr} {len cap : Nat} {ps : List Int} {m : Bool} (h : Tv w q a len cap ps m) {p : Nat} (e : q = Option.some ⟨p, 0, none⟩) : p < w.heap.size := by
  cases h with
  | nil => cases e
  | some p' _ _ _ _ V L => cases e; exact V.lt
/-- What tree answers. -/
def TreR (w' : World) (ps : List Int) (q : Option Addr) : Prop := (q = none ∧ ¬ (ps.length ≤ 4096 ∧ Tre ps)) ∨ (ps.length ≤ 4096 ∧ Tre ps ∧ ∃ p a cap, q = some ⟨p, 0, none⟩ ∧ Tv w' q a ps.length cap ps true)
theorem NewQ.tre {ps : List Int} {er pl : Int} (h : NewQ ps er pl) : er = 0 ↔ (ps.length ≤ 4096 ∧ Tre ps) := by
  rcases h with ⟨h1, rfl, rfl⟩ | ⟨h1, i, hi, hb, hm, rfl, rfl⟩ | ⟨h1, hO, i, hi, hr, hm, rfl, rfl⟩ | ⟨h1, hT, rfl, rfl⟩
  · exact ⟨fun h => by omega, fun h => by omega⟩
  · exact ⟨fun h => by omega, fun h => (bd_not hi hb h.2.1).elim⟩
  · exact ⟨fun h => by omega, fun h => absurd hr (h.2.2 i hi)⟩
  · exact ⟨fun _ => ⟨h1, hT⟩, fun _ => rfl⟩
set_option maxHeartbeats 4000000 in
theorem tree_any (ps : List Int) (a : Option Addr) (cap : Nat) (w : World) (hL : Li w a ps.length ps) (hn : a = none → cap = 0) (hl : ps.length ≤ 17592186043904) :
    Calls Try.prog 8 #[.slice a ps.length cap] w fun e w' => (∃ q, e = .returned (.tuple #[.pointer q, .bool true]) ∧ TreR w' ps q) ∧ Below w.heap.size w w' := by
  have hN := rnew_any ps a cap w hL hl
  have HL : Hid (Li w a ps.length ps) := hL
  have HC : Hid (∀ W, Below w.heap.size w W → Calls Try.prog 31 #[.slice a ps.length cap] W fun e w' => (∃ v, e = .returned v ∧ Ge elI w' W.heap.size v ps) ∧ Below W.heap.size W w') := fun W hb => copy_big a cap ps W (HL.out.after hb) hn hl
  clear hL
  go_enter Try.func8, Try.ntmps8
  go_wp2_with (first
    | (go_at_call 29; refine hN.mono ?_; rintro e w1 ⟨⟨er, pl, rfl, hq1⟩, hb1⟩; have HQ1 : Hid (NewQ ps er pl) := hq1; have HB1 : Hid (Below w.heap.size w w1) := hb1; clear hq1 hb1 hN)
    | (go_at_call 31; refine (HC.out w1 HB1.out).mono ?_; rintro e w2 ⟨⟨v, rfl, hG⟩, hb2⟩; obtain ⟨a2, c2, rfl, hL2⟩ := hG.sl; have HL2 : Hid (Li w2 a2 ps.length ps) := hL2; have HB2 : Hid (Below w.heap.size w w2) := step HB1.out hb2; clear hL2 hb2 hG HC)
    | (go_at_call 30; refine (newt_any ps a2 c2 w2 HL2.out hl).mono ?_; rintro e w3 ⟨⟨q, er', pl', rfl, hq3⟩, hb3⟩; (obtain ⟨rfl, rfl⟩ := HQ1.out.unique hq3.1); have HQ3 : Hid _ := hq3.2; have HB3 : Hid (Below w.heap.size w w3) := step HB2.out hb3; clear hq3 hb3))
  refine ent1 w3 _ _ (Q := fun W => bodyPost _ _ _ _ _ W) ?_
  intro W4 hB4 hs4 V4
  rcases HQ3.out with ⟨h1, rfl⟩ | ⟨rfl, h1, h2, p, a9, c9, rfl, hv⟩
  · have e1 : (er != 0) = true := by simpa using h1
    rw [e1]
    go_ret2
    exact ⟨⟨none, rfl, .inl ⟨rfl, fun h => h1 (HQ1.out.tre.2 h)⟩⟩, step HB3.out hB4⟩
  · go_ret2
    exact ⟨⟨_, rfl, .inr ⟨h1, h2, p, a9, c9, rfl, hv.after hB4⟩⟩, step HB3.out hB4⟩
end Go.Proofs.Ytfmbloagmeodeaa
