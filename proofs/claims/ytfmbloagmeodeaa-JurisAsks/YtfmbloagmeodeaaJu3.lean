/-
  juris: New.
-/
import Derived.Test.YtfmbloagmeodeaaJu2
namespace Go.Proofs.Ytfmbloagmeodeaa
open Go.RowKit Go.Shelf
set_option linter.unusedVariables false

theorem Ge.sl {w : World} {B : Nat} {v : Value} {ps : List Int} (h : Ge elI w B v ps) : ∃ a cap, v = .slice a ps.length cap ∧ Li w a ps.length ps := by
  obtain ⟨a, cap, rfl, -, -, -⟩ := h.shape
  exact ⟨a, cap, rfl, h.toLe.li⟩
set_option maxHeartbeats 1000000 in
/-- slices.Clone of a list of ints. -/
theorem clone_int (a : Option Addr) (cap : Nat) (ps : List Int) (w : World) (h : Li w a ps.length ps) (hl : ps.length ≤ 1000000) :
    Calls Try.prog 45 #[.slice a ps.length cap] w fun e w' => ∃ v, e = .returned v ∧ Ge elI w' w.heap.size v ps ∧ RowKit.Below w.heap.size w w' := by
  have q22 : ∀ (w : World) (a : Option Addr) (n c n' c' : Nat), (binOp .eql 22 (.slice a n c) (.slice none n' c')).run Try.prog w = .ok (.bool a.isNone) w := fun w a n c n' c' => Lib.run_eql_slice_nil w _ _ a n c n' c' Try.underlying22
  cases a with
  | none =>
    have h0 : ps.length = 0 := by
      rcases Nat.eq_zero_or_pos ps.length with h' | h'
      · exact h'
      · obtain ⟨b, off, e, -⟩ := h.2 h'; cases e
    have hp : ps = [] := List.length_eq_zero_iff.1 h0
    subst hp
    clear h0
    simp only [List.length_nil] at *
    go_enter Try.func45, Try.ntmps45
    go_wp2_with fail
    go_ret
    exact ⟨_, rfl, Ge.nil _ _, RowKit.Below.refl _ _⟩
  | some ad =>
    have HC : Hid (∀ j u, (rowE elI ps)[j]? = some u → w.cell? (ad.add j) = some u) := fun j u hj => by
      have h0 : 0 < ps.length := by
        rcases ps with _ | ⟨y, ys⟩
        · simp [rowE] at hj
        · simp
      obtain ⟨b, off, e, hc⟩ := h.le.2 h0
      cases e
      rw [Addr.add_lit]
      exact hc j u hj
    obtain ⟨i0, hi, hz0, hz1, hz2⟩ := info_parts infoI
    have HR : Hid ((rowE elI ps).length = ps.length) := by
      show _ = _
      rw [rowE_length]; exact Nat.mul_one _
    clear h
    generalize hlen : ps.length = len at *
    have HP : Hid (ps.length = len) := hlen
    clear hlen
    go_enter Try.func45, Try.ntmps45
    go_wp2_with (at_builtin; refine wpList_append_own _ rfl _ _ 22 rfl w.heap.size 3 i0 (.int .i64 0) 1 8 Try.underlying22 hi hz0 hz1 hz2 rfl (by decide) _ _ _ rfl (World.ownsRow_made w #[] 0 (Nat.le_refl _) (Nat.zero_le _) (by simp)) ad len cap (rowE elI ps) rfl (by rw [HR.out]; simp) (fun j u hj => Lib.cell?_alloc_some _ (HC.out j u hj)) (rowE_one elI _) (by unfold maxLen; omega) (by omega) (by simp) ?_; intro v' w1 hown hgrow hnil)
    obtain ⟨a2, c2, rfl⟩ : ∃ a2 c2, v' = .slice a2 (0 + len) c2 := by
      rcases hown.2 with ⟨e, h'⟩ | ⟨g, cp, cur, e, -⟩
      · exact ⟨none, 0, by rw [e, h']⟩
      · exact ⟨_, cp, e⟩
    go_wp2_with fail
    go_ret
    refine ⟨_, rfl, ?_, ((RowKit.Below.refl _ w).alloc (Nat.le_refl _) _).grown hgrow (by simp) (by intro k hk; cases hk; exact Nat.le_refl _)⟩
    show World.ownsRow _ _ _ _ _ _ _
    rw [HP.out]
    have h9 : w1.ownsRow w.heap.size 3 1 (.slice a2 len c2) len (rowE elI ps) := by simpa using hown
    rw [Nat.zero_add]
    exact h9
/-- A parent that may not be. -/
def Bd (ps : List Int) (i : Nat) : Prop := ps.getD i (-1) ≠ -1 ∧ ¬ (0 ≤ ps.getD i (-1) ∧ ps.getD i (-1) < (ps.length : Int))
theorem okp_of {ps : List Int} (h : ∀ i, i < ps.length → ¬ Bd ps i) : Okp ps := by
  intro i k hk
  have hi : i < ps.length := by
    rcases Nat.lt_or_ge i ps.length with h' | h'
    · exact h'
    · rw [List.getElem?_eq_none h'] at hk; cases hk
  have e : ps.getD i (-1) = k := by rw [List.getD_eq_getElem?_getD, hk]; rfl
  have := h i hi
  unfold Bd at this
  rw [e] at this
  omega
/-- What New answers. -/
def NewR (w' : World) (ps : List Int) (q : Option Addr) (er pl : Int) : Prop :=
  (4096 < ps.length ∧ q = none ∧ er = 3 ∧ pl = -1) ∨
  (ps.length ≤ 4096 ∧ ∃ i : Nat, i < ps.length ∧ Bd ps i ∧ (∀ k, k < i → ¬ Bd ps k) ∧ q = none ∧ er = 150 ∧ pl = i) ∨
  (ps.length ≤ 4096 ∧ Okp ps ∧ ∃ i : Nat, i < ps.length ∧ Rg ps i ∧ (∀ k, k < i → ¬ Rg ps k) ∧ q = none ∧ er = 171 ∧ pl = i) ∨
  (ps.length ≤ 4096 ∧ Tre ps ∧ er = 0 ∧ pl = 0 ∧ ∃ p a cap, q = some ⟨p, 0, none⟩ ∧ Tv w' q a ps.length cap ps true)
theorem results_tf {fn : Func} {i j b : Nat} {x y : Value} {tmps : Array Value} {w : World} (h : fn.results = #[.tmp i, .cell j 57]) (hj : tmps.getD j undef = .pointer (some ⟨b, 0, none⟩)) (hv : Va w b 57 #[x, y]) :
    (results fn tmps).run Try.prog w = .ok (.tuple #[tmps.getD i undef, .agg #[x, y]]) w := by
  have c0 := hv.c0
  have c1 := hv.c1
  rw [Array.getD_eq_getD_getElem?] at hj
  simp [results, h, hj, c0, c1, go_sem]
set_option maxHeartbeats 4000000 in
theorem new_any (ps : List Int) (a : Option Addr) (cap : Nat) (w : World) (hL : Li w a ps.length ps) (hl : ps.length ≤ 1000000000000) :
    Calls Try.prog 30 #[.slice a ps.length cap] w fun e w' => (∃ q er pl, e = .returned (.tuple #[.pointer q, .agg #[.int .i64 er, .int .i64 pl]]) ∧ NewR w' ps q er pl) ∧ Below w.heap.size w w' := by
  have HL : Hid (Li w a ps.length ps) := hL
  clear hL
  by_cases hlong : (4096 : Int) < ps.length
  · have HL2 : Hid (4096 < ps.length) := by show _ < _; omega
    go_enter Try.func30, Try.ntmps30
    go_wp2_with fail
    refine ent1 w _ _ (Q := fun W => bodyPost _ _ _ _ _ W) ?_
    intro W0 hB0 hs0 V0
    refine bodyPost_ret (results_tf rfl rfl V0) rfl ?_
    exact ⟨⟨none, 3, -1, rfl, .inl ⟨HL2.out, rfl, rfl, rfl⟩⟩, hB0⟩
  · have hl2 : ps.length ≤ 4096 := by omega
    have HL2 : Hid (ps.length ≤ 4096) := hl2
    go_enter Try.func30, Try.ntmps30
    go_wp2_with fail
    refine ent1 w _ _ (Q := fun W => Code.wp _ _ _ _ W) ?_
    intro W0 hB0 hs0 V0
    have HV0 : Hid (Va W0 w.heap.size 57 #[.int .i64 0, .int .i64 0]) := V0
    have f0 := V0.frozen 0
    have f1 := V0.frozen 1
    have c0 := V0.c0
    have c1 := V0.c1
    have HL0 : Hid (Li W0 a ps.length ps) := HL.out.after hB0
    have HB0 : Hid (Below w.heap.size w W0) := hB0
    have hI := fun i => isPlace_any a ps.length cap i W0
    clear V0 hB0 hlong
    go_loopw [4, 5, 13] (fun _ _ j wr => ∃ k : Nat, j = .int .i64 k ∧ k ≤ ps.length ∧ Hid (∀ i, i < k → ¬ Bd ps i) ∧ wr = W0) (fun _ _ j _ => (ps.length - (intOf j).toNat : Nat))
    case atStart => exact ⟨0, rfl, Nat.zero_le _, fun i hi => absurd hi (Nat.not_lt_zero _), rfl⟩
    case round =>
      obtain ⟨k, rfl, hk, HA, rfl⟩ := hrel
      rcases Nat.lt_or_ge k ps.length with hlt | hge
      · obtain ⟨b, off, rfl, hc⟩ := HL0.out.at hlt
        have hki : (k : Int) < ps.length := by omega
        obtain ⟨x, hx⟩ : ∃ x, ps.getD k (-1) = x := ⟨_, rfl⟩
        rw [hx] at hc
        have hI1 := hI x
        have HX : Hid (ps.getD k (-1) = x) := hx
        have HBd : Hid (Bd ps k ↔ x ≠ -1 ∧ plB ps.length x = false) := by
          show _ ↔ _
          unfold Bd plB
          rw [hx]
          simp
        clear hx hI
        by_cases hn : x = -1
        · subst hn
          go_wp2_with fail
          go_roundw
          case rel => exact ⟨k + 1, rfl, by omega, fun i hi => by
            by_cases e : i = k
            · subst e; exact fun hb => (HBd.out.1 hb).1 rfl
            · exact HA.out i (by omega), by trivial⟩
          case measure => simp [intOf]; omega
        · cases hp : plB ps.length x with
          | true =>
            rw [hp] at hI1
            have HP : Hid (plB ps.length x = true) := hp
            clear hp
            go_wp2_with (go_at_call 43; refine hI1.mono ?_; rintro e w1 ⟨rfl, rfl⟩)
            go_roundw
            case rel => exact ⟨k + 1, rfl, by omega, fun i hi => by
              by_cases e : i = k
              · subst e; exact fun hb => by have := (HBd.out.1 hb).2; rw [HP.out] at this; cases this
              · exact HA.out i (by omega), by trivial⟩
            case measure => simp [intOf]; omega
          | false =>
            rw [hp] at hI1
            have HP : Hid (plB ps.length x = false) := hp
            have HN : Hid (x ≠ -1) := hn
            clear hp
            go_wp2_with (go_at_call 43; refine hI1.mono ?_; rintro e w1 ⟨rfl, rfl⟩)
            refine bodyPost_ret (results_tf rfl rfl (HV0.out.set2 _ _)) rfl ?_
            exact ⟨⟨none, 150, k, rfl, .inr (.inl ⟨HL2.out, k, hlt, HBd.out.2 ⟨HN.out, HP.out⟩, HA.out, rfl, rfl, rfl⟩)⟩, below_2 HB0.out (Nat.le_refl _) _ _⟩
      · obtain rfl : k = ps.length := by omega
        clear hge hk hI
        have HO : Hid (Okp ps) := okp_of HA.out
        have hR := least_any ps HO.out HL2.out a cap wr HL0.out
        go_wp2_with (first | (go_at_call 44; refine hR.mono ?_; rintro e w1 ⟨⟨r, rfl, hr⟩, hb1⟩; have HB1 : Hid (Below wr.heap.size wr w1) := hb1; have HR : Hid (LR ps r) := hr; have f2 := ((HV0.out).after hb1).frozen 0; have f3 := ((HV0.out).after hb1).frozen 1; have d0 := ((HV0.out).after hb1).c0; have d1 := ((HV0.out).after hb1).c1; clear hb1 hr f0 f1 c0 c1) | (go_at_call 45; refine (clone_int a cap ps w1 (HL0.out.after HB1.out) (by omega)).mono ?_; rintro e w2 ⟨v, rfl, hG, hb2⟩; obtain ⟨a2, c2, rfl, -⟩ := hG.sl; have HV2 : Hid (Va w2 w.heap.size 57 #[.int .i64 0, .int .i64 0]) := (HV0.out.after HB1.out).after hb2; have HB2 : Hid (Below w.heap.size w w2) := step (step HB0.out HB1.out) hb2; have HG : Hid (Ge elI w2 w1.heap.size (.slice a2 ps.length c2) ps) := hG; have g0 := HV2.out.frozen 0; have g1 := HV2.out.frozen 1; have b0 := HV2.out.c0; have b1 := HV2.out.c1; have hlt := HV2.out.lt; clear hG hb2 f2 f3 d0 d1))
        · rename_i hne
          rcases HR.out with ⟨rfl, -⟩ | ⟨i, hi, rfl, hri, hmin⟩
          · simp at hne
          · refine bodyPost_ret (results_tf rfl rfl ((HV0.out.after HB1.out).set2 _ _)) rfl ?_
            exact ⟨⟨none, 171, i, rfl, .inr (.inr (.inl ⟨HL2.out, HO.out, i, hi, hri, hmin, rfl, rfl, rfl⟩))⟩, below_2 (step HB0.out HB1.out) (Nat.le_refl _) _ _⟩
        · rename_i hne
          have HT : Hid (Tre ps) := by
            refine ⟨HO.out, ?_⟩
            rcases HR.out with ⟨rfl, h⟩ | ⟨i, hi, rfl, hri, hmin⟩
            · exact h
            · (simp at hne)
          have hlt1 : w.heap.size < w1.heap.size := (HV0.out.after HB1.out).lt
          have V3 := HV2.out.set2 (.int .i64 0) (.int .i64 0)
          have hB3 := below_2 HB2.out (Nat.le_refl _) (.int .i64 0) (.int .i64 0)
          have hne : (Value.slice a2 ps.length c2).ownBlock ≠ some w.heap.size := fun e => by have := HG.out.block _ e; omega
          have h3 := (HG.out.far (p := ⟨w.heap.size, 0, none⟩) hne (.int .i64 0)).far (p := ⟨w.heap.size, 1, none⟩) hne (.int .i64 0)
          have hs3 : ((w2.setCell ⟨w.heap.size, 0, none⟩ (.int .i64 0)).setCell ⟨w.heap.size, 1, none⟩ (.int .i64 0)).heap.size = w2.heap.size := by simp
          generalize (w2.setCell ⟨w.heap.size, 0, none⟩ (.int .i64 0)).setCell ⟨w.heap.size, 1, none⟩ (.int .i64 0) = W3 at *
          refine ent1 W3 _ _ (Q := fun W => bodyPost _ _ _ _ _ W) ?_
          intro W4 hB4 hs4 V4
          rw [hs3] at V4
          refine bodyPost_ret (results_tf rfl rfl (V3.after hB4)) rfl ?_
          exact ⟨⟨_, 0, 0, rfl, .inr (.inr (.inr ⟨HL2.out, HT.out, rfl, rfl, _, a2, c2, rfl, .some _ _ _ _ _ V4 (h3.after hB4).toLe.li⟩))⟩, step hB3 hB4⟩
end Go.Proofs.Ytfmbloagmeodeaa
