/-
  juris: the document's place, ring, roots, New.
-/
import Derived.Test.YtfmbloagmeodeaaJu9
namespace Go.Proofs.Ytfmbloagmeodeaa
open Go.RowKit Go.Shelf
set_option linter.unusedVariables false

theorem okp_in {ps : List Int} (h : Okp ps) {i : Nat} (hi : i < ps.length) : ps.getD i (-1) = -1 ∨ (0 ≤ ps.getD i (-1) ∧ ps.getD i (-1) < (ps.length : Int)) :=
  h i (ps.getD i (-1)) (by rw [List.getD_eq_getElem?_getD, List.getElem?_eq_getElem hi]; rfl)
theorem nx_none : nx none = -1 := rfl
theorem nx_some (p : Nat) : nx (some p) = p := rfl
theorem okp_next {ps : List Int} (h : Okp ps) {i : Nat} (hi : i < ps.length) : ps.getD i (-1) = nx (pa ps i) := by
  have hg := getD_of_pa h hi
  cases hq : pa ps i with
  | none => exact hg.1.1 hq
  | some k => exact (hg.2 k).1 hq
theorem ups_next {ps : List Int} (h : Okp ps) {i p t : Nat} (hp : p < ps.length) (e : ups ps t i = some p) : ps.getD p (-1) = nx (ups ps (t + 1) i) := by
  rw [okp_next h hp, ups_succ, e]; rfl
/-- A path that ends. -/
def En (ps : List Int) (i : Nat) : Prop := ∃ j, ups ps j i = none
theorem En.of {ps : List Int} {i p t : Nat} (e : ups ps t i = some p) (h : En ps p) : En ps i := by
  obtain ⟨j, hj⟩ := h
  exact ⟨t + j, by rw [ups_add, e]; exact hj⟩
theorem En.up {ps : List Int} {i p t : Nat} (e : ups ps t i = some p) (h : En ps i) : En ps p := by
  obtain ⟨j, hj⟩ := h
  rcases Nat.lt_or_ge j t with h' | h'
  · rw [ups_later hj (by omega)] at e; cases e
  · rw [show j = t + (j - t) from by omega, ups_add, e] at hj
    exact ⟨j - t, hj⟩
theorem tre_en {ps : List Int} (h : Okp ps) (he : ∀ i, i < ps.length → En ps i) : Tre ps := by
  refine ⟨h, fun i hi ⟨j, hj, e⟩ => ?_⟩
  obtain ⟨t, ht⟩ := he i hi
  have h1 := rg_more e (t + 1)
  rw [ups_later ht (by have := Nat.le_mul_of_pos_left (t + 1) hj; omega)] at h1
  cases h1
open Classical in
/-- Is it a tree? -/
noncomputable def trB (ps : List Int) : Bool := decide (Tre ps)
theorem trB_true {ps : List Int} (h : Tre ps) : trB ps = true := @decide_eq_true _ (Classical.propDecidable _) h
theorem trB_false {ps : List Int} (h : ¬ Tre ps) : trB ps = false := @decide_eq_false _ (Classical.propDecidable _) h
open Classical in
/-- Is a place on a ring? -/
noncomputable def rnB (ps : List Int) (i : Nat) : Bool := decide (Rg ps i)
theorem rnB_true {ps : List Int} {i : Nat} (h : Rg ps i) : rnB ps i = true := @decide_eq_true _ (Classical.propDecidable _) h
theorem rnB_false {ps : List Int} {i : Nat} (h : ¬ Rg ps i) : rnB ps i = false := @decide_eq_false _ (Classical.propDecidable _) h
theorem rplace_any (a : Option Addr) (len cap : Nat) (i : Int) (w : World) : Calls Try.prog 37 #[.slice a len cap, .int .i64 i] w fun e w' => e = .returned (.bool (plB len i)) ∧ w' = w := by
  unfold plB
  by_cases h0 : 0 ≤ i
  · by_cases h1 : i < (len : Int)
    · rw [decide_eq_true ⟨h0, h1⟩]
      go_enter Try.func37, Try.ntmps37
      go_wp2_with fail
      go_ret
      exact ⟨rfl, rfl⟩
    · rw [decide_eq_false (fun h => h1 h.2)]
      go_enter Try.func37, Try.ntmps37
      go_wp2_with fail
      go_ret
      exact ⟨rfl, rfl⟩
  · rw [decide_eq_false (fun h => h0 h.1)]
    go_enter Try.func37, Try.ntmps37
    go_wp2_with fail
    go_ret
    exact ⟨rfl, rfl⟩
set_option maxHeartbeats 4000000 in
theorem ring_any (ps : List Int) (hO : Okp ps) (hl : ps.length ≤ 4096) (a : Option Addr) (cap : Nat) (w : World) (hL : Li w a ps.length ps) (i : Nat) (hi : i < ps.length) :
    Calls Try.prog 42 #[.slice a ps.length cap, .int .i64 (i : Int)] w fun e w' => e = .returned (.bool (rnB ps i)) ∧ w' = w := by
  have HL : Hid (Li w a ps.length ps) := hL
  have HO : Hid (Okp ps) := hO
  obtain ⟨R, hR⟩ : ∃ R, rnB ps i = R := ⟨_, rfl⟩
  rw [hR]
  have HR : Hid (rnB ps i = R) := hR
  obtain ⟨b, off, rfl, hc0⟩ := hL.at hi
  rw [ups_next hO hi (ups_zero ps i)] at hc0
  obtain ⟨y0, hy0⟩ : ∃ y0, nx (ups ps (0 + 1) i) = y0 := ⟨_, rfl⟩
  rw [hy0] at hc0
  have HY0 : Hid (nx (ups ps (0 + 1) i) = y0) := hy0
  clear hy0
  have hii : (i : Int) < ps.length := by omega
  clear hL hO hR
  go_enter Try.func42, Try.ntmps42
  go_wp2_with fail
  clear hc0
  go_loopw [5, 6] (fun v u wr => ∃ (t : Nat), v = .int .i64 (nx (ups ps (t + 1) i)) ∧ u = .int .i64 t ∧ t ≤ ps.length ∧ Hid (∀ j, 0 < j → j ≤ t → ups ps j i ≠ some i) ∧ wr = w) (fun _ u _ => (ps.length - (intOf u).toNat : Nat))
  case atStart => exact ⟨0, by rw [HY0.out], rfl, Nat.zero_le _, fun j h1 h2 => absurd h2 (by omega), rfl⟩
  case round =>
    obtain ⟨t, rfl, rfl, ht, HN, hwr⟩ := hrel
    subst hwr
    rcases Nat.lt_or_ge t ps.length with hlt | hge
    · have hti : (t : Int) < ps.length := by omega
      cases hu : ups ps (t + 1) i with
      | none =>
        have HU : Hid (ups ps (t + 1) i = none) := hu
        clear hu
        rw [nx_none]
        go_wp2_with fail
        go_ret
        refine ⟨?_, rfl⟩
        have hno : ¬ Rg ps i := by
          intro hr
          obtain ⟨j, h1, h2, e⟩ := rg_few HO.out hi hr
          rcases Nat.lt_or_ge t j with h3 | h3
          · rw [ups_later HU.out (by omega)] at e; cases e
          · exact HN.out j h1 h3 e
        rw [← HR.out, rnB_false hno]; rfl
      | some p =>
        have HU : Hid (ups ps (t + 1) i = some p) := hu
        have hp : p < ps.length := HO.out.ups hi hu
        have hpi : (p : Int) < ps.length := by omega
        have hp0 : (0 : Int) ≤ p := by omega
        clear hu
        rw [nx_some]
        by_cases he : (p : Int) = i
        · have e' : p = i := by omega
          subst e'
          go_wp2_with fail
          go_ret
          refine ⟨?_, rfl⟩
          have : Rg ps p := ⟨t + 1, by omega, HU.out⟩
          rw [← HR.out, rnB_true this]; rfl
        · obtain ⟨b', off', e', hc⟩ := HL.out.at hp
          cases e'
          rw [ups_next HO.out hp HU.out] at hc
          obtain ⟨y, hy⟩ : ∃ y, nx (ups ps (t + 1 + 1) i) = y := ⟨_, rfl⟩
          rw [hy] at hc
          have HY : Hid (nx (ups ps (t + 1 + 1) i) = y) := hy
          clear hy
          go_wp2_with fail
          go_roundw
          case rel => exact ⟨t + 1, by rw [HY.out], rfl, by omega, fun j h1 h2 e => by
            rcases Nat.lt_or_ge t j with h3 | h3
            · obtain rfl : j = t + 1 := by omega
              rw [HU.out] at e
              have := Option.some.inj e
              omega
            · exact HN.out j h1 h3 e, by trivial⟩
          case measure => simp [intOf]; omega
    · obtain rfl : t = ps.length := by omega
      clear hge ht
      go_wp2_with fail
      go_ret
      refine ⟨?_, rfl⟩
      have hno : ¬ Rg ps i := by
        intro hr
        obtain ⟨j, h1, h2, e⟩ := rg_few HO.out hi hr
        exact HN.out j h1 h2 e
      rw [← HR.out, rnB_false hno]; rfl
/-- What holds between two rounds of roots. -/
structure Ro (ps : List Int) (w wr : World) (good : Nat → Bool) : Prop where
  row : Ow 4 Value.bool wr w.heap.size (bR good ps.length)
  en : ∀ p, p < ps.length → good p = true → En ps p
  below : Below w.heap.size w wr
theorem Ro.at {ps : List Int} {w wr : World} {good : Nat → Bool} (h : Ro ps w wr good) {p : Nat} (hp : p < ps.length) : wr.cell? ⟨w.heap.size, p, none⟩ = some (.bool (good p)) := by
  have := h.row.cell p true (by simp [bR, hp])
  rwa [show (bR good ps.length).getD p true = good p from mr_get _ true hp] at this
theorem Ro.mark {ps : List Int} {w wr : World} {good : Nat → Bool} (h : Ro ps w wr good) {p : Nat} (he : En ps p) : Ro ps w (wr.setCell ⟨w.heap.size, p, none⟩ (.bool true)) (upd good p) := by
  refine ⟨?_, fun q hq hg => ?_, h.below.setCell (p := ⟨w.heap.size, p, none⟩) (by simp) _⟩
  · have := h.row.set p true _ rfl
    rwa [bR_set] at this
  · by_cases e : q = p
    · subst e; exact he
    · rw [upd_other e] at hg; exact h.en q hq hg
set_option maxRecDepth 20000 in
set_option maxHeartbeats 8000000 in
theorem roots_any (ps : List Int) (hO : Okp ps) (hl : ps.length ≤ 4096) (a : Option Addr) (cap : Nat) (w : World) (hL : Li w a ps.length ps) :
    Calls Try.prog 41 #[.slice a ps.length cap] w fun e w' => e = .returned (.bool (trB ps)) ∧ Below w.heap.size w w' := by
  have hm := make_bool ps.length (by omega)
  have HL : Hid (Li w a ps.length ps) := hL
  have HO : Hid (Okp ps) := hO
  obtain ⟨R, hR⟩ : ∃ R, trB ps = R := ⟨_, rfl⟩
  rw [hR]
  have HR : Hid (trB ps = R) := hR
  clear hL hO hR
  go_enter Try.func41, Try.ntmps41
  go_wp2_with fail
  refine ent1 w _ _ (Q := fun W => Code.wp _ _ _ _ W) ?_
  intro W0 hB0 hs0 V0
  have HG0 : Hid (Ro ps w W0 (fun _ => false)) := ⟨by show Va _ _ _ _; rw [show bR (fun _ => false) ps.length = List.replicate ps.length false from (mr_zero _ _).symm]; simpa using V0, fun p _ h => (by cases h), hB0⟩
  clear V0 hB0 hm hs0
  go_loopw [4, 5, 6] (fun v _ _ wr => ∃ (k : Nat) (good : Nat → Bool), v = .int .i64 k ∧ k ≤ ps.length ∧ Hid (Ro ps w wr good) ∧ Hid (∀ p, p < k → good p = true)) (fun v _ _ _ => (ps.length - (intOf v).toNat : Nat))
  case atStart => exact ⟨0, _, rfl, Nat.zero_le _, HG0.out, fun p hp => absurd hp (Nat.not_lt_zero _)⟩
  case round =>
    clear HG0
    obtain ⟨k, good, rfl, hk, HG, HK⟩ := hrel
    rcases Nat.lt_or_ge k ps.length with hlt | hge
    · have hki : (k : Int) < ps.length := by omega
      go_wp2_with fail
      obtain ⟨w0, hw0⟩ : ∃ w0, wr = w0 := ⟨_, rfl⟩
      rw [hw0] at HG ⊢
      clear hw0
      go_loopw [5, 6] (fun v u wr => ∃ t : Nat, v = .int .i64 (nx (ups ps t k)) ∧ u = .int .i64 t ∧ t ≤ ps.length + 1 ∧ Hid (∀ j, j < t → ∃ p, ups ps j k = some p) ∧ wr = w0) (fun _ u _ => (ps.length + 1 - (intOf u).toNat : Nat))
      case atStart => exact ⟨0, by rw [ups_zero]; rfl, rfl, Nat.zero_le _, fun j hj => absurd hj (Nat.not_lt_zero _), rfl⟩
      case round =>
        obtain ⟨t, rfl, rfl, ht, HS, hwr⟩ := hrel
        subst hwr
        rcases Nat.lt_or_ge ps.length t with htn | htn
        · obtain rfl : t = ps.length + 1 := by omega
          have HNo : Hid (¬ Tre ps) := fun hT => by
            obtain ⟨p, hp⟩ := HS.out ps.length (by omega)
            rw [hT.ends hlt] at hp; cases hp
          have hgt : (ps.length : Int) < ps.length + 1 := by omega
          have hle : ¬ ((ps.length : Int) + 1 ≤ ps.length) := by omega
          cases hu : ups ps (ps.length + 1) k with
          | none =>
            clear hu
            rw [nx_none]
            go_wp2_with fail
            go_ret
            exact ⟨by rw [← HR.out, trB_false HNo.out]; rfl, HG.out.below⟩
          | some p =>
            have hp : p < ps.length := HO.out.ups hlt hu
            have hpi : (p : Int) < ps.length := by omega
            have hp0 : (0 : Int) ≤ p := by omega
            have cg := HG.out.at hp
            clear hu
            rw [nx_some]
            cases hg : good p with
            | true =>
              rw [hg] at cg
              clear hg
              go_wp2_with fail
              go_ret
              exact ⟨by rw [← HR.out, trB_false HNo.out]; rfl, HG.out.below⟩
            | false =>
              rw [hg] at cg
              clear hg
              go_wp2_with fail
              go_ret
              exact ⟨by rw [← HR.out, trB_false HNo.out]; rfl, HG.out.below⟩
        · have hle : (t : Int) ≤ ps.length := by omega
          have hgt : ¬ ((ps.length : Int) < t) := by omega
          have HPt : Hid (∀ p, ups ps t k = some p → p < ps.length) := fun p hp => HO.out.ups hlt hp
          by_cases hgo : ∃ p, ups ps t k = some p ∧ good p = false
          · obtain ⟨p, hu, hg⟩ := hgo
            have hp := HPt.out p hu
            have hpi : (p : Int) < ps.length := by omega
            have hp0 : (0 : Int) ≤ p := by omega
            have cg := HG.out.at hp
            rw [hg] at cg
            obtain ⟨b, off, rfl, hc⟩ := (HL.out.after HG.out.below).at hp
            rw [ups_next HO.out hp hu] at hc
            obtain ⟨y, hy⟩ : ∃ y, nx (ups ps (t + 1) k) = y := ⟨_, rfl⟩
            rw [hy] at hc
            have HY : Hid (nx (ups ps (t + 1) k) = y) := hy
            have HU : Hid (ups ps t k = some p) := hu
            rw [hu, nx_some]
            clear hy hu hg
            go_wp2_with fail
            go_roundw
            case rel => exact ⟨t + 1, by rw [HY.out], rfl, by omega, fun j hj => by
              rcases Nat.lt_or_ge j t with h | h
              · exact HS.out j h
              · obtain rfl : j = t := by omega
                exact ⟨p, HU.out⟩, by trivial⟩
            case measure => simp [intOf]; omega
          · have HEn : Hid (En ps k) := by
              show ∃ j, _
              cases hu : ups ps t k with
              | none => exact ⟨t, hu⟩
              | some p =>
                have : good p = true := by
                  cases hg : good p
                  · exact absurd ⟨p, hu, hg⟩ hgo
                  · rfl
                exact En.of hu (HG.out.en p (HPt.out p hu) this)
            have hfin : (ups ps t k = none) ∨ ∃ p, ups ps t k = some p ∧ good p = true := by
              cases hu : ups ps t k with
              | none => exact .inl rfl
              | some p =>
                refine .inr ⟨p, rfl, ?_⟩
                cases hg : good p
                · exact absurd ⟨p, hu, hg⟩ hgo
                · rfl
            clear hgo
            rcases hfin with hu | ⟨p, hu, hg⟩
            · rw [hu, nx_none]
              clear hu
              go_wp2_with fail
              go_loopw [5] (fun v wr => ∃ (j : Nat) (gd : Nat → Bool), v = .int .i64 (nx (ups ps j k)) ∧ Hid (Ro ps w wr gd) ∧ Hid (∀ q, good q = true → gd q = true) ∧ Hid (j = 0 ∨ gd k = true)) (fun _ wr => lf wr w.heap.size ps.length)
              case atStart => exact ⟨0, good, by rw [ups_zero]; rfl, HG.out, fun q h => h, .inl rfl⟩
              case round =>
                clear HG
                obtain ⟨j, gd, rfl, HG, HM, HJ⟩ := hrel
                cases hu : ups ps j k with
                | none =>
                  have HJ2 : Hid (gd k = true) := by
                    rcases HJ.out with rfl | h
                    · rw [ups_zero] at hu; cases hu
                    · exact h
                  clear hu
                  rw [nx_none]
                  go_wp2_with fail
                  go_roundw
                  case rel => exact ⟨k + 1, gd, rfl, by omega, HG.out, fun p hp => by
                    by_cases e : p = k
                    · subst e; exact HJ2.out
                    · exact HM.out p (HK.out p (by omega))⟩
                  case measure => simp [intOf]; omega
                | some p2 =>
                  have hp2 : p2 < ps.length := HO.out.ups hlt hu
                  have hp2i : (p2 : Int) < ps.length := by omega
                  have hp20 : (0 : Int) ≤ p2 := by omega
                  have cg2 := HG.out.at hp2
                  have HU : Hid (ups ps j k = some p2) := hu
                  clear hu
                  rw [nx_some]
                  cases hg2 : gd p2 with
                  | true =>
                    rw [hg2] at cg2
                    have HJ2 : Hid (gd k = true) := by
                      rcases HJ.out with rfl | h
                      · have := HU.out
                        rw [ups_zero] at this
                        rw [Option.some.inj this]; exact hg2
                      · exact h
                    clear hg2
                    go_wp2_with fail
                    go_roundw
                    case rel => exact ⟨k + 1, gd, rfl, by omega, HG.out, fun p hp => by
                      by_cases e : p = k
                      · subst e; exact HJ2.out
                      · exact HM.out p (HK.out p (by omega))⟩
                    case measure => simp [intOf]; omega
                  | false =>
                    rw [hg2] at cg2
                    have HG2 : Hid (gd p2 = false) := hg2
                    have f2 := HG.out.row.frozen p2
                    have hLr := HL.out.after HG.out.below
                    obtain ⟨b2, off2, e2, hc2⟩ := hLr.at hp2
                    have hbl : b2 < w.heap.size := HL.out.low (by omega) b2 off2 e2
                    have hbne : b2 ≠ w.heap.size := by omega
                    rw [ups_next HO.out hp2 HU.out] at hc2
                    obtain ⟨y2, hy2⟩ : ∃ y2, nx (ups ps (j + 1) k) = y2 := ⟨_, rfl⟩
                    rw [hy2] at hc2
                    have HY2 : Hid (nx (ups ps (j + 1) k) = y2) := hy2
                    have HN : Hid (Ro ps w (wr.setCell ⟨w.heap.size, p2, none⟩ (.bool true)) (upd gd p2)) := HG.out.mark (En.up HU.out HEn.out)
                    have HMs : Hid (lf (wr.setCell ⟨w.heap.size, p2, none⟩ (.bool true)) w.heap.size ps.length < lf wr w.heap.size ps.length) := by
                      show _ < _
                      rw [lf_of HN.out.row, lf_of HG.out.row, left_upd HG2.out hp2]; omega
                    subst e2
                    clear hy2 hg2 hLr
                    go_wp2_with fail
                    go_roundw
                    case rel => exact ⟨j + 1, upd gd p2, by rw [HY2.out], HN.out, fun q h => upd_true (HM.out q h), .inr (by
                      rcases HJ.out with rfl | h
                      · have := HU.out
                        rw [ups_zero] at this
                        rw [Option.some.inj this]; exact upd_same _ _
                      · exact upd_true h)⟩
                    case measure => exact HMs.out
            · have hp := HPt.out p hu
              have hpi : (p : Int) < ps.length := by omega
              have hp0 : (0 : Int) ≤ p := by omega
              have cg := HG.out.at hp
              rw [hg] at cg
              rw [hu, nx_some]
              clear hu hg
              go_wp2_with fail
              clear cg
              go_loopw [5] (fun v wr => ∃ (j : Nat) (gd : Nat → Bool), v = .int .i64 (nx (ups ps j k)) ∧ Hid (Ro ps w wr gd) ∧ Hid (∀ q, good q = true → gd q = true) ∧ Hid (j = 0 ∨ gd k = true)) (fun _ wr => lf wr w.heap.size ps.length)
              case atStart => exact ⟨0, good, by rw [ups_zero]; rfl, HG.out, fun q h => h, .inl rfl⟩
              case round =>
                clear HG
                obtain ⟨j, gd, rfl, HG, HM, HJ⟩ := hrel
                cases hu : ups ps j k with
                | none =>
                  have HJ2 : Hid (gd k = true) := by
                    rcases HJ.out with rfl | h
                    · rw [ups_zero] at hu; cases hu
                    · exact h
                  clear hu
                  rw [nx_none]
                  go_wp2_with fail
                  go_roundw
                  case rel => exact ⟨k + 1, gd, rfl, by omega, HG.out, fun p hp => by
                    by_cases e : p = k
                    · subst e; exact HJ2.out
                    · exact HM.out p (HK.out p (by omega))⟩
                  case measure => simp [intOf]; omega
                | some p2 =>
                  have hp2 : p2 < ps.length := HO.out.ups hlt hu
                  have hp2i : (p2 : Int) < ps.length := by omega
                  have hp20 : (0 : Int) ≤ p2 := by omega
                  have cg2 := HG.out.at hp2
                  have HU : Hid (ups ps j k = some p2) := hu
                  clear hu
                  rw [nx_some]
                  cases hg2 : gd p2 with
                  | true =>
                    rw [hg2] at cg2
                    have HJ2 : Hid (gd k = true) := by
                      rcases HJ.out with rfl | h
                      · have := HU.out
                        rw [ups_zero] at this
                        rw [Option.some.inj this]; exact hg2
                      · exact h
                    clear hg2
                    go_wp2_with fail
                    go_roundw
                    case rel => exact ⟨k + 1, gd, rfl, by omega, HG.out, fun p hp => by
                      by_cases e : p = k
                      · subst e; exact HJ2.out
                      · exact HM.out p (HK.out p (by omega))⟩
                    case measure => simp [intOf]; omega
                  | false =>
                    rw [hg2] at cg2
                    have HG2 : Hid (gd p2 = false) := hg2
                    have f2 := HG.out.row.frozen p2
                    have hLr := HL.out.after HG.out.below
                    obtain ⟨b2, off2, e2, hc2⟩ := hLr.at hp2
                    have hbl : b2 < w.heap.size := HL.out.low (by omega) b2 off2 e2
                    have hbne : b2 ≠ w.heap.size := by omega
                    rw [ups_next HO.out hp2 HU.out] at hc2
                    obtain ⟨y2, hy2⟩ : ∃ y2, nx (ups ps (j + 1) k) = y2 := ⟨_, rfl⟩
                    rw [hy2] at hc2
                    have HY2 : Hid (nx (ups ps (j + 1) k) = y2) := hy2
                    have HN : Hid (Ro ps w (wr.setCell ⟨w.heap.size, p2, none⟩ (.bool true)) (upd gd p2)) := HG.out.mark (En.up HU.out HEn.out)
                    have HMs : Hid (lf (wr.setCell ⟨w.heap.size, p2, none⟩ (.bool true)) w.heap.size ps.length < lf wr w.heap.size ps.length) := by
                      show _ < _
                      rw [lf_of HN.out.row, lf_of HG.out.row, left_upd HG2.out hp2]; omega
                    subst e2
                    clear hy2 hg2 hLr
                    go_wp2_with fail
                    go_roundw
                    case rel => exact ⟨j + 1, upd gd p2, by rw [HY2.out], HN.out, fun q h => upd_true (HM.out q h), .inr (by
                      rcases HJ.out with rfl | h
                      · have := HU.out
                        rw [ups_zero] at this
                        rw [Option.some.inj this]; exact upd_same _ _
                      · exact upd_true h)⟩
                    case measure => exact HMs.out
    · obtain rfl : k = ps.length := by omega
      clear hge hk
      go_wp2_with fail
      go_ret
      exact ⟨by rw [← HR.out, trB_true (tre_en HO.out (fun i hi => HG.out.en i hi (HK.out i hi)))]; rfl, HG.out.below⟩
end Go.Proofs.Ytfmbloagmeodeaa
