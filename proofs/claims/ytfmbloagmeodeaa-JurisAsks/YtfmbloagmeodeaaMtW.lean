/-
  The walk of JurisMeets.
-/
import Derived.Test.YtfmbloagmeodeaaJuA
namespace Go.Proofs.Ytfmbloagmeodeaa
open Go.RowKit Go.Shelf
set_option linter.unusedVariables false

theorem pthZ_nat {ps : List Int} {i : Nat} (hi : i < ps.length) : pthZ ps i = pth ps ps.length i := by
  have : plB ps.length i = true := by simp [plB]; omega
  simp [pthZ, this]
theorem pthZ_get {ps : List Int} (hT : Tre ps) {i : Nat} (hi : i < ps.length) (j : Nat) : (pthZ ps i)[j]? = ups ps j i := by
  obtain ⟨d, hd, hD⟩ := hT.dee hi
  rw [pthZ_nat hi]
  exact pth_get hD (by omega)
theorem pthZ_mem {ps : List Int} (hT : Tre ps) {i : Nat} (hi : i < ps.length) (x : Nat) : x ∈ pthZ ps i ↔ Wn ps i x := by
  obtain ⟨d, hd, hD⟩ := hT.dee hi
  rw [pthZ_nat hi]
  exact pth_mem hD (by omega)
theorem wnB_true {ps : List Int} (hT : Tre ps) {i x : Nat} (hi : i < ps.length) (h : Wn ps i x) : wnB ps i x = true :=
  decide_eq_true ⟨x, (pthZ_mem hT hi x).2 h, rfl⟩
theorem wnB_false {ps : List Int} (hT : Tre ps) {i x : Nat} (hi : i < ps.length) (h : ¬ Wn ps i x) : wnB ps i x = false :=
  decide_eq_false (fun ⟨y, hy, e⟩ => h (by have e' : y = x := by omega
                                           rw [← e']; exact (pthZ_mem hT hi y).1 hy))
/-- Where two meet, if they do. -/
theorem MeR.mt {ps : List Int} (hT : Tre ps) {i k : Nat} (hi : i < ps.length) (hk : k < ps.length) {m : Int} {ok : Bool} (h : MeR (pthZ ps i) (pthZ ps k) m ok) :
    (ok = false ∧ m = 0 ∧ ¬ ∃ p, Wn ps i p ∧ Wn ps k p) ∨ (ok = true ∧ ∃ x : Nat, m = x ∧ Mt ps i k x) := by
  rcases h with ⟨rfl, rfl, h1⟩ | ⟨rfl, pre, x, rfl, h2, h3, h4⟩
  · exact .inl ⟨rfl, rfl, fun ⟨p, hp, hq⟩ => h1 p ((pthZ_mem hT hk p).2 hq) ((pthZ_mem hT hi p).2 hp)⟩
  · refine .inr ⟨rfl, x, rfl, (pthZ_mem hT hi x).1 h3, (pthZ_mem hT hk x).1 (h2.subset (by simp)), fun p hp hq => ?_⟩
    have hp' := (pthZ_mem hT hi p).2 hp
    obtain ⟨t, ht⟩ := h2
    have hx : ups ps pre.length k = some x := by
      rw [← pthZ_get hT hk, ← ht, List.append_assoc, List.getElem?_append_right (Nat.le_refl _)]
      simp
    obtain ⟨j, hj⟩ := hq
    have hjl : pre.length ≤ j := by
      rcases Nat.lt_or_ge j pre.length with hlt | hge
      · exfalso
        rw [← pthZ_get hT hk, ← ht, List.append_assoc, List.getElem?_append_left hlt] at hj
        exact h4 p (List.mem_of_getElem? hj) hp'
      · exact hge
    rw [show j = pre.length + (j - pre.length) from by omega, ups_add, hx] at hj
    exact ⟨_, hj⟩
theorem few_no {ps : List Int} (a : Option Addr) (cap : Nat) (w : World) (hL : Li w a ps.length ps) (hc : ps.length ≤ cap) (hn : a = none → cap = 0) (hl : cap ≤ 17592186043904) (hT : ¬ Tre (ps.take 300)) :
    Calls Try.prog 27 #[.slice a ps.length cap, .int .i64 300] w fun e w' => e = .returned (.tuple #[.pointer none, .int .i64 0]) ∧ Below w.heap.size w w' := by
  refine (few_any ps a cap w hL hc hn hl).mono ?_
  rintro e w' ⟨⟨q, n, rfl, h⟩, hb⟩
  rcases h with ⟨-, rfl, rfl⟩ | ⟨h, -⟩
  · exact ⟨rfl, hb⟩
  · exact absurd h hT
theorem few_yes {ps : List Int} (a : Option Addr) (cap : Nat) (w : World) (hL : Li w a ps.length ps) (hc : ps.length ≤ cap) (hn : a = none → cap = 0) (hl : cap ≤ 17592186043904) (hT : Tre (ps.take 300)) :
    Calls Try.prog 27 #[.slice a ps.length cap, .int .i64 300] w fun e w' => (∃ p a' cap', e = .returned (.tuple #[.pointer (some ⟨p, 0, none⟩), .int .i64 (ps.take 300).length]) ∧ Tv w' (some ⟨p, 0, none⟩) a' (ps.take 300).length cap' (ps.take 300) true) ∧ Below w.heap.size w w' := by
  refine (few_any ps a cap w hL hc hn hl).mono ?_
  rintro e w' ⟨⟨q, n, rfl, h⟩, hb⟩
  rcases h with ⟨h, -⟩ | ⟨-, rfl, p, a', cap', rfl, hv⟩
  · exact absurd hT h
  · exact ⟨⟨p, a', cap', rfl, hv⟩, hb⟩
theorem pick_nat (x : Int) (hx : b64 x) (n : Nat) (hn : 1 ≤ n) (hn2 : n ≤ 1000000000) : ∃ i : Nat, i < n ∧ ∀ w, Calls Try.prog 28 #[.int .i64 x, .int .i64 (n : Int)] w fun e w' => e = .returned (.int .i64 (i : Int)) ∧ w' = w := by
  have h1 := Int.emod_nonneg x (show (n : Int) ≠ 0 by omega)
  have h2 := Int.emod_lt_of_pos x (show (0 : Int) < n by omega)
  refine ⟨(x % n).toNat, by omega, fun w => ?_⟩
  have := pick_any x n hx.1 hx.2 (by omega) (by omega) w
  rw [show (((x % n).toNat : Nat) : Int) = x % n by omega]
  exact this
theorem meet_yes {w : World} {q a : Option Addr} {cap : Nat} {qs : List Int} {m : Bool} (h : Tv w q a qs.length cap qs m) (hT : Tre qs) (hl : qs.length ≤ 300) {i k x : Nat} (hi : i < qs.length) (hk : k < qs.length) (hm : Mt qs i k x) :
    Calls Try.prog 21 #[.pointer q, .int .i64 (i : Int), .int .i64 (k : Int)] w fun e w' => e = .returned (.tuple #[.int .i64 (x : Int), .bool true]) ∧ Below w.heap.size w w' := by
  refine (meet_any h hT (by omega) i k).mono ?_
  rintro e w' ⟨⟨mm, ok, rfl, h1⟩, hb⟩
  rcases h1.mt hT hi hk with ⟨-, -, h2⟩ | ⟨rfl, y, rfl, h2⟩
  · exact absurd ⟨x, hm.1, hm.2.1⟩ h2
  · rw [Mt.unique hT hi h2 hm]
    exact ⟨rfl, hb⟩
theorem meet_none {w : World} {q a : Option Addr} {cap : Nat} {qs : List Int} {m : Bool} (h : Tv w q a qs.length cap qs m) (hT : Tre qs) (hl : qs.length ≤ 300) {i k : Nat} (hi : i < qs.length) (hk : k < qs.length) (hm : ¬ ∃ p, Wn qs i p ∧ Wn qs k p) :
    Calls Try.prog 21 #[.pointer q, .int .i64 (i : Int), .int .i64 (k : Int)] w fun e w' => e = .returned (.tuple #[.int .i64 0, .bool false]) ∧ Below w.heap.size w w' := by
  refine (meet_any h hT (by omega) i k).mono ?_
  rintro e w' ⟨⟨mm, ok, rfl, h1⟩, hb⟩
  rcases h1.mt hT hi hk with ⟨rfl, rfl, h2⟩ | ⟨rfl, y, rfl, h2⟩
  · exact ⟨rfl, hb⟩
  · exact absurd ⟨y, h2.1, h2.2.1⟩ hm
theorem within_yes {w : World} {q a : Option Addr} {cap : Nat} {qs : List Int} {m : Bool} (h : Tv w q a qs.length cap qs m) (hT : Tre qs) (hl : qs.length ≤ 300) {i x : Nat} (hi : i < qs.length) (hm : Wn qs i x) :
    Calls Try.prog 22 #[.pointer q, .int .i64 (i : Int), .int .i64 (x : Int)] w fun e w' => e = .returned (.bool true) ∧ Below w.heap.size w w' := by
  have := within_any h hT (by omega) i x
  rwa [wnB_true hT hi hm] at this
theorem within_not {w : World} {q a : Option Addr} {cap : Nat} {qs : List Int} {m : Bool} (h : Tv w q a qs.length cap qs m) (hT : Tre qs) (hl : qs.length ≤ 300) {i x : Nat} (hi : i < qs.length) (hm : ¬ Wn qs i x) :
    Calls Try.prog 22 #[.pointer q, .int .i64 (i : Int), .int .i64 (x : Int)] w fun e w' => e = .returned (.bool false) ∧ Below w.heap.size w w' := by
  have := within_any h hT (by omega) i x
  rwa [wnB_false hT hi hm] at this
set_option maxHeartbeats 8000000 in
theorem meets_walk (a0 : Option Addr) (len0 cap0 : Nat) (ps : List Int) (x y : Int) (w : World) (hL : Li w a0 len0 ps) (hc : len0 ≤ cap0) (hb : cap0 ≤ 17592186043904) (hn : a0 = none → len0 = 0 ∧ cap0 = 0) (hz : ∀ z ∈ ps, b64 z) (hx' : (Lit.int .i64 x).wf = true) (hy' : (Lit.int .i64 y).wf = true) :
    Calls Try.prog 6 #[.slice a0 len0 cap0, .int .i64 x, .int .i64 y] w fun e w' => e = .returned (.bool true) ∧ Below w.heap.size w w' := by
  obtain rfl := hL.1
  have hx := b64_of_wf hx'
  have hy := b64_of_wf hy'
  clear hx' hy'
  have HA := awake15 w
  have HL : Hid (Li w a0 ps.length ps) := hL
  have hn' : a0 = none → cap0 = 0 := fun e => (hn e).2
  clear hz hn hL
  by_cases hT : Tre (ps.take 300)
  · have hF := fun W (h : Below w.heap.size w W) => few_yes a0 cap0 W (HL.out.after h) hc hn' hb hT
    have hql : (ps.take 300).length ≤ 300 := by rw [List.length_take]; omega
    generalize ps.take 300 = qs at *
    have HF : Hid _ := hF
    clear hF
    by_cases h0 : qs.length = 0
    · rw [h0] at HF
      go_enter Try.func6, Try.ntmps6
      go_wp2_with (first
        | (go_at_call 9; refine HA.mono ?_; rintro e w1 ⟨rfl, hb1⟩; have HB1 : Hid (Below w.heap.size w w1) := hb1; clear hb1 HA)
        | (go_at_call 27; refine (HF.out w1 HB1.out).mono ?_; rintro e w2 ⟨⟨p, a2, c2, rfl, hv⟩, hb2⟩; have HB2 : Hid (Below w.heap.size w w2) := step HB1.out hb2; clear hb2 hv HF))
      go_ret
      exact ⟨rfl, HB2.out⟩
    · obtain ⟨i, hi, hpi⟩ := pick_nat x hx qs.length (by omega) (by omega)
      obtain ⟨k, hk, hpk⟩ := pick_nat y hy qs.length (by omega) (by omega)
      have h0i : ¬ (qs.length : Int) = 0 := by omega
      by_cases hM : ∃ p, Wn qs i p ∧ Wn qs k p
      · obtain ⟨x, hM⟩ := mt_iff.2 hM
        have HM : Hid (Mt qs i k x) := hM
        have hTq : Hid (Tre qs) := hT
        clear hM hT
        go_enter Try.func6, Try.ntmps6
        go_wp2_with (first
          | (go_at_call 9; refine HA.mono ?_; rintro e w1 ⟨rfl, hb1⟩; have HB1 : Hid (Below w.heap.size w w1) := hb1; clear hb1 HA)
          | (go_at_call 27; refine (HF.out w1 HB1.out).mono ?_; rintro e w2 ⟨⟨p, a2, c2, rfl, hv⟩, hb2⟩; have HB2 : Hid (Below w.heap.size w w2) := step HB1.out hb2; have HT2 : Hid (Tv w2 (some ⟨p, 0, none⟩) a2 qs.length c2 qs true) := hv; clear hb2 hv HF)
          | (go_at_call 28; refine (hpi w2).mono ?_; rintro e w3 ⟨rfl, hw⟩; rw [hw]; clear hw w3 hpi)
          | (go_at_call 28; refine (hpk w2).mono ?_; rintro e w3 ⟨rfl, hw⟩; rw [hw]; clear hw w3 hpk)
          | (go_at_call 21; refine (meet_yes HT2.out hTq.out hql hi hk HM.out).mono ?_; rintro e w3 ⟨rfl, hb3⟩; have HB3 : Hid (Below w.heap.size w w3) := step HB2.out hb3; have HT3 : Hid (Tv w3 (some ⟨p, 0, none⟩) a2 qs.length c2 qs true) := HT2.out.after hb3; clear hb3 HB2 HT2)
          | (go_at_call 21; refine (meet_yes HT3.out hTq.out hql hk hi HM.out.symm).mono ?_; rintro e w4 ⟨rfl, hb4⟩; have HB4 : Hid (Below w.heap.size w w4) := step HB3.out hb4; have HT4 : Hid (Tv w4 (some ⟨p, 0, none⟩) a2 qs.length c2 qs true) := HT3.out.after hb4; clear hb4 HB3 HT3)
          | (go_at_call 22; refine (within_yes HT4.out hTq.out hql hi HM.out.1).mono ?_; rintro e w5 ⟨rfl, hb5⟩; have HB5 : Hid (Below w.heap.size w w5) := step HB4.out hb5; have HT5 : Hid (Tv w5 (some ⟨p, 0, none⟩) a2 qs.length c2 qs true) := HT4.out.after hb5; clear hb5 HB4 HT4)
          | (go_at_call 22; refine (within_yes HT5.out hTq.out hql hk HM.out.2.1).mono ?_; rintro e w6 ⟨rfl, hb6⟩; have HB6 : Hid (Below w.heap.size w w6) := step HB5.out hb6; have HT6 : Hid (Tv w6 (some ⟨p, 0, none⟩) a2 qs.length c2 qs true) := HT5.out.after hb6; clear hb6 HB5 HT5))
        go_loopw [15] (fun v wr => ∃ j : Nat, v = .int .i64 j ∧ j ≤ qs.length ∧ Hid (Tv wr (some ⟨p, 0, none⟩) a2 qs.length c2 qs true) ∧ Hid (Below w.heap.size w wr)) (fun v _ => (qs.length - (intOf v).toNat : Nat))
        case atStart => exact ⟨0, rfl, Nat.zero_le _, HT6.out, HB6.out⟩
        case round =>
          clear HT6 HB6
          obtain ⟨j, rfl, hj, HT7, HB7⟩ := hrel
          rcases Nat.lt_or_ge j qs.length with hlt | hge
          · have hji : (j : Int) < qs.length := by omega
            by_cases hA : Wn qs i j
            · have HA1 : Hid (Wn qs i j) := hA
              by_cases hB : Wn qs k j
              · have HA2 : Hid (Wn qs k j) := hB
                clear hA hB
                go_wp2_with (first
                  | (go_at_call 22; refine (within_yes HT7.out hTq.out hql hi HA1.out).mono ?_; rintro e w8 ⟨rfl, hb8⟩; have HB8 : Hid (Below w.heap.size w w8) := step HB7.out hb8; have HT8 : Hid (Tv w8 (some ⟨p, 0, none⟩) a2 qs.length c2 qs true) := HT7.out.after hb8; clear hb8 HB7 HT7)
                  | (go_at_call 22; refine (within_yes HT8.out hTq.out hql hk HA2.out).mono ?_; rintro e w9 ⟨rfl, hb9⟩; have HB9 : Hid (Below w.heap.size w w9) := step HB8.out hb9; have HT9 : Hid (Tv w9 (some ⟨p, 0, none⟩) a2 qs.length c2 qs true) := HT8.out.after hb9; clear hb9 HB8 HT8)
                  | (go_at_call 22; refine (within_yes HT9.out hTq.out hql (HM.out.1.lt hTq.out.1 hi) (HM.out.2.2 j HA1.out HA2.out)).mono ?_; rintro e w10 ⟨rfl, hb10⟩; have HB10 : Hid (Below w.heap.size w w10) := step HB9.out hb10; have HT10 : Hid (Tv w10 (some ⟨p, 0, none⟩) a2 qs.length c2 qs true) := HT9.out.after hb10; clear hb10 HB9 HT9))
                go_roundw
                case rel => exact ⟨j + 1, rfl, by omega, HT10.out, HB10.out⟩
                case measure => simp [intOf]; omega
              · have HA2 : Hid (¬ Wn qs k j) := hB
                clear hA hB
                go_wp2_with (first
                  | (go_at_call 22; refine (within_yes HT7.out hTq.out hql hi HA1.out).mono ?_; rintro e w8 ⟨rfl, hb8⟩; have HB8 : Hid (Below w.heap.size w w8) := step HB7.out hb8; have HT8 : Hid (Tv w8 (some ⟨p, 0, none⟩) a2 qs.length c2 qs true) := HT7.out.after hb8; clear hb8 HB7 HT7)
                  | (go_at_call 22; refine (within_not HT8.out hTq.out hql hk HA2.out).mono ?_; rintro e w9 ⟨rfl, hb9⟩; have HB9 : Hid (Below w.heap.size w w9) := step HB8.out hb9; have HT9 : Hid (Tv w9 (some ⟨p, 0, none⟩) a2 qs.length c2 qs true) := HT8.out.after hb9; clear hb9 HB8 HT8))
                go_roundw
                case rel => exact ⟨j + 1, rfl, by omega, HT9.out, HB9.out⟩
                case measure => simp [intOf]; omega
            · have HA1 : Hid (¬ Wn qs i j) := hA
              clear hA
              go_wp2_with (go_at_call 22; refine (within_not HT7.out hTq.out hql hi HA1.out).mono ?_; rintro e w8 ⟨rfl, hb8⟩; have HB8 : Hid (Below w.heap.size w w8) := step HB7.out hb8; have HT8 : Hid (Tv w8 (some ⟨p, 0, none⟩) a2 qs.length c2 qs true) := HT7.out.after hb8; clear hb8 HB7 HT7)
              go_roundw
              case rel => exact ⟨j + 1, rfl, by omega, HT8.out, HB8.out⟩
              case measure => simp [intOf]; omega
          · obtain rfl : j = qs.length := by omega
            clear hge hj
            go_wp2_with fail
            go_ret
            exact ⟨rfl, HB7.out⟩
      · have HM : Hid (¬ ∃ p, Wn qs i p ∧ Wn qs k p) := hM
        have hTq : Hid (Tre qs) := hT
        clear hM hT
        go_enter Try.func6, Try.ntmps6
        go_wp2_with (first
          | (go_at_call 9; refine HA.mono ?_; rintro e w1 ⟨rfl, hb1⟩; have HB1 : Hid (Below w.heap.size w w1) := hb1; clear hb1 HA)
          | (go_at_call 27; refine (HF.out w1 HB1.out).mono ?_; rintro e w2 ⟨⟨p, a2, c2, rfl, hv⟩, hb2⟩; have HB2 : Hid (Below w.heap.size w w2) := step HB1.out hb2; have HT2 : Hid (Tv w2 (some ⟨p, 0, none⟩) a2 qs.length c2 qs true) := hv; clear hb2 hv HF)
          | (go_at_call 28; refine (hpi w2).mono ?_; rintro e w3 ⟨rfl, hw⟩; rw [hw]; clear hw w3 hpi)
          | (go_at_call 28; refine (hpk w2).mono ?_; rintro e w3 ⟨rfl, hw⟩; rw [hw]; clear hw w3 hpk)
          | (go_at_call 21; refine (meet_none HT2.out hTq.out hql hi hk HM.out).mono ?_; rintro e w3 ⟨rfl, hb3⟩; have HB3 : Hid (Below w.heap.size w w3) := step HB2.out hb3; have HT3 : Hid (Tv w3 (some ⟨p, 0, none⟩) a2 qs.length c2 qs true) := HT2.out.after hb3; clear hb3 HB2 HT2)
          | (go_at_call 21; refine (meet_none HT3.out hTq.out hql hk hi (fun ⟨p, h1, h2⟩ => HM.out ⟨p, h2, h1⟩)).mono ?_; rintro e w4 ⟨rfl, hb4⟩; have HB4 : Hid (Below w.heap.size w w4) := step HB3.out hb4; have HT4 : Hid (Tv w4 (some ⟨p, 0, none⟩) a2 qs.length c2 qs true) := HT3.out.after hb4; clear hb4 HB3 HT3))
        go_loopw [15] (fun v wr => ∃ j : Nat, v = .int .i64 j ∧ j ≤ qs.length ∧ Hid (Tv wr (some ⟨p, 0, none⟩) a2 qs.length c2 qs true) ∧ Hid (Below w.heap.size w wr)) (fun v _ => (qs.length - (intOf v).toNat : Nat))
        case atStart => exact ⟨0, rfl, Nat.zero_le _, HT4.out, HB4.out⟩
        case round =>
          clear HT4 HB4
          obtain ⟨j, rfl, hj, HT7, HB7⟩ := hrel
          rcases Nat.lt_or_ge j qs.length with hlt | hge
          · have hji : (j : Int) < qs.length := by omega
            by_cases hA : Wn qs i j
            · have HA1 : Hid (Wn qs i j) := hA
              by_cases hB : Wn qs k j
              · have HA2 : Hid (Wn qs k j) := hB
                clear hA hB
                exact absurd ⟨j, HA1.out, HA2.out⟩ HM.out
              · have HA2 : Hid (¬ Wn qs k j) := hB
                clear hA hB
                go_wp2_with (first
                  | (go_at_call 22; refine (within_yes HT7.out hTq.out hql hi HA1.out).mono ?_; rintro e w8 ⟨rfl, hb8⟩; have HB8 : Hid (Below w.heap.size w w8) := step HB7.out hb8; have HT8 : Hid (Tv w8 (some ⟨p, 0, none⟩) a2 qs.length c2 qs true) := HT7.out.after hb8; clear hb8 HB7 HT7)
                  | (go_at_call 22; refine (within_not HT8.out hTq.out hql hk HA2.out).mono ?_; rintro e w9 ⟨rfl, hb9⟩; have HB9 : Hid (Below w.heap.size w w9) := step HB8.out hb9; have HT9 : Hid (Tv w9 (some ⟨p, 0, none⟩) a2 qs.length c2 qs true) := HT8.out.after hb9; clear hb9 HB8 HT8))
                go_roundw
                case rel => exact ⟨j + 1, rfl, by omega, HT9.out, HB9.out⟩
                case measure => simp [intOf]; omega
            · have HA1 : Hid (¬ Wn qs i j) := hA
              clear hA
              go_wp2_with (go_at_call 22; refine (within_not HT7.out hTq.out hql hi HA1.out).mono ?_; rintro e w8 ⟨rfl, hb8⟩; have HB8 : Hid (Below w.heap.size w w8) := step HB7.out hb8; have HT8 : Hid (Tv w8 (some ⟨p, 0, none⟩) a2 qs.length c2 qs true) := HT7.out.after hb8; clear hb8 HB7 HT7)
              go_roundw
              case rel => exact ⟨j + 1, rfl, by omega, HT8.out, HB8.out⟩
              case measure => simp [intOf]; omega
          · obtain rfl : j = qs.length := by omega
            clear hge hj
            go_wp2_with fail
            go_ret
            exact ⟨rfl, HB7.out⟩
  · have hF := fun W (h : Below w.heap.size w W) => few_no a0 cap0 W (HL.out.after h) hc hn' hb hT
    go_enter Try.func6, Try.ntmps6
    go_wp2_with (first
      | (go_at_call 9; refine HA.mono ?_; rintro e w1 ⟨rfl, hb1⟩; have HB1 : Hid (Below w.heap.size w w1) := hb1; clear hb1 HA)
      | (go_at_call 27; refine (hF w1 HB1.out).mono ?_; rintro e w2 ⟨rfl, hb2⟩; have HB2 : Hid (Below w.heap.size w w2) := step HB1.out hb2; clear hb2 hF))
    go_ret
    exact ⟨rfl, HB2.out⟩
end Go.Proofs.Ytfmbloagmeodeaa
