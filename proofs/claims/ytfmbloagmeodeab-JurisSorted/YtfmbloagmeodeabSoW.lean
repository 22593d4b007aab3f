/-
  The walk of JurisSorted.
-/
import Derived.Test.YtfmbloagmeodeabJuA
import Derived.Test.YtfmbloagmeodeabJuL
import Derived.Test.YtfmbloagmeodeabJu6
namespace Go.Proofs.Ytfmbloagmeodeab
open Go.RowKit Go.Shelf
set_option linter.unusedVariables false

/-- Where a place stands among the first k told, or -1. -/
def plc (out : List Nat) : Nat → Nat → Int
  | 0, p => -1
  | k + 1, p => if out.getD k 0 = p then (k : Int) else plc out k p
theorem plc_no {out : List Nat} {p : Nat} : ∀ {k : Nat}, (∀ t, t < k → out.getD t 0 ≠ p) → plc out k p = -1
  | 0, _ => rfl
  | k + 1, h => by
    show (if out.getD k 0 = p then (k : Int) else plc out k p) = -1
    rw [if_neg (h k (by omega))]
    exact plc_no (fun t ht => h t (by omega))
theorem plc_at {out : List Nat} (hn : ∀ a b, a < out.length → b < out.length → out.getD a 0 = out.getD b 0 → a = b) {t : Nat} : ∀ {k : Nat}, t < k → k ≤ out.length → plc out k (out.getD t 0) = t
  | 0, h, _ => by omega
  | k + 1, h, hk => by
    show (if out.getD k 0 = out.getD t 0 then (k : Int) else plc out k (out.getD t 0)) = t
    by_cases e : out.getD k 0 = out.getD t 0
    · rw [if_pos e, hn k t (by omega) (by omega) e]
    · rw [if_neg e]
      have : t ≠ k := fun e' => e (by rw [e'])
      exact plc_at hn (by omega) (by omega)
theorem go_get {out : List Nat} {t : Nat} (h : t < out.length) : out[t]? = some (out.getD t 0) := by
  rw [List.getD_eq_getElem?_getD, List.getElem?_eq_getElem h]; rfl
theorem go_inj {ps : List Int} {out : List Nat} (h : Go15 ps out) (a b : Nat) (ha : a < out.length) (hb : b < out.length) (e : out.getD a 0 = out.getD b 0) : a = b :=
  h.nodup (go_get ha) (by rw [e]; exact go_get hb)
/-- The parent of a place stands ahead of it. -/
theorem go_ahead {ps : List Int} {out : List Nat} (h : Go15 ps out) {k x : Nat} (hk : k < out.length) (hp : pa ps (out.getD k 0) = some x) : ∃ t, t < k ∧ out.getD t 0 = x := by
  have := (h k _ (go_get hk)).1.2.2 x hp
  obtain ⟨t, ht⟩ := List.mem_iff_getElem?.1 this
  have htk : t < k := by
    rcases Nat.lt_or_ge t k with h' | h'
    · exact h'
    · rw [List.getElem?_eq_none (by rw [List.length_take]; omega)] at ht; cases ht
  rw [List.getElem?_take_of_lt htk] at ht
  exact ⟨t, htk, by rw [List.getD_eq_getElem?_getD, ht]; rfl⟩
/-- What comes later could not have come now, or is greater. -/
theorem go_later {ps : List Int} {out : List Nat} (h : Go15 ps out) {i k : Nat} (hik : i ≤ k) (hk : k < out.length) (hp : ∀ x, pa ps (out.getD k 0) = some x → ∃ t, t < i ∧ out.getD t 0 = x) : out.getD i 0 ≤ out.getD k 0 := by
  refine (h i _ (go_get (by omega))).2 _ ⟨(h k _ (go_get hk)).1.1, fun hm => ?_, fun x hx => ?_⟩
  · obtain ⟨t, ht⟩ := List.mem_iff_getElem?.1 hm
    have hti : t < i := by
      rcases Nat.lt_or_ge t i with h' | h'
      · exact h'
      · rw [List.getElem?_eq_none (by rw [List.length_take]; omega)] at ht; cases ht
    rw [List.getElem?_take_of_lt hti] at ht
    have := h.nodup ht (go_get hk)
    omega
  · obtain ⟨t, ht, e⟩ := hp x hx
    rw [List.mem_iff_getElem?]
    exact ⟨t, by rw [List.getElem?_take_of_lt ht, ← e]; exact go_get (by omega)⟩
theorem okp_at {ps : List Int} (h : Okp ps) {i : Nat} (hi : i < ps.length) : ps.getD i (-1) = -1 ∨ (0 ≤ ps.getD i (-1) ∧ ps.getD i (-1) < (ps.length : Int)) :=
  h i (ps.getD i (-1)) (by rw [List.getD_eq_getElem?_getD, List.getElem?_eq_getElem hi]; rfl)
theorem ints_at {out : List Nat} {k : Nat} (h : k < out.length) : (ints out).getD k (-1) = (out.getD k 0 : Int) := by
  simp [ints, List.getD_eq_getElem?_getD, h]
theorem few_no' {ps : List Int} (a : Option Addr) (cap : Nat) (w : World) (hL : Li w a ps.length ps) (hc : ps.length ≤ cap) (hn : a = none → cap = 0) (hl : cap ≤ 17592186043904) (hT : ¬ Tre (ps.take 300)) :
    Calls Try.prog 6 #[.slice a ps.length cap, .int .i64 300] w fun e w' => e = .returned (.tuple #[.pointer none, .int .i64 0]) ∧ Below w.heap.size w w' := by
  refine (few_any ps a cap w hL hc hn hl).mono ?_
  rintro e w' ⟨⟨q, n, rfl, h⟩, hb⟩
  rcases h with ⟨-, rfl, rfl⟩ | ⟨h, -⟩
  · exact ⟨rfl, hb⟩
  · exact absurd h hT
theorem few_yes' {ps : List Int} (a : Option Addr) (cap : Nat) (w : World) (hL : Li w a ps.length ps) (hc : ps.length ≤ cap) (hn : a = none → cap = 0) (hl : cap ≤ 17592186043904) (hT : Tre (ps.take 300)) :
    Calls Try.prog 6 #[.slice a ps.length cap, .int .i64 300] w fun e w' => (∃ p a' cap', e = .returned (.tuple #[.pointer (some ⟨p, 0, none⟩), .int .i64 (ps.take 300).length]) ∧ Tv w' (some ⟨p, 0, none⟩) a' (ps.take 300).length cap' (ps.take 300) true) ∧ Below w.heap.size w w' := by
  refine (few_any ps a cap w hL hc hn hl).mono ?_
  rintro e w' ⟨⟨q, n, rfl, h⟩, hb⟩
  rcases h with ⟨h, -⟩ | ⟨-, rfl, p, a', cap', rfl, hv⟩
  · exact absurd hT h
  · exact ⟨⟨p, a', cap', rfl, hv⟩, hb⟩
set_option maxRecDepth 100000 in
set_option maxHeartbeats 8000000 in
theorem sorted_walk (a0 : Option Addr) (len0 cap0 : Nat) (ps : List Int) (w : World) (hL : Li w a0 len0 ps) (hc : len0 ≤ cap0) (hb : cap0 ≤ 17592186043904) (hn : a0 = none → len0 = 0 ∧ cap0 = 0) (hz : ∀ z ∈ ps, b64 z) :
    Calls Try.prog 3 #[.slice a0 len0 cap0] w fun e w' => e = .returned (.bool true) ∧ Below w.heap.size w w' := by
  obtain rfl := hL.1
  have HA := awake15 w
  have HL : Hid (Li w a0 ps.length ps) := hL
  have hn' : a0 = none → cap0 = 0 := fun e => (hn e).2
  clear hz hn hL
  by_cases hT : Tre (ps.take 300)
  · have hF := fun W (h : Below w.heap.size w W) => few_yes' a0 cap0 W (HL.out.after h) hc hn' hb hT
    have hql : (ps.take 300).length ≤ 300 := by rw [List.length_take]; omega
    generalize ps.take 300 = qs at *
    have HF : Hid _ := hF
    have hTq : Hid (Tre qs) := hT
    have hm := make_int qs.length (by omega)
    clear hF hT
    go_enter Try.func3, Try.ntmps3
    go_wp2_with (first
      | (go_at_call 5; refine HA.mono ?_; rintro e w1 ⟨rfl, hb1⟩; have HB1 : Hid (Below w.heap.size w w1) := hb1; clear hb1 HA)
      | (go_at_call 6; refine (HF.out w1 HB1.out).mono ?_; rintro e w2 ⟨⟨p, a2, c2, rfl, hv⟩, hb2⟩; have HB2 : Hid (Below w.heap.size w w2) := step HB1.out hb2; have HT2 : Hid (Tv w2 (some ⟨p, 0, none⟩) a2 qs.length c2 qs true) := hv; clear hb2 hv HF)
      | (go_at_call 7; refine (order_any HT2.out hTq.out (by omega)).mono ?_; rintro e w3 ⟨⟨lst, out, rfl, hgo, hol, hge⟩, hb3⟩; obtain ⟨al, cl, rfl, hli⟩ := hge.sl; rw [ints_length, hol] at hli ⊢; have HGo : Hid (Go15 qs out) := hgo; have HOl : Hid (out.length = qs.length) := hol; have HLi : Hid (Li w3 al qs.length (ints out)) := hli; have HB3 : Hid (Below w.heap.size w w3) := step HB2.out hb3; have HT3 : Hid (Tv w3 (some ⟨p, 0, none⟩) a2 qs.length c2 qs true) := HT2.out.after hb3; clear hgo hol hge hli hb3))
    refine ent1 w3 _ _ (Q := fun W => Code.wp _ _ _ _ W) ?_
    intro W4 hB4 hs4 V4
    have HP0 : Hid (Ow 3 (Value.int .i64) W4 w3.heap.size ((List.range qs.length).map (fun j => if j < 0 then (-1 : Int) else 0))) := by
      show Va _ _ _ _
      rw [show ((List.range qs.length).map (fun j => if j < 0 then (-1 : Int) else 0)) = List.replicate qs.length 0 from by rw [mr_zero]; exact mr_congr (fun j hj => by rw [if_neg (Nat.not_lt_zero _)])]
      simpa using V4
    have HB4 : Hid (Below w3.heap.size w3 W4) := hB4
    clear V4 hB4 hs4 hm
    go_loopw [7] (fun v wr => ∃ k : Nat, v = .int .i64 k ∧ k ≤ qs.length ∧ Hid (Ow 3 (Value.int .i64) wr w3.heap.size ((List.range qs.length).map (fun j => if j < k then (-1 : Int) else 0))) ∧ Hid (Below w3.heap.size w3 wr)) (fun v _ => (qs.length - (intOf v).toNat : Nat))
    case atStart => exact ⟨0, rfl, Nat.zero_le _, HP0.out, HB4.out⟩
    case round =>
      clear HP0 HB4
      obtain ⟨k, rfl, hk, HP, HB⟩ := hrel
      rcases Nat.lt_or_ge k qs.length with hlt | hge
      · have hki : (k : Int) < qs.length := by omega
        have cp := HP.out.cell k 0 (by simp [hlt])
        have fp := HP.out.frozen k
        have HE : Hid (((List.range qs.length).map (fun j => if j < k then (-1 : Int) else 0)).set k (-1) = (List.range qs.length).map (fun j => if j < k + 1 then (-1 : Int) else 0)) := mr_set (by rw [if_pos (by omega)]) (fun q hq hne => by by_cases e : q < k; rw [if_pos e, if_pos (by omega)]; rw [if_neg e, if_neg (by omega)])
        generalize ((List.range qs.length).map (fun j => if j < k then (-1 : Int) else 0)).getD k 0 = y at *
        go_wp2_with fail
        go_roundw
        case rel => exact ⟨k + 1, rfl, by omega, by rw [← HE.out]; exact HP.out.set k _ _ rfl, HB.out.setCell (p := ⟨w3.heap.size, k, none⟩) (by simp) _⟩
        case measure => simp [intOf]; omega
      · obtain rfl : k = qs.length := by omega
        clear hge hk
        have HP2 : Hid (Ow 3 (Value.int .i64) wr w3.heap.size ((List.range qs.length).map (plc out 0))) := by
          show Va _ _ _ _
          rw [show (List.range qs.length).map (plc out 0) = (List.range qs.length).map (fun j => if j < qs.length then (-1 : Int) else 0) from mr_congr (fun j hj => by rw [if_pos hj]; rfl)]
          exact HP.out
        clear HP
        go_wp2_with fail
        go_loopw [8] (fun v wr => ∃ k : Nat, v = .int .i64 k ∧ k ≤ qs.length ∧ Hid (Ow 3 (Value.int .i64) wr w3.heap.size ((List.range qs.length).map (plc out k))) ∧ Hid (Below w3.heap.size w3 wr)) (fun v _ => (qs.length - (intOf v).toNat : Nat))
        case atStart => exact ⟨0, rfl, Nat.zero_le _, HP2.out, HB.out⟩
        case round =>
          clear HP2 HB
          obtain ⟨k, rfl, hk, HP, HB⟩ := hrel
          rcases Nat.lt_or_ge k qs.length with hlt | hge
          · have hki : (k : Int) < qs.length := by omega
            have hko : k < out.length := by rw [HOl.out]; exact hlt
            obtain ⟨b, off, rfl, hcl⟩ := (HLi.out.after HB.out).at hlt
            rw [ints_at hko] at hcl
            have hxl : out.getD k 0 < qs.length := HGo.out.lt (List.mem_of_getElem? (go_get hko))
            have cp := HP.out.cell (out.getD k 0) 0 (by simpa using hxl)
            rw [mr_get _ _ hxl, plc_no (fun t ht e => by have := go_inj HGo.out t k (by omega) hko e; omega)] at cp
            have fp := HP.out.frozen (out.getD k 0)
            have HE : Hid (((List.range qs.length).map (plc out k)).set (out.getD k 0) k = (List.range qs.length).map (plc out (k + 1))) := mr_set (by show (if _ then _ else _) = _; rw [if_pos rfl]) (fun q hq hne => by show (if _ then _ else _) = _; rw [if_neg (fun e => hne e.symm)])
            generalize out.getD k 0 = x at *
            have hx0 : ¬ (x : Int) < 0 := by omega
            have hxn : ¬ (qs.length : Int) ≤ x := by omega
            have hxi : (x : Int) < qs.length := by omega
            go_wp2_with fail
            go_roundw
            case rel => exact ⟨k + 1, rfl, by omega, by rw [← HE.out]; exact HP.out.set x _ _ rfl, HB.out.setCell (p := ⟨w3.heap.size, x, none⟩) (by simp) _⟩
            case measure => simp [intOf]; omega
          · obtain rfl : k = qs.length := by omega
            clear hge hk
            have HP9 : Hid (Ow 3 (Value.int .i64) wr w3.heap.size ((List.range qs.length).map (plc out qs.length))) := HP.out
            have HB9 : Hid (Below w3.heap.size w3 wr) := HB.out
            have hin : ∀ a b, a < out.length → b < out.length → out.getD a 0 = out.getD b 0 → a = b := go_inj HGo.out
            have HIn : Hid _ := hin
            clear HP HB hin
            obtain ⟨W5, hW5⟩ : ∃ W5, wr = W5 := ⟨_, rfl⟩
            rw [hW5] at HP9 HB9 ⊢
            clear hW5
            go_wp2_with fail
            go_loopw [9, 10] (fun v _ wr => ∃ i : Nat, v = .int .i64 i ∧ i ≤ qs.length ∧ Hid (Below W5.heap.size W5 wr)) (fun v _ _ => (qs.length - (intOf v).toNat : Nat))
            case atStart => exact ⟨0, rfl, Nat.zero_le _, Below.refl _ _⟩
            case round =>
              obtain ⟨i, rfl, hi, HBr⟩ := hrel
              rcases Nat.lt_or_ge i qs.length with hlti | hgei
              · have hii : (i : Int) < qs.length := by omega
                go_wp2_with fail
                go_loopw [10, 11, 12] (fun v _ _ wr => ∃ k : Nat, v = .int .i64 k ∧ i ≤ k ∧ k ≤ qs.length ∧ Hid (Below W5.heap.size W5 wr)) (fun v _ _ _ => (qs.length - (intOf v).toNat : Nat))
                case atStart => exact ⟨i, rfl, Nat.le_refl _, hi, HBr.out⟩
                case round =>
                  clear HBr
                  obtain ⟨k, rfl, hik, hk, HBr⟩ := hrel
                  rcases Nat.lt_or_ge k qs.length with hltk | hgek
                  · have hki : (k : Int) < qs.length := by omega
                    have hko : k < out.length := by rw [HOl.out]; exact hltk
                    have hio : i < out.length := by rw [HOl.out]; exact hlti
                    have hLr := HLi.out.after (step HB9.out HBr.out)
                    obtain ⟨b, off, rfl, hck⟩ := hLr.at hltk
                    obtain ⟨b', off', e', hci⟩ := hLr.at hlti
                    cases e'
                    rw [ints_at hko] at hck
                    rw [ints_at hio] at hci
                    have hxl : out.getD k 0 < qs.length := HGo.out.lt (List.mem_of_getElem? (go_get hko))
                    have hPa := parent_ok (HT3.out.after (step HB9.out HBr.out)) (out.getD k 0) hxl
                    have HPr := HP9.out.after HBr.out
                    have hgp := getD_of_pa hTq.out.1 hxl
                    have hLt := fun h => go_later HGo.out hik hko h
                    have hAh := fun x hx => go_ahead (x := x) HGo.out hko hx
                    have hok := okp_at hTq.out.1 hxl
                    clear hLr
                    by_cases hroot : qs.getD (out.getD k 0) (-1) = -1
                    · rw [hroot] at hPa
                      have hle : out.getD i 0 ≤ out.getD k 0 := hLt (fun x hx => by rw [hgp.1.2 hroot] at hx; cases hx)
                      have hd : decide ((out.getD k 0 : Int) < (out.getD i 0 : Int)) = false := decide_eq_false (by omega)
                      clear hgp hLt hAh hok HPr hroot hle
                      generalize ((out.getD k 0 : Nat) : Int) = xk at *
                      generalize ((out.getD i 0 : Nat) : Int) = xi at *
                      go_wp2_with (go_at_call 8; refine hPa.mono ?_; rintro e w9 ⟨rfl, hw⟩; rw [hw]; clear hw w9 hPa)
                      go_quiet (fail)
                      refine nameR wr _ (Q := fun W => Exit.then _ _ _ _ W) (fun wq hcell hBw hsq => ?_)
                      have HBq : Hid (Below W5.heap.size W5 wq) := step HBr.out hBw
                      clear hcell hBw hsq HBr hck hci
                      go_wp2_with fail
                      go_roundw
                      case rel => exact ⟨k + 1, rfl, by omega, by omega, HBq.out⟩
                      case measure => simp [intOf]; omega
                    · obtain ⟨r, hr⟩ : ∃ r : Nat, qs.getD (out.getD k 0) (-1) = r := ⟨(qs.getD (out.getD k 0) (-1)).toNat, by omega⟩
                      have hrl : r < qs.length := by rw [hr] at hok; omega
                      have hpr := (hgp.2 r).2 hr
                      obtain ⟨t, htk, htr⟩ := hAh r hpr
                      have cpr := HPr.cell r 0 (by simpa using hrl)
                      rw [mr_get _ _ hrl, ← htr, plc_at HIn.out (by omega) (by rw [HOl.out]; exact Nat.le_refl _), htr] at cpr
                      rw [hr] at hPa
                      have hri : (r : Int) < qs.length := by omega
                      have hr0 : ¬ (r : Int) < 0 := by omega
                      have htki : ¬ (k : Int) ≤ t := by omega
                      by_cases hx : (out.getD k 0 : Int) < (out.getD i 0 : Int)
                      · have hti : ¬ (t : Int) < i := fun h => by
                          have := hLt (fun x hx' => ⟨t, by omega, by rw [hpr] at hx'; rw [htr]; exact Option.some.inj hx'⟩)
                          omega
                        have hd2 : decide ((t : Int) < i) = false := decide_eq_false hti
                        clear hgp hLt hAh hok HPr hroot htr hpr hr
                        generalize ((out.getD k 0 : Nat) : Int) = xk at *
                        generalize ((out.getD i 0 : Nat) : Int) = xi at *
                        go_wp2_with (go_at_call 8; refine hPa.mono ?_; rintro e w9 ⟨rfl, hw⟩; rw [hw]; clear hw w9 hPa)
                        go_quiet (fail)
                        refine nameR wr _ (Q := fun W => Exit.then _ _ _ _ W) (fun wq hcell hBw hsq => ?_)
                        have HBq : Hid (Below W5.heap.size W5 wq) := step HBr.out hBw
                        clear hcell hBw hsq HBr hck hci cpr
                        go_wp2_with fail
                        go_roundw
                        case rel => exact ⟨k + 1, rfl, by omega, by omega, HBq.out⟩
                        case measure => simp [intOf]; omega
                      · have hd : decide ((out.getD k 0 : Int) < (out.getD i 0 : Int)) = false := decide_eq_false hx
                        clear hgp hLt hAh hok HPr hroot htr hpr hr hx
                        generalize ((out.getD k 0 : Nat) : Int) = xk at *
                        generalize ((out.getD i 0 : Nat) : Int) = xi at *
                        go_wp2_with (go_at_call 8; refine hPa.mono ?_; rintro e w9 ⟨rfl, hw⟩; rw [hw]; clear hw w9 hPa)
                        go_quiet (fail)
                        refine nameR wr _ (Q := fun W => Exit.then _ _ _ _ W) (fun wq hcell hBw hsq => ?_)
                        have HBq : Hid (Below W5.heap.size W5 wq) := step HBr.out hBw
                        clear hcell hBw hsq HBr hck hci cpr
                        go_wp2_with fail
                        go_roundw
                        case rel => exact ⟨k + 1, rfl, by omega, by omega, HBq.out⟩
                        case measure => simp [intOf]; omega
                  · obtain rfl : k = qs.length := by omega
                    clear hgek hk
                    go_wp2_with fail
                    go_roundw
                    case rel => exact ⟨i + 1, rfl, by omega, HBr.out⟩
                    case measure => simp [intOf]; omega
              · obtain rfl : i = qs.length := by omega
                clear hgei hi
                go_wp2_with fail
                go_ret
                exact ⟨rfl, HB3.out.trans ((step HB9.out HBr.out).mono HB3.out.size)⟩
  · have hF := fun W (h : Below w.heap.size w W) => few_no' a0 cap0 W (HL.out.after h) hc hn' hb hT
    go_enter Try.func3, Try.ntmps3
    go_wp2_with (first
      | (go_at_call 5; refine HA.mono ?_; rintro e w1 ⟨rfl, hb1⟩; have HB1 : Hid (Below w.heap.size w w1) := hb1; clear hb1 HA)
      | (go_at_call 6; refine (hF w1 HB1.out).mono ?_; rintro e w2 ⟨rfl, hb2⟩; have HB2 : Hid (Below w.heap.size w w2) := step HB1.out hb2; clear hb2 hF))
    go_ret
    exact ⟨rfl, HB2.out⟩
end Go.Proofs.Ytfmbloagmeodeab
