/-
  juris: the statements' back; the walk of JurisRings.
-/
import Derived.Test.YtfmbloagmeodeabJuA
namespace Go.Proofs.Ytfmbloagmeodeab
open Go.RowKit Go.Shelf
set_option linter.unusedVariables false

open Classical in
/-- Is a place on a ring? -/
noncomputable def rgB (ps : List Int) (i : Nat) : Bool := decide (Rg ps i)
theorem rgB_true {ps : List Int} {i : Nat} (h : Rg ps i) : rgB ps i = true := @decide_eq_true _ (Classical.propDecidable _) h
theorem rgB_false {ps : List Int} {i : Nat} (h : ¬ Rg ps i) : rgB ps i = false := @decide_eq_false _ (Classical.propDecidable _) h
set_option maxHeartbeats 2000000 in
theorem back_any (ps : List Int) (hO : Okp ps) (hl : ps.length ≤ 4096) (a : Option Addr) (cap : Nat) (w : World) (hL : Li w a ps.length ps) (i : Nat) (hi : i < ps.length) :
    Calls Try.prog 12 #[.slice a ps.length cap, .int .i64 (i : Int)] w fun e w' => e = .returned (.bool (rgB ps i)) ∧ w' = w := by
  have HL : Hid (Li w a ps.length ps) := hL
  have HO : Hid (Okp ps) := hO
  obtain ⟨R, hR⟩ : ∃ R, rgB ps i = R := ⟨_, rfl⟩
  rw [hR]
  have HR : Hid (rgB ps i = R) := hR
  clear hL hO hR
  go_enter Try.func12, Try.ntmps12
  go_wp2_with fail
  go_loopw [5, 6] (fun v u wr => ∃ (t p : Nat), v = .int .i64 p ∧ u = .int .i64 t ∧ t ≤ ps.length ∧ p < ps.length ∧ Hid (ups ps t i = some p) ∧ Hid (∀ j, 0 < j → j ≤ t → ups ps j i ≠ some i) ∧ wr = w) (fun _ u _ => (ps.length - (intOf u).toNat : Nat))
  case atStart => exact ⟨0, i, rfl, rfl, Nat.zero_le _, hi, rfl, fun j h1 h2 => absurd h2 (by omega), rfl⟩
  case round =>
    obtain ⟨t, p, rfl, rfl, ht, hp, HU, HN, rfl⟩ := hrel
    rcases Nat.lt_or_ge t ps.length with hlt | hge
    · have hti : (t : Int) < ps.length := by omega
      have hpi : (p : Int) < ps.length := by omega
      obtain ⟨b, off, rfl, hc⟩ := HL.out.at hp
      have hok := HO.out p (ps.getD p (-1)) (by rw [List.getD_eq_getElem?_getD, List.getElem?_eq_getElem hp]; rfl)
      have HS : Hid (ups ps (t + 1) i = pa ps p) := by
        show _ = _
        rw [ups_succ, HU.out]; rfl
      have HG : Hid ((pa ps p = none ↔ ps.getD p (-1) = -1) ∧ ∀ k, pa ps p = some k ↔ ps.getD p (-1) = (k : Int)) := getD_of_pa HO.out hp
      generalize ps.getD p (-1) = x at *
      by_cases hn : x = -1
      · subst hn
        clear hok
        go_wp2_with fail
        go_ret
        refine ⟨?_, rfl⟩
        have hno : ¬ Rg ps i := by
          intro hr
          obtain ⟨j, h1, h2, e⟩ := rg_few HO.out hi hr
          rcases Nat.lt_or_ge t j with h3 | h3
          · rw [ups_later (HS.out.trans (HG.out.1.2 (by first | rfl | trivial))) (by omega)] at e; cases e
          · exact HN.out j h1 h3 e
        rw [← HR.out, rgB_false hno]; rfl
      · obtain ⟨r, rfl⟩ : ∃ r : Nat, x = r := ⟨x.toNat, by omega⟩
        have hrl : r < ps.length := by omega
        have hri : (r : Int) < ps.length := by omega
        have HP : Hid (ups ps (t + 1) i = some r) := HS.out.trans ((HG.out.2 r).2 rfl)
        clear hok HS HG
        by_cases he : (r : Int) = i
        · have e' : r = i := by omega
          subst e'
          go_wp2_with fail
          go_ret
          refine ⟨?_, rfl⟩
          have : Rg ps r := ⟨t + 1, by omega, HP.out⟩
          rw [← HR.out, rgB_true this]; rfl
        · go_wp2_with fail
          go_roundw
          case rel => exact ⟨t + 1, r, rfl, rfl, by omega, hrl, HP.out, fun j h1 h2 e => by
            rcases Nat.lt_or_ge t j with h3 | h3
            · obtain rfl : j = t + 1 := by omega
              rw [HP.out] at e
              have := Option.some.inj e
              omega
            · exact HN.out j h1 h3 e, by trivial⟩
          case measure => simp [intOf]; omega
    · obtain rfl : t = ps.length := by omega
      clear hge ht
      go_wp2_with fail
      go_ret
      refine ⟨?_, rfl⟩
      have hno : ¬ Rg ps i := by
        intro hr
        obtain ⟨j, h1, h2, e⟩ := rg_few HO.out hi hr
        exact HN.out j h1 h2 e
      rw [← HR.out, rgB_false hno]; rfl
theorem eqF (x0 x1 y0 y1 : Int) (w : World) : Sem.run Try.prog (binOp .eql 33 (.agg #[.int .i64 x0, .int .i64 x1]) (.agg #[.int .i64 y0, .int .i64 y1])) w = .ok (.bool (fq x0 x1 y0 y1)) w := by
  have u3 := Try.underlying3
  have a3 := Try.isAgg3
  have z3 := Try.sizeOf3
  have u4 := Try.underlying28
  have a4 := Try.isAgg28
  have z4 := Try.sizeOf28
  have hS : Try.prog.underlying 33 = some (.struct (Try.prog.fieldsOf 33)) := by kernel_rfl
  have hp : Try.prog.stoodInHeld 33 = false := by kernel_rfl
  rw [run_eql_struct, show (10000 : Nat) = 9999 + 1 from rfl, run_equalIn_agg w 9999 33 _ _ hS hp]
  simp only [Program.fieldsOf, Try.underlying33]
  go_simp
  by_cases h1 : x0 = y0 <;> by_cases h2 : x1 = y1 <;> simp [h1, h2, fq]
/-- What New answers, each case by itself. -/
theorem new_case (qs : List Int) (hl : qs.length ≤ 4096) :
    (∃ i : Nat, i < qs.length ∧ Bd qs i ∧ (∀ k, k < i → ¬ Bd qs k) ∧ ∀ a cap w, Li w a qs.length qs → Calls Try.prog 9 #[.slice a qs.length cap] w fun e w' => e = .returned (.tuple #[.pointer none, .agg #[.int .i64 150, .int .i64 (i : Int)]]) ∧ Below w.heap.size w w') ∨
    (Okp qs ∧ ∃ i : Nat, i < qs.length ∧ Rg qs i ∧ (∀ k, k < i → ¬ Rg qs k) ∧ ∀ a cap w, Li w a qs.length qs → Calls Try.prog 9 #[.slice a qs.length cap] w fun e w' => e = .returned (.tuple #[.pointer none, .agg #[.int .i64 171, .int .i64 (i : Int)]]) ∧ Below w.heap.size w w') ∨
    (Tre qs ∧ ∀ a cap w, Li w a qs.length qs → Calls Try.prog 9 #[.slice a qs.length cap] w fun e w' => (∃ p a' cap', e = .returned (.tuple #[.pointer (some ⟨p, 0, none⟩), .agg #[.int .i64 0, .int .i64 0]]) ∧ Tv w' (some ⟨p, 0, none⟩) a' qs.length cap' qs true) ∧ Below w.heap.size w w') := by
  have hOb : ∀ i, i < qs.length → Bd qs i → ¬ Okp qs := fun i hi hb hO => by
    have := hO i (qs.getD i (-1)) (by rw [List.getD_eq_getElem?_getD, List.getElem?_eq_getElem hi]; rfl)
    exact absurd this (by have := hb.1; have := hb.2; omega)
  by_cases hB : ∃ i, i < qs.length ∧ Bd qs i
  · left
    obtain ⟨i, ⟨hi, hb⟩, hm⟩ := least_there hB
    refine ⟨i, hi, hb, fun k hk hbk => by have := hm k ⟨by omega, hbk⟩; omega, fun a cap w hL => (new_any qs a cap w hL (by omega)).mono ?_⟩
    rintro e w' ⟨⟨q, er, pl, rfl, h⟩, hbl⟩
    rcases h with ⟨h1, -⟩ | ⟨-, j, hj, hbj, hmj, rfl, rfl, rfl⟩ | ⟨-, hO, -⟩ | ⟨-, hT, -⟩
    · omega
    · have h1 := hm j ⟨hj, hbj⟩
      have h2 : ¬ i < j := fun h => hmj i h hb
      obtain rfl : i = j := by omega
      exact ⟨rfl, hbl⟩
    · exact absurd hO (hOb i hi hb)
    · exact absurd hT.1 (hOb i hi hb)
  · have hO : Okp qs := okp_of (fun i hi hb => hB ⟨i, hi, hb⟩)
    right
    rcases tre_or hO with hT | hR
    · right
      refine ⟨hT, fun a cap w hL => (new_any qs a cap w hL (by omega)).mono ?_⟩
      rintro e w' ⟨⟨q, er, pl, rfl, h⟩, hbl⟩
      obtain ⟨rfl, rfl, p, a', cap', rfl, hv⟩ := h.tre hl hT
      exact ⟨⟨p, a', cap', rfl, hv⟩, hbl⟩
    · left
      obtain ⟨i, hi, hr, hm⟩ := rg_least hR
      refine ⟨hO, i, hi, hr, hm, fun a cap w hL => (new_any qs a cap w hL (by omega)).mono ?_⟩
      rintro e w' ⟨⟨q, er, pl, rfl, h⟩, hbl⟩
      rcases h with ⟨h1, -⟩ | ⟨-, j, hj, hbj, -⟩ | ⟨-, -, j, hj, hrj, hmj, rfl, rfl, rfl⟩ | ⟨-, hT, -⟩
      · omega
      · exact absurd hO (hOb j hj hbj)
      · have h1 : ¬ j < i := fun h => hm j h hrj
        have h2 : ¬ i < j := fun h => hmj i h hr
        obtain rfl : i = j := by omega
        exact ⟨rfl, hbl⟩
      · exact absurd hr (hT.2 i hi)
set_option maxRecDepth 100000 in
set_option maxHeartbeats 8000000 in
theorem rings_walk (a0 : Option Addr) (len0 cap0 : Nat) (ps : List Int) (w : World) (hL : Li w a0 len0 ps) (hc : len0 ≤ cap0) (hb : cap0 ≤ 17592186043904) (hn : a0 = none → len0 = 0 ∧ cap0 = 0) (hz : ∀ z ∈ ps, b64 z) :
    Calls Try.prog 4 #[.slice a0 len0 cap0] w fun e w' => e = .returned (.bool true) ∧ Below w.heap.size w w' := by
  obtain rfl := hL.1
  have HA := awake15 w
  have ef := eqF
  have hn' : a0 = none → cap0 = 0 := fun e => (hn e).2
  clear hz hn
  by_cases h3 : (300 : Int) < ps.length
  · have hq3 : (ps.take 300).length = 300 := by rw [List.length_take]; omega
    have hci : (300 : Int) ≤ cap0 := by omega
    have hLq : Li w a0 (ps.take 300).length (ps.take 300) := by rw [hq3]; exact hL.take 300 (by omega)
    have hK := fun W (h : Below w.heap.size w W) => copy_int a0 cap0 (ps.take 300) W (hLq.after h) hn' (by omega)
    have hN := new_case (ps.take 300) (by omega)
    generalize ps.take 300 = qs at *
    rw [hq3] at hK hLq hN
    have HL : Hid (Li w a0 300 qs) := hLq
    have HK : Hid _ := hK
    clear hL hK hLq
    rcases hN with ⟨i, hi, hbd, -, hN⟩ | ⟨hO, i, hi, hr, hm, hN⟩ | ⟨hT, hN⟩
    · have HN : Hid _ := hN
      have hil : i < 300 := by omega
      have hii : (i : Int) < 300 := by omega
      obtain ⟨b, off, rfl, hcx⟩ := HL.out.at hil
      have hbx := hbd
      unfold Bd at hbx
      have HBd0 : qs.getD i (-1) ≠ -1 ∧ ¬(0 ≤ qs.getD i (-1) ∧ qs.getD i (-1) < 300) := by have := hbd; unfold Bd at this; simpa [hq3] using this
      have HBd : Hid _ := HBd0
      clear HBd0
      generalize qs.getD i (-1) = x at *
      have hfq : fq 150 (i : Int) 0 0 = false := fq_ne (by omega)
      clear hN hbx hbd
      by_cases hx1 : x < -1
      · clear HBd
        go_enter Try.func4, Try.ntmps4
        go_wp2_with (first
          | (go_at_call 5; refine HA.mono ?_; rintro e w1 ⟨rfl, hb1⟩; have HB1 : Hid (Below w.heap.size w w1) := hb1; clear hb1 HA)
          | (go_at_call 10; refine (HK.out w1 HB1.out).mono ?_; rintro e w2 ⟨⟨v, rfl, hG⟩, hb2⟩; obtain ⟨a2, c2, rfl, hL2⟩ := hG.sl; rw [hq3] at hL2 ⊢; have HL2 : Hid (Li w2 a2 300 qs) := hL2; have HB2 : Hid (Below w.heap.size w w2) := step HB1.out hb2; clear hL2 hb2 hG HB1)
          | (go_at_call 9; refine (HN.out a2 c2 w2 HL2.out).mono ?_; rintro e w3 ⟨rfl, hb3⟩; have HB3 : Hid (Below w.heap.size w w3) := step HB2.out hb3; have hcw : w3.cell? ⟨b, off + i, none⟩ = some (.int .i64 x) := (step HB2.out hb3).cell (p := ⟨b, off + i, none⟩) (cell_lt hcx) |>.trans hcx; have hcw2 : ∀ o, (w3.alloc o).cell? ⟨b, off + i, none⟩ = some (.int .i64 x) := fun o => Lib.cell?_alloc_some _ hcw; clear hb3 HB2 HL2))
        refine ent1 w3 _ _ (Q := fun W => bodyPost _ _ _ _ _ W) ?_
        intro W4 hB4 hs4 V4
        go_ret
        exact ⟨rfl, step HB3.out hB4⟩
      · have hx2 : 300 ≤ x := by have := HBd.out; omega
        clear HBd
        go_enter Try.func4, Try.ntmps4
        go_wp2_with (first
          | (go_at_call 5; refine HA.mono ?_; rintro e w1 ⟨rfl, hb1⟩; have HB1 : Hid (Below w.heap.size w w1) := hb1; clear hb1 HA)
          | (go_at_call 10; refine (HK.out w1 HB1.out).mono ?_; rintro e w2 ⟨⟨v, rfl, hG⟩, hb2⟩; obtain ⟨a2, c2, rfl, hL2⟩ := hG.sl; rw [hq3] at hL2 ⊢; have HL2 : Hid (Li w2 a2 300 qs) := hL2; have HB2 : Hid (Below w.heap.size w w2) := step HB1.out hb2; clear hL2 hb2 hG HB1)
          | (go_at_call 9; refine (HN.out a2 c2 w2 HL2.out).mono ?_; rintro e w3 ⟨rfl, hb3⟩; have HB3 : Hid (Below w.heap.size w w3) := step HB2.out hb3; have hcw : w3.cell? ⟨b, off + i, none⟩ = some (.int .i64 x) := (step HB2.out hb3).cell (p := ⟨b, off + i, none⟩) (cell_lt hcx) |>.trans hcx; have hcw2 : ∀ o, (w3.alloc o).cell? ⟨b, off + i, none⟩ = some (.int .i64 x) := fun o => Lib.cell?_alloc_some _ hcw; clear hb3 HB2 HL2))
        refine ent1 w3 _ _ (Q := fun W => bodyPost _ _ _ _ _ W) ?_
        intro W4 hB4 hs4 V4
        go_ret
        exact ⟨rfl, step HB3.out hB4⟩
    · have HN : Hid _ := hN
      have hil : i < 300 := by omega
      have hii : (i : Int) < 300 := by omega
      have hfq : fq 171 (i : Int) 0 0 = false := fq_ne (by omega)
      have HO : Hid (Okp qs) := hO
      have HR : Hid (Rg qs i) := hr
      have HM : Hid (∀ k, k < i → ¬ Rg qs k) := hm
      have hbk := fun (W : World) (h : Below w.heap.size w W) (j : Nat) (hj : j < 300) => back_any qs HO.out (by omega) a0 cap0 W (by have := HL.out.after h; simpa [hq3] using this) j (by omega)
      rw [hq3] at hbk
      have HBK : Hid _ := hbk
      clear hN hO hr hm hbk
      go_enter Try.func4, Try.ntmps4
      go_wp2_with (first
        | (go_at_call 5; refine HA.mono ?_; rintro e w1 ⟨rfl, hb1⟩; have HB1 : Hid (Below w.heap.size w w1) := hb1; clear hb1 HA)
        | (go_at_call 10; refine (HK.out w1 HB1.out).mono ?_; rintro e w2 ⟨⟨v, rfl, hG⟩, hb2⟩; obtain ⟨a2, c2, rfl, hL2⟩ := hG.sl; rw [hq3] at hL2 ⊢; have HL2 : Hid (Li w2 a2 300 qs) := hL2; have HB2 : Hid (Below w.heap.size w w2) := step HB1.out hb2; clear hL2 hb2 hG HB1)
        | (go_at_call 9; refine (HN.out a2 c2 w2 HL2.out).mono ?_; rintro e w3 ⟨rfl, hb3⟩; have HB3 : Hid (Below w.heap.size w w3) := step HB2.out hb3; clear hb3 HB2 HL2)
        | (go_at_call 12; refine ent1 w3 _ _ (Q := fun W => Calls _ _ _ W _) ?_; intro W4 hB4 hs4 V4; have HB4 : Hid (Below w.heap.size w W4) := step HB3.out hB4; refine (HBK.out W4 HB4.out i hil).mono ?_; rintro e w5 ⟨rfl, hw⟩; rw [rgB_true HR.out, hw]; clear hw w5; have d1 := V4.c1; have d0 := V4.c0))
      have HV4 : Hid (Va W4 w3.heap.size 33 #[.int .i64 171, .int .i64 (i : Int)]) := V4
      clear d0 d1 V4 hB4
      go_loopw [5] (fun v wr => ∃ j : Nat, v = .int .i64 j ∧ j ≤ i ∧ wr = W4) (fun v _ => (i - (intOf v).toNat : Nat))
      case atStart => exact ⟨0, rfl, Nat.zero_le _, rfl⟩
      case round =>
        obtain ⟨j, rfl, hj, hwr⟩ := hrel
        subst hwr
        have d1 := HV4.out.c1
        rcases Nat.lt_or_ge j i with hlt | hge
        · have hji : (j : Int) < i := by omega
          have hjb := HBK.out wr HB4.out j (by omega)
          rw [rgB_false (HM.out j hlt)] at hjb
          go_wp2_with (go_at_call 12; refine hjb.mono ?_; rintro e w5 ⟨rfl, hw⟩; rw [hw]; clear hw w5)
          go_roundw
          case rel => exact ⟨j + 1, rfl, by omega, by trivial⟩
          case measure => simp [intOf]; omega
        · obtain rfl : j = i := by omega
          go_wp2_with fail
          go_ret
          exact ⟨rfl, HB4.out⟩
    · have HN : Hid _ := hN
      have hfq : fq 0 0 0 0 = true := by decide
      clear hN
      go_enter Try.func4, Try.ntmps4
      go_wp2_with (first
        | (go_at_call 5; refine HA.mono ?_; rintro e w1 ⟨rfl, hb1⟩; have HB1 : Hid (Below w.heap.size w w1) := hb1; clear hb1 HA)
        | (go_at_call 10; refine (HK.out w1 HB1.out).mono ?_; rintro e w2 ⟨⟨v, rfl, hG⟩, hb2⟩; obtain ⟨a2, c2, rfl, hL2⟩ := hG.sl; rw [hq3] at hL2 ⊢; have HL2 : Hid (Li w2 a2 300 qs) := hL2; have HB2 : Hid (Below w.heap.size w w2) := step HB1.out hb2; clear hL2 hb2 hG HB1)
        | (go_at_call 9; refine (HN.out a2 c2 w2 HL2.out).mono ?_; rintro e w3 ⟨⟨p, a3, c3, rfl, hv⟩, hb3⟩; have HB3 : Hid (Below w.heap.size w w3) := step HB2.out hb3; have HT3 : Hid (Tv w3 (some ⟨p, 0, none⟩) a3 300 c3 qs true) := hv; clear hb3 HB2 HL2 hv)
        | (go_at_call 11; refine ent1 w3 _ _ (Q := fun W => Calls _ _ _ W _) ?_; intro W4 hB4 hs4 V4; have HB4 : Hid (Below w.heap.size w W4) := step HB3.out hB4; refine (len_any (HT3.out.after hB4)).mono ?_; rintro e w5 ⟨rfl, hw⟩; rw [hw]; clear hw w5))
      go_ret
      exact ⟨rfl, HB4.out⟩
  · have hq3 : ps.length ≤ 300 := by omega
    have hK := fun W (h : Below w.heap.size w W) => copy_int a0 cap0 ps W (hL.after h) hn' (by omega)
    have hN := new_case ps (by omega)
    have HL : Hid (Li w a0 ps.length ps) := hL
    have HK : Hid _ := hK
    clear hL hK
    rcases hN with ⟨i, hi, hbd, -, hN⟩ | ⟨hO, i, hi, hr, hm, hN⟩ | ⟨hT, hN⟩
    · have HN : Hid _ := hN
      have hil : i < ps.length := by omega
      have hii : (i : Int) < (ps.length : Int) := by omega
      obtain ⟨b, off, rfl, hcx⟩ := HL.out.at hil
      have hbx := hbd
      unfold Bd at hbx
      have HBd0 : ps.getD i (-1) ≠ -1 ∧ ¬(0 ≤ ps.getD i (-1) ∧ ps.getD i (-1) < (ps.length : Int)) := by have := hbd; unfold Bd at this; simpa [] using this
      have HBd : Hid _ := HBd0
      clear HBd0
      generalize ps.getD i (-1) = x at *
      have hfq : fq 150 (i : Int) 0 0 = false := fq_ne (by omega)
      clear hN hbx hbd
      by_cases hx1 : x < -1
      · clear HBd
        go_enter Try.func4, Try.ntmps4
        go_wp2_with (first
          | (go_at_call 5; refine HA.mono ?_; rintro e w1 ⟨rfl, hb1⟩; have HB1 : Hid (Below w.heap.size w w1) := hb1; clear hb1 HA)
          | (go_at_call 10; refine (HK.out w1 HB1.out).mono ?_; rintro e w2 ⟨⟨v, rfl, hG⟩, hb2⟩; obtain ⟨a2, c2, rfl, hL2⟩ := hG.sl; have HL2 : Hid (Li w2 a2 ps.length ps) := hL2; have HB2 : Hid (Below w.heap.size w w2) := step HB1.out hb2; clear hL2 hb2 hG HB1)
          | (go_at_call 9; refine (HN.out a2 c2 w2 HL2.out).mono ?_; rintro e w3 ⟨rfl, hb3⟩; have HB3 : Hid (Below w.heap.size w w3) := step HB2.out hb3; have hcw : w3.cell? ⟨b, off + i, none⟩ = some (.int .i64 x) := (step HB2.out hb3).cell (p := ⟨b, off + i, none⟩) (cell_lt hcx) |>.trans hcx; have hcw2 : ∀ o, (w3.alloc o).cell? ⟨b, off + i, none⟩ = some (.int .i64 x) := fun o => Lib.cell?_alloc_some _ hcw; clear hb3 HB2 HL2))
        refine ent1 w3 _ _ (Q := fun W => bodyPost _ _ _ _ _ W) ?_
        intro W4 hB4 hs4 V4
        go_ret
        exact ⟨rfl, step HB3.out hB4⟩
      · have hx2 : (ps.length : Int) ≤ x := by have := HBd.out; omega
        clear HBd
        go_enter Try.func4, Try.ntmps4
        go_wp2_with (first
          | (go_at_call 5; refine HA.mono ?_; rintro e w1 ⟨rfl, hb1⟩; have HB1 : Hid (Below w.heap.size w w1) := hb1; clear hb1 HA)
          | (go_at_call 10; refine (HK.out w1 HB1.out).mono ?_; rintro e w2 ⟨⟨v, rfl, hG⟩, hb2⟩; obtain ⟨a2, c2, rfl, hL2⟩ := hG.sl; have HL2 : Hid (Li w2 a2 ps.length ps) := hL2; have HB2 : Hid (Below w.heap.size w w2) := step HB1.out hb2; clear hL2 hb2 hG HB1)
          | (go_at_call 9; refine (HN.out a2 c2 w2 HL2.out).mono ?_; rintro e w3 ⟨rfl, hb3⟩; have HB3 : Hid (Below w.heap.size w w3) := step HB2.out hb3; have hcw : w3.cell? ⟨b, off + i, none⟩ = some (.int .i64 x) := (step HB2.out hb3).cell (p := ⟨b, off + i, none⟩) (cell_lt hcx) |>.trans hcx; have hcw2 : ∀ o, (w3.alloc o).cell? ⟨b, off + i, none⟩ = some (.int .i64 x) := fun o => Lib.cell?_alloc_some _ hcw; clear hb3 HB2 HL2))
        refine ent1 w3 _ _ (Q := fun W => bodyPost _ _ _ _ _ W) ?_
        intro W4 hB4 hs4 V4
        go_ret
        exact ⟨rfl, step HB3.out hB4⟩
    · have HN : Hid _ := hN
      have hil : i < ps.length := by omega
      have hii : (i : Int) < (ps.length : Int) := by omega
      have hfq : fq 171 (i : Int) 0 0 = false := fq_ne (by omega)
      have HO : Hid (Okp ps) := hO
      have HR : Hid (Rg ps i) := hr
      have HM : Hid (∀ k, k < i → ¬ Rg ps k) := hm
      have hbk := fun (W : World) (h : Below w.heap.size w W) (j : Nat) (hj : j < ps.length) => back_any ps HO.out (by omega) a0 cap0 W (by have := HL.out.after h; simpa [] using this) j (by omega)
      have HBK : Hid _ := hbk
      clear hN hO hr hm hbk
      go_enter Try.func4, Try.ntmps4
      go_wp2_with (first
        | (go_at_call 5; refine HA.mono ?_; rintro e w1 ⟨rfl, hb1⟩; have HB1 : Hid (Below w.heap.size w w1) := hb1; clear hb1 HA)
        | (go_at_call 10; refine (HK.out w1 HB1.out).mono ?_; rintro e w2 ⟨⟨v, rfl, hG⟩, hb2⟩; obtain ⟨a2, c2, rfl, hL2⟩ := hG.sl; have HL2 : Hid (Li w2 a2 ps.length ps) := hL2; have HB2 : Hid (Below w.heap.size w w2) := step HB1.out hb2; clear hL2 hb2 hG HB1)
        | (go_at_call 9; refine (HN.out a2 c2 w2 HL2.out).mono ?_; rintro e w3 ⟨rfl, hb3⟩; have HB3 : Hid (Below w.heap.size w w3) := step HB2.out hb3; clear hb3 HB2 HL2)
        | (go_at_call 12; refine ent1 w3 _ _ (Q := fun W => Calls _ _ _ W _) ?_; intro W4 hB4 hs4 V4; have HB4 : Hid (Below w.heap.size w W4) := step HB3.out hB4; refine (HBK.out W4 HB4.out i hil).mono ?_; rintro e w5 ⟨rfl, hw⟩; rw [rgB_true HR.out, hw]; clear hw w5; have d1 := V4.c1; have d0 := V4.c0))
      have HV4 : Hid (Va W4 w3.heap.size 33 #[.int .i64 171, .int .i64 (i : Int)]) := V4
      clear d0 d1 V4 hB4
      go_loopw [5] (fun v wr => ∃ j : Nat, v = .int .i64 j ∧ j ≤ i ∧ wr = W4) (fun v _ => (i - (intOf v).toNat : Nat))
      case atStart => exact ⟨0, rfl, Nat.zero_le _, rfl⟩
      case round =>
        obtain ⟨j, rfl, hj, hwr⟩ := hrel
        subst hwr
        have d1 := HV4.out.c1
        rcases Nat.lt_or_ge j i with hlt | hge
        · have hji : (j : Int) < i := by omega
          have hjb := HBK.out wr HB4.out j (by omega)
          rw [rgB_false (HM.out j hlt)] at hjb
          go_wp2_with (go_at_call 12; refine hjb.mono ?_; rintro e w5 ⟨rfl, hw⟩; rw [hw]; clear hw w5)
          go_roundw
          case rel => exact ⟨j + 1, rfl, by omega, by trivial⟩
          case measure => simp [intOf]; omega
        · obtain rfl : j = i := by omega
          go_wp2_with fail
          go_ret
          exact ⟨rfl, HB4.out⟩
    · have HN : Hid _ := hN
      have hfq : fq 0 0 0 0 = true := by decide
      clear hN
      go_enter Try.func4, Try.ntmps4
      go_wp2_with (first
        | (go_at_call 5; refine HA.mono ?_; rintro e w1 ⟨rfl, hb1⟩; have HB1 : Hid (Below w.heap.size w w1) := hb1; clear hb1 HA)
        | (go_at_call 10; refine (HK.out w1 HB1.out).mono ?_; rintro e w2 ⟨⟨v, rfl, hG⟩, hb2⟩; obtain ⟨a2, c2, rfl, hL2⟩ := hG.sl; have HL2 : Hid (Li w2 a2 ps.length ps) := hL2; have HB2 : Hid (Below w.heap.size w w2) := step HB1.out hb2; clear hL2 hb2 hG HB1)
        | (go_at_call 9; refine (HN.out a2 c2 w2 HL2.out).mono ?_; rintro e w3 ⟨⟨p, a3, c3, rfl, hv⟩, hb3⟩; have HB3 : Hid (Below w.heap.size w w3) := step HB2.out hb3; have HT3 : Hid (Tv w3 (some ⟨p, 0, none⟩) a3 ps.length c3 ps true) := hv; clear hb3 HB2 HL2 hv)
        | (go_at_call 11; refine ent1 w3 _ _ (Q := fun W => Calls _ _ _ W _) ?_; intro W4 hB4 hs4 V4; have HB4 : Hid (Below w.heap.size w W4) := step HB3.out hB4; refine (len_any (HT3.out.after hB4)).mono ?_; rintro e w5 ⟨rfl, hw⟩; rw [hw]; clear hw w5))
      go_ret
      exact ⟨rfl, HB4.out⟩
end Go.Proofs.Ytfmbloagmeodeab
