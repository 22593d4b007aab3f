import Derived.Test.YtblafbbnplfpjaaGreatDoorMgAn
import Derived.Test.YtblafbbnplfpjaaGreatDoorMgAi
import Derived.Test.YtblafbbnplfpjaaGreatDoorBsI
import Derived.Test.YtblafbbnplfpjaaGreatDoorMgAe
import Derived.Test.YtblafbbnplfpjaaGreatDoorBsQ
namespace Go.Proofs.YtblafbbnplfpjaaGreatDoor
open Go.RowKit Go.Shelf
set_option linter.unusedVariables false

theorem drop_s {l : List (List UInt8)} {j : Nat} (h : j < l.length) : l.drop j = l.getD j [] :: l.drop (j + 1) := by
  rw [List.drop_eq_getElem_cons h, List.getD_eq_getElem?_getD, List.getElem?_eq_getElem h]; rfl
set_option maxHeartbeats 2000000 in
theorem areWords_any (l : List (List UInt8)) (a : Option Addr) (cap : Nat) (w : World) (hL : Le elS w a l.length l) (hl : l.length ≤ 100) :
    Calls Tryz.prog 51 #[.slice a l.length cap] w fun e w' => e = .returned (.bool (l.all wdB)) ∧ Below w.heap.size w w' := by
  obtain ⟨R, hR⟩ : ∃ R, l.all wdB = R := ⟨_, rfl⟩
  have HR : Hid (l.all wdB = R) := hR
  have HL : Hid (Le elS w a l.length l) := hL
  rw [hR]
  clear hR hL
  go_enter Tryz.func51, Tryz.ntmps51
  go_wp2_with fail
  go_loopw [4, 7] (fun _ j wr => ∃ i : Nat, j = .int .i64 i ∧ i ≤ l.length ∧ Hid ((l.drop i).all wdB = R) ∧ Hid (Below w.heap.size w wr)) (fun _ j _ => (l.length - (intOf j).toNat : Nat))
  case atStart => exact ⟨0, rfl, Nat.zero_le _, HR.out, Below.refl _ _⟩
  case round =>
    clear HR
    obtain ⟨i, rfl, hi, HR, HB⟩ := hrel
    rcases Nat.lt_or_ge i l.length with hlt | hge
    · have hii : (i : Int) < l.length := by omega
      obtain ⟨b, off, rfl⟩ := HL.out.ex (by omega)
      have c0 : wr.cell? ⟨b, off + i, none⟩ = some (sv (l.getD i [])) := by have := (HL.out.after HB.out).at i hlt 0 (sv (l.getD i [])) rfl; simpa [elS] using this
      have hd := drop_s hlt
      have HD : Hid ((wdB (l.getD i []) && (l.drop (i + 1)).all wdB) = R) := by have := HR.out; rw [hd] at this; exact this
      clear hd HR
      generalize l.getD i [] = x at *
      have C9 := word_B x wr
      cases hx : wdB x with
      | false =>
        have HD2 : Hid (false = R) := by have := HD.out; rw [hx] at this; exact this
        rw [hx] at C9
        clear HD hx
        go_wp2_with fail
        refine C9.mono ?_
        rintro e w2 ⟨rfl, hb⟩
        have HB2 : Hid (Below w.heap.size w w2) := step HB.out hb
        clear hb C9 HB c0
        go_wp2_with fail
        go_ret
        exact ⟨by rw [← HD2.out]; rfl, HB2.out⟩
      | true =>
        have HD2 : Hid ((l.drop (i + 1)).all wdB = R) := by have := HD.out; rw [hx] at this; exact this
        rw [hx] at C9
        clear HD hx
        go_wp2_with fail
        refine C9.mono ?_
        rintro e w2 ⟨rfl, hb⟩
        have HB2 : Hid (Below w.heap.size w w2) := step HB.out hb
        clear hb C9 HB c0
        go_wp2_with fail
        go_roundw
        case rel => exact ⟨i + 1, rfl, by omega, HD2.out, HB2.out⟩
        case measure => simp [intOf]; omega
    · obtain rfl : i = l.length := by omega
      have HR2 : Hid (true = R) := by have := HR.out; rw [List.drop_length] at this; exact this
      clear hge HR
      go_wp2_with fail
      go_ret
      exact ⟨by rw [← HR2.out]; rfl, HB.out⟩
def Ris (l : List (List UInt8)) (n : Nat) : Prop := ∀ j, j + 1 < n → Op.bytesLess (l.getD j []) (l.getD (j + 1) []) = true
def Trs (l : List (List UInt8)) : Prop := l.length ≤ 16 ∧ l.all wdB = true ∧ Ris l l.length
noncomputable def trB (l : List (List UInt8)) : Bool := open Classical in decide (Trs l)
theorem trB_yes {l : List (List UInt8)} (h : Trs l) : trB l = true := by simp [trB, h]
theorem trB_no {l : List (List UInt8)} (h : ¬ Trs l) : trB l = false := by simp [trB, h]
theorem trB_iff {l : List (List UInt8)} : trB l = true ↔ Trs l := by simp [trB]
theorem string_geq (t : TypeId) (a b : ByteArray) : binOp .geq t (.string a) (.string b) = pure (.bool !(Op.bytesLess a.toList b.toList)) := by simp [binOp, Op.stringOp]
theorem nameR (w : World) (n : Nat) {Q : World → Prop} (h : ∀ W, (∀ a, W.cell? a = w.cell? a) → Below w.heap.size w W → W.heap.size = w.heap.size → Q W) : Q (w.drewN n) :=
  h _ (fun _ => rfl) (below_drewN (Below.refl _ _) n) rfl
set_option maxHeartbeats 4000000 in
theorem areTraits_any (l : List (List UInt8)) (a : Option Addr) (cap : Nat) (w : World) (hL : Le elS w a l.length l) :
    Calls Tryz.prog 27 #[.slice a l.length cap] w fun e w' => e = .returned (.bool (trB l)) ∧ Below w.heap.size w w' := by
  obtain ⟨R, hR⟩ : ∃ R, trB l = R := ⟨_, rfl⟩
  have HR : Hid (trB l = R) := hR
  have HL : Hid (Le elS w a l.length l) := hL
  rw [hR]
  clear hR hL
  rcases Nat.lt_or_ge 16 l.length with h16 | h16
  · have h16' : (16 : Int) < l.length := by omega
    have HR2 : Hid (false = R) := by show _ = _; rw [← HR.out, trB_no (fun h => by have := h.1; omega)]
    go_enter Tryz.func27, Tryz.ntmps27
    go_wp2_with fail
    go_ret
    exact ⟨by rw [← HR2.out]; rfl, Below.refl _ _⟩
  · have h16' : ¬ (16 : Int) < l.length := by omega
    have C9 := areWords_any l a cap w HL.out (by omega)
    cases hw : l.all wdB with
    | false =>
      rw [hw] at C9
      have HR2 : Hid (false = R) := by show _ = _; rw [← HR.out, trB_no (fun h => by have := h.2.1; rw [hw] at this; cases this)]
      clear hw
      go_enter Tryz.func27, Tryz.ntmps27
      go_wp2_with fail
      refine C9.mono ?_
      rintro e w2 ⟨rfl, hb⟩
      clear C9
      go_wp2_with fail
      go_ret
      exact ⟨by rw [← HR2.out]; rfl, hb⟩
    | true =>
      rw [hw] at C9
      have HW : Hid (l.all wdB = true) := hw
      clear hw
      go_enter Tryz.func27, Tryz.ntmps27
      go_wp2_with fail
      refine C9.mono ?_
      rintro e w1 ⟨rfl, hb⟩
      have HB1 : Hid (Below w.heap.size w w1) := hb
      clear C9 hb
      go_wp2_with fail
      go_loopw [3, 14] (fun _ j wr => ∃ i : Nat, j = .int .i64 i ∧ i ≤ l.length ∧ Hid (Ris l i) ∧ Hid (Below w.heap.size w wr)) (fun _ j _ => (l.length - (intOf j).toNat : Nat))
      case atStart => exact ⟨0, rfl, Nat.zero_le _, (fun j hj => by omega), HB1.out⟩
      case round =>
        clear HB1
        obtain ⟨i, rfl, hi, HI, HB⟩ := hrel
        rcases Nat.lt_or_ge i l.length with hlt | hge
        · have hii : (i : Int) < l.length := by omega
          obtain ⟨b, off, rfl⟩ := HL.out.ex (by omega)
          have hcc : ∀ j, j < l.length → wr.cell? ⟨b, off + j, none⟩ = some (sv (l.getD j [])) := fun j hj => by have := (HL.out.after HB.out).at j hj 0 (sv (l.getD j [])) rfl; simpa [elS] using this
          rcases Nat.eq_zero_or_pos i with h0 | h0
          · subst h0
            clear hcc
            go_wp2_with fail
            go_quiet (fail)
            refine nameR wr _ (Q := fun W => Exit.then _ _ _ _ W) (fun wq hcell hBw hsq => ?_)
            have HBq : Hid (Below w.heap.size w wq) := step HB.out hBw
            clear hcell hBw hsq HB
            go_wp2_with fail
            go_roundw
            case rel => exact ⟨1, rfl, by omega, (fun j hj => by omega), HBq.out⟩
            case measure => simp [intOf]; omega
          · obtain ⟨j, rfl⟩ : ∃ j, i = j + 1 := ⟨i - 1, by omega⟩
            have c0 := hcc j (by omega)
            have c1 := hcc (j + 1) hlt
            have sg := string_geq
            have x1 : IntKind.i64.wrap (j : Int) = j := by rw [IntKind.wrap_i64]; omega
            have hj0 : (0 : Int) ≤ j := by omega
            have hjl : (j : Int) < l.length := by omega
            have hp : (0 : Int) < (j : Int) + 1 := by omega
            have HX : Hid (∀ x y, l.getD j [] = x → l.getD (j + 1) [] = y → (l.getD j [] = x ∧ l.getD (j + 1) [] = y)) := fun x y h1 h2 => ⟨h1, h2⟩
            obtain ⟨x, hx⟩ : ∃ x, l.getD j [] = x := ⟨_, rfl⟩
            obtain ⟨y, hy⟩ : ∃ y, l.getD (j + 1) [] = y := ⟨_, rfl⟩
            have HX : Hid (l.getD j [] = x ∧ l.getD (j + 1) [] = y) := ⟨hx, hy⟩
            rw [hx] at c0
            rw [hy] at c1
            clear hx hy hcc
            cases hL2 : Op.bytesLess x y with
            | true =>
              go_wp2_with fail
              go_quiet (fail)
              refine nameR wr _ (Q := fun W => Exit.then _ _ _ _ W) (fun wq hcell hBw hsq => ?_)
              have HBq : Hid (Below w.heap.size w wq) := step HB.out hBw
              have HI2 : Hid (Ris l (j + 1 + 1)) := fun q hq => by
                rcases Nat.lt_or_ge (q + 1) (j + 1) with h | h
                · exact HI.out q h
                · obtain rfl : q = j := by omega
                  rw [HX.out.1, HX.out.2]; exact hL2
              clear hcell hBw hsq HB hL2
              go_wp2_with fail
              go_roundw
              case rel => exact ⟨j + 1 + 1, rfl, by omega, HI2.out, HBq.out⟩
              case measure => simp [intOf]; omega
            | false =>
              go_wp2_with fail
              go_quiet (fail)
              refine nameR wr _ (Q := fun W => Exit.then _ _ _ _ W) (fun wq hcell hBw hsq => ?_)
              have HBq : Hid (Below w.heap.size w wq) := step HB.out hBw
              have HR2 : Hid (false = R) := by
                show _ = _
                rw [← HR.out, trB_no]
                intro h
                have := h.2.2 j hlt
                rw [HX.out.1, HX.out.2, hL2] at this
                cases this
              clear hcell hBw hsq HB hL2
              go_wp2_with fail
              go_ret
              exact ⟨by rw [← HR2.out]; rfl, HBq.out⟩
        · obtain rfl : i = l.length := by omega
          have HR2 : Hid (true = R) := by show _ = _; rw [← HR.out, trB_yes ⟨h16, HW.out, HI.out⟩]
          clear hge HR HI
          go_wp2_with fail
          go_ret
          exact ⟨by rw [← HR2.out]; rfl, HB.out⟩
def FtOk (by1 ln1 : List (List UInt8)) (am dg qt : Int) : Prop := Trs by1 ∧ Trs ln1 ∧ 0 ≤ dg ∧ dg ≤ 4 ∧ 0 ≤ am ∧ 0 ≤ qt
noncomputable def ftE (by1 ln1 : List (List UInt8)) (am dg qt : Int) : Int := open Classical in if FtOk by1 ln1 am dg qt then 0 else 141
theorem ftE_ok {by1 ln1 : List (List UInt8)} {am dg qt : Int} (h : FtOk by1 ln1 am dg qt) : ftE by1 ln1 am dg qt = 0 := if_pos h
theorem ftE_no {by1 ln1 : List (List UInt8)} {am dg qt : Int} (h : ¬ FtOk by1 ln1 am dg qt) : ftE by1 ln1 am dg qt = 141 := if_neg h
set_option maxHeartbeats 4000000 in
theorem fit_any (by1 ln1 : List (List UInt8)) (a1 : Option Addr) (c1 : Nat) (a2 : Option Addr) (c2 : Nat) (am dg qt : Int) (w : World) (h1 : Le elS w a1 by1.length by1) (h2 : Le elS w a2 ln1.length ln1) :
    Calls Tryz.prog 9 #[.agg #[.slice a1 by1.length c1, .slice a2 ln1.length c2, .int .i64 am, .int .i64 dg, .int .i64 qt]] w fun e w' => e = .returned (.int .i64 (ftE by1 ln1 am dg qt)) ∧ Below w.heap.size w w' := by
  obtain ⟨R, hR⟩ : ∃ R, ftE by1 ln1 am dg qt = R := ⟨_, rfl⟩
  have HR : Hid (ftE by1 ln1 am dg qt = R) := hR
  rw [hR]
  have H1 : Hid (Le elS w a1 by1.length by1) := h1
  have H2 : Hid (Le elS w a2 ln1.length ln1) := h2
  clear hR h1 h2
  have C1 := fun W h => areTraits_any by1 a1 c1 W h
  have C2 := fun W h => areTraits_any ln1 a2 c2 W h
  cases hb : trB by1 with
  | false =>
    have HE : Hid (R = 141) := by show _ = _; rw [← HR.out, ftE_no (fun h => by rw [trB_yes h.1] at hb; cases hb)]
    rw [hb] at C1
    go_enter Tryz.func9, Tryz.ntmps9
    go_upto_region 1 with fail
    refine ent1 w _ _ (Q := fun W => Code.wp _ _ _ _ W) ?_
    intro W1 hb1 hs1 V1
    have v0 := V1.f0
    have D1 := C1 W1 (H1.out.after hb1)
    go_wp2_with fail
    refine D1.mono ?_
    rintro e W2 ⟨rfl, hb2⟩
    go_wp2_with fail
    go_ret
    exact ⟨by rw [HE.out]; rfl, step hb1 hb2⟩
  | true =>
    have HT1 : Hid (Trs by1) := trB_iff.1 hb
    rw [hb] at C1
    clear hb
    cases hb : trB ln1 with
    | false =>
      have HE : Hid (R = 141) := by show _ = _; rw [← HR.out, ftE_no (fun h => by rw [trB_yes h.2.1] at hb; cases hb)]
      rw [hb] at C2
      go_enter Tryz.func9, Tryz.ntmps9
      go_upto_region 1 with fail
      refine ent1 w _ _ (Q := fun W => Code.wp _ _ _ _ W) ?_
      intro W1 hb1 hs1 V1
      have v0 := V1.f0
      have D1 := C1 W1 (H1.out.after hb1)
      go_wp2_with fail
      refine D1.mono ?_
      rintro e W2 ⟨rfl, hb2⟩
      have v1 := (V1.after hb2).f1
      have D2 := C2 W2 (H2.out.after (step hb1 hb2))
      clear D1 v0
      go_wp2_with fail
      refine D2.mono ?_
      rintro e W3 ⟨rfl, hb3⟩
      go_wp2_with fail
      go_ret
      exact ⟨by rw [HE.out]; rfl, step (step hb1 hb2) hb3⟩
    | true =>
      have HT2 : Hid (Trs ln1) := trB_iff.1 hb
      rw [hb] at C2
      clear hb
      go_enter Tryz.func9, Tryz.ntmps9
      go_upto_region 1 with fail
      refine ent1 w _ _ (Q := fun W => Code.wp _ _ _ _ W) ?_
      intro W1 hb1 hs1 V1
      have v0 := V1.f0
      have D1 := C1 W1 (H1.out.after hb1)
      go_wp2_with fail
      refine D1.mono ?_
      rintro e W2 ⟨rfl, hb2⟩
      have v1 := (V1.after hb2).f1
      have D2 := C2 W2 (H2.out.after (step hb1 hb2))
      clear D1 v0
      go_wp2_with fail
      refine D2.mono ?_
      rintro e W3 ⟨rfl, hb3⟩
      have V3 := (V1.after hb2).after hb3
      have HB3 : Hid (Below w.heap.size w W3) := step (step hb1 hb2) hb3
      have u2 := V3.f2
      have u3 := V3.f3
      have u4 := V3.f4
      clear D2 v1 hb1 hb2 hb3 V1 V3
      have HE1 : Hid (0 ≤ dg → dg ≤ 4 → 0 ≤ am → 0 ≤ qt → R = 0) := fun i1 i2 i3 i4 => by rw [← HR.out, ftE_ok ⟨HT1.out, HT2.out, i1, i2, i3, i4⟩]
      have HE2 : Hid (¬ (0 ≤ dg ∧ dg ≤ 4 ∧ 0 ≤ am ∧ 0 ≤ qt) → R = 141) := fun i => by rw [← HR.out, ftE_no (fun h => i h.2.2)]
      clear HR
      by_cases i1 : 0 ≤ dg
      · by_cases i2 : dg ≤ 4
        · by_cases i3 : 0 ≤ am
          · by_cases i4 : 0 ≤ qt
            · have HE : Hid (R = 0) := HE1.out i1 i2 i3 i4
              have j4 : decide (0 ≤ qt) = true := decide_eq_true i4
              go_wp2_with fail
              go_ret
              exact ⟨by rw [HE.out]; rfl, HB3.out⟩
            · have HE : Hid (R = 141) := HE2.out (fun h => i4 h.2.2.2)
              have j4 : decide (0 ≤ qt) = false := decide_eq_false i4
              go_wp2_with fail
              go_ret
              exact ⟨by rw [HE.out]; rfl, HB3.out⟩
          · have HE : Hid (R = 141) := HE2.out (fun h => i3 h.2.2.1)
            have j3 : decide (0 ≤ am) = false := decide_eq_false i3
            go_wp2_with fail
            go_ret
            exact ⟨by rw [HE.out]; rfl, HB3.out⟩
        · have HE : Hid (R = 141) := HE2.out (fun h => i2 h.2.1)
          have j2 : decide (dg ≤ 4) = false := decide_eq_false i2
          go_wp2_with fail
          go_ret
          exact ⟨by rw [HE.out]; rfl, HB3.out⟩
      · have HE : Hid (R = 141) := HE2.out (fun h => i1 h.1)
        have j1 : decide (0 ≤ dg) = false := decide_eq_false i1
        go_wp2_with fail
        go_ret
        exact ⟨by rw [HE.out]; rfl, HB3.out⟩
end Go.Proofs.YtblafbbnplfpjaaGreatDoor
namespace Go.Proofs.YtblafbbnplfpjaaGreatDoor
open Go.RowKit Go.Shelf
set_option linter.unusedVariables false
theorem Va.dd0 {w : World} {b : Nat} {t : TypeId} {x y : Value} (h : Va w b t #[x, y]) : w.cell? ⟨b, 0, none⟩ = some x := by rw [h.cellAt 0]; rfl
theorem Va.dd1 {w : World} {b : Nat} {t : TypeId} {x y : Value} (h : Va w b t #[x, y]) : w.cell? ⟨b, 1, none⟩ = some y := by rw [h.cellAt 1]; rfl
theorem two_al (w : World) (x y : Obj) : Below w.heap.size w ((w.alloc x).alloc y) := ((Below.refl _ _).alloc (Nat.le_refl _) _).alloc (by simp) _
theorem rck6_ok (U P : Int) (h : CanI U P) (w : World) : Calls Tryz.prog 93 #[.agg #[.int .i64 U, .int .i64 P]] w fun e w' => e = .returned (.int .i64 0) ∧ Below w.heap.size w w' := by
  obtain ⟨h0, h9, h3⟩ := h
  have g1 : decide (P < 0) = false := decide_eq_false (by omega)
  have g2 : decide (9 < P) = false := decide_eq_false (by omega)
  by_cases hp : 0 < P
  ·
    obtain ⟨m, hm⟩ : ∃ m, U.tmod 10 = m := ⟨_, rfl⟩
    have hm0 : (m == 0) = false := by have := h3 hp; rw [hm] at this; simpa using this
    have g3 : decide (0 < P) = true := decide_eq_true hp
    go_enter Tryz.func93, Tryz.ntmps93
    go_wp2_with fail
    go_ret
    exact ⟨rfl, (Below.refl _ _).alloc (Nat.le_refl _) _⟩
  ·
    have g3 : decide (0 < P) = false := decide_eq_false hp
    go_enter Tryz.func93, Tryz.ntmps93
    go_wp2_with fail
    go_ret
    exact ⟨rfl, (Below.refl _ _).alloc (Nat.le_refl _) _⟩
theorem rck6_no (U P : Int) (h : ¬ CanI U P) (w : World) : Calls Tryz.prog 93 #[.agg #[.int .i64 U, .int .i64 P]] w fun e w' => e = .returned (.int .i64 60) ∧ Below w.heap.size w w' := by
  by_cases a1 : P < 0
  ·
    have g1 : decide (P < 0) = true := decide_eq_true a1
    go_enter Tryz.func93, Tryz.ntmps93
    go_wp2_with fail
    go_ret
    exact ⟨rfl, (Below.refl _ _).alloc (Nat.le_refl _) _⟩
  ·
    have g1 : decide (P < 0) = false := decide_eq_false a1
    by_cases a2 : 9 < P
    ·
      have g2 : decide (9 < P) = true := decide_eq_true a2
      go_enter Tryz.func93, Tryz.ntmps93
      go_wp2_with fail
      go_ret
      exact ⟨rfl, (Below.refl _ _).alloc (Nat.le_refl _) _⟩
    ·
      have g2 : decide (9 < P) = false := decide_eq_false a2
      have hp : 0 < P := by
        rcases Int.lt_or_le 0 P with h' | h'
        · exact h'
        · exact absurd ⟨by omega, by omega, fun hh => by omega⟩ h
      have hm : U.tmod 10 = 0 := by
        rcases Decidable.em (U.tmod 10 = 0) with h' | h'
        · exact h'
        · exact absurd ⟨by omega, by omega, fun _ => h'⟩ h
      have g3 : decide (0 < P) = true := decide_eq_true hp
      go_enter Tryz.func93, Tryz.ntmps93
      go_wp2_with fail
      go_ret
      exact ⟨rfl, (Below.refl _ _).alloc (Nat.le_refl _) _⟩
set_option maxHeartbeats 4000000 in
theorem rsingle_any (n : Nd) (w : World) : Calls Tryz.prog 75 #[nv n] w fun e w' => e = .returned (.bool (mB n)) ∧ Below w.heap.size w w' := by
  obtain ⟨kd, ks, nm, op, un, pl⟩ := n
  dsimp only [nv]
  by_cases k1 : kd = 1
  · subst k1
    go_enter Tryz.func75, Tryz.ntmps75
    go_wp2_with fail
    all_goals (go_ret; refine ⟨?_, two_al _ _ _⟩; first | (simp [mB, NdOk, *]; done) | (simp [mB, NdOk, *]; intro hh; omega))
  by_cases k2 : kd = 2
  · subst k2
    go_enter Tryz.func75, Tryz.ntmps75
    go_wp2_with fail
    all_goals (go_ret; refine ⟨?_, two_al _ _ _⟩; first | (simp [mB, NdOk, *]; done) | (simp [mB, NdOk, *]; intro hh; omega))
  by_cases k3 : kd = 3
  · subst k3
    go_enter Tryz.func75, Tryz.ntmps75
    go_wp2_with fail
    all_goals (go_ret; refine ⟨?_, two_al _ _ _⟩; first | (simp [mB, NdOk, *]; done) | (simp [mB, NdOk, *]; intro hh; omega))
  by_cases k4 : kd = 4
  · subst k4
    go_enter Tryz.func75, Tryz.ntmps75
    go_upto_region 1 with fail
    refine ent1 w _ _ (Q := fun W => Code.wp _ _ _ _ W) ?_
    intro W1 hb1 hs1 V1
    go_upto_region 2 with fail
    refine ent1 W1 _ _ (Q := fun W => Code.wp _ _ _ _ W) ?_
    intro W2 hb2 hs2 V2
    have V3 := V1.after hb2
    have HB2 : Hid (Below w.heap.size w W2) := step hb1 hb2
    rw [hs1] at V2
    have n0 := V3.n0
    have n2 := V3.n2
    clear hb1 hb2 V1
    go_wp2_with (go_at_call 53; refine (rWord_any nm _).mono ?_; rintro e w2 ⟨rfl, hb⟩; have HB : Hid (Below w.heap.size w w2) := step HB2.out hb; have V4 := V3.after hb; have V5 := V2.after hb; have c0 := V4.n0; have c1 := V4.n1; have c3 := V4.n3; have c4 := V4.n4; have c5 := V4.n5; have d0 := V5.dd0; have d1 := V5.dd1; clear hb V4 V5)
    all_goals (go_ret; refine ⟨?_, HB.out⟩; first | (simp [mB, NdOk, *]; done) | (simp [mB, NdOk, *]; intro hh; omega))
  by_cases k5 : kd = 5
  · subst k5
    go_enter Tryz.func75, Tryz.ntmps75
    go_upto_region 1 with fail
    refine ent1 w _ _ (Q := fun W => Code.wp _ _ _ _ W) ?_
    intro W1 hb1 hs1 V1
    go_upto_region 2 with fail
    refine ent1 W1 _ _ (Q := fun W => Code.wp _ _ _ _ W) ?_
    intro W2 hb2 hs2 V2
    have V3 := V1.after hb2
    have HB2 : Hid (Below w.heap.size w W2) := step hb1 hb2
    rw [hs1] at V2
    have n0 := V3.n0
    have n2 := V3.n2
    clear hb1 hb2 V1
    go_wp2_with (go_at_call 53; refine (rWord_any nm _).mono ?_; rintro e w2 ⟨rfl, hb⟩; have HB : Hid (Below w.heap.size w w2) := step HB2.out hb; have V4 := V3.after hb; have V5 := V2.after hb; have c0 := V4.n0; have c1 := V4.n1; have c3 := V4.n3; have c4 := V4.n4; have c5 := V4.n5; have d0 := V5.dd0; have d1 := V5.dd1; clear hb V4 V5)
    all_goals (go_ret; refine ⟨?_, HB.out⟩; first | (simp [mB, NdOk, *]; done) | (simp [mB, NdOk, *]; intro hh; omega))
  by_cases k6 : kd = 6
  · subst k6
    go_enter Tryz.func75, Tryz.ntmps75
    by_cases hc : CanI un pl
    · have HC : Hid (CanI un pl) := hc
      clear hc
      go_wp2_with (go_at_call 93; refine (rck6_ok un pl HC.out _).mono ?_; rintro e w2 ⟨rfl, hb⟩; have HB : Hid (Below w.heap.size w w2) := step (two_al _ _ _) hb; clear hb)
      all_goals (go_ret; refine ⟨?_, by first | exact HB.out | exact two_al _ _ _⟩)
      all_goals have hc := HC.out
      all_goals have hc2 : CanD un pl := hc
      all_goals first | (simp [mB, NdOk, *]; done) | (simp [mB, NdOk, *]; intros; omega) | (simp [mB, NdOk, *]; omega)
    · have HC : Hid (¬ CanI un pl) := hc
      clear hc
      go_wp2_with (go_at_call 93; refine (rck6_no un pl HC.out _).mono ?_; rintro e w2 ⟨rfl, hb⟩; have HB : Hid (Below w.heap.size w w2) := step (two_al _ _ _) hb; clear hb)
      all_goals (go_ret; refine ⟨?_, by first | exact HB.out | exact two_al _ _ _⟩)
      all_goals have hc2 : ¬ CanD un pl := HC.out
      all_goals first | (simp [mB, NdOk, *]; done) | (simp [mB, NdOk, *]; intros; omega)
  by_cases k7 : kd = 7
  · subst k7
    go_enter Tryz.func75, Tryz.ntmps75
    by_cases hc : CanI un pl
    · have HC : Hid (CanI un pl) := hc
      clear hc
      go_wp2_with (go_at_call 93; refine (rck6_ok un pl HC.out _).mono ?_; rintro e w2 ⟨rfl, hb⟩; have HB : Hid (Below w.heap.size w w2) := step (two_al _ _ _) hb; clear hb)
      all_goals (go_ret; refine ⟨?_, by first | exact HB.out | exact two_al _ _ _⟩)
      all_goals have hc := HC.out
      all_goals have hc2 : CanD un pl := hc
      all_goals first | (simp [mB, NdOk, *]; done) | (simp [mB, NdOk, *]; intros; omega) | (simp [mB, NdOk, *]; omega)
    · have HC : Hid (¬ CanI un pl) := hc
      clear hc
      go_wp2_with (go_at_call 93; refine (rck6_no un pl HC.out _).mono ?_; rintro e w2 ⟨rfl, hb⟩; have HB : Hid (Below w.heap.size w w2) := step (two_al _ _ _) hb; clear hb)
      all_goals (go_ret; refine ⟨?_, by first | exact HB.out | exact two_al _ _ _⟩)
      all_goals have hc2 : ¬ CanD un pl := HC.out
      all_goals first | (simp [mB, NdOk, *]; done) | (simp [mB, NdOk, *]; intros; omega)
  go_enter Tryz.func75, Tryz.ntmps75
  go_wp2_with fail
  go_ret
  refine ⟨?_, two_al _ _ _⟩
  have hh : ¬ NdOk wdB ⟨kd, ks, nm, op, un, pl⟩ := by
    rintro (⟨h, -⟩ | ⟨h, -⟩ | ⟨h, -⟩ | ⟨h, -⟩) <;> dsimp only at h <;> omega
  rw [mB_no hh]; rfl
set_option maxHeartbeats 4000000 in
theorem rrising_any (l : List (List UInt8)) (a : Option Addr) (cap : Nat) (w : World) (hL : Le elS w a l.length l) :
    Calls Tryz.prog 29 #[.slice a l.length cap] w fun e w' => e = .returned (.bool (trB l)) ∧ Below w.heap.size w w' := by
  obtain ⟨R, hR⟩ : ∃ R, trB l = R := ⟨_, rfl⟩
  have HR : Hid (trB l = R) := hR
  have HL : Hid (Le elS w a l.length l) := hL
  rw [hR]
  clear hR hL
  rcases Nat.lt_or_ge 16 l.length with h16 | h16
  · have h16' : (16 : Int) < l.length := by omega
    have HR2 : Hid (false = R) := by show _ = _; rw [← HR.out, trB_no (fun h => by have := h.1; omega)]
    go_enter Tryz.func29, Tryz.ntmps29
    go_wp2_with fail
    go_ret
    exact ⟨by rw [← HR2.out]; rfl, Below.refl _ _⟩
  · have h16' : ¬ (16 : Int) < l.length := by omega
    have HW0 : Hid ((l.take 0).all wdB = true) := rfl
    go_enter Tryz.func29, Tryz.ntmps29
    go_wp2_with fail
    go_loopw [3, 4] (fun j _ wr => ∃ i : Nat, j = .int .i64 i ∧ i ≤ l.length ∧ Hid ((l.take i).all wdB = true) ∧ Hid (Ris l i) ∧ Hid (Below w.heap.size w wr)) (fun j _ _ => (l.length - (intOf j).toNat : Nat))
    case atStart => exact ⟨0, rfl, Nat.zero_le _, HW0, (fun j hj => by omega), Below.refl _ _⟩
    case round =>
      clear HW0
      obtain ⟨i, rfl, hi, HW, HI, HB⟩ := hrel
      rcases Nat.lt_or_ge i l.length with hlt | hge
      · have hii : (i : Int) < l.length := by omega
        obtain ⟨b, off, rfl⟩ := HL.out.ex (by omega)
        have hcc : ∀ j, j < l.length → wr.cell? ⟨b, off + j, none⟩ = some (sv (l.getD j [])) := fun j hj => by have := (HL.out.after HB.out).at j hj 0 (sv (l.getD j [])) rfl; simpa [elS] using this
        have HCC : Hid (∀ j, j < l.length → wr.cell? ⟨b, off + j, none⟩ = some (sv (l.getD j []))) := hcc
        have ct := hcc i hlt
        have HX0 : Hid (∀ x, l.getD i [] = x → l.getD i [] = x) := fun x h => h
        obtain ⟨z, hz⟩ : ∃ z, l.getD i [] = z := ⟨_, rfl⟩
        have HZ : Hid (l.getD i [] = z) := hz
        rw [hz] at ct
        clear hcc hz
        have C9 := rWord_any z wr
        have hmem : z ∈ l := by rw [← HZ.out, List.getD_eq_getElem?_getD, List.getElem?_eq_getElem hlt]; exact List.getElem_mem _
        cases hx : wdB z with
        | false =>
          rw [hx] at C9
          have HR2 : Hid (false = R) := by show _ = _; rw [← HR.out, trB_no (fun h => by have h2 := List.all_eq_true.1 h.2.1 z hmem; rw [hx] at h2; cases h2)]
          clear hx hmem
          go_wp2_with fail
          refine C9.mono ?_
          rintro e w2 ⟨rfl, hb⟩
          have HB2 : Hid (Below w.heap.size w w2) := step HB.out hb
          clear hb C9 HB ct
          go_wp2_with fail
          go_quiet (fail)
          refine nameR w2 _ (Q := fun W => Exit.then _ _ _ _ W) (fun wq hcell hBw hsq => ?_)
          have HBq : Hid (Below w.heap.size w wq) := step HB2.out hBw
          clear hcell hBw hsq HB2
          go_wp2_with fail
          go_ret
          exact ⟨by rw [← HR2.out]; rfl, HBq.out⟩
        | true =>
          rw [hx] at C9
          have HW2 : Hid ((l.take (i + 1)).all wdB = true) := by
            show _ = _
            rw [List.take_succ_eq_append_getElem hlt, List.all_append, HW.out]
            have : l[i] = z := by rw [← HZ.out, List.getD_eq_getElem?_getD, List.getElem?_eq_getElem hlt]; rfl
            simp [this, hx]
          clear hx hmem HW
          go_wp2_with fail
          refine C9.mono ?_
          rintro e w2 ⟨rfl, hb⟩
          have HB2 : Hid (Below w.heap.size w w2) := step HB.out hb
          have HC2 : Hid (∀ j, j < l.length → w2.cell? ⟨b, off + j, none⟩ = some (sv (l.getD j []))) := fun j hj => by
            have := HCC.out j hj
            exact (hb.cell (p := ⟨b, off + j, none⟩) (cell_lt this)).trans this
          clear hb C9 HB ct HCC
          rcases Nat.eq_zero_or_pos i with h0 | h0
          · subst h0
            go_wp2_with fail
            go_quiet (fail)
            refine nameR w2 _ (Q := fun W => Exit.then _ _ _ _ W) (fun wq hcell hBw hsq => ?_)
            have HBq : Hid (Below w.heap.size w wq) := step HB2.out hBw
            clear hcell hBw hsq HB2 HC2
            go_wp2_with fail
            go_roundw
            case rel => exact ⟨1, rfl, by omega, HW2.out, (fun j hj => by omega), HBq.out⟩
            case measure => simp [intOf]; omega
          · obtain ⟨j, rfl⟩ : ∃ j, i = j + 1 := ⟨i - 1, by omega⟩
            have c0 := HC2.out j (by omega)
            have c1 := HC2.out (j + 1) hlt
            have sg := string_geq
            have x1 : IntKind.i64.wrap (j : Int) = j := by rw [IntKind.wrap_i64]; omega
            have hj0 : (0 : Int) ≤ j := by omega
            have hjl : (j : Int) < l.length := by omega
            have hp : (0 : Int) < (j : Int) + 1 := by omega
            obtain ⟨x, hx⟩ : ∃ x, l.getD j [] = x := ⟨_, rfl⟩
            obtain ⟨y, hy⟩ : ∃ y, l.getD (j + 1) [] = y := ⟨_, rfl⟩
            have HX : Hid (l.getD j [] = x ∧ l.getD (j + 1) [] = y) := ⟨hx, hy⟩
            rw [hx] at c0
            rw [hy] at c1
            clear hx hy HC2
            cases hL2 : Op.bytesLess x y with
            | true =>
              go_wp2_with fail
              go_quiet (fail)
              refine nameR w2 _ (Q := fun W => Exit.then _ _ _ _ W) (fun wq hcell hBw hsq => ?_)
              have HBq : Hid (Below w.heap.size w wq) := step HB2.out hBw
              have HI2 : Hid (Ris l (j + 1 + 1)) := fun q hq => by
                rcases Nat.lt_or_ge (q + 1) (j + 1) with h | h
                · exact HI.out q h
                · obtain rfl : q = j := by omega
                  rw [HX.out.1, HX.out.2]; exact hL2
              clear hcell hBw hsq HB2 hL2
              go_wp2_with fail
              go_roundw
              case rel => exact ⟨j + 1 + 1, rfl, by omega, HW2.out, HI2.out, HBq.out⟩
              case measure => simp [intOf]; omega
            | false =>
              go_wp2_with fail
              go_quiet (fail)
              refine nameR w2 _ (Q := fun W => Exit.then _ _ _ _ W) (fun wq hcell hBw hsq => ?_)
              have HBq : Hid (Below w.heap.size w wq) := step HB2.out hBw
              have HR2 : Hid (false = R) := by
                show _ = _
                rw [← HR.out, trB_no]
                intro h
                have := h.2.2 j hlt
                rw [HX.out.1, HX.out.2, hL2] at this
                cases this
              clear hcell hBw hsq HB2 hL2
              go_wp2_with fail
              go_ret
              exact ⟨by rw [← HR2.out]; rfl, HBq.out⟩
      · obtain rfl : i = l.length := by omega
        have HR2 : Hid (true = R) := by show _ = _; rw [← HR.out, trB_yes ⟨h16, by have := HW.out; rwa [List.take_length] at this, HI.out⟩]
        clear hge HR HI
        go_wp2_with fail
        go_ret
        exact ⟨by rw [← HR2.out]; rfl, HB.out⟩
set_option maxHeartbeats 4000000 in
theorem rfit_any (by1 ln1 : List (List UInt8)) (a1 : Option Addr) (c1 : Nat) (a2 : Option Addr) (c2 : Nat) (am dg qt : Int) (w : World) (h1 : Le elS w a1 by1.length by1) (h2 : Le elS w a2 ln1.length ln1) :
    Calls Tryz.prog 11 #[.agg #[.slice a1 by1.length c1, .slice a2 ln1.length c2, .int .i64 am, .int .i64 dg, .int .i64 qt]] w fun e w' => e = .returned (.int .i64 (ftE by1 ln1 am dg qt)) ∧ Below w.heap.size w w' := by
  obtain ⟨R, hR⟩ : ∃ R, ftE by1 ln1 am dg qt = R := ⟨_, rfl⟩
  have HR : Hid (ftE by1 ln1 am dg qt = R) := hR
  rw [hR]
  have H1 : Hid (Le elS w a1 by1.length by1) := h1
  have H2 : Hid (Le elS w a2 ln1.length ln1) := h2
  clear hR h1 h2
  have C1 := fun W h => rrising_any by1 a1 c1 W h
  have C2 := fun W h => rrising_any ln1 a2 c2 W h
  cases hb : trB by1 with
  | false =>
    have HE : Hid (R = 141) := by show _ = _; rw [← HR.out, ftE_no (fun h => by rw [trB_yes h.1] at hb; cases hb)]
    rw [hb] at C1
    go_enter Tryz.func11, Tryz.ntmps11
    go_upto_region 1 with fail
    refine ent1 w _ _ (Q := fun W => Code.wp _ _ _ _ W) ?_
    intro W1 hb1 hs1 V1
    have v0 := V1.f0
    have D1 := C1 W1 (H1.out.after hb1)
    go_wp2_with fail
    refine D1.mono ?_
    rintro e W2 ⟨rfl, hb2⟩
    go_wp2_with fail
    go_ret
    exact ⟨by rw [HE.out]; rfl, step hb1 hb2⟩
  | true =>
    have HT1 : Hid (Trs by1) := trB_iff.1 hb
    rw [hb] at C1
    clear hb
    cases hb : trB ln1 with
    | false =>
      have HE : Hid (R = 141) := by show _ = _; rw [← HR.out, ftE_no (fun h => by rw [trB_yes h.2.1] at hb; cases hb)]
      rw [hb] at C2
      go_enter Tryz.func11, Tryz.ntmps11
      go_upto_region 1 with fail
      refine ent1 w _ _ (Q := fun W => Code.wp _ _ _ _ W) ?_
      intro W1 hb1 hs1 V1
      have v0 := V1.f0
      have D1 := C1 W1 (H1.out.after hb1)
      go_wp2_with fail
      refine D1.mono ?_
      rintro e W2 ⟨rfl, hb2⟩
      have v1 := (V1.after hb2).f1
      have D2 := C2 W2 (H2.out.after (step hb1 hb2))
      clear D1 v0
      go_wp2_with fail
      refine D2.mono ?_
      rintro e W3 ⟨rfl, hb3⟩
      go_wp2_with fail
      go_ret
      exact ⟨by rw [HE.out]; rfl, step (step hb1 hb2) hb3⟩
    | true =>
      have HT2 : Hid (Trs ln1) := trB_iff.1 hb
      rw [hb] at C2
      clear hb
      go_enter Tryz.func11, Tryz.ntmps11
      go_upto_region 1 with fail
      refine ent1 w _ _ (Q := fun W => Code.wp _ _ _ _ W) ?_
      intro W1 hb1 hs1 V1
      have v0 := V1.f0
      have D1 := C1 W1 (H1.out.after hb1)
      go_wp2_with fail
      refine D1.mono ?_
      rintro e W2 ⟨rfl, hb2⟩
      have v1 := (V1.after hb2).f1
      have D2 := C2 W2 (H2.out.after (step hb1 hb2))
      clear D1 v0
      go_wp2_with fail
      refine D2.mono ?_
      rintro e W3 ⟨rfl, hb3⟩
      have V3 := (V1.after hb2).after hb3
      have HB3 : Hid (Below w.heap.size w W3) := step (step hb1 hb2) hb3
      have u2 := V3.f2
      have u3 := V3.f3
      have u4 := V3.f4
      clear D2 v1 hb1 hb2 hb3 V1 V3
      have HE1 : Hid (0 ≤ dg → dg ≤ 4 → 0 ≤ am → 0 ≤ qt → R = 0) := fun i1 i2 i3 i4 => by rw [← HR.out, ftE_ok ⟨HT1.out, HT2.out, i1, i2, i3, i4⟩]
      have HE2 : Hid (¬ (0 ≤ dg ∧ dg ≤ 4 ∧ 0 ≤ am ∧ 0 ≤ qt) → R = 141) := fun i => by rw [← HR.out, ftE_no (fun h => i h.2.2)]
      clear HR
      by_cases i1 : dg < 0
      · have ji1 : decide (dg < 0) = true := decide_eq_true i1
        have HE : Hid (R = 141) := HE2.out (fun h => by omega)
        go_wp2_with fail
        go_ret
        exact ⟨by rw [HE.out]; rfl, HB3.out⟩
      · have ji1 : decide (dg < 0) = false := decide_eq_false i1
        by_cases i2 : 4 < dg
        · have ji2 : decide (4 < dg) = true := decide_eq_true i2
          have HE : Hid (R = 141) := HE2.out (fun h => by omega)
          go_wp2_with fail
          go_ret
          exact ⟨by rw [HE.out]; rfl, HB3.out⟩
        · have ji2 : decide (4 < dg) = false := decide_eq_false i2
          by_cases i3 : am < 0
          · have ji3 : decide (am < 0) = true := decide_eq_true i3
            have HE : Hid (R = 141) := HE2.out (fun h => by omega)
            go_wp2_with fail
            go_ret
            exact ⟨by rw [HE.out]; rfl, HB3.out⟩
          · have ji3 : decide (am < 0) = false := decide_eq_false i3
            by_cases i4 : qt < 0
            · have ji4 : decide (qt < 0) = true := decide_eq_true i4
              have HE : Hid (R = 141) := HE2.out (fun h => by omega)
              go_wp2_with fail
              go_ret
              exact ⟨by rw [HE.out]; rfl, HB3.out⟩
            · have ji4 : decide (qt < 0) = false := decide_eq_false i4
              have HE : Hid (R = 0) := HE1.out (by omega) (by omega) (by omega) (by omega)
              go_wp2_with fail
              go_ret
              exact ⟨by rw [HE.out]; rfl, HB3.out⟩
end Go.Proofs.YtblafbbnplfpjaaGreatDoor
namespace Go.Proofs.YtblafbbnplfpjaaGreatDoor
open Go.RowKit Go.Shelf

end Go.Proofs.YtblafbbnplfpjaaGreatDoor
