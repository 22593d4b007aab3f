/-
  rat.Whole, Sign, Num, Neg, Compare, Plain.
-/
import Derived.Test.YtmjfkciaohbkoaaDoorMgAg
import Derived.Test.YtmjfkciaohbkoaaDoorMgAd
import Derived.Test.YtmjfkciaohbkoaaDoorMgAf
import Derived.Lib.LaidTab
import Derived.Lib.AppendIntMem
import Derived.Lib.SlicesS
namespace Go.Proofs.YtmjfkciaohbkoaaDoor
open Go.RowKit Go.Shelf
set_option linter.unusedVariables false

theorem rt_fits {x y : Int} (x0 : 0 ≤ x) (y0 : 0 ≤ y) {i j n : Nat} (hx : x < pw i) (hy : y < pw j) (h : i + j ≤ n) : x * y < pw n := by
  refine Int.lt_of_lt_of_le (b := pw (i + j)) ?_ (pw_mono h)
  rw [pw_add]
  have h1 := Int.mul_le_mul_of_nonneg_left (Int.le_of_lt hy) x0
  have h2 := Int.mul_lt_mul_of_pos_right hx (show 0 < pw j by omega)
  omega
theorem Short.mul {u v : Rat} (h1 : Short u) (h2 : Short v) : ((u.num * (v.den : Int)).natAbs : Int) < pw 2048 := by
  rw [Int.natAbs_mul, Int.natCast_mul]
  exact rt_fits (by omega) (by omega) h1.1 (show ((Int.natAbs (v.den : Int) : Nat) : Int) < pw 1024 from h2.2) (by omega)
theorem Short.mul4 {u v : Rat} (h1 : Short u) (h2 : Short v) : ((u.num * (v.den : Int)).natAbs : Int) < pw 4096 := Int.lt_of_lt_of_le (h1.mul h2) (pw_mono (by omega))
/-- The order of two numbers. -/
def qcmp (x y : Rat) : Int := cmp3 (x.num * y.den) (y.num * x.den)
theorem qcmp_lt {x y : Rat} (h : x < y) : qcmp x y = -1 := cmp3_lt (by rw [Rat.lt_iff] at h; exact h)
theorem qcmp_gt {x y : Rat} (h : y < x) : qcmp x y = 1 := cmp3_gt (by rw [Rat.lt_iff] at h; exact h)
theorem qcmp_eq (x : Rat) : qcmp x x = 0 := by unfold qcmp cmp3; simp
theorem sign_lt (x : Int) : decide (Int.sign x < 0) = decide (x < 0) := by
  rcases Int.lt_trichotomy x 0 with h | h | h
  · rw [Int.sign_eq_neg_one_of_neg h]; simp [h]
  · subst h; rfl
  · rw [Int.sign_eq_one_of_pos h]
    have : ¬ x < 0 := by omega
    simp [this]

theorem Short.neg {v : Rat} (h : Short v) : Short (-v) := by unfold Short at *; rw [Rat.neg_num, Rat.neg_den, Int.natAbs_neg]; exact h

end Go.Proofs.YtmjfkciaohbkoaaDoor
namespace Go.Proofs.YtmjfkciaohbkoaaDoor
open Go.RowKit Go.Shelf
set_option linter.unusedVariables false

/-- The table of the powers of ten of decimal. -/
def Tn (w : World) : Prop := Go.Lib.TabIs Tryd.prog w "tollbook/decimal.tens" .i64 [1, 10, 100, 1000, 10000, 100000, 1000000, 10000000, 100000000, 1000000000]
theorem Tn.to {w w' : World} (h : Tn w) (hb : Below w.heap.size w w') : Tn w' := Go.Lib.tabBelow_of_tabIs h w' hb
theorem short64 {x y : Int} (h1 : -9223372036854775808 ≤ x) (h2 : x ≤ 9223372036854775807) (h3 : -9223372036854775808 ≤ y) (h4 : y ≤ 9223372036854775807) (h0 : y ≠ 0) : Short (Rat.divInt x y) := by
  have b1 : (9223372036854775808 : Int) < pw 1024 := Int.lt_of_lt_of_le (by decide : (9223372036854775808 : Int) < pw 1) (pw_mono (by omega))
  unfold Short
  rw [Rat.num_divInt, Rat.den_divInt, if_neg h0]
  have g1 : ((y.sign * x) / (y.gcd x : Nat)).natAbs ≤ x.natAbs := by
    have hd : ((y.gcd x : Nat) : Int) ∣ y.sign * x := Int.dvd_mul_of_dvd_right (Int.gcd_dvd_right ..)
    rw [Int.natAbs_ediv_of_dvd hd, Int.natAbs_mul, Int.natAbs_sign_of_ne_zero h0, Nat.one_mul]
    exact Nat.div_le_self _ _
  have g2 := Nat.div_le_self y.natAbs (y.gcd x)
  exact ⟨Int.lt_of_le_of_lt (by omega) b1, Int.lt_of_le_of_lt (by omega) b1⟩
theorem ten_bound {P : Nat} (hP : P ≤ 9) : 1 ≤ (10 : Int) ^ P ∧ (10 : Int) ^ P ≤ 1000000000 := by
  match P, hP with
  | 0, _ => decide
  | 1, _ => decide
  | 2, _ => decide
  | 3, _ => decide
  | 4, _ => decide
  | 5, _ => decide
  | 6, _ => decide
  | 7, _ => decide
  | 8, _ => decide
  | 9, _ => decide
end Go.Proofs.YtmjfkciaohbkoaaDoor
namespace Go.Proofs.YtmjfkciaohbkoaaDoor
open Go.RowKit Go.Shelf
set_option linter.unusedVariables false

theorem infoStr : (Tryd.prog.info? 9).map (fun i => (i.zero, i.size, i.bytes)) = some (some (.string ⟨#[]⟩), 1, 16) := by kernel_rfl
def elS : El (List UInt8) where
  enc := fun l => [sv l]
  dft := []
  te := 9
  tl := 35
  z := .string ⟨#[]⟩
  s := 1
  by8 := 16
  len := fun _ => rfl
  one := fun x v hv => by simp at hv; subst hv; rfl
  pos := by decide
  und := Tryd.underlying35
  inf := infoStr
  zs := rfl
  bt := by decide
theorem drop_b {l : List Bool} {j : Nat} (h : j < l.length) : l.drop j = l.getD j false :: l.drop (j + 1) := by
  rw [List.drop_eq_getElem_cons h, List.getD_eq_getElem?_getD, List.getElem?_eq_getElem h]; rfl
/-- Where v stands, from the place j on: -1 if nowhere. -/
def idB (v : Bool) : List Bool → Nat → Int
  | [], _ => -1
  | x :: l, j => if v = x then j else idB v l (j + 1)
theorem idB_has (v : Bool) : ∀ (l : List Bool) (j : Nat), decide (0 ≤ idB v l j) = l.contains v
  | [], j => by simp [idB]
  | x :: l, j => by
    unfold idB
    by_cases h : v = x
    · simp [h]
    · rw [if_neg h, idB_has v l (j + 1)]; simp [h]
theorem ba_inj {l m : List UInt8} : (⟨l.toArray⟩ : ByteArray) = ⟨m.toArray⟩ ↔ l = m := by
  constructor
  · intro h; have := congrArg (fun b : ByteArray => b.data.toList) h; simpa using this
  · intro h; rw [h]
/-- How two numbers that compare so stand by an op. -/
def bySo (op c : Int) : Bool := if op = 1 then decide (c < 0) else if op = 2 then decide (c ≤ 0) else if op = 3 then decide (0 < c) else decide (0 ≤ c)
theorem bySo_turn {op : Int} (h1 : 1 ≤ op) (h4 : op ≤ 4) (c : Int) : bySo (5 - op) c = !bySo op c := by
  unfold bySo
  have : op = 1 ∨ op = 2 ∨ op = 3 ∨ op = 4 := by omega
  rcases this with rfl | rfl | rfl | rfl <;> simp <;> (rw [Bool.eq_iff_iff]; simp; try omega)
/-- A value of a test, as a number. -/
def vq (n : Nd) : Rat := Rat.divInt n.un (10 ^ n.pl.toNat)
end Go.Proofs.YtmjfkciaohbkoaaDoor
namespace Go.Proofs.YtmjfkciaohbkoaaDoor
open Go.RowKit Go.Shelf
set_option linter.unusedVariables false

/-- What a test holds for facts: the buyer's and the line's traits, the amount and the quantity as numbers. -/
def vfa (by1 ln1 : List (List UInt8)) (A Q : Rat) (n : Nd) : Bool :=
  if n.kd = 4 then by1.contains n.nm else if n.kd = 5 then ln1.contains n.nm else if n.kd = 6 then bySo n.op (qcmp A (vq n)) else bySo n.op (qcmp Q (vq n))
theorem vfa_turns (by1 ln1 : List (List UInt8)) (A Q : Rat) : Turns (vfa by1 ln1 A Q) := by
  intro n hk h1 h4
  unfold vfa
  rcases hk with hk | hk
  · simp only [hk]; simp; exact bySo_turn h1 h4 _
  · simp only [hk]; simp; exact bySo_turn h1 h4 _
theorem any_contains (l : List Bool) : l.any id = l.contains true := by
  induction l with
  | nil => rfl
  | cons b l ih => cases b <;> simp [ih]
theorem all_contains (l : List Bool) : l.all id = !l.contains false := by
  induction l with
  | nil => rfl
  | cons b l ih => cases b <;> simp [ih]
/-- Facts in a variable. -/
def cf (a1 : Option Addr) (l1 c1 : Nat) (a2 : Option Addr) (l2 c2 : Nat) (am dg qt : Int) : Array Value := #[.slice a1 l1 c1, .slice a2 l2 c2, .int .i64 am, .int .i64 dg, .int .i64 qt]
theorem Va.f0 {w : World} {b : Nat} {t : TypeId} {x0 x1 x2 x3 x4 : Value} (h : Va w b t #[x0, x1, x2, x3, x4]) : w.cell? ⟨b, 0, none⟩ = some x0 := by rw [h.cellAt 0]; rfl
theorem Va.f1 {w : World} {b : Nat} {t : TypeId} {x0 x1 x2 x3 x4 : Value} (h : Va w b t #[x0, x1, x2, x3, x4]) : w.cell? ⟨b, 1, none⟩ = some x1 := by rw [h.cellAt 1]; rfl
theorem Va.f2 {w : World} {b : Nat} {t : TypeId} {x0 x1 x2 x3 x4 : Value} (h : Va w b t #[x0, x1, x2, x3, x4]) : w.cell? ⟨b, 2, none⟩ = some x2 := by rw [h.cellAt 2]; rfl
theorem Va.f3 {w : World} {b : Nat} {t : TypeId} {x0 x1 x2 x3 x4 : Value} (h : Va w b t #[x0, x1, x2, x3, x4]) : w.cell? ⟨b, 3, none⟩ = some x3 := by rw [h.cellAt 3]; rfl
theorem Va.f4 {w : World} {b : Nat} {t : TypeId} {x0 x1 x2 x3 x4 : Value} (h : Va w b t #[x0, x1, x2, x3, x4]) : w.cell? ⟨b, 4, none⟩ = some x4 := by rw [h.cellAt 4]; rfl
end Go.Proofs.YtmjfkciaohbkoaaDoor
namespace Go.Proofs.YtmjfkciaohbkoaaDoor
open Go.RowKit Go.Shelf
set_option linter.unusedVariables false

end Go.Proofs.YtmjfkciaohbkoaaDoor
namespace Go.Proofs.YtmjfkciaohbkoaaDoor
open Go.RowKit Go.Shelf
set_option linter.unusedVariables false

theorem drop_s {l : List (List UInt8)} {j : Nat} (h : j < l.length) : l.drop j = l.getD j [] :: l.drop (j + 1) := by
  rw [List.drop_eq_getElem_cons h, List.getD_eq_getElem?_getD, List.getElem?_eq_getElem h]; rfl
set_option maxHeartbeats 2000000 in
theorem areWords_any (l : List (List UInt8)) (a : Option Addr) (cap : Nat) (w : World) (hL : Le elS w a l.length l) (hl : l.length ≤ 100) :
    Calls Tryd.prog 15 #[.slice a l.length cap] w fun e w' => e = .returned (.bool (l.all wdB)) ∧ Below w.heap.size w w' := by
  obtain ⟨R, hR⟩ : ∃ R, l.all wdB = R := ⟨_, rfl⟩
  have HR : Hid (l.all wdB = R) := hR
  have HL : Hid (Le elS w a l.length l) := hL
  rw [hR]
  clear hR hL
  go_enter Tryd.func15, Tryd.ntmps15
  go_wp2_with fail
  go_loopw [4, 7] (fun _ j wr => ∃ i : Nat, j = .int .i64 i ∧ i ≤ l.length ∧ Hid ((l.drop i).all wdB = R) ∧ Hid (Below w.heap.size w wr)) (fun _ j _ => (l.length - (intOf j).toNat : Nat))
  case atStart => exact ⟨0, rfl, Nat.zero_le _, HR.out, Below.refl _ _⟩
  case round =>
    clear HR
    obtain ⟨i, rfl, hi, HR, HB⟩ := hrel
    rcases Nat.lt_or_ge i l.length with hlt | hge
    · have hii : (i : Int) < l.length := by omega
      obtain ⟨b, off, rfl⟩ := HL.out.ex (by omega)
      have c0 : wr.cell? ⟨b, off + i, none⟩ = some (sv (l.getD i [])) := by have := (HL.out.after HB.out).at i hlt 0 (sv (l.getD i [])) rfl; simpa [elS] using this
      have hd := drop_s hlt
      have HD : Hid ((wdB (l.getD i []) && (l.drop (i + 1)).all wdB) = R) := by have := HR.out; rw [hd] at this; exact this
      clear hd HR
      generalize l.getD i [] = x at *
      have C9 := word_B x wr
      cases hx : wdB x with
      | false =>
        have HD2 : Hid (false = R) := by have := HD.out; rw [hx] at this; exact this
        rw [hx] at C9
        clear HD hx
        go_wp2_with fail
        refine C9.mono ?_
        rintro e w2 ⟨rfl, hb⟩
        have HB2 : Hid (Below w.heap.size w w2) := step HB.out hb
        clear hb C9 HB c0
        go_wp2_with fail
        go_ret
        exact ⟨by rw [← HD2.out]; rfl, HB2.out⟩
      | true =>
        have HD2 : Hid ((l.drop (i + 1)).all wdB = R) := by have := HD.out; rw [hx] at this; exact this
        rw [hx] at C9
        clear HD hx
        go_wp2_with fail
        refine C9.mono ?_
        rintro e w2 ⟨rfl, hb⟩
        have HB2 : Hid (Below w.heap.size w w2) := step HB.out hb
        clear hb C9 HB c0
        go_wp2_with fail
        go_roundw
        case rel => exact ⟨i + 1, rfl, by omega, HD2.out, HB2.out⟩
        case measure => simp [intOf]; omega
    · obtain rfl : i = l.length := by omega
      have HR2 : Hid (true = R) := by have := HR.out; rw [List.drop_length] at this; exact this
      clear hge HR
      go_wp2_with fail
      go_ret
      exact ⟨by rw [← HR2.out]; rfl, HB.out⟩
/-- Texts that rise. -/
def Ris (l : List (List UInt8)) (n : Nat) : Prop := ∀ j, j + 1 < n → Op.bytesLess (l.getD j []) (l.getD (j + 1) []) = true
def Trs (l : List (List UInt8)) : Prop := l.length ≤ 16 ∧ l.all wdB = true ∧ Ris l l.length
/-- What areTraits answers. -/
noncomputable def trB (l : List (List UInt8)) : Bool := open Classical in decide (Trs l)
theorem trB_yes {l : List (List UInt8)} (h : Trs l) : trB l = true := by simp [trB, h]
theorem trB_no {l : List (List UInt8)} (h : ¬ Trs l) : trB l = false := by simp [trB, h]
theorem trB_iff {l : List (List UInt8)} : trB l = true ↔ Trs l := by simp [trB]
theorem string_geq (t : TypeId) (a b : ByteArray) : binOp .geq t (.string a) (.string b) = pure (.bool !(Op.bytesLess a.toList b.toList)) := by simp [binOp, Op.stringOp]
theorem nameR (w : World) (n : Nat) {Q : World → Prop} (h : ∀ W, (∀ a, W.cell? a = w.cell? a) → Below w.heap.size w W → W.heap.size = w.heap.size → Q W) : Q (w.drewN n) :=
  h _ (fun _ => rfl) (below_drewN (Below.refl _ _) n) rfl
set_option maxHeartbeats 4000000 in
theorem areTraits_any (l : List (List UInt8)) (a : Option Addr) (cap : Nat) (w : World) (hL : Le elS w a l.length l) :
    Calls Tryd.prog 16 #[.slice a l.length cap] w fun e w' => e = .returned (.bool (trB l)) ∧ Below w.heap.size w w' := by
  obtain ⟨R, hR⟩ : ∃ R, trB l = R := ⟨_, rfl⟩
  have HR : Hid (trB l = R) := hR
  have HL : Hid (Le elS w a l.length l) := hL
  rw [hR]
  clear hR hL
  rcases Nat.lt_or_ge 16 l.length with h16 | h16
  · have h16' : (16 : Int) < l.length := by omega
    have HR2 : Hid (false = R) := by show _ = _; rw [← HR.out, trB_no (fun h => by have := h.1; omega)]
    go_enter Tryd.func16, Tryd.ntmps16
    go_wp2_with fail
    go_ret
    exact ⟨by rw [← HR2.out]; rfl, Below.refl _ _⟩
  · have h16' : ¬ (16 : Int) < l.length := by omega
    have C9 := areWords_any l a cap w HL.out (by omega)
    cases hw : l.all wdB with
    | false =>
      rw [hw] at C9
      have HR2 : Hid (false = R) := by show _ = _; rw [← HR.out, trB_no (fun h => by have := h.2.1; rw [hw] at this; cases this)]
      clear hw
      go_enter Tryd.func16, Tryd.ntmps16
      go_wp2_with fail
      refine C9.mono ?_
      rintro e w2 ⟨rfl, hb⟩
      clear C9
      go_wp2_with fail
      go_ret
      exact ⟨by rw [← HR2.out]; rfl, hb⟩
    | true =>
      rw [hw] at C9
      have HW : Hid (l.all wdB = true) := hw
      clear hw
      go_enter Tryd.func16, Tryd.ntmps16
      go_wp2_with fail
      refine C9.mono ?_
      rintro e w1 ⟨rfl, hb⟩
      have HB1 : Hid (Below w.heap.size w w1) := hb
      clear C9 hb
      go_wp2_with fail
      go_loopw [3, 14] (fun _ j wr => ∃ i : Nat, j = .int .i64 i ∧ i ≤ l.length ∧ Hid (Ris l i) ∧ Hid (Below w.heap.size w wr)) (fun _ j _ => (l.length - (intOf j).toNat : Nat))
      case atStart => exact ⟨0, rfl, Nat.zero_le _, (fun j hj => by omega), HB1.out⟩
      case round =>
        clear HB1
        obtain ⟨i, rfl, hi, HI, HB⟩ := hrel
        rcases Nat.lt_or_ge i l.length with hlt | hge
        · have hii : (i : Int) < l.length := by omega
          obtain ⟨b, off, rfl⟩ := HL.out.ex (by omega)
          have hcc : ∀ j, j < l.length → wr.cell? ⟨b, off + j, none⟩ = some (sv (l.getD j [])) := fun j hj => by have := (HL.out.after HB.out).at j hj 0 (sv (l.getD j [])) rfl; simpa [elS] using this
          rcases Nat.eq_zero_or_pos i with h0 | h0
          · subst h0
            clear hcc
            go_wp2_with fail
            go_quiet (fail)
            refine nameR wr _ (Q := fun W => Exit.then _ _ _ _ W) (fun wq hcell hBw hsq => ?_)
            have HBq : Hid (Below w.heap.size w wq) := step HB.out hBw
            clear hcell hBw hsq HB
            go_wp2_with fail
            go_roundw
            case rel => exact ⟨1, rfl, by omega, (fun j hj => by omega), HBq.out⟩
            case measure => simp [intOf]; omega
          · obtain ⟨j, rfl⟩ : ∃ j, i = j + 1 := ⟨i - 1, by omega⟩
            have c0 := hcc j (by omega)
            have c1 := hcc (j + 1) hlt
            have sg := string_geq
            have x1 : IntKind.i64.wrap (j : Int) = j := by rw [IntKind.wrap_i64]; omega
            have hj0 : (0 : Int) ≤ j := by omega
            have hjl : (j : Int) < l.length := by omega
            have hp : (0 : Int) < (j : Int) + 1 := by omega
            have HX : Hid (∀ x y, l.getD j [] = x → l.getD (j + 1) [] = y → (l.getD j [] = x ∧ l.getD (j + 1) [] = y)) := fun x y h1 h2 => ⟨h1, h2⟩
            obtain ⟨x, hx⟩ : ∃ x, l.getD j [] = x := ⟨_, rfl⟩
            obtain ⟨y, hy⟩ : ∃ y, l.getD (j + 1) [] = y := ⟨_, rfl⟩
            have HX : Hid (l.getD j [] = x ∧ l.getD (j + 1) [] = y) := ⟨hx, hy⟩
            rw [hx] at c0
            rw [hy] at c1
            clear hx hy hcc
            cases hL2 : Op.bytesLess x y with
            | true =>
              go_wp2_with fail
              go_quiet (fail)
              refine nameR wr _ (Q := fun W => Exit.then _ _ _ _ W) (fun wq hcell hBw hsq => ?_)
              have HBq : Hid (Below w.heap.size w wq) := step HB.out hBw
              have HI2 : Hid (Ris l (j + 1 + 1)) := fun q hq => by
                rcases Nat.lt_or_ge (q + 1) (j + 1) with h | h
                · exact HI.out q h
                · obtain rfl : q = j := by omega
                  rw [HX.out.1, HX.out.2]; exact hL2
              clear hcell hBw hsq HB hL2
              go_wp2_with fail
              go_roundw
              case rel => exact ⟨j + 1 + 1, rfl, by omega, HI2.out, HBq.out⟩
              case measure => simp [intOf]; omega
            | false =>
              go_wp2_with fail
              go_quiet (fail)
              refine nameR wr _ (Q := fun W => Exit.then _ _ _ _ W) (fun wq hcell hBw hsq => ?_)
              have HBq : Hid (Below w.heap.size w wq) := step HB.out hBw
              have HR2 : Hid (false = R) := by
                show _ = _
                rw [← HR.out, trB_no]
                intro h
                have := h.2.2 j hlt
                rw [HX.out.1, HX.out.2, hL2] at this
                cases this
              clear hcell hBw hsq HB hL2
              go_wp2_with fail
              go_ret
              exact ⟨by rw [← HR2.out]; rfl, HBq.out⟩
        · obtain rfl : i = l.length := by omega
          have HR2 : Hid (true = R) := by show _ = _; rw [← HR.out, trB_yes ⟨h16, HW.out, HI.out⟩]
          clear hge HR HI
          go_wp2_with fail
          go_ret
          exact ⟨by rw [← HR2.out]; rfl, HB.out⟩
/-- Facts that may be. -/
def FtOk (by1 ln1 : List (List UInt8)) (am dg qt : Int) : Prop := Trs by1 ∧ Trs ln1 ∧ 0 ≤ dg ∧ dg ≤ 4 ∧ 0 ≤ am ∧ 0 ≤ qt
noncomputable def ftE (by1 ln1 : List (List UInt8)) (am dg qt : Int) : Int := open Classical in if FtOk by1 ln1 am dg qt then 0 else 141
theorem ftE_ok {by1 ln1 : List (List UInt8)} {am dg qt : Int} (h : FtOk by1 ln1 am dg qt) : ftE by1 ln1 am dg qt = 0 := if_pos h
theorem ftE_no {by1 ln1 : List (List UInt8)} {am dg qt : Int} (h : ¬ FtOk by1 ln1 am dg qt) : ftE by1 ln1 am dg qt = 141 := if_neg h
set_option maxHeartbeats 4000000 in
theorem fit_any (by1 ln1 : List (List UInt8)) (a1 : Option Addr) (c1 : Nat) (a2 : Option Addr) (c2 : Nat) (am dg qt : Int) (w : World) (h1 : Le elS w a1 by1.length by1) (h2 : Le elS w a2 ln1.length ln1) :
    Calls Tryd.prog 9 #[.agg #[.slice a1 by1.length c1, .slice a2 ln1.length c2, .int .i64 am, .int .i64 dg, .int .i64 qt]] w fun e w' => e = .returned (.int .i64 (ftE by1 ln1 am dg qt)) ∧ Below w.heap.size w w' := by
  obtain ⟨R, hR⟩ : ∃ R, ftE by1 ln1 am dg qt = R := ⟨_, rfl⟩
  have HR : Hid (ftE by1 ln1 am dg qt = R) := hR
  rw [hR]
  have H1 : Hid (Le elS w a1 by1.length by1) := h1
  have H2 : Hid (Le elS w a2 ln1.length ln1) := h2
  clear hR h1 h2
  have C1 := fun W h => areTraits_any by1 a1 c1 W h
  have C2 := fun W h => areTraits_any ln1 a2 c2 W h
  cases hb : trB by1 with
  | false =>
    have HE : Hid (R = 141) := by show _ = _; rw [← HR.out, ftE_no (fun h => by rw [trB_yes h.1] at hb; cases hb)]
    rw [hb] at C1
    go_enter Tryd.func9, Tryd.ntmps9
    go_upto_region 1 with fail
    refine ent1 w _ _ (Q := fun W => Code.wp _ _ _ _ W) ?_
    intro W1 hb1 hs1 V1
    have v0 := V1.f0
    have D1 := C1 W1 (H1.out.after hb1)
    go_wp2_with fail
    refine D1.mono ?_
    rintro e W2 ⟨rfl, hb2⟩
    go_wp2_with fail
    go_ret
    exact ⟨by rw [HE.out]; rfl, step hb1 hb2⟩
  | true =>
    have HT1 : Hid (Trs by1) := trB_iff.1 hb
    rw [hb] at C1
    clear hb
    cases hb : trB ln1 with
    | false =>
      have HE : Hid (R = 141) := by show _ = _; rw [← HR.out, ftE_no (fun h => by rw [trB_yes h.2.1] at hb; cases hb)]
      rw [hb] at C2
      go_enter Tryd.func9, Tryd.ntmps9
      go_upto_region 1 with fail
      refine ent1 w _ _ (Q := fun W => Code.wp _ _ _ _ W) ?_
      intro W1 hb1 hs1 V1
      have v0 := V1.f0
      have D1 := C1 W1 (H1.out.after hb1)
      go_wp2_with fail
      refine D1.mono ?_
      rintro e W2 ⟨rfl, hb2⟩
      have v1 := (V1.after hb2).f1
      have D2 := C2 W2 (H2.out.after (step hb1 hb2))
      clear D1 v0
      go_wp2_with fail
      refine D2.mono ?_
      rintro e W3 ⟨rfl, hb3⟩
      go_wp2_with fail
      go_ret
      exact ⟨by rw [HE.out]; rfl, step (step hb1 hb2) hb3⟩
    | true =>
      have HT2 : Hid (Trs ln1) := trB_iff.1 hb
      rw [hb] at C2
      clear hb
      go_enter Tryd.func9, Tryd.ntmps9
      go_upto_region 1 with fail
      refine ent1 w _ _ (Q := fun W => Code.wp _ _ _ _ W) ?_
      intro W1 hb1 hs1 V1
      have v0 := V1.f0
      have D1 := C1 W1 (H1.out.after hb1)
      go_wp2_with fail
      refine D1.mono ?_
      rintro e W2 ⟨rfl, hb2⟩
      have v1 := (V1.after hb2).f1
      have D2 := C2 W2 (H2.out.after (step hb1 hb2))
      clear D1 v0
      go_wp2_with fail
      refine D2.mono ?_
      rintro e W3 ⟨rfl, hb3⟩
      have V3 := (V1.after hb2).after hb3
      have HB3 : Hid (Below w.heap.size w W3) := step (step hb1 hb2) hb3
      have u2 := V3.f2
      have u3 := V3.f3
      have u4 := V3.f4
      clear D2 v1 hb1 hb2 hb3 V1 V3
      have HE1 : Hid (0 ≤ dg → dg ≤ 4 → 0 ≤ am → 0 ≤ qt → R = 0) := fun i1 i2 i3 i4 => by rw [← HR.out, ftE_ok ⟨HT1.out, HT2.out, i1, i2, i3, i4⟩]
      have HE2 : Hid (¬ (0 ≤ dg ∧ dg ≤ 4 ∧ 0 ≤ am ∧ 0 ≤ qt) → R = 141) := fun i => by rw [← HR.out, ftE_no (fun h => i h.2.2)]
      clear HR
      by_cases i1 : 0 ≤ dg
      · by_cases i2 : dg ≤ 4
        · by_cases i3 : 0 ≤ am
          · by_cases i4 : 0 ≤ qt
            · have HE : Hid (R = 0) := HE1.out i1 i2 i3 i4
              have j4 : decide (0 ≤ qt) = true := decide_eq_true i4
              go_wp2_with fail
              go_ret
              exact ⟨by rw [HE.out]; rfl, HB3.out⟩
            · have HE : Hid (R = 141) := HE2.out (fun h => i4 h.2.2.2)
              have j4 : decide (0 ≤ qt) = false := decide_eq_false i4
              go_wp2_with fail
              go_ret
              exact ⟨by rw [HE.out]; rfl, HB3.out⟩
          · have HE : Hid (R = 141) := HE2.out (fun h => i3 h.2.2.1)
            have j3 : decide (0 ≤ am) = false := decide_eq_false i3
            go_wp2_with fail
            go_ret
            exact ⟨by rw [HE.out]; rfl, HB3.out⟩
        · have HE : Hid (R = 141) := HE2.out (fun h => i2 h.2.1)
          have j2 : decide (dg ≤ 4) = false := decide_eq_false i2
          go_wp2_with fail
          go_ret
          exact ⟨by rw [HE.out]; rfl, HB3.out⟩
      · have HE : Hid (R = 141) := HE2.out (fun h => i1 h.1)
        have j1 : decide (0 ≤ dg) = false := decide_eq_false i1
        go_wp2_with fail
        go_ret
        exact ⟨by rw [HE.out]; rfl, HB3.out⟩
end Go.Proofs.YtmjfkciaohbkoaaDoor
namespace Go.Proofs.YtmjfkciaohbkoaaDoor
open Go.RowKit Go.Shelf
set_option linter.unusedVariables false

/-- Whether nodes that are a condition hold. -/
noncomputable def hoV (ns : List Nd) (v : Nd → Bool) : Bool := open Classical in if h : ∃ t : Fo, ns = t.flat ∧ t.len = 1 ∧ t.Ok wdB 0 1 then (h.choose.ev v).headD true else true
theorem hoV_eq {ns : List Nd} {n : Nd} {k : Fo} (h : ns = (Fo.cons n k .nil).flat) (hok : (Fo.cons n k .nil).Ok wdB 0 1) (v : Nd → Bool) : hoV ns v = val v n (k.ev v) := by
  have hx : ∃ t : Fo, ns = t.flat ∧ t.len = 1 ∧ t.Ok wdB 0 1 := ⟨.cons n k .nil, h, rfl, hok⟩
  unfold hoV
  rw [dif_pos hx]
  obtain ⟨h1, h3, h2⟩ := hx.choose_spec
  have := (flat_inj _ _ _ _ _ _ [] [] h2 hok h3 (by rw [List.append_nil, List.append_nil, ← h1, ← h])).1
  rw [this]; rfl
theorem hoV_nil (v : Nd → Bool) : hoV [] v = true := by
  unfold hoV
  rw [dif_neg]
  rintro ⟨t, h, h1, -⟩
  have := Fo.len_flat t
  rw [← h, h1] at this
  simp at this
/-- Facts as they are told. -/
structure Fx where
  byr : List (List UInt8)
  lin : List (List UInt8)
  amt : Int
  dig : Int
  qty : Int
def Fx.Ok (f : Fx) : Prop := FtOk f.byr f.lin f.amt f.dig f.qty
def Fx.vf (f : Fx) : Nd → Bool := vfa f.byr f.lin (Rat.divInt f.amt (10 ^ f.dig.toNat)) (Rat.divInt f.qty (10 ^ 0))
noncomputable def hoE (ns : List Nd) (f : Fx) : Int := open Classical in if Cond wdB ns then ftE f.byr f.lin f.amt f.dig f.qty else 131
noncomputable def hoB (ns : List Nd) (f : Fx) : Bool := open Classical in if Cond wdB ns ∧ f.Ok then hoV ns f.vf else false
def B64 (x : Int) : Prop := -9223372036854775808 ≤ x ∧ x ≤ 9223372036854775807
/-- Facts that can be read. -/
structure Lf (w : World) (a1 : Option Addr) (c1 : Nat) (a2 : Option Addr) (c2 : Nat) (f : Fx) : Prop where
  l1 : Le elS w a1 f.byr.length f.byr
  l2 : Le elS w a2 f.lin.length f.lin
  b1 : B64 f.amt
  b2 : B64 f.dig
  b3 : B64 f.qty
theorem Lf.after {w w' : World} {a1 : Option Addr} {c1 : Nat} {a2 : Option Addr} {c2 : Nat} {f : Fx} (h : Lf w a1 c1 a2 c2 f) (hb : Below w.heap.size w w') : Lf w' a1 c1 a2 c2 f := ⟨h.l1.after hb, h.l2.after hb, h.b1, h.b2, h.b3⟩
abbrev fxv (a1 : Option Addr) (c1 : Nat) (a2 : Option Addr) (c2 : Nat) (f : Fx) : Value := .agg #[.slice a1 f.byr.length c1, .slice a2 f.lin.length c2, .int .i64 f.amt, .int .i64 f.dig, .int .i64 f.qty]
end Go.Proofs.YtmjfkciaohbkoaaDoor
