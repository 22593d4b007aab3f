/-
  MoneyBack (P9.5, the stage's theorem): units are told by their amount, and come back from major units; each beginning of the amount is refused at its end, and with one byte more behind it there. For every currency, units and byte; under the condition that the listed variables (the powers of ten of strconv and of money, among others) hold what the program's text lays.
-/
import Derived.Test.YtigimdcaakfckaaGreatDoorMy4
import Derived.Laws.EntriesVeiled
import Derived.Test.YtigimdcaakfckaaGreatDoorMsP
import Derived.Test.YtigimdcaakfckaaGreatDoorBsM
import Derived.Test.YtigimdcaakfckaaGreatDoorRt5
import Derived.Test.YtigimdcaakfckaaGreatDoorRt6
import Derived.Test.YtigimdcaakfckaaGreatDoorRows
import Derived.Test.YtigimdcaakfckaaGreatDoorFmt10
import Derived.Lib.LaidTab
import Derived.Stop.LaidErr
import Derived.Test.YtigimdcaakfckaaGreatDoorCards
import Derived.Test.YtigimdcaakfckaaGreatDoorTie
import Derived.Lay
import Derived.LaidLaws
import Derived.MakeChecks
import Derived.SevenTiedAt
import Derived.WalkKit
import Derived.ProofKit
import Derived.OpenShut
import Derived.ShutString
import Derived.ChangeOld
import Derived.SizedLaws
import Derived.Lib.SmallJoins
namespace Go.Proofs.YtigimdcaakfckaaGreatDoor
open Go.RowKit Go.Shelf
set_option linter.unusedVariables false

abbrev Rdr (w : World) (b : Nat) (s : List UInt8) (p : Nat) (D : Int) (neg : Bool) (far : Nat) : Prop := Va w b 126 #[.string ⟨s.toArray⟩, .int .i64 p, .int .i64 D, .bool neg, .int .u64 far]
theorem digit9_any (b : Nat) (s : List UInt8) (p : Nat) (D : Int) (neg : Bool) (far rest : Nat) (w : World) (h : Rdr w b s p D neg far) (hp : p ≤ s.length) (hs : s.length ≤ 140737488355328) (hr : rest ≤ 4) (hf : far ≤ mostU neg) (hT : Tm w) :
    (∃ c, s.drop p = c :: s.drop (p + 1) ∧ p + 1 ≤ s.length ∧ okD neg far rest c = true ∧ Calls Tryz.prog 141 #[.pointer (some ⟨b, 0, none⟩), .int .i64 rest] w fun e w' => e = .returned (.bool true) ∧ Rdr w' b s (p + 1) D neg (far * 10 + wv c) ∧ Only b w w') ∨
    ((s.drop p = [] ∨ ∃ c l, s.drop p = c :: l ∧ okD neg far rest c = false) ∧ Calls Tryz.prog 141 #[.pointer (some ⟨b, 0, none⟩), .int .i64 rest] w fun e w' => e = .returned (.bool false) ∧ Rdr w' b s p D neg far ∧ Only b w w') := by
  rcases Nat.lt_or_ge p s.length with hl | hl
  · obtain ⟨c, hc, hcd⟩ := byte_at s p hl
    have hgc : s.getD p 0 = c := by
      have : s.getD p 0 = (s.drop p).getD 0 0 := by simp
      rw [this, hcd]; rfl
    have hd := digit_at b s p (.int .i64 D) neg far rest w h hl hs hr hf hT
    rw [hgc] at hd
    cases hok : okD neg far rest c
    · right
      rw [hok] at hd
      exact ⟨.inr ⟨c, _, hcd, hok⟩, hd⟩
    · left
      rw [hok] at hd
      refine ⟨c, hcd, by omega, hok, hd.mono fun e w' h => ?_⟩
      have h2 := h.2.1
      rw [hgc] at h2
      exact ⟨h.1, h2, h.2.2⟩
  · obtain rfl : p = s.length := by omega
    exact .inr ⟨.inl (by simp), digit_end b s (.int .i64 D) neg far rest w h⟩
set_option maxHeartbeats 1000000 in
theorem readSign9 (b : Nat) (s nm : List UInt8) (D : Nat) (w : World) (h : Rdr w b s 0 D false 0) (hs : s.length ≤ 140737488355328) (T : R9) (hT : parR nm D s = T) :
    Calls Tryz.prog 107 #[.pointer (some ⟨b, 0, none⟩)] w fun e w' => PcP b s (.int .i64 D) (fun p neg far => plus p (firR neg nm D (s.drop p)) = T ∧ far = 0) T w e w' := by
  have hfx := fixed9 b [45] s 0 (.int .i64 D) (.bool false) (.int .u64 (0 : Nat)) w h (Nat.zero_le _) hs (by simp) (fun _ => (0, some 0)) _ rfl
  have HT : Hid (parR nm D s = T) := hT
  clear h hT
  go_enter Tryz.func107, Tryz.ntmps107
  go_wp2_with fail
  refine hfx.mono ?_
  rintro e w1 ⟨ok, p, rfl, hp, V, h1, h2, ho⟩
  have HV : Hid (Rdr w1 b s p D false 0) := V
  have fz := V.frozen 3
  have hlt := V.lt
  have c3 : w1.cell? ⟨b, 3, none⟩ = some (.bool false) := V.cellAt 3
  have HP : Hid (plus p (firR ok nm D (s.drop p)) = T) := by
    show _ = _
    rw [← HT.out]
    cases s with
    | nil =>
      cases ok
      · have := h2 rfl
        simp [fixC, plus] at this
        subst this; rfl
      · have := h1 rfl
        simp [fixC, plus] at this
    | cons c l =>
      have e1 : parR nm D (c :: l) = if c = 45 then one (firR true nm D l) else firR false nm D (c :: l) := rfl
      have e2 : fixC [45] (fun _ => ((0 : Nat), some (0 : Int))) (c :: l) = if c = 45 then one (0, some 0) else (0, none) := rfl
      rw [e1]
      by_cases hc : c = 45
      · cases ok
        · have := h2 rfl
          rw [List.drop_zero, e2, if_pos hc] at this
          simp [plus, one] at this
        · have := h1 rfl
          rw [List.drop_zero, e2, if_pos hc] at this
          simp [plus, one] at this
          subst this
          rw [if_pos hc]
          show plus 1 (firR true nm D l) = _
          simp [plus, one]; omega
      · cases ok
        · have := h2 rfl
          rw [List.drop_zero, e2, if_neg hc] at this
          simp [plus] at this
          subst this
          rw [if_neg hc, List.drop_zero, plus_zero]
        · have := h1 rfl
          rw [List.drop_zero, e2, if_neg hc] at this
          simp [plus] at this
  clear h1 h2 V
  go_wp2_with fail
  go_ret
  exact ⟨true, ok, p, 0, rfl, hp, HV.out.seti 3 (.bool ok), fun _ => ⟨HP.out, rfl⟩, (fun h => by cases h), ho.set _ _⟩
set_option maxHeartbeats 1000000 in
theorem readBehind9 (b : Nat) (s nm : List UInt8) (D p far : Nat) (neg : Bool) (w : World) (h : Rdr w b s p D neg far) (hp : p ≤ s.length) (hs : s.length ≤ 140737488355328) (T : R9) (hT : plus p (behR neg nm D far (s.drop p)) = T) (hTm : Tm w) (hD : D ≤ 4) (hf : far ≤ mostU neg) (hb : b ≠ 0) :
    Calls Tryz.prog 111 #[.pointer (some ⟨b, 0, none⟩)] w fun e w' => PcP b s (.int .i64 D) (fun p n far => n = neg ∧ plus p (tailR neg nm far (s.drop p)) = T ∧ far ≤ mostU neg) T w e w' := by
  have c2 : w.cell? ⟨b, 2, none⟩ = some (.int .i64 D) := h.cellAt 2
  have HV0 : Hid (Rdr w b s p D neg far) := h
  have HT0 : Hid (plus p (behR neg nm D far (s.drop p)) = T) := hT
  have HTm : Hid (Tm w) := hTm
  have Hf : Hid (far ≤ mostU neg) := hf
  clear h hT hTm hf
  go_enter Tryz.func111, Tryz.ntmps111
  go_wp2_with fail
  go_loopw [3] (fun i wr => ∃ (k p far : Nat), i = .int .i64 ((k : Int) - 1) ∧ k ≤ D ∧ p ≤ s.length ∧ Hid (Rdr wr b s p D neg far) ∧ Hid (plus p (behR neg nm k far (s.drop p)) = T) ∧ Hid (far ≤ mostU neg) ∧ Hid (Only b w wr)) (fun i _ => (intOf i + 1).toNat)
  case atStart => exact ⟨D, p, far, rfl, by omega, hp, HV0.out, HT0.out, Hf.out, Only.refl _ _⟩
  case round =>
    clear hp HV0 HT0 Hf c2
    obtain ⟨k, p, far, rfl, hk, hp, HV, HT, Hf, HO⟩ := hrel
    cases k with
    | zero =>
      go_wp2_with fail
      go_ret
      exact ⟨true, neg, p, far, rfl, hp, HV.out, fun _ => ⟨rfl, HT.out, Hf.out⟩, (fun h => by cases h), HO.out⟩
    | succ j =>
      have eq : ((j + 1 : Nat) : Int) - 1 = (j : Int) := by omega
      have hj0 : (0 : Int) ≤ j := by omega
      rw [eq]
      rcases digit9_any b s p D neg far j wr HV.out hp hs (by omega) Hf.out (HTm.out.only HO.out hb) with ⟨c, hcd, hp1, hok, hd⟩ | ⟨hno, hd⟩
      · have HE : Hid (plus (p + 1) (behR neg nm j (far * 10 + wv c) (s.drop (p + 1))) = T) := by
          have e := HT.out
          rw [hcd] at e
          have e1 : behR neg nm (j + 1) far (c :: s.drop (p + 1)) = if okD neg far j c then one (behR neg nm j (far * 10 + wv c) (s.drop (p + 1))) else (0, none) := rfl
          rw [e1, if_pos hok, plus_one] at e
          exact e
        have HF : Hid (far * 10 + wv c ≤ mostU neg) := Nat.le_trans ((okD_iff _ _ _ _).1 hok).2.1 (Nat.div_le_self _ _)
        clear hcd hok eq
        go_wp2_with fail
        refine hd.mono ?_
        rintro e w1 ⟨rfl, V1, ho⟩
        have HV1 : Hid (Rdr w1 b s (p + 1) D neg (far * 10 + wv c)) := V1
        have HO1 : Hid (Only b w w1) := HO.out.trans ho
        clear V1 ho hd
        go_wp2_with fail
        go_roundw
        case rel => exact ⟨j, p + 1, _, rfl, by omega, hp1, HV1.out, HE.out, HF.out, HO1.out⟩
        case measure => simp [intOf]
      · have HE : Hid (T = (p, none)) := by
          have e := HT.out
          rcases hno with h0 | ⟨c, l, hcd, hok⟩
          · rw [h0] at e; exact e.symm
          · rw [hcd] at e
            have e1 : behR neg nm (j + 1) far (c :: l) = if okD neg far j c then one (behR neg nm j (far * 10 + wv c) l) else (0, none) := rfl
            rw [e1, hok] at e
            exact e.symm
        clear hno eq
        go_wp2_with fail
        refine hd.mono ?_
        rintro e w1 ⟨rfl, V1, ho⟩
        go_wp2_with fail
        go_ret
        exact ⟨false, neg, p, far, rfl, hp, V1, (fun h => by cases h), fun _ => HE.out, HO.out.trans ho⟩
theorem ah_stop {neg : Bool} {nm : List UInt8} {D far : Nat} {l : List UInt8} (h : far = 0 ∨ l = [] ∨ ∃ c r, l = c :: r ∧ okD neg far D c = false) : ahR neg nm D far l = ptR neg nm D far l := by
  cases l with
  | nil => rfl
  | cons c r =>
    show (if (decide (0 < far) && okD neg far D c) = true then _ else _) = _
    rw [if_neg]
    rcases h with h | h | ⟨c', r', h, hk⟩
    · simp [h]
    · cases h
    · injection h with h1 h2; subst h1; simp [hk]
set_option maxHeartbeats 2000000 in
theorem readAhead9 (b : Nat) (s nm : List UInt8) (D p : Nat) (neg : Bool) (w : World) (h : Rdr w b s p D neg 0) (hp : p ≤ s.length) (hs : s.length ≤ 140737488355328) (T : R9) (hT : plus p (firR neg nm D (s.drop p)) = T) (hTm : Tm w) (hD : D ≤ 4) (hb : b ≠ 0) :
    Calls Tryz.prog 109 #[.pointer (some ⟨b, 0, none⟩)] w fun e w' => PcP b s (.int .i64 D) (fun p n far => n = neg ∧ plus p (ptR neg nm D far (s.drop p)) = T ∧ far ≤ mostU neg) T w e w' := by
  have c2 : w.cell? ⟨b, 2, none⟩ = some (.int .i64 D) := h.cellAt 2
  have HTm : Hid (Tm w) := hTm
  have HT : Hid (plus p (firR neg nm D (s.drop p)) = T) := hT
  rcases digit9_any b s p D neg 0 D w h hp hs hD (Nat.zero_le _) hTm with ⟨c, hcd, hp1, hok, hd⟩ | ⟨hno, hd⟩
  · have HE : Hid (plus (p + 1) (ahR neg nm D (wv c) (s.drop (p + 1))) = T) := by
      have e := HT.out
      rw [hcd] at e
      have e1 : firR neg nm D (c :: s.drop (p + 1)) = if okD neg 0 D c = true then one (ahR neg nm D (wv c) (s.drop (p + 1))) else (0, none) := rfl
      rw [e1, if_pos hok, plus_one] at e
      exact e
    have HF : Hid (wv c ≤ mostU neg) := by
      have := Nat.le_trans ((okD_iff _ _ _ _).1 hok).2.1 (Nat.div_le_self _ _)
      rw [Nat.zero_mul, Nat.zero_add] at this; exact this
    rw [Nat.zero_mul, Nat.zero_add] at hd
    clear hcd hok h hT hTm HT
    go_enter Tryz.func109, Tryz.ntmps109
    go_wp2_with fail
    refine hd.mono ?_
    rintro e w1 ⟨rfl, V1, ho⟩
    have HV1 : Hid (Rdr w1 b s (p + 1) D neg (wv c)) := V1
    have HO1 : Hid (Only b w w1) := ho
    clear V1 ho hd c2
    go_wp2_with fail
    go_loopw [4] (fun m wr => ∃ (more : Bool) (p far : Nat), m = .bool more ∧ p ≤ s.length ∧ Hid (Rdr wr b s p D neg far) ∧ Hid ((more = true → plus p (ahR neg nm D far (s.drop p)) = T) ∧ (more = false → plus p (ptR neg nm D far (s.drop p)) = T)) ∧ Hid (far ≤ mostU neg) ∧ Hid (Only b w wr) ∧ Hid (1 ≤ s.length - p + (if more then 1 else 0) ∨ more = false)) (fun m wr => match wr.cell? ⟨b, 1, none⟩ with | some (.int .i64 q) => (s.length - q.toNat) + (match m with | .bool true => 1 | _ => 0) | _ => 0)
    case atStart => exact ⟨true, p + 1, _, rfl, hp1, HV1.out, ⟨fun _ => HE.out, fun h => by cases h⟩, HF.out, HO1.out, .inl (by simp)⟩
    case round =>
      clear hp hp1 HV1 HE HF HO1
      obtain ⟨more, p, far, rfl, hp, HV, HT, Hf, HO, -⟩ := hrel
      have V := HV.out
      have c4 : wr.cell? ⟨b, 4, none⟩ = some (.int .u64 far) := V.cellAt 4
      have c2 : wr.cell? ⟨b, 2, none⟩ = some (.int .i64 D) := V.cellAt 2
      clear V
      cases more with
      | false =>
        go_wp2_with fail
        go_ret
        exact ⟨true, neg, p, far, rfl, hp, HV.out, fun _ => ⟨rfl, by first | exact HT.out.2 rfl | exact HT.out.2 trivial, Hf.out⟩, (fun h => by cases h), HO.out⟩
      | true =>
        by_cases hf0 : far = 0
        · have HE : Hid (plus p (ptR neg nm D far (s.drop p)) = T) := by rw [← ah_stop (.inl hf0)]; exact HT.out.1 rfl
          have hfi : ¬ (0 : Int) < far := by omega
          clear hf0
          go_wp2_with fail
          go_ret
          exact ⟨true, neg, p, far, rfl, hp, HV.out, fun _ => ⟨rfl, HE.out, Hf.out⟩, (fun h => by cases h), HO.out⟩
        · have hfi : (0 : Int) < far := by omega
          have HF0 : Hid (far ≠ 0) := hf0
          clear hf0
          rcases digit9_any b s p D neg far D wr HV.out hp hs hD Hf.out (HTm.out.only HO.out hb) with ⟨c, hcd, hp1, hok, hd⟩ | ⟨hno, hd⟩
          · have HE : Hid (plus (p + 1) (ahR neg nm D (far * 10 + wv c) (s.drop (p + 1))) = T) := by
              have e := HT.out.1 rfl
              rw [hcd] at e
              have e1 : ahR neg nm D far (c :: s.drop (p + 1)) = if (decide (0 < far) && okD neg far D c) = true then one (ahR neg nm D (far * 10 + wv c) (s.drop (p + 1))) else ptR neg nm D far (c :: s.drop (p + 1)) := rfl
              rw [e1, if_pos (by rw [hok, decide_eq_true (by have := HF0.out; omega)]; rfl), plus_one] at e
              exact e
            have HF : Hid (far * 10 + wv c ≤ mostU neg) := Nat.le_trans ((okD_iff _ _ _ _).1 hok).2.1 (Nat.div_le_self _ _)
            clear hcd hok
            go_wp2_with fail
            refine hd.mono ?_
            rintro e w2 ⟨rfl, V1, ho⟩
            have HV1 : Hid (Rdr w2 b s (p + 1) D neg (far * 10 + wv c)) := V1
            have HO1 : Hid (Only b w w2) := HO.out.trans ho
            have HC0 : Hid (wr.cell? ⟨b, 1, none⟩ = some (.int .i64 p)) := HV.out.cellAt 1
            have HC1 : Hid (w2.cell? ⟨b, 1, none⟩ = some (.int .i64 (p + 1 : Nat))) := V1.cellAt 1
            clear V1 ho hd
            go_wp2_with fail
            go_roundw
            case rel => exact ⟨true, p + 1, _, rfl, hp1, HV1.out, ⟨fun _ => HE.out, fun h => by cases h⟩, HF.out, HO1.out, .inl (by simp)⟩
            case measure => rw [HC0.out, HC1.out]; simp; omega
          · have HE : Hid (plus p (ptR neg nm D far (s.drop p)) = T) := by rw [← ah_stop (.inr hno)]; exact HT.out.1 rfl
            clear hno
            go_wp2_with fail
            refine hd.mono ?_
            rintro e w2 ⟨rfl, V1, ho⟩
            have HV1 : Hid (Rdr w2 b s p D neg far) := V1
            have HO1 : Hid (Only b w w2) := HO.out.trans ho
            have HC0 : Hid (wr.cell? ⟨b, 1, none⟩ = some (.int .i64 p)) := HV.out.cellAt 1
            have HC1 : Hid (w2.cell? ⟨b, 1, none⟩ = some (.int .i64 p)) := V1.cellAt 1
            clear V1 ho hd
            go_wp2_with fail
            go_roundw
            case rel => exact ⟨false, p, far, rfl, hp, HV1.out, ⟨(fun h => by cases h), fun _ => HE.out⟩, Hf.out, HO1.out, .inr rfl⟩
            case measure => rw [HC0.out, HC1.out]; simp
  · have HE : Hid (T = (p, none)) := by
      have e := HT.out
      rcases hno with h0 | ⟨c, l, hcd, hok⟩
      · rw [h0] at e; exact e.symm
      · rw [hcd] at e
        have e1 : firR neg nm D (c :: l) = if okD neg 0 D c = true then one (ahR neg nm D (wv c) l) else (0, none) := rfl
        rw [e1, hok] at e
        exact e.symm
    clear hno h hT hTm HT
    go_enter Tryz.func109, Tryz.ntmps109
    go_wp2_with fail
    refine hd.mono ?_
    rintro e w1 ⟨rfl, V1, ho⟩
    go_wp2_with fail
    refine wp_loop_rounds 1 ?_
    rw [rounds_succ]
    go_wp2_with fail
    go_ret
    exact ⟨false, neg, p, 0, rfl, hp, V1, (fun h => by cases h), fun _ => HE.out, ho⟩
end Go.Proofs.YtigimdcaakfckaaGreatDoor
namespace Go.Proofs.YtigimdcaakfckaaGreatDoor
open Go.RowKit Go.Shelf
set_option linter.unusedVariables false

theorem results_pc {fn : Func} {i b : Nat} {v u : Value} {tmps : Array Value} {w : World} (h : fn.results = #[.cell i 114]) (hi : tmps.getD i undef = .pointer (some ⟨b, 0, none⟩)) (hv : Va w b 114 #[v, u]) :
    (results fn tmps).run Tryz.prog w = .ok (.agg #[v, u]) w := by
  have c := hv.c0; have d := hv.c1
  rw [Array.getD_eq_getD_getElem?] at hi
  simp [results, h, hi, c, d, go_sem]
/-- A captured text. -/
def Bx (w : World) (g : Nat) (t : List UInt8) : Prop := Va w g 9 #[.string ⟨t.toArray⟩]
theorem Bx.after {w w' : World} (hb : Below w.heap.size w w') {g : Nat} {t : List UInt8} (h : Bx w g t) : Bx w' g t := Va.after hb h
theorem Bx.drw {w : World} {g : Nat} {t : List UInt8} (h : Bx w g t) : Bx w.drew g t := h
theorem fixedL9 (t : List UInt8) (w : World) : Calls Tryz.prog 102 #[.string ⟨t.toArray⟩] w fun e w' => ∃ g, e = .returned (.agg #[.func (.func 103) #[] #[.pointer (some ⟨g, 0, none⟩)], .func (.func 104) #[] #[.pointer (some ⟨g, 0, none⟩)]]) ∧ Bx w' g t ∧ Below w.heap.size w w' := by
  go_enter Tryz.func102, Tryz.ntmps102
  go_wp2_with fail
  refine ent2 w _ _ _ _ (Q := fun W => bodyPost Tryz.prog _ _ _ _ W) ?_
  intro w1 B0 hs V0 V1
  refine bodyPost_ret (results_pc rfl rfl V1) rfl ?_
  exact ⟨_, rfl, V0, B0⟩
def pieceCells (g1 g2 g3 : Nat) : Array Value := #[.func (.func 106) #[] #[], .func (.func 107) #[] #[], .func (.func 108) #[] #[], .func (.func 109) #[] #[], .func (.func 103) #[] #[.pointer (some ⟨g1, 0, none⟩)], .func (.func 104) #[] #[.pointer (some ⟨g1, 0, none⟩)], .func (.func 110) #[] #[], .func (.func 111) #[] #[], .func (.func 103) #[] #[.pointer (some ⟨g2, 0, none⟩)], .func (.func 104) #[] #[.pointer (some ⟨g2, 0, none⟩)], .func (.func 103) #[] #[.pointer (some ⟨g3, 0, none⟩)], .func (.func 104) #[] #[.pointer (some ⟨g3, 0, none⟩)]]
theorem enters9 : ∀ args w, (callFunc 102 args).run Tryz.prog w = .ok (.enter 102 args) w := enters_of Tryz.func102 (by kernel_rfl) rfl
set_option maxHeartbeats 2000000 in
theorem pieces9 (nm : List UInt8) (D : Nat) (w : World) : Calls Tryz.prog 66 #[.agg #[.string ⟨nm.toArray⟩, .int .i64 D]] w fun e w' => ∃ g g1 g2 g3, e = .returned (.slice (some ⟨g, 0, none⟩) 6 6) ∧ Va w' g 114 (pieceCells g1 g2 g3) ∧ Bx w' g1 (ptD D) ∧ Bx w' g2 [32] ∧ Bx w' g3 nm ∧ Below w.heap.size w w' := by
  by_cases hD : (0 : Int) < D
  · have hp : ptD D = [46] := by unfold ptD; rw [if_neg (by omega)]
    rw [hp]
    clear hp
    have B0 : Below w.heap.size w w := Below.refl _ _
    go_enter Tryz.func66, Tryz.ntmps66
    go_wp2_with fail
    refine ent1 w _ _ (Q := fun W => Code.wp Tryz.prog _ _ _ W) ?_
    intro x1 hb hs_x1 V0
    replace B0 := step B0 hb
    clear hb hs_x1
    refine wp_region_noPanic ?_
    replace V0 : Va x1.drew _ _ _ := V0
    replace B0 := Below.drew B0
    refine wp_region_held_drew (S := (fun W => W.cell? ⟨w.heap.size, 0, none⟩ = some (.string ⟨nm.toArray⟩) ∧ W.cell? ⟨w.heap.size, 1, none⟩ = some (.int .i64 D))) (by kernel_rfl) ⟨V0.c0, V0.c1⟩ (fun hHeld => ?_)
    obtain ⟨x2, hxd⟩ : ∃ xd, xd = x1.drew := ⟨_, rfl⟩
    rw [← hxd] at V0 B0 hHeld ⊢
    clear hxd
    refine wpAnyH_take (i := 0) (v := ?_) rfl (by kernel_rfl) (by kernel_rfl) (by kernel_rfl) (fun _ _ _ h => h) (Or.inl ⟨by rfl, ?_⟩) hHeld ?_
    rotate_left
    · (intro W hSw; (try dsimp only at hSw); go_simp; all_goals (with_reducible rfl))
    simp only [List.getElem_toArray, List.getElem_cons_zero, Act.put, List.setIfInBounds_toArray, List.set_cons_zero, List.set_cons_succ]
    refine wpAnyH_take (i := 1) (v := ?_) rfl (by kernel_rfl) (by kernel_rfl) (by kernel_rfl) (fun _ _ _ h => h) (Or.inl ⟨by rfl, ?_⟩) hHeld ?_
    rotate_left
    · (intro W hSw; (try dsimp only at hSw); go_simp; all_goals (with_reducible rfl))
    simp only [List.getElem_toArray, List.getElem_cons_zero, List.getElem_cons_succ, Act.put, List.setIfInBounds_toArray, List.set_cons_zero, List.set_cons_succ]
    refine wpAnyH_take (i := 2) (v := ?_) rfl (by kernel_rfl) (by kernel_rfl) (by kernel_rfl) (fun _ _ _ h => h) (Or.inl ⟨by rfl, ?_⟩) hHeld ?_
    rotate_left
    · (intro W hSw; (try dsimp only at hSw); go_simp; all_goals (with_reducible rfl))
    simp only [List.getElem_toArray, List.getElem_cons_zero, List.getElem_cons_succ, Act.put, List.setIfInBounds_toArray, List.set_cons_zero, List.set_cons_succ]
    refine wpAnyH_take (i := 3) (v := ?_) rfl (by kernel_rfl) (by kernel_rfl) (by kernel_rfl) (fun _ _ _ h => h) (Or.inl ⟨by rfl, ?_⟩) hHeld ?_
    rotate_left
    · (intro W hSw; (try dsimp only at hSw); go_simp; all_goals (with_reducible rfl))
    simp only [List.getElem_toArray, List.getElem_cons_zero, List.getElem_cons_succ, Act.put, List.setIfInBounds_toArray, List.set_cons_zero, List.set_cons_succ]
    refine wpAnyH_take (i := 5) (v := ?_) rfl (by kernel_rfl) (by kernel_rfl) (by kernel_rfl) (fun _ _ _ h => h) (Or.inl ⟨by rfl, ?_⟩) hHeld ?_
    rotate_left
    · (intro W hSw; (try dsimp only at hSw); go_simp; all_goals (with_reducible rfl))
    simp only [List.getElem_toArray, List.getElem_cons_zero, List.getElem_cons_succ, Act.put, List.setIfInBounds_toArray, List.set_cons_zero, List.set_cons_succ]
    refine wpAnyH_take (i := 6) (v := ?_) rfl (by kernel_rfl) (by kernel_rfl) (by kernel_rfl) (fun _ _ _ h => h) (Or.inl ⟨by rfl, ?_⟩) hHeld ?_
    rotate_left
    · (intro W hSw; (try dsimp only at hSw); go_simp; all_goals (with_reducible rfl))
    simp only [List.getElem_toArray, List.getElem_cons_zero, List.getElem_cons_succ, Act.put, List.setIfInBounds_toArray, List.set_cons_zero, List.set_cons_succ]
    refine wpAnyH_take (i := 8) (v := ?_) rfl (by kernel_rfl) (by kernel_rfl) (by kernel_rfl) (fun _ _ _ h => h) (Or.inl ⟨by rfl, ?_⟩) hHeld ?_
    rotate_left
    · (intro W hSw; (try dsimp only at hSw); go_simp; all_goals (with_reducible rfl))
    simp only [List.getElem_toArray, List.getElem_cons_zero, List.getElem_cons_succ, Act.put, List.setIfInBounds_toArray, List.set_cons_zero, List.set_cons_succ]
    refine wpAnyH_take (i := 9) (v := ?_) rfl (by kernel_rfl) (by kernel_rfl) (by kernel_rfl) (fun _ _ _ h => h) (Or.inl ⟨by rfl, ?_⟩) hHeld ?_
    rotate_left
    · (intro W hSw; (try dsimp only at hSw); go_simp; all_goals (with_reducible rfl))
    simp only [List.getElem_toArray, List.getElem_cons_zero, List.getElem_cons_succ, Act.put, List.setIfInBounds_toArray, List.set_cons_zero, List.set_cons_succ]
    refine wpAnyH_take (i := 10) (v := ?_) rfl (by kernel_rfl) (by kernel_rfl) (by kernel_rfl) (fun _ _ _ h => h) (Or.inl ⟨by rfl, ?_⟩) hHeld ?_
    rotate_left
    · (intro W hSw; (try dsimp only at hSw); go_simp; all_goals (with_reducible rfl))
    simp only [List.getElem_toArray, List.getElem_cons_zero, List.getElem_cons_succ, Act.put, List.setIfInBounds_toArray, List.set_cons_zero, List.set_cons_succ]
    refine wpAnyH_ready (rs := [4]) (by kernel_rfl) (by simp) ?_
    refine AllReadyH.cons rfl (fun K hK => ?_) AllReadyH.nil
    simp only [List.getElem_toArray, List.getElem_cons_zero, List.getElem_cons_succ]
    go_simp
    try rw [enters9, Oper.upon_enter]
    refine (fixedL9 [46] _).mono ?_
    rintro e x3 ⟨g1, rfl, bg1, hb⟩
    replace V0 := Va.after hb V0
    replace B0 := step B0 hb
    clear hb
    try go_wp2_with fail
    refine hK.out _ _ ⟨V0.c0, V0.c1⟩ (fun hHeld => ?_)
    clear hK K
    refine wpAnyH_ready (rs := [7]) (by kernel_rfl) (by simp) ?_
    refine AllReadyH.cons rfl (fun K hK => ?_) AllReadyH.nil
    simp only [List.getElem_toArray, List.getElem_cons_zero, List.getElem_cons_succ]
    go_simp
    try rw [enters9, Oper.upon_enter]
    refine (fixedL9 [32] _).mono ?_
    rintro e x4 ⟨g2, rfl, bg2, hb⟩
    replace V0 := Va.after hb V0
    replace bg1 := Bx.after hb bg1
    replace B0 := step B0 hb
    clear hb
    try go_wp2_with fail
    refine hK.out _ _ ⟨V0.c0, V0.c1⟩ (fun hHeld => ?_)
    clear hK K
    refine wpAnyH_ready (rs := [11]) (by kernel_rfl) (by simp) ?_
    refine AllReadyH.cons rfl (fun K hK => ?_) AllReadyH.nil
    simp only [List.getElem_toArray, List.getElem_cons_zero, List.getElem_cons_succ]
    go_simp
    try rw [enters9, Oper.upon_enter]
    refine (fixedL9 nm _).mono ?_
    rintro e x5 ⟨g3, rfl, bg3, hb⟩
    replace V0 := Va.after hb V0
    replace bg1 := Bx.after hb bg1
    replace bg2 := Bx.after hb bg2
    replace B0 := step B0 hb
    clear hb
    try go_wp2_with fail
    refine hK.out _ _ ⟨V0.c0, V0.c1⟩ (fun hHeld => ?_)
    clear hK K
    refine wpAnyH_ready (rs := [12]) (by kernel_rfl) (by simp) ?_
    refine AllReadyH.cons rfl (fun K hK => ?_) AllReadyH.nil
    simp only [List.getElem_toArray, List.getElem_cons_zero, List.getElem_cons_succ]
    go_simp
    refine ent1 _ _ _ (Q := fun V => K _ V) ?_
    intro y hb hs_ Vg
    replace V0 := Va.after hb V0
    replace bg1 := Bx.after hb bg1
    replace bg2 := Bx.after hb bg2
    replace bg3 := Bx.after hb bg3
    replace B0 := step B0 hb
    clear hb hs_
    refine hK.out _ _ ⟨V0.c0, V0.c1⟩ (fun hHeld => ?_)
    clear hK K
    refine wpAnyH_take (i := 13) (v := ?_) rfl (by kernel_rfl) (by kernel_rfl) (by kernel_rfl) (fun _ _ _ h => h) (Or.inl ⟨by rfl, ?_⟩) hHeld ?_
    rotate_left
    · (intro W hSw; (try dsimp only at hSw); go_simp; all_goals (with_reducible rfl))
    simp only [List.getElem_toArray, List.getElem_cons_zero, List.getElem_cons_succ, Act.put, List.setIfInBounds_toArray, List.set_cons_zero, List.set_cons_succ]
    refine wpAnyH_done (by kernel_rfl) ?_ _
    refine NoPanic.normal ?_
    clear hHeld
    go_wp2_with fail
    go_ret
    exact ⟨_, g1, g2, g3, rfl, Vg, bg1, bg2, bg3, B0⟩
  · have hp : ptD D = [] := by unfold ptD; rw [if_pos (by omega)]
    rw [hp]
    clear hp
    have B0 : Below w.heap.size w w := Below.refl _ _
    go_enter Tryz.func66, Tryz.ntmps66
    go_wp2_with fail
    refine ent1 w _ _ (Q := fun W => Code.wp Tryz.prog _ _ _ W) ?_
    intro x1 hb hs_x1 V0
    replace B0 := step B0 hb
    clear hb hs_x1
    refine wp_region_noPanic ?_
    replace V0 : Va x1.drew _ _ _ := V0
    replace B0 := Below.drew B0
    refine wp_region_held_drew (S := (fun W => W.cell? ⟨w.heap.size, 0, none⟩ = some (.string ⟨nm.toArray⟩) ∧ W.cell? ⟨w.heap.size, 1, none⟩ = some (.int .i64 D))) (by kernel_rfl) ⟨V0.c0, V0.c1⟩ (fun hHeld => ?_)
    obtain ⟨x2, hxd⟩ : ∃ xd, xd = x1.drew := ⟨_, rfl⟩
    rw [← hxd] at V0 B0 hHeld ⊢
    clear hxd
    refine wpAnyH_take (i := 0) (v := ?_) rfl (by kernel_rfl) (by kernel_rfl) (by kernel_rfl) (fun _ _ _ h => h) (Or.inl ⟨by rfl, ?_⟩) hHeld ?_
    rotate_left
    · (intro W hSw; (try dsimp only at hSw); go_simp; all_goals (with_reducible rfl))
    simp only [List.getElem_toArray, List.getElem_cons_zero, Act.put, List.setIfInBounds_toArray, List.set_cons_zero, List.set_cons_succ]
    refine wpAnyH_take (i := 1) (v := ?_) rfl (by kernel_rfl) (by kernel_rfl) (by kernel_rfl) (fun _ _ _ h => h) (Or.inl ⟨by rfl, ?_⟩) hHeld ?_
    rotate_left
    · (intro W hSw; (try dsimp only at hSw); go_simp; all_goals (with_reducible rfl))
    simp only [List.getElem_toArray, List.getElem_cons_zero, List.getElem_cons_succ, Act.put, List.setIfInBounds_toArray, List.set_cons_zero, List.set_cons_succ]
    refine wpAnyH_take (i := 2) (v := ?_) rfl (by kernel_rfl) (by kernel_rfl) (by kernel_rfl) (fun _ _ _ h => h) (Or.inl ⟨by rfl, ?_⟩) hHeld ?_
    rotate_left
    · (intro W hSw; (try dsimp only at hSw); go_simp; all_goals (with_reducible rfl))
    simp only [List.getElem_toArray, List.getElem_cons_zero, List.getElem_cons_succ, Act.put, List.setIfInBounds_toArray, List.set_cons_zero, List.set_cons_succ]
    refine wpAnyH_take (i := 3) (v := ?_) rfl (by kernel_rfl) (by kernel_rfl) (by kernel_rfl) (fun _ _ _ h => h) (Or.inl ⟨by rfl, ?_⟩) hHeld ?_
    rotate_left
    · (intro W hSw; (try dsimp only at hSw); go_simp; all_goals (with_reducible rfl))
    simp only [List.getElem_toArray, List.getElem_cons_zero, List.getElem_cons_succ, Act.put, List.setIfInBounds_toArray, List.set_cons_zero, List.set_cons_succ]
    refine wpAnyH_take (i := 5) (v := ?_) rfl (by kernel_rfl) (by kernel_rfl) (by kernel_rfl) (fun _ _ _ h => h) (Or.inl ⟨by rfl, ?_⟩) hHeld ?_
    rotate_left
    · (intro W hSw; (try dsimp only at hSw); go_simp; all_goals (with_reducible rfl))
    simp only [List.getElem_toArray, List.getElem_cons_zero, List.getElem_cons_succ, Act.put, List.setIfInBounds_toArray, List.set_cons_zero, List.set_cons_succ]
    refine wpAnyH_take (i := 6) (v := ?_) rfl (by kernel_rfl) (by kernel_rfl) (by kernel_rfl) (fun _ _ _ h => h) (Or.inl ⟨by rfl, ?_⟩) hHeld ?_
    rotate_left
    · (intro W hSw; (try dsimp only at hSw); go_simp; all_goals (with_reducible rfl))
    simp only [List.getElem_toArray, List.getElem_cons_zero, List.getElem_cons_succ, Act.put, List.setIfInBounds_toArray, List.set_cons_zero, List.set_cons_succ]
    refine wpAnyH_take (i := 8) (v := ?_) rfl (by kernel_rfl) (by kernel_rfl) (by kernel_rfl) (fun _ _ _ h => h) (Or.inl ⟨by rfl, ?_⟩) hHeld ?_
    rotate_left
    · (intro W hSw; (try dsimp only at hSw); go_simp; all_goals (with_reducible rfl))
    simp only [List.getElem_toArray, List.getElem_cons_zero, List.getElem_cons_succ, Act.put, List.setIfInBounds_toArray, List.set_cons_zero, List.set_cons_succ]
    refine wpAnyH_take (i := 9) (v := ?_) rfl (by kernel_rfl) (by kernel_rfl) (by kernel_rfl) (fun _ _ _ h => h) (Or.inl ⟨by rfl, ?_⟩) hHeld ?_
    rotate_left
    · (intro W hSw; (try dsimp only at hSw); go_simp; all_goals (with_reducible rfl))
    simp only [List.getElem_toArray, List.getElem_cons_zero, List.getElem_cons_succ, Act.put, List.setIfInBounds_toArray, List.set_cons_zero, List.set_cons_succ]
    refine wpAnyH_take (i := 10) (v := ?_) rfl (by kernel_rfl) (by kernel_rfl) (by kernel_rfl) (fun _ _ _ h => h) (Or.inl ⟨by rfl, ?_⟩) hHeld ?_
    rotate_left
    · (intro W hSw; (try dsimp only at hSw); go_simp; all_goals (with_reducible rfl))
    simp only [List.getElem_toArray, List.getElem_cons_zero, List.getElem_cons_succ, Act.put, List.setIfInBounds_toArray, List.set_cons_zero, List.set_cons_succ]
    refine wpAnyH_ready (rs := [4]) (by kernel_rfl) (by simp) ?_
    refine AllReadyH.cons rfl (fun K hK => ?_) AllReadyH.nil
    simp only [List.getElem_toArray, List.getElem_cons_zero, List.getElem_cons_succ]
    go_simp
    try rw [enters9, Oper.upon_enter]
    refine (fixedL9 [] _).mono ?_
    rintro e x3 ⟨g1, rfl, bg1, hb⟩
    replace V0 := Va.after hb V0
    replace B0 := step B0 hb
    clear hb
    try go_wp2_with fail
    refine hK.out _ _ ⟨V0.c0, V0.c1⟩ (fun hHeld => ?_)
    clear hK K
    refine wpAnyH_ready (rs := [7]) (by kernel_rfl) (by simp) ?_
    refine AllReadyH.cons rfl (fun K hK => ?_) AllReadyH.nil
    simp only [List.getElem_toArray, List.getElem_cons_zero, List.getElem_cons_succ]
    go_simp
    try rw [enters9, Oper.upon_enter]
    refine (fixedL9 [32] _).mono ?_
    rintro e x4 ⟨g2, rfl, bg2, hb⟩
    replace V0 := Va.after hb V0
    replace bg1 := Bx.after hb bg1
    replace B0 := step B0 hb
    clear hb
    try go_wp2_with fail
    refine hK.out _ _ ⟨V0.c0, V0.c1⟩ (fun hHeld => ?_)
    clear hK K
    refine wpAnyH_ready (rs := [11]) (by kernel_rfl) (by simp) ?_
    refine AllReadyH.cons rfl (fun K hK => ?_) AllReadyH.nil
    simp only [List.getElem_toArray, List.getElem_cons_zero, List.getElem_cons_succ]
    go_simp
    try rw [enters9, Oper.upon_enter]
    refine (fixedL9 nm _).mono ?_
    rintro e x5 ⟨g3, rfl, bg3, hb⟩
    replace V0 := Va.after hb V0
    replace bg1 := Bx.after hb bg1
    replace bg2 := Bx.after hb bg2
    replace B0 := step B0 hb
    clear hb
    try go_wp2_with fail
    refine hK.out _ _ ⟨V0.c0, V0.c1⟩ (fun hHeld => ?_)
    clear hK K
    refine wpAnyH_ready (rs := [12]) (by kernel_rfl) (by simp) ?_
    refine AllReadyH.cons rfl (fun K hK => ?_) AllReadyH.nil
    simp only [List.getElem_toArray, List.getElem_cons_zero, List.getElem_cons_succ]
    go_simp
    refine ent1 _ _ _ (Q := fun V => K _ V) ?_
    intro y hb hs_ Vg
    replace V0 := Va.after hb V0
    replace bg1 := Bx.after hb bg1
    replace bg2 := Bx.after hb bg2
    replace bg3 := Bx.after hb bg3
    replace B0 := step B0 hb
    clear hb hs_
    refine hK.out _ _ ⟨V0.c0, V0.c1⟩ (fun hHeld => ?_)
    clear hK K
    refine wpAnyH_take (i := 13) (v := ?_) rfl (by kernel_rfl) (by kernel_rfl) (by kernel_rfl) (fun _ _ _ h => h) (Or.inl ⟨by rfl, ?_⟩) hHeld ?_
    rotate_left
    · (intro W hSw; (try dsimp only at hSw); go_simp; all_goals (with_reducible rfl))
    simp only [List.getElem_toArray, List.getElem_cons_zero, List.getElem_cons_succ, Act.put, List.setIfInBounds_toArray, List.set_cons_zero, List.set_cons_succ]
    refine wpAnyH_done (by kernel_rfl) ?_ _
    refine NoPanic.normal ?_
    clear hHeld
    go_wp2_with fail
    go_ret
    exact ⟨_, g1, g2, g3, rfl, Vg, bg1, bg2, bg3, B0⟩
end Go.Proofs.YtigimdcaakfckaaGreatDoor
namespace Go.Proofs.YtigimdcaakfckaaGreatDoor
open Go.RowKit Go.Shelf
set_option linter.unusedVariables false

theorem fixR9 (g b : Nat) (t s : List UInt8) (at0 : Nat) (d n f : Value) (w : World) (hg : Bx w g t) (h : Va w b 126 #[.string ⟨s.toArray⟩, .int .i64 at0, d, n, f]) (hat : at0 ≤ s.length) (hs : s.length ≤ 140737488355328) (ht : t.length ≤ 140737488355328) (K : List UInt8 → R9) (T : R9) (hT : plus at0 (fixC t K (s.drop at0)) = T) :
    Calls Tryz.prog 104 #[.pointer (some ⟨b, 0, none⟩), .pointer (some ⟨g, 0, none⟩)] w fun e w' => FxP b s d n f K T w e w' := by
  have c0 := Va.cell hg
  have hfx := fixed9 b t s at0 d n f w h hat hs ht K T hT
  clear h hT hg
  go_enter Tryz.func104, Tryz.ntmps104
  go_wp2_with fail
  refine hfx.mono ?_
  rintro e w1 ⟨ok, p, rfl, h1⟩
  go_wp2_with fail
  go_ret
  exact ⟨ok, p, rfl, h1⟩
theorem Va.neT {w : World} {b b' : Nat} {t t' : TypeId} {cs cs' : Array Value} (h : Va w b t cs) (k : Va w b' t' cs') (ht : t ≠ t') : b ≠ b' := by
  rintro rfl
  unfold Va at h k
  rw [h] at k
  injection k with k
  injection k with k1 k2 k3
  exact ht k2
theorem results_tmp3 {fn : Func} {t u v : Tmp} (h : fn.results = #[.tmp t, .tmp u, .tmp v]) (tmps : Array Value) (P : Program) (w : World) :
    (results fn tmps).run P w = .ok (.tuple #[tmps.getD t undef, tmps.getD u undef, tmps.getD v undef]) w := by
  simp [results, h]
theorem narrow_in (s : Bool) (a : Option Addr) (l c : Nat) (zs : List Int) (w : World) (h : It w s a l c zs) (h1 : -9223372036854775808 ≤ iv s zs) (h2 : iv s zs ≤ 9223372036854775807) :
    Calls Tryz.prog 22 #[.agg #[.bool s, .slice a l c]] w fun e w' => e = .returned (.tuple #[.int .i64 (iv s zs), .int .i64 0]) ∧ Below w.heap.size w w' := by
  go_enter Tryz.func22, Tryz.ntmps22
  go_wp2_with fail
  refine ent1 w _ _ (Q := fun W => Calls Tryz.prog _ _ W _) ?_
  intro w0 B0 hs V0
  refine (wint64_in s a l c zs w0 (It.after B0 h) h1 h2).mono ?_
  rintro e w1 ⟨rfl, hb1⟩
  go_wp2_with fail
  go_ret2
  exact ⟨rfl, step B0 hb1⟩
theorem narrow_out (s : Bool) (a : Option Addr) (l c : Nat) (zs : List Int) (w : World) (h : It w s a l c zs) (hv : iv s zs < -9223372036854775808 ∨ 9223372036854775807 < iv s zs) :
    Calls Tryz.prog 22 #[.agg #[.bool s, .slice a l c]] w fun e w' => e = .returned (.tuple #[.int .i64 0, .int .i64 5]) ∧ Below w.heap.size w w' := by
  go_enter Tryz.func22, Tryz.ntmps22
  go_wp2_with fail
  refine ent1 w _ _ (Q := fun W => Calls Tryz.prog _ _ W _) ?_
  intro w0 B0 hs V0
  refine (wint64_out s a l c zs w0 (It.after B0 h) hv).mono ?_
  rintro e w1 ⟨rfl, hb1⟩
  go_wp2_with fail
  go_ret2
  exact ⟨rfl, step B0 hb1⟩
theorem iv_sgn9 (s : Bool) (zs : List Int) (n : Nat) (h : num zs = n) : iv s zs = sgn s n := by cases s <;> simp [iv, sgn, h]
theorem sgn_b64 {neg : Bool} {far : Nat} (h : far ≤ mostU neg) : -9223372036854775808 ≤ sgn neg far ∧ sgn neg far ≤ 9223372036854775807 := by
  cases neg <;> simp [mostU] at h <;> simp [sgn] <;> omega
set_option maxHeartbeats 4000000 in
theorem parse9 (nm s : List UInt8) (D : Nat) (w : World) (hC : Cur nm D) (hs : s.length ≤ 140737488355328) (hTm : Tm w) :
    Calls Tryz.prog 37 #[.agg #[.string ⟨nm.toArray⟩, .int .i64 D], .string ⟨s.toArray⟩] w fun e w' => e = .returned (.tuple #[.int .i64 (out9 (parR nm D s)).1, .int .i64 (out9 (parR nm D s)).2.1, .int .i64 (out9 (parR nm D s)).2.2]) ∧ Below w.heap.size w w' := by
  obtain ⟨T, hT⟩ : ∃ T, parR nm D s = T := ⟨_, rfl⟩
  rw [hT]
  have HT : Hid (parR nm D s = T) := hT
  have hD : D ≤ 4 := by have := hC.2.2.2; omega
  have hnl : nm.length ≤ 140737488355328 := by rw [hC.1]; omega
  have HTm : Hid (Tm w) := hTm
  clear hT hTm
  have B0 : Below w.heap.size w w := Below.refl _ _
  go_enter Tryz.func37, Tryz.ntmps37
  go_wp2_with fail
  refine ent1 w _ _ (Q := fun W => Calls Tryz.prog _ _ W _) ?_
  intro x1 hb hs_x1 V0
  replace B0 := step B0 hb
  clear hb hs_x1
  refine (check9_ok nm D hC _).mono ?_
  rintro e x2 ⟨rfl, hb⟩
  replace V0 := Va.after hb V0
  replace B0 := step B0 hb
  clear hb
  have c_V0 := V0.c0
  have f0_V0 := V0.frozen 0
  have d_V0 := V0.c1
  have f1_V0 := V0.frozen 1
  have l_V0 := V0.lt
  have m_V0 := Nat.le_of_lt l_V0
  go_wp2_with fail
  refine ent1 x2 _ _ (Q := fun W => Calls Tryz.prog _ _ W _) ?_
  intro x3 hb hs_x3 Vr
  replace V0 := Va.after hb V0
  replace B0 := step B0 hb
  clear hb hs_x3
  obtain ⟨br, hbr⟩ : ∃ br, x2.heap.size = br := ⟨_, rfl⟩
  have hbw : w.heap.size ≤ br := by rw [← hbr]; exact Nat.le_of_lt l_V0
  rw [hbr] at Vr ⊢
  have hbt : br ≠ 0 := by have := HTm.out.lt; omega
  clear c_V0 f0_V0 d_V0 f1_V0 l_V0 m_V0
  clear V0
  refine (pieces9 nm D _).mono ?_
  rintro e y0 ⟨g, g1, g2, g3, rfl, Vg, b1, b2, b3, hb⟩
  replace Vr := Va.after hb Vr
  replace B0 := step B0 hb
  have HT9 : Hid (Tm y0) := HTm.out.to B0
  clear hb HTm hbr
  have ng : g ≠ br := Vg.neT Vr (by decide)
  have ng1 : g1 ≠ br := Va.neT b1 Vr (by decide)
  have ng2 : g2 ≠ br := Va.neT b2 Vr (by decide)
  have ng3 : g3 ≠ br := Va.neT b3 Vr (by decide)
  go_wp2_with fail
  refine wp_loop_rounds 7 ?_
  have hp0 : (0 : Nat) ≤ s.length := Nat.zero_le _
  rw [rounds_succ]
  have q0 : y0.cell? ⟨g, 0, none⟩ = some (.func (.func 106) #[] #[]) := Vg.cellAt 0
  have q1 : y0.cell? ⟨g, 1, none⟩ = some (.func (.func 107) #[] #[]) := Vg.cellAt 1
  go_wp2_with fail
  clear q0 q1
  refine ent1 y0 _ _ (Q := fun W => Calls Tryz.prog _ _ W _) ?_
  intro y1a hb hs_ Vp
  clear hs_ Vp
  replace Vr := Va.after hb Vr
  replace Vg := Va.after hb Vg
  replace b1 := Bx.after hb b1
  replace b2 := Bx.after hb b2
  replace b3 := Bx.after hb b3
  replace B0 := step B0 hb
  replace HT9 : Hid (Tm y1a) := HT9.out.to hb
  clear hb
  refine (readSign9 br s nm D y1a Vr hs T HT.out).mono ?_
  rintro e y1 ⟨ok, n1, p1, f1, rfl, hq, V2, hok, hno, ho⟩
  replace Vg := Va.only Vg ho ng
  replace b1 : Bx y1 g1 (ptD D) := Va.only b1 ho ng1
  replace b2 : Bx y1 g2 [32] := Va.only b2 ho ng2
  replace b3 : Bx y1 g3 nm := Va.only b3 ho ng3
  replace B0 := B0.trans (ho.bel.mono hbw)
  replace HT9 : Hid (Tm y1) := HT9.out.only ho hbt
  clear ho Vr
  have Vr := V2
  clear V2
  have hp := hq
  clear hq
  have r1 : y1.cell? ⟨br, 1, none⟩ = some (.int .i64 (p1 : Nat)) := Vr.cellAt 1
  cases ok
  case false =>
    have HE : Hid (T = (p1, none)) := hno rfl
    clear hok hno
    go_wp2_with fail
    go_quiet (fail)
    go_wp2_with fail
    (try simp only [Exit.inBlock, Exit.then])
    refine bodyPost_ret (results_tmp3 rfl _ _ _) rfl ?_
    exact ⟨by rw [HE.out]; rfl, below_drewN B0 _⟩
  case true =>
    have hR := hok rfl
    clear hok hno r1
    obtain ⟨hR, hz⟩ := hR
    subst hz
    go_wp2_with fail
    rw [rounds_succ]
    have q0 : y1.cell? ⟨g, 2, none⟩ = some (.func (.func 108) #[] #[]) := Vg.cellAt 2
    have q1 : y1.cell? ⟨g, 3, none⟩ = some (.func (.func 109) #[] #[]) := Vg.cellAt 3
    go_wp2_with fail
    clear q0 q1
    refine ent1 y1 _ _ (Q := fun W => Calls Tryz.prog _ _ W _) ?_
    intro y2a hb hs_ Vp
    clear hs_ Vp
    replace Vr := Va.after hb Vr
    replace Vg := Va.after hb Vg
    replace b1 := Bx.after hb b1
    replace b2 := Bx.after hb b2
    replace b3 := Bx.after hb b3
    replace B0 := step B0 hb
    replace HT9 : Hid (Tm y2a) := HT9.out.to hb
    clear hb
    refine (readAhead9 br s nm D p1 n1 y2a Vr hp hs T hR HT9.out hD hbt).mono ?_
    rintro e y2 ⟨ok, n2, p2, f2, rfl, hq, V2, hok, hno, ho⟩
    replace Vg := Va.only Vg ho ng
    replace b1 : Bx y2 g1 (ptD D) := Va.only b1 ho ng1
    replace b2 : Bx y2 g2 [32] := Va.only b2 ho ng2
    replace b3 : Bx y2 g3 nm := Va.only b3 ho ng3
    replace B0 := B0.trans (ho.bel.mono hbw)
    replace HT9 : Hid (Tm y2) := HT9.out.only ho hbt
    clear ho Vr
    have Vr := V2
    clear V2
    have hp := hq
    clear hq
    have r1 : y2.cell? ⟨br, 1, none⟩ = some (.int .i64 (p2 : Nat)) := Vr.cellAt 1
    cases ok
    case false =>
      have HE : Hid (T = (p2, none)) := hno rfl
      clear hok hno
      go_wp2_with fail
      go_quiet (fail)
      go_wp2_with fail
      (try simp only [Exit.inBlock, Exit.then])
      refine bodyPost_ret (results_tmp3 rfl _ _ _) rfl ?_
      exact ⟨by rw [HE.out]; rfl, below_drewN B0 _⟩
    case true =>
      have hR := hok rfl
      clear hok hno r1
      obtain ⟨e1, hR, hF⟩ := hR
      subst e1
      go_wp2_with fail
      rw [rounds_succ]
      have q0 : y2.cell? ⟨g, 4, none⟩ = some (.func (.func 103) #[] #[.pointer (some ⟨g1, 0, none⟩)]) := Vg.cellAt 4
      have q1 : y2.cell? ⟨g, 5, none⟩ = some (.func (.func 104) #[] #[.pointer (some ⟨g1, 0, none⟩)]) := Vg.cellAt 5
      go_wp2_with fail
      clear q0 q1
      refine ent1 y2 _ _ (Q := fun W => Calls Tryz.prog _ _ W _) ?_
      intro y3a hb hs_ Vp
      clear hs_ Vp
      replace Vr := Va.after hb Vr
      replace Vg := Va.after hb Vg
      replace b1 := Bx.after hb b1
      replace b2 := Bx.after hb b2
      replace b3 := Bx.after hb b3
      replace B0 := step B0 hb
      replace HT9 : Hid (Tm y3a) := HT9.out.to hb
      clear hb
      refine (fixR9 g1 br (ptD D) s p2 (.int .i64 D) (.bool n2) (.int .u64 f2) y3a b1 Vr hp hs (by unfold ptD; split <;> simp) (behR n2 nm D f2) T hR).mono ?_
      rintro e y3 ⟨ok, p3, rfl, hq, V2, hok, hno, ho⟩
      replace Vg := Va.only Vg ho ng
      replace b1 : Bx y3 g1 (ptD D) := Va.only b1 ho ng1
      replace b2 : Bx y3 g2 [32] := Va.only b2 ho ng2
      replace b3 : Bx y3 g3 nm := Va.only b3 ho ng3
      replace B0 := B0.trans (ho.bel.mono hbw)
      replace HT9 : Hid (Tm y3) := HT9.out.only ho hbt
      clear ho Vr
      have Vr := V2
      clear V2
      have hp := hq
      clear hq
      have r1 : y3.cell? ⟨br, 1, none⟩ = some (.int .i64 (p3 : Nat)) := Vr.cellAt 1
      cases ok
      case false =>
        have HE : Hid (T = (p3, none)) := hno rfl
        clear hok hno
        go_wp2_with fail
        go_quiet (fail)
        go_wp2_with fail
        (try simp only [Exit.inBlock, Exit.then])
        refine bodyPost_ret (results_tmp3 rfl _ _ _) rfl ?_
        exact ⟨by rw [HE.out]; rfl, below_drewN B0 _⟩
      case true =>
        have hR := hok rfl
        clear hok hno r1
        go_wp2_with fail
        rw [rounds_succ]
        have q0 : y3.cell? ⟨g, 6, none⟩ = some (.func (.func 110) #[] #[]) := Vg.cellAt 6
        have q1 : y3.cell? ⟨g, 7, none⟩ = some (.func (.func 111) #[] #[]) := Vg.cellAt 7
        go_wp2_with fail
        clear q0 q1
        refine ent1 y3 _ _ (Q := fun W => Calls Tryz.prog _ _ W _) ?_
        intro y4a hb hs_ Vp
        clear hs_ Vp
        replace Vr := Va.after hb Vr
        replace Vg := Va.after hb Vg
        replace b1 := Bx.after hb b1
        replace b2 := Bx.after hb b2
        replace b3 := Bx.after hb b3
        replace B0 := step B0 hb
        replace HT9 : Hid (Tm y4a) := HT9.out.to hb
        clear hb
        refine (readBehind9 br s nm D p3 f2 n2 y4a Vr hp hs T hR HT9.out hD hF hbt).mono ?_
        rintro e y4 ⟨ok, n4, p4, f4, rfl, hq, V2, hok, hno, ho⟩
        replace Vg := Va.only Vg ho ng
        replace b1 : Bx y4 g1 (ptD D) := Va.only b1 ho ng1
        replace b2 : Bx y4 g2 [32] := Va.only b2 ho ng2
        replace b3 : Bx y4 g3 nm := Va.only b3 ho ng3
        replace B0 := B0.trans (ho.bel.mono hbw)
        replace HT9 : Hid (Tm y4) := HT9.out.only ho hbt
        clear ho Vr
        have Vr := V2
        clear V2
        have hp := hq
        clear hq
        have r1 : y4.cell? ⟨br, 1, none⟩ = some (.int .i64 (p4 : Nat)) := Vr.cellAt 1
        cases ok
        case false =>
          have HE : Hid (T = (p4, none)) := hno rfl
          clear hok hno
          go_wp2_with fail
          go_quiet (fail)
          go_wp2_with fail
          (try simp only [Exit.inBlock, Exit.then])
          refine bodyPost_ret (results_tmp3 rfl _ _ _) rfl ?_
          exact ⟨by rw [HE.out]; rfl, below_drewN B0 _⟩
        case true =>
          have hR := hok rfl
          clear hok hno r1
          obtain ⟨e1, hR, hF⟩ := hR
          subst e1
          go_wp2_with fail
          rw [rounds_succ]
          have q0 : y4.cell? ⟨g, 8, none⟩ = some (.func (.func 103) #[] #[.pointer (some ⟨g2, 0, none⟩)]) := Vg.cellAt 8
          have q1 : y4.cell? ⟨g, 9, none⟩ = some (.func (.func 104) #[] #[.pointer (some ⟨g2, 0, none⟩)]) := Vg.cellAt 9
          go_wp2_with fail
          clear q0 q1
          refine ent1 y4 _ _ (Q := fun W => Calls Tryz.prog _ _ W _) ?_
          intro y5a hb hs_ Vp
          clear hs_ Vp
          replace Vr := Va.after hb Vr
          replace Vg := Va.after hb Vg
          replace b1 := Bx.after hb b1
          replace b2 := Bx.after hb b2
          replace b3 := Bx.after hb b3
          replace B0 := step B0 hb
          replace HT9 : Hid (Tm y5a) := HT9.out.to hb
          clear hb
          refine (fixR9 g2 br [32] s p4 (.int .i64 D) (.bool n4) (.int .u64 f4) y5a b2 Vr hp hs (by simp) (fixC nm (finR (sgn n4 f4))) T hR).mono ?_
          rintro e y5 ⟨ok, p5, rfl, hq, V2, hok, hno, ho⟩
          replace Vg := Va.only Vg ho ng
          replace b1 : Bx y5 g1 (ptD D) := Va.only b1 ho ng1
          replace b2 : Bx y5 g2 [32] := Va.only b2 ho ng2
          replace b3 : Bx y5 g3 nm := Va.only b3 ho ng3
          replace B0 := B0.trans (ho.bel.mono hbw)
          replace HT9 : Hid (Tm y5) := HT9.out.only ho hbt
          clear ho Vr
          have Vr := V2
          clear V2
          have hp := hq
          clear hq
          have r1 : y5.cell? ⟨br, 1, none⟩ = some (.int .i64 (p5 : Nat)) := Vr.cellAt 1
          cases ok
          case false =>
            have HE : Hid (T = (p5, none)) := hno rfl
            clear hok hno
            go_wp2_with fail
            go_quiet (fail)
            go_wp2_with fail
            (try simp only [Exit.inBlock, Exit.then])
            refine bodyPost_ret (results_tmp3 rfl _ _ _) rfl ?_
            exact ⟨by rw [HE.out]; rfl, below_drewN B0 _⟩
          case true =>
            have hR := hok rfl
            clear hok hno r1
            go_wp2_with fail
            rw [rounds_succ]
            have q0 : y5.cell? ⟨g, 10, none⟩ = some (.func (.func 103) #[] #[.pointer (some ⟨g3, 0, none⟩)]) := Vg.cellAt 10
            have q1 : y5.cell? ⟨g, 11, none⟩ = some (.func (.func 104) #[] #[.pointer (some ⟨g3, 0, none⟩)]) := Vg.cellAt 11
            go_wp2_with fail
            clear q0 q1
            refine ent1 y5 _ _ (Q := fun W => Calls Tryz.prog _ _ W _) ?_
            intro y6a hb hs_ Vp
            clear hs_ Vp
            replace Vr := Va.after hb Vr
            replace Vg := Va.after hb Vg
            replace b1 := Bx.after hb b1
            replace b2 := Bx.after hb b2
            replace b3 := Bx.after hb b3
            replace B0 := step B0 hb
            replace HT9 : Hid (Tm y6a) := HT9.out.to hb
            clear hb
            refine (fixR9 g3 br nm s p5 (.int .i64 D) (.bool n4) (.int .u64 f4) y6a b3 Vr hp hs hnl (finR (sgn n4 f4)) T hR).mono ?_
            rintro e y6 ⟨ok, p6, rfl, hq, V2, hok, hno, ho⟩
            replace Vg := Va.only Vg ho ng
            replace b1 : Bx y6 g1 (ptD D) := Va.only b1 ho ng1
            replace b2 : Bx y6 g2 [32] := Va.only b2 ho ng2
            replace b3 : Bx y6 g3 nm := Va.only b3 ho ng3
            replace B0 := B0.trans (ho.bel.mono hbw)
            replace HT9 : Hid (Tm y6) := HT9.out.only ho hbt
            clear ho Vr
            have Vr := V2
            clear V2
            have hp := hq
            clear hq
            have r1 : y6.cell? ⟨br, 1, none⟩ = some (.int .i64 (p6 : Nat)) := Vr.cellAt 1
            cases ok
            case false =>
              have HE : Hid (T = (p6, none)) := hno rfl
              clear hok hno
              go_wp2_with fail
              go_quiet (fail)
              go_wp2_with fail
              (try simp only [Exit.inBlock, Exit.then])
              refine bodyPost_ret (results_tmp3 rfl _ _ _) rfl ?_
              exact ⟨by rw [HE.out]; rfl, below_drewN B0 _⟩
            case true =>
              have hR := hok rfl
              clear hok hno r1
              go_wp2_with fail
              rw [rounds_succ]
              have r1 : y6.cell? ⟨br, 1, none⟩ = some (.int .i64 (p6 : Nat)) := Vr.cellAt 1
              have r3 : y6.cell? ⟨br, 3, none⟩ = some (.bool n4) := Vr.cellAt 3
              have r4 : y6.cell? ⟨br, 4, none⟩ = some (.int .u64 f4) := Vr.cellAt 4
              by_cases hl : p6 < s.length
              ·
                have hli : (p6 : Int) < s.length := by omega
                have HE : Hid (T = (p6, none)) := by
                  obtain ⟨c, -, hcd⟩ := byte_at s p6 hl
                  rw [hcd] at hR; exact hR.symm
                clear hR hl
                go_wp2_with fail
                try (go_quiet (fail))
                go_wp2_with fail
                (try simp only [Exit.inBlock, Exit.then])
                refine bodyPost_ret (results_tmp3 rfl _ _ _) rfl ?_
                exact ⟨by rw [HE.out]; rfl, by first | exact below_drewN B0 _ | exact B0⟩
              ·
                have hli : ¬ (p6 : Int) < s.length := by omega
                have HE : Hid (T = (p6, some (sgn n4 f4))) := by
                  have e : s.drop p6 = [] := by rw [show p6 = s.length by omega]; simp
                  rw [e] at hR; exact hR.symm
                clear hR hl
                go_wp2_with fail
                clear Vg b1 b2 b3 HT9 r1 r3 r4
                have hF2 := mostU_lt n4
                have HB : Hid (-9223372036854775808 ≤ sgn n4 f4 ∧ sgn n4 f4 ≤ 9223372036854775807) := sgn_b64 hF
                refine wp_region_noPanic ?_
                replace Vr : Va y6.drew _ _ _ := Vr
                replace B0 := Below.drew B0
                refine wp_region_held_drew (S := (fun W => W.cell? ⟨br, 3, none⟩ = some (.bool n4) ∧ W.cell? ⟨br, 4, none⟩ = some (.int .u64 f4))) (by kernel_rfl) ⟨Vr.cellAt 3, Vr.cellAt 4⟩ (fun hHeld => ?_)
                obtain ⟨x4, hxd⟩ : ∃ xd, xd = y6.drew := ⟨_, rfl⟩
                rw [← hxd] at Vr B0 hHeld ⊢
                clear hxd
                refine wpAnyH_take (i := 0) (v := ?_) rfl (by kernel_rfl) (by kernel_rfl) (by kernel_rfl) (fun _ _ _ h => h) (Or.inl ⟨by rfl, ?_⟩) hHeld ?_
                rotate_left
                · (intro W hSw; (try dsimp only at hSw); go_simp; all_goals (with_reducible rfl))
                simp only [List.getElem_toArray, List.getElem_cons_zero, Act.put, List.setIfInBounds_toArray, List.set_cons_zero, List.set_cons_succ]
                refine wpAnyH_take (i := 1) (v := ?_) rfl (by kernel_rfl) (by kernel_rfl) (by kernel_rfl) (fun _ _ _ h => h) (Or.inl ⟨by rfl, ?_⟩) hHeld ?_
                rotate_left
                · (intro W hSw; (try dsimp only at hSw); go_simp; all_goals (with_reducible rfl))
                simp only [List.getElem_toArray, List.getElem_cons_zero, List.getElem_cons_succ, Act.put, List.setIfInBounds_toArray, List.set_cons_zero, List.set_cons_succ]
                refine wpAnyH_take (i := 2) (v := ?_) rfl (by kernel_rfl) (by kernel_rfl) (by kernel_rfl) (fun _ _ _ h => h) (Or.inl ⟨by rfl, ?_⟩) hHeld ?_
                rotate_left
                · (intro W hSw; (try dsimp only at hSw); go_simp; all_goals (with_reducible rfl))
                simp only [List.getElem_toArray, List.getElem_cons_zero, List.getElem_cons_succ, Act.put, List.setIfInBounds_toArray, List.set_cons_zero, List.set_cons_succ]
                refine wpAnyH_take (i := 3) (v := ?_) rfl (by kernel_rfl) (by kernel_rfl) (by kernel_rfl) (fun _ _ _ h => h) (Or.inl ⟨by rfl, ?_⟩) hHeld ?_
                rotate_left
                · (intro W hSw; (try dsimp only at hSw); go_simp; all_goals (with_reducible rfl))
                simp only [List.getElem_toArray, List.getElem_cons_zero, List.getElem_cons_succ, Act.put, List.setIfInBounds_toArray, List.set_cons_zero, List.set_cons_succ]
                refine wpAnyH_ready (rs := [4]) (by kernel_rfl) (by simp) ?_
                refine AllReadyH.cons rfl (fun K hK => ?_) AllReadyH.nil
                simp only [List.getElem_toArray, List.getElem_cons_zero, List.getElem_cons_succ]
                go_simp
                refine (small_any (f4 : Int) ⟨by omega, by omega⟩ _).mono ?_
                rintro e x5 ⟨a1, l1, c1, z1, rfl, h1, e1, hb⟩
                replace Vr := Va.after hb Vr
                replace B0 := step B0 hb
                clear hb
                try go_wp2_with fail
                refine hK.out _ _ ⟨Vr.cellAt 3, Vr.cellAt 4⟩ (fun hHeld => ?_)
                clear hK K
                refine wpAnyH_ready (rs := [5]) (by kernel_rfl) (by simp) ?_
                refine AllReadyH.cons rfl (fun K hK => ?_) AllReadyH.nil
                simp only [List.getElem_toArray, List.getElem_cons_zero, List.getElem_cons_succ]
                go_simp
                refine (wnew_any n4 a1 l1 c1 z1 _ h1).mono ?_
                rintro e x6 ⟨s2, rfl, h2, e2, hb⟩
                replace Vr := Va.after hb Vr
                replace h1 := Nt.after hb h1
                replace B0 := step B0 hb
                clear hb
                have E2 : Hid (iv s2 z1 = sgn n4 f4) := by show _ = _; rw [e2]; exact iv_sgn9 n4 z1 f4 e1
                clear e1 e2
                try go_wp2_with fail
                refine hK.out _ _ ⟨Vr.cellAt 3, Vr.cellAt 4⟩ (fun hHeld => ?_)
                clear hK K
                have hn := fun W h => narrow_in s2 a1 l1 c1 z1 W h (by rw [E2.out]; exact HB.out.1) (by rw [E2.out]; exact HB.out.2)
                rw [E2.out] at hn
                refine wpAnyH_ready (rs := [6]) (by kernel_rfl) (by simp) ?_
                refine AllReadyH.cons rfl (fun K hK => ?_) AllReadyH.nil
                simp only [List.getElem_toArray, List.getElem_cons_zero, List.getElem_cons_succ]
                go_simp
                refine (hn _ h2).mono ?_
                rintro e x7 ⟨rfl, hb⟩
                replace Vr := Va.after hb Vr
                replace h1 := Nt.after hb h1
                replace h2 := It.after hb h2
                replace B0 := step B0 hb
                clear hb
                try go_wp2_with fail
                refine hK.out _ _ ⟨Vr.cellAt 3, Vr.cellAt 4⟩ (fun hHeld => ?_)
                clear hK K
                refine wpAnyH_take (i := 7) (v := ?_) rfl (by kernel_rfl) (by kernel_rfl) (by kernel_rfl) (fun _ _ _ h => h) (Or.inl ⟨by rfl, ?_⟩) hHeld ?_
                rotate_left
                · (intro W hSw; (try dsimp only at hSw); go_simp; all_goals (with_reducible rfl))
                simp only [List.getElem_toArray, List.getElem_cons_zero, List.getElem_cons_succ, Act.put, List.setIfInBounds_toArray, List.set_cons_zero, List.set_cons_succ]
                refine wpAnyH_take (i := 8) (v := ?_) rfl (by kernel_rfl) (by kernel_rfl) (by kernel_rfl) (fun _ _ _ h => h) (Or.inl ⟨by rfl, ?_⟩) hHeld ?_
                rotate_left
                · (intro W hSw; (try dsimp only at hSw); go_simp; all_goals (with_reducible rfl))
                simp only [List.getElem_toArray, List.getElem_cons_zero, List.getElem_cons_succ, Act.put, List.setIfInBounds_toArray, List.set_cons_zero, List.set_cons_succ]
                refine wpAnyH_take (i := 9) (v := ?_) rfl (by kernel_rfl) (by kernel_rfl) (by kernel_rfl) (fun _ _ _ h => h) (Or.inl ⟨by rfl, ?_⟩) hHeld ?_
                rotate_left
                · (intro W hSw; (try dsimp only at hSw); go_simp; all_goals (with_reducible rfl))
                simp only [List.getElem_toArray, List.getElem_cons_zero, List.getElem_cons_succ, Act.put, List.setIfInBounds_toArray, List.set_cons_zero, List.set_cons_succ]
                refine wpAnyH_take (i := 10) (v := ?_) rfl (by kernel_rfl) (by kernel_rfl) (by kernel_rfl) (fun _ _ _ h => h) (Or.inl ⟨by rfl, ?_⟩) hHeld ?_
                rotate_left
                · (intro W hSw; (try dsimp only at hSw); go_simp; all_goals (with_reducible rfl))
                simp only [List.getElem_toArray, List.getElem_cons_zero, List.getElem_cons_succ, Act.put, List.setIfInBounds_toArray, List.set_cons_zero, List.set_cons_succ]
                refine wpAnyH_take (i := 11) (v := ?_) rfl (by kernel_rfl) (by kernel_rfl) (by kernel_rfl) (fun _ _ _ h => h) (Or.inl ⟨by rfl, ?_⟩) hHeld ?_
                rotate_left
                · (intro W hSw; (try dsimp only at hSw); go_simp; all_goals (with_reducible rfl))
                simp only [List.getElem_toArray, List.getElem_cons_zero, List.getElem_cons_succ, Act.put, List.setIfInBounds_toArray, List.set_cons_zero, List.set_cons_succ]
                refine wpAnyH_done (by kernel_rfl) ?_ _
                refine NoPanic.normal ?_
                clear hHeld
                go_wp2_with fail
                (try simp only [Exit.inBlock, Exit.then])
                refine bodyPost_ret (results_tmp3 rfl _ _ _) rfl ?_
                exact ⟨by rw [HE.out]; rfl, B0⟩
theorem parse9_no (nm : List UInt8) (D : Int) (s : ByteArray) (w : World) (hC : ¬ Cur nm D) :
    Calls Tryz.prog 37 #[.agg #[.string ⟨nm.toArray⟩, .int .i64 D], .string s] w fun e w' => e = .returned (.tuple #[.int .i64 0, .int .i64 0, .int .i64 90]) ∧ Below w.heap.size w w' := by
  have B0 : Below w.heap.size w w := Below.refl _ _
  go_enter Tryz.func37, Tryz.ntmps37
  go_wp2_with fail
  refine ent1 w _ _ (Q := fun W => Calls Tryz.prog _ _ W _) ?_
  intro x1 hb hs_x1 V0
  replace B0 := step B0 hb
  clear hb hs_x1
  refine (check9_no nm D hC _).mono ?_
  rintro e x2 ⟨rfl, hb⟩
  replace V0 := Va.after hb V0
  replace B0 := step B0 hb
  clear hb
  have c_V0 := V0.c0
  have f0_V0 := V0.frozen 0
  have d_V0 := V0.c1
  have f1_V0 := V0.frozen 1
  have l_V0 := V0.lt
  have m_V0 := Nat.le_of_lt l_V0
  go_wp2_with fail
  (try simp only [Exit.inBlock, Exit.then])
  refine bodyPost_ret (results_tmp3 rfl _ _ _) rfl ?_
  exact ⟨rfl, B0⟩
end Go.Proofs.YtigimdcaakfckaaGreatDoor
namespace Go.Proofs.YtigimdcaakfckaaGreatDoor
open Go.RowKit Go.Shelf
set_option linter.unusedVariables false

theorem results_am {fn : Func} {i b : Nat} {x y z : Value} {tmps : Array Value} {w : World} (h : fn.results = #[.cell i 104]) (hi : tmps.getD i undef = .pointer (some ⟨b, 0, none⟩)) (hv : Va w b 104 #[x, y, z]) :
    (results fn tmps).run Tryz.prog w = .ok (.agg #[x, y, z]) w := by
  have c := hv.d0; have d := hv.d1; have e := hv.d2
  rw [Array.getD_eq_getD_getElem?] at hi
  simp [results, h, hi, c, d, e, go_sem]
theorem Va.neT9 {w : World} {b b' : Nat} {t t' : TypeId} {cs cs' : Array Value} (h : Va w b t cs) (k : Va w b' t' cs') (ht : t ≠ t') : b ≠ b' := by
  rintro rfl
  unfold Va at h k
  rw [h] at k
  injection k with k
  injection k with k1 k2 k3
  exact ht k2
theorem noIntS (x y z : ByteArray) : NoInt #[.string x, .string y, .string z] := by
  intro i z h
  rcases i with _ | _ | _ | i <;> simp at h
theorem tx_len19 {t : List UInt8} {u : Int} (ht : Tx 10 t u.natAbs) (h1 : -9223372036854775808 ≤ u) (h2 : u ≤ 9223372036854775807) : t.length ≤ 19 := by
  have h3 : u.natAbs ≤ 9223372036854775808 := by omega
  exact ht.le (by omega) (k := 19) (Nat.lt_of_le_of_lt h3 (by decide)) (by omega)
set_option maxHeartbeats 4000000 in
theorem amountOf9 (nm : List UInt8) (D : Nat) (u : Int) (w : World) (hD : D ≤ 4) (h1 : -9223372036854775808 ≤ u) (h2 : u ≤ 9223372036854775807) (hP : Pt w) :
    Calls Tryz.prog 65 #[.agg #[.string ⟨nm.toArray⟩, .int .i64 D], .int .i64 u] w fun e w' => ∃ t, Tx 10 t u.natAbs ∧ e = .returned (.agg #[.string ⟨(if u < 0 then [45] else []).toArray⟩, .string ⟨((padL D t).take ((padL D t).length - D)).toArray⟩, .string ⟨((padL D t).drop ((padL D t).length - D)).toArray⟩]) ∧ Below w.heap.size w w' := by
  have HP : Hid (Pt w) := hP
  clear hP
  have B0 : Below w.heap.size w w := Below.refl _ _
  go_enter Tryz.func65, Tryz.ntmps65
  go_wp2_with fail
  refine ent2 w _ _ _ _ (Q := fun W => Calls Tryz.prog _ _ W _) ?_
  intro x1 hb hs_x1 V0 V1
  replace B0 := step B0 hb
  clear hb hs_x1
  refine (wsmall_any u h1 h2 _).mono ?_
  rintro e x2 ⟨s, a, l, c, zs, rfl, hI, hu, hb⟩
  replace V0 := Va.after hb V0
  replace V1 := Va.after hb V1
  replace B0 := step B0 hb
  clear hb
  have c_V0 := V0.c0
  have f0_V0 := V0.frozen 0
  have d_V0 := V0.c1
  have f1_V0 := V0.frozen 1
  have l_V0 := V0.lt
  have m_V0 := Nat.le_of_lt l_V0
  go_wp2_with fail
  refine (wabs_any s a l c _).mono ?_
  rintro e x3 ⟨rfl, hb⟩
  replace V0 := Va.after hb V0
  replace V1 := Va.after hb V1
  replace hI := It.after hb hI
  replace B0 := step B0 hb
  clear hb
  have HN : Hid ((num zs).toNat = u.natAbs) := by
    have h3 := hI.abs
    rw [hu] at h3
    show _ = _
    rw [h3]; simp
  have hlt : num zs < 10000000000000000000 := by
    have h3 := hI.abs
    rw [hu] at h3
    rw [h3]; omega
  clear c_V0 f0_V0 d_V0 f1_V0 l_V0 m_V0
  have c_V0 := V0.c0
  have f0_V0 := V0.frozen 0
  have d_V0 := V0.c1
  have f1_V0 := V0.frozen 1
  have l_V0 := V0.lt
  have m_V0 := Nat.le_of_lt l_V0
  go_wp2_with fail
  refine (text_small a l c zs _ hI.1 hlt (HP.out.to B0)).mono ?_
  rintro e x4 ⟨t, rfl, ht, hb⟩
  replace V0 := Va.after hb V0
  replace V1 := Va.after hb V1
  replace hI := It.after hb hI
  replace B0 := step B0 hb
  clear hb
  rw [HN.out] at ht
  have HTX : Hid (Tx 10 t u.natAbs) := ht
  have htl : t.length ≤ 19 := tx_len19 ht h1 h2
  have htp := ht.pos
  clear ht hlt hu HN
  clear c_V0 f0_V0 d_V0 f1_V0 l_V0 m_V0
  have c_V0 := V0.c0
  have f0_V0 := V0.frozen 0
  have d_V0 := V0.c1
  have f1_V0 := V0.frozen 1
  have l_V0 := V0.lt
  have m_V0 := Nat.le_of_lt l_V0
  go_wp2_with fail
  obtain ⟨Z, hZ⟩ : ∃ Z : Nat, D + 1 - t.length = Z := ⟨_, rfl⟩
  have hZ2 : max 0 ((D : Int) + 1 - t.length) = (Z : Int) := by omega
  rw [hZ2]
  obtain ⟨P, hP⟩ : ∃ P, padL D t = P := ⟨_, rfl⟩
  have HPD : Hid (padL D t = P) := hP
  obtain ⟨zz, hzz⟩ : ∃ zz, List.replicate Z (48 : UInt8) = zz := ⟨_, rfl⟩
  have c0 := cat zz t
  rw [show zz ++ t = P by rw [← hP, ← hzz, ← hZ]; rfl] at c0
  have hzl : zz.length ≤ 5 := by rw [← hzz]; simp; omega
  have hPl : P.length ≤ 30 := by rw [← hP, padL_len]; omega
  have hPD : D < P.length := by rw [← hP, padL_len]; omega
  have hZ5 : Z ≤ 5 := by omega
  clear hZ hZ2 hP
  obtain ⟨E, hE⟩ : ∃ E : Nat, P.length - D = E := ⟨_, rfl⟩
  have hEi : (P.length : Int) - D = (E : Int) := by omega
  have s1 := slice_hi P (E : Int) E rfl (by omega)
  have s2 := slice_lo P (E : Int) E rfl (by omega)
  have HE : Hid (P.length - D = E) := hE
  clear hE
  clear hI
  have hzr := fun W => zrep Z (by omega) W
  rw [hzz] at hzr
  clear hzz
  refine (hzr _).mono ?_
  rintro e x5 ⟨rfl, hb⟩
  replace V0 := Va.after hb V0
  replace V1 := Va.after hb V1
  replace B0 := step B0 hb
  clear hb
  clear c_V0 f0_V0 d_V0 f1_V0 l_V0 m_V0
  have c_V0 := V0.c0
  have f0_V0 := V0.frozen 0
  have d_V0 := V0.c1
  have f1_V0 := V0.frozen 1
  have l_V0 := V0.lt
  have m_V0 := Nat.le_of_lt l_V0
  go_wp2_with fail
  clear c_V0 f0_V0 d_V0 f1_V0 l_V0 m_V0
  refine wp_region_noPanic ?_
  replace V0 : Va x5.drew _ _ _ := V0
  replace V1 : Va x5.drew _ _ _ := V1
  replace B0 := Below.drew B0
  refine wp_region_held_drew (S := (fun W => True)) (by kernel_rfl) trivial (fun hHeld => ?_)
  obtain ⟨x6, hxd⟩ : ∃ xd, xd = x5.drew := ⟨_, rfl⟩
  rw [← hxd] at V0 V1 B0 ⊢
  clear hxd
  refine wpAnyH_take (i := 0) (v := ?_) rfl (by kernel_rfl) (by kernel_rfl) (by kernel_rfl) (fun _ _ _ h => h) (Or.inl ⟨by rfl, ?_⟩) hHeld ?_
  rotate_left
  · (intro W hSw; (try dsimp only at hSw); go_simp; all_goals (with_reducible rfl))
  simp only [List.getElem_toArray, List.getElem_cons_zero, Act.put, List.setIfInBounds_toArray, List.set_cons_zero, List.set_cons_succ]
  refine wpAnyH_take (i := 1) (v := ?_) rfl (by kernel_rfl) (by kernel_rfl) (by kernel_rfl) (fun _ _ _ h => h) (Or.inl ⟨by rfl, ?_⟩) hHeld ?_
  rotate_left
  · (intro W hSw; (try dsimp only at hSw); go_simp; all_goals (with_reducible rfl))
  simp only [List.getElem_toArray, List.getElem_cons_zero, List.getElem_cons_succ, Act.put, List.setIfInBounds_toArray, List.set_cons_zero, List.set_cons_succ]
  refine wpAnyH_take (i := 2) (v := ?_) rfl (by kernel_rfl) (by kernel_rfl) (by kernel_rfl) (fun _ _ _ h => h) (Or.inl ⟨by rfl, ?_⟩) hHeld ?_
  rotate_left
  · (intro W hSw; (try dsimp only at hSw); go_simp; all_goals (with_reducible rfl))
  simp only [List.getElem_toArray, List.getElem_cons_zero, List.getElem_cons_succ, Act.put, List.setIfInBounds_toArray, List.set_cons_zero, List.set_cons_succ]
  refine wpAnyH_take (i := 3) (v := ?_) rfl (by kernel_rfl) (by kernel_rfl) (by kernel_rfl) (fun _ _ _ h => h) (Or.inl ⟨by rfl, ?_⟩) hHeld ?_
  rotate_left
  · (intro W hSw; (try dsimp only at hSw); go_simp; all_goals (with_reducible rfl))
  simp only [List.getElem_toArray, List.getElem_cons_zero, List.getElem_cons_succ, Act.put, List.setIfInBounds_toArray, List.set_cons_zero, List.set_cons_succ]
  refine wpAnyH_take (i := 4) (v := ?_) rfl (by kernel_rfl) (by kernel_rfl) (by kernel_rfl) (fun _ _ _ h => h) (Or.inl ⟨by rfl, ?_⟩) hHeld ?_
  rotate_left
  · (intro W hSw; (try dsimp only at hSw); go_simp; all_goals (with_reducible rfl))
  simp only [List.getElem_toArray, List.getElem_cons_zero, List.getElem_cons_succ, Act.put, List.setIfInBounds_toArray, List.set_cons_zero, List.set_cons_succ]
  refine wpAnyH_take (i := 5) (v := ?_) rfl (by kernel_rfl) (by kernel_rfl) (by kernel_rfl) (fun _ _ _ h => h) (Or.inl ⟨by rfl, ?_⟩) hHeld ?_
  rotate_left
  · (intro W hSw; (try dsimp only at hSw); go_simp; all_goals (with_reducible rfl))
  simp only [List.getElem_toArray, List.getElem_cons_zero, List.getElem_cons_succ, Act.put, List.setIfInBounds_toArray, List.set_cons_zero, List.set_cons_succ]
  refine wpAnyH_take (i := 6) (v := ?_) rfl (by kernel_rfl) (by kernel_rfl) (by kernel_rfl) (fun _ _ _ h => h) (Or.inl ⟨by rfl, ?_⟩) hHeld ?_
  rotate_left
  · (intro W hSw; (try dsimp only at hSw); go_simp; all_goals (with_reducible rfl))
  simp only [List.getElem_toArray, List.getElem_cons_zero, List.getElem_cons_succ, Act.put, List.setIfInBounds_toArray, List.set_cons_zero, List.set_cons_succ]
  refine wpAnyH_ready (rs := [7]) (by kernel_rfl) (by simp) ?_
  refine AllReadyH.cons rfl (fun K hK => ?_) AllReadyH.nil
  simp only [List.getElem_toArray, List.getElem_cons_zero, List.getElem_cons_succ]
  go_simp
  have lt_Va2_V0 := V0.lt
  have lt_Va2_V1 := V1.lt
  have sz_Va2 := B0.size
  refine ent1 _ _ _ (Q := fun V => K _ V) ?_
  intro x7 hb hs_ Va2
  replace V0 := Va.after hb V0
  replace V1 := Va.after hb V1
  replace B0 := step B0 hb
  clear hb hs_
  refine hK.out _ _ trivial (fun hHeld => ?_)
  clear hK K
  have c_Va2 := Va2.d0
  have f0_Va2 := Va2.frozen 0
  have d_Va2 := Va2.d1
  have f1_Va2 := Va2.frozen 1
  have e_Va2 := Va2.d2
  have f2_Va2 := Va2.frozen 2
  have l_Va2 := Va2.lt
  have m_Va2 := Nat.le_of_lt l_Va2
  refine wpAnyH_ready (rs := [8]) (by kernel_rfl) (by simp) ?_
  refine AllReadyH.cons rfl (fun K hK => ?_) AllReadyH.nil
  simp only [List.getElem_toArray, List.getElem_cons_zero, List.getElem_cons_succ]
  go_simp
  clear c_Va2 f0_Va2 d_Va2 f1_Va2 e_Va2 f2_Va2 l_Va2 m_Va2
  refine sto3 Va2 (.string ⟨#[]⟩) (.string ⟨(P.take E).toArray⟩) (.string ⟨(P.drop E).toArray⟩) (Q := fun W => K _ W) ?_
  intro x8 V' oth far
  replace V0 := oth _ _ _ (by first | omega | assumption | (simp; omega)) V0
  replace V1 := oth _ _ _ (by first | omega | assumption | (simp; omega)) V1
  replace B0 := far.2 _ _ (by first | omega | (simp; omega)) B0
  replace Va2 := V'
  clear oth far
  refine hK.out _ _ trivial (fun hHeld => ?_)
  clear hK K
  refine wpAnyH_done (by kernel_rfl) ?_ _
  refine NoPanic.normal ?_
  clear hHeld
  have hne : x6.heap.size ≠ w.heap.size + 1 := by omega
  have hne2 : w.heap.size + 1 ≠ x6.heap.size := by omega
  by_cases hu0 : u < 0
  ·
    have c_Va2 := Va2.d0
    have f0_Va2 := Va2.frozen 0
    have d_Va2 := Va2.d1
    have f1_Va2 := Va2.frozen 1
    have e_Va2 := Va2.d2
    have f2_Va2 := Va2.frozen 2
    have l_Va2 := Va2.lt
    have m_Va2 := Nat.le_of_lt l_Va2
    have n_Va2 := Nat.ne_of_lt l_Va2
    have o_Va2 := Nat.ne_of_lt (Nat.lt_succ_of_lt l_Va2)
    have c_V1 := V1.d0
    have f0_V1 := V1.frozen 0
    have d_V1 := V1.d1
    have f1_V1 := V1.frozen 1
    have e_V1 := V1.d2
    have f2_V1 := V1.frozen 2
    have l_V1 := V1.lt
    have m_V1 := Nat.le_of_lt l_V1
    have n_V1 := Nat.ne_of_lt l_V1
    have o_V1 := Nat.ne_of_lt (Nat.lt_succ_of_lt l_V1)
    go_wp2_with fail
    refine bodyPost_ret (results_am rfl rfl ((V1.other (p := ⟨x6.heap.size, 0, none⟩) hne2 _).set3 _ _ _)) rfl ?_
    exact ⟨t, HTX.out, by rw [HPD.out, HE.out], belo3 (B0.setCell (p := ⟨x6.heap.size, 0, none⟩) (by show w.heap.size ≤ x6.heap.size; omega) _) (by omega) _ _ _⟩
  ·
    have c_Va2 := Va2.d0
    have f0_Va2 := Va2.frozen 0
    have d_Va2 := Va2.d1
    have f1_Va2 := Va2.frozen 1
    have e_Va2 := Va2.d2
    have f2_Va2 := Va2.frozen 2
    have l_Va2 := Va2.lt
    have m_Va2 := Nat.le_of_lt l_Va2
    have n_Va2 := Nat.ne_of_lt l_Va2
    have o_Va2 := Nat.ne_of_lt (Nat.lt_succ_of_lt l_Va2)
    have c_V1 := V1.d0
    have f0_V1 := V1.frozen 0
    have d_V1 := V1.d1
    have f1_V1 := V1.frozen 1
    have e_V1 := V1.d2
    have f2_V1 := V1.frozen 2
    have l_V1 := V1.lt
    have m_V1 := Nat.le_of_lt l_V1
    have n_V1 := Nat.ne_of_lt l_V1
    have o_V1 := Nat.ne_of_lt (Nat.lt_succ_of_lt l_V1)
    go_wp2_with fail
    refine bodyPost_ret (results_am rfl rfl (V1.set3 _ _ _)) rfl ?_
    exact ⟨t, HTX.out, by rw [HPD.out, HE.out], belo3 B0 (by omega) _ _ _⟩
theorem tell0 (A0 A1 A2 : List UInt8) (w : World) : Calls Tryz.prog 106 #[.agg #[.string ⟨A0.toArray⟩, .string ⟨A1.toArray⟩, .string ⟨A2.toArray⟩]] w fun e w' => e = .returned (.string ⟨A0.toArray⟩) ∧ Below w.heap.size w w' := by
  go_enter Tryz.func106, Tryz.ntmps106
  go_wp2_with fail
  go_ret
  exact ⟨rfl, (Below.refl _ _).alloc (Nat.le_refl _) _⟩
theorem tell1 (A0 A1 A2 : List UInt8) (w : World) : Calls Tryz.prog 108 #[.agg #[.string ⟨A0.toArray⟩, .string ⟨A1.toArray⟩, .string ⟨A2.toArray⟩]] w fun e w' => e = .returned (.string ⟨A1.toArray⟩) ∧ Below w.heap.size w w' := by
  go_enter Tryz.func108, Tryz.ntmps108
  go_wp2_with fail
  go_ret
  exact ⟨rfl, (Below.refl _ _).alloc (Nat.le_refl _) _⟩
theorem tell2 (A0 A1 A2 : List UInt8) (w : World) : Calls Tryz.prog 110 #[.agg #[.string ⟨A0.toArray⟩, .string ⟨A1.toArray⟩, .string ⟨A2.toArray⟩]] w fun e w' => e = .returned (.string ⟨A2.toArray⟩) ∧ Below w.heap.size w w' := by
  go_enter Tryz.func110, Tryz.ntmps110
  go_wp2_with fail
  go_ret
  exact ⟨rfl, (Below.refl _ _).alloc (Nat.le_refl _) _⟩
theorem tellF (A0 A1 A2 : List UInt8) (g : Nat) (t : List UInt8) (w : World) (hg : Bx w g t) : Calls Tryz.prog 103 #[.agg #[.string ⟨A0.toArray⟩, .string ⟨A1.toArray⟩, .string ⟨A2.toArray⟩], .pointer (some ⟨g, 0, none⟩)] w fun e w' => e = .returned (.string ⟨t.toArray⟩) ∧ Below w.heap.size w w' := by
  have c0 := Va.cell hg
  have hl : g < w.heap.size := Va.lt hg
  have c1 := Va.cell (Bx.after (((Below.refl _ _).alloc (Nat.le_refl _) (.cells #[.string ⟨A0.toArray⟩, .string ⟨A1.toArray⟩, .string ⟨A2.toArray⟩] 104))) hg)
  clear hg
  go_enter Tryz.func103, Tryz.ntmps103
  go_wp2_with fail
  go_ret
  exact ⟨rfl, by first | exact Below.refl _ _ | exact (Below.refl _ _).alloc (Nat.le_refl _) _⟩
theorem amountOf10 (nm : List UInt8) (D : Nat) (u : Int) (w : World) (hD : D ≤ 4) (hnl : nm.length = 3) (h1 : -9223372036854775808 ≤ u) (h2 : u ≤ 9223372036854775807) (hP : Pt w) :
    Calls Tryz.prog 65 #[.agg #[.string ⟨nm.toArray⟩, .int .i64 D], .int .i64 u] w fun e w' => ∃ (A0 A1 A2 t : List UInt8), e = .returned (.agg #[.string ⟨A0.toArray⟩, .string ⟨A1.toArray⟩, .string ⟨A2.toArray⟩]) ∧ Hid (Tx 10 t u.natAbs ∧ amt D nm t u = A0 ++ A1 ++ ptD D ++ A2 ++ [32] ++ nm ∧ A0.length + A1.length + A2.length ≤ 40) ∧ Below w.heap.size w w' := by
  refine (amountOf9 nm D u w hD h1 h2 hP).mono ?_
  rintro e w' ⟨t, ht, rfl, hb⟩
  refine ⟨_, _, _, t, rfl, ⟨ht, ?_, ?_⟩, hb⟩
  · have hpl := padL_len D t
    unfold amt textL ptL ptD sgL
    generalize padL D t = p at *
    by_cases hu : u < 0 <;> by_cases h0 : D = 0
    · subst h0; simp [hu]
    · simp [hu, h0]
    · subst h0; simp [hu]
    · simp [hu, h0]
  · have hpl := padL_len D t
    have := tx_len19 ht h1 h2
    split <;> simp <;> omega
theorem Va.kept9 {w w' : World} {k b : Nat} {t e : TypeId} {cs : Array Value} (h : Va w k t cs) (o : Go.Lib.OthersKept e (some b) w w') (hk : k ≠ b) (ht : t ≠ e) : Va w' k t cs :=
  o k _ h (fun e => hk (Option.some.inj e)) (fun c fz e => by injection e with e1 e2; exact ht e2)
theorem wstr9 (B b : Nat) (l : List UInt8) (t : List UInt8) (w : World) (h : Go.Lib.IsBuilderF 108 5 B b (Go.Lib.byteCells l) w) (hlen : l.length + t.length ≤ 140737488355328) (hBw : B ≤ w.heap.size) :
    Calls Tryz.prog 67 #[.pointer (some ⟨b, 0, none⟩), .string ⟨t.toArray⟩] w fun e w' => (∃ v, e = .returned v) ∧ Go.Lib.IsBuilderF 108 5 B b (Go.Lib.byteCells (l ++ t)) w' ∧ Below B w w' ∧ Go.Lib.OthersKept 5 (some b) w w' := by
  refine (Any.Builder_WriteString_k { Tryz.lays105 with } Tryz.Builder_Extra_105 B b (Go.Lib.byteCells l) ⟨t.toArray⟩ w h (by simp [Go.Lib.byteCells]; exact hlen) hBw).mono ?_
  rintro e w' ⟨rfl, h1, h2, h3⟩
  refine ⟨⟨_, rfl⟩, ?_, h2, h3⟩
  rw [Go.Lib.byteCells_append]
  exact .inr h1
set_option maxHeartbeats 4000000 in
theorem text9 (nm : List UInt8) (D : Nat) (u : Int) (w : World) (hC : Cur nm D) (h1 : -9223372036854775808 ≤ u) (h2 : u ≤ 9223372036854775807) (hP : Pt w) :
    Calls Tryz.prog 35 #[.agg #[.string ⟨nm.toArray⟩, .int .i64 D], .int .i64 u] w fun e w' => ∃ t, e = .returned (.tuple #[.string ⟨(amt D nm t u).toArray⟩, .int .i64 0]) ∧ Tx 10 t u.natAbs ∧ Below w.heap.size w w' := by
  have hD : D ≤ 4 := by have := hC.2.2.2; omega
  have hnl : nm.length = 3 := hC.1
  have HP : Hid (Pt w) := hP
  clear hP
  have B0 : Below w.heap.size w w := Below.refl _ _
  go_enter Tryz.func35, Tryz.ntmps35
  go_wp2_with fail
  refine ent1 w _ _ (Q := fun W => Calls Tryz.prog _ _ W _) ?_
  intro x1 hb hs_x1 V0
  replace B0 := step B0 hb
  clear hb hs_x1
  refine (check9_ok nm D hC _).mono ?_
  rintro e x2 ⟨rfl, hb⟩
  replace V0 := Va.after hb V0
  replace B0 := step B0 hb
  clear hb
  have c_V0 := V0.c0
  have f0_V0 := V0.frozen 0
  have d_V0 := V0.c1
  have f1_V0 := V0.frozen 1
  have l_V0 := V0.lt
  have m_V0 := Nat.le_of_lt l_V0
  go_wp2_with fail
  refine (amountOf10 nm D u _ hD hnl h1 h2 (HP.out.to B0)).mono ?_
  rintro e x3 ⟨A0, A1, A2, t, rfl, HA, hb⟩
  replace V0 := Va.after hb V0
  replace B0 := step B0 hb
  clear hb
  clear c_V0 f0_V0 d_V0 f1_V0 l_V0 m_V0
  have c_V0 := V0.c0
  have f0_V0 := V0.frozen 0
  have d_V0 := V0.c1
  have f1_V0 := V0.frozen 1
  have l_V0 := V0.lt
  have m_V0 := Nat.le_of_lt l_V0
  go_wp2_with fail
  refine ent2 x3 _ _ _ _ (Q := fun W => Calls Tryz.prog _ _ W _) ?_
  intro x4 hb hs_x4 Vm Vb
  replace V0 := Va.after hb V0
  replace B0 := step B0 hb
  clear hb hs_x4
  obtain ⟨bb, hbb⟩ : ∃ bb, x3.heap.size + 1 = bb := ⟨_, rfl⟩
  have hbw : w.heap.size ≤ bb := by rw [← hbb]; omega
  have hne : x3.heap.size ≠ bb := by omega
  rw [hbb] at Vb ⊢
  have hB0 : Go.Lib.IsBuilderF 108 5 bb bb (Go.Lib.byteCells []) x4 := Go.Lib.IsBuilderF.of (Or.inl ⟨Nat.le_refl _, .slice none 0 0, Vb, World.ownsRow_nil _ _ _ _, by simp [Value.ownBlock]⟩)
  have hlt := Vb.lt
  have HL : Hid (bb ≤ x4.heap.size) := Nat.le_of_lt hlt
  clear hlt
  clear c_V0 f0_V0 d_V0 f1_V0 l_V0 m_V0
  clear V0
  refine (pieces9 nm D _).mono ?_
  rintro e y0 ⟨g, g1, g2, g3, rfl, Vg, b1, b2, b3, hb⟩
  replace Vm := Va.after hb Vm
  replace Vb := Va.after hb Vb
  replace hB0 := bld_after hb hB0
  replace HL : Hid (bb ≤ y0.heap.size) := Nat.le_trans HL.out hb.size
  replace B0 := step B0 hb
  clear hb hbb
  have ng : g ≠ bb := Vg.neT9 Vb (by decide)
  have ng1 : g1 ≠ bb := Va.neT9 b1 Vb (by decide)
  have ng2 : g2 ≠ bb := Va.neT9 b2 Vb (by decide)
  have ng3 : g3 ≠ bb := Va.neT9 b3 Vb (by decide)
  clear Vb
  have HBd : Hid (Go.Lib.IsBuilderF 108 5 bb bb (Go.Lib.byteCells []) y0) := hB0
  clear hB0
  have HLA : Hid (A0.length + A1.length + A2.length ≤ 40) := HA.out.2.2
  have hpd : (ptD D).length ≤ 1 := by unfold ptD; split <;> simp
  go_wp2_with fail
  refine wp_loop_rounds 7 ?_
  rw [rounds_succ]
  have q0 : y0.cell? ⟨g, 0, none⟩ = some (.func (.func 106) #[] #[]) := Vg.cellAt 0
  have q1 : y0.cell? ⟨g, 1, none⟩ = some (.func (.func 107) #[] #[]) := Vg.cellAt 1
  have m0 := Vm.d0
  have m1 := Vm.d1
  have m2 := Vm.d2
  have ml := Vm.lt
  have k0 := (Vm.old (.cells #[.func (.func 106) #[] #[], .func (.func 107) #[] #[]] 114)).d0
  have k1 := (Vm.old (.cells #[.func (.func 106) #[] #[], .func (.func 107) #[] #[]] 114)).d1
  have k2 := (Vm.old (.cells #[.func (.func 106) #[] #[], .func (.func 107) #[] #[]] 114)).d2
  go_wp2_with fail
  clear q0 q1 m0 m1 m2 ml k0 k1 k2
  refine ent1 y0 _ _ (Q := fun W => Calls Tryz.prog _ _ W _) ?_
  intro y1a hb hs_ Vp
  clear hs_ Vp
  replace Vm := Va.after hb Vm
  replace Vg := Va.after hb Vg
  replace b1 := Bx.after hb b1
  replace b2 := Bx.after hb b2
  replace b3 := Bx.after hb b3
  replace HBd : Hid (Go.Lib.IsBuilderF 108 5 bb bb (Go.Lib.byteCells ([])) y1a) := bld_after hb HBd.out
  replace HL : Hid (bb ≤ y1a.heap.size) := Nat.le_trans HL.out hb.size
  replace B0 := step B0 hb
  clear hb
  refine (tell0 A0 A1 A2 y1a).mono ?_
  rintro e y1b ⟨rfl, hb⟩
  replace Vm := Va.after hb Vm
  replace Vg := Va.after hb Vg
  replace b1 := Bx.after hb b1
  replace b2 := Bx.after hb b2
  replace b3 := Bx.after hb b3
  replace HBd : Hid (Go.Lib.IsBuilderF 108 5 bb bb (Go.Lib.byteCells ([])) y1b) := bld_after hb HBd.out
  replace HL : Hid (bb ≤ y1b.heap.size) := Nat.le_trans HL.out hb.size
  replace B0 := step B0 hb
  clear hb
  go_wp2_with fail
  refine (wstr9 bb bb ([]) A0 y1b HBd.out (by have := HLA.out; simp; omega) HL.out).mono ?_
  rintro e y1 ⟨⟨v0, rfl⟩, hB1, hb, ho⟩
  replace Vm := Vm.kept9 ho hne (by decide)
  replace Vg := Vg.kept9 ho ng (by decide)
  replace b1 : Bx y1 g1 (ptD D) := Va.kept9 b1 ho ng1 (by decide)
  replace b2 : Bx y1 g2 [32] := Va.kept9 b2 ho ng2 (by decide)
  replace b3 : Bx y1 g3 nm := Va.kept9 b3 ho ng3 (by decide)
  replace HBd : Hid (Go.Lib.IsBuilderF 108 5 bb bb (Go.Lib.byteCells (A0)) y1) := hB1
  replace HL : Hid (bb ≤ y1.heap.size) := Nat.le_trans HL.out hb.size
  replace B0 := B0.trans (hb.mono hbw)
  clear hb ho hB1
  go_wp2_with fail
  rw [rounds_succ]
  have q0 : y1.cell? ⟨g, 2, none⟩ = some (.func (.func 108) #[] #[]) := Vg.cellAt 2
  have q1 : y1.cell? ⟨g, 3, none⟩ = some (.func (.func 109) #[] #[]) := Vg.cellAt 3
  have m0 := Vm.d0
  have m1 := Vm.d1
  have m2 := Vm.d2
  have ml := Vm.lt
  have k0 := (Vm.old (.cells #[.func (.func 108) #[] #[], .func (.func 109) #[] #[]] 114)).d0
  have k1 := (Vm.old (.cells #[.func (.func 108) #[] #[], .func (.func 109) #[] #[]] 114)).d1
  have k2 := (Vm.old (.cells #[.func (.func 108) #[] #[], .func (.func 109) #[] #[]] 114)).d2
  go_wp2_with fail
  clear q0 q1 m0 m1 m2 ml k0 k1 k2
  refine ent1 y1 _ _ (Q := fun W => Calls Tryz.prog _ _ W _) ?_
  intro y2a hb hs_ Vp
  clear hs_ Vp
  replace Vm := Va.after hb Vm
  replace Vg := Va.after hb Vg
  replace b1 := Bx.after hb b1
  replace b2 := Bx.after hb b2
  replace b3 := Bx.after hb b3
  replace HBd : Hid (Go.Lib.IsBuilderF 108 5 bb bb (Go.Lib.byteCells (A0)) y2a) := bld_after hb HBd.out
  replace HL : Hid (bb ≤ y2a.heap.size) := Nat.le_trans HL.out hb.size
  replace B0 := step B0 hb
  clear hb
  refine (tell1 A0 A1 A2 y2a).mono ?_
  rintro e y2b ⟨rfl, hb⟩
  replace Vm := Va.after hb Vm
  replace Vg := Va.after hb Vg
  replace b1 := Bx.after hb b1
  replace b2 := Bx.after hb b2
  replace b3 := Bx.after hb b3
  replace HBd : Hid (Go.Lib.IsBuilderF 108 5 bb bb (Go.Lib.byteCells (A0)) y2b) := bld_after hb HBd.out
  replace HL : Hid (bb ≤ y2b.heap.size) := Nat.le_trans HL.out hb.size
  replace B0 := step B0 hb
  clear hb
  go_wp2_with fail
  refine (wstr9 bb bb (A0) A1 y2b HBd.out (by have := HLA.out; simp; omega) HL.out).mono ?_
  rintro e y2 ⟨⟨v1, rfl⟩, hB1, hb, ho⟩
  replace Vm := Vm.kept9 ho hne (by decide)
  replace Vg := Vg.kept9 ho ng (by decide)
  replace b1 : Bx y2 g1 (ptD D) := Va.kept9 b1 ho ng1 (by decide)
  replace b2 : Bx y2 g2 [32] := Va.kept9 b2 ho ng2 (by decide)
  replace b3 : Bx y2 g3 nm := Va.kept9 b3 ho ng3 (by decide)
  replace HBd : Hid (Go.Lib.IsBuilderF 108 5 bb bb (Go.Lib.byteCells (A0 ++ A1)) y2) := hB1
  replace HL : Hid (bb ≤ y2.heap.size) := Nat.le_trans HL.out hb.size
  replace B0 := B0.trans (hb.mono hbw)
  clear hb ho hB1
  go_wp2_with fail
  rw [rounds_succ]
  have q0 : y2.cell? ⟨g, 4, none⟩ = some (.func (.func 103) #[] #[.pointer (some ⟨g1, 0, none⟩)]) := Vg.cellAt 4
  have q1 : y2.cell? ⟨g, 5, none⟩ = some (.func (.func 104) #[] #[.pointer (some ⟨g1, 0, none⟩)]) := Vg.cellAt 5
  have m0 := Vm.d0
  have m1 := Vm.d1
  have m2 := Vm.d2
  have ml := Vm.lt
  have k0 := (Vm.old (.cells #[.func (.func 103) #[] #[.pointer (some ⟨g1, 0, none⟩)], .func (.func 104) #[] #[.pointer (some ⟨g1, 0, none⟩)]] 114)).d0
  have k1 := (Vm.old (.cells #[.func (.func 103) #[] #[.pointer (some ⟨g1, 0, none⟩)], .func (.func 104) #[] #[.pointer (some ⟨g1, 0, none⟩)]] 114)).d1
  have k2 := (Vm.old (.cells #[.func (.func 103) #[] #[.pointer (some ⟨g1, 0, none⟩)], .func (.func 104) #[] #[.pointer (some ⟨g1, 0, none⟩)]] 114)).d2
  go_wp2_with fail
  clear q0 q1 m0 m1 m2 ml k0 k1 k2
  refine ent1 y2 _ _ (Q := fun W => Calls Tryz.prog _ _ W _) ?_
  intro y3a hb hs_ Vp
  clear hs_ Vp
  replace Vm := Va.after hb Vm
  replace Vg := Va.after hb Vg
  replace b1 := Bx.after hb b1
  replace b2 := Bx.after hb b2
  replace b3 := Bx.after hb b3
  replace HBd : Hid (Go.Lib.IsBuilderF 108 5 bb bb (Go.Lib.byteCells (A0 ++ A1)) y3a) := bld_after hb HBd.out
  replace HL : Hid (bb ≤ y3a.heap.size) := Nat.le_trans HL.out hb.size
  replace B0 := step B0 hb
  clear hb
  refine (tellF A0 A1 A2 g1 (ptD D) y3a b1).mono ?_
  rintro e y3b ⟨rfl, hb⟩
  replace Vm := Va.after hb Vm
  replace Vg := Va.after hb Vg
  replace b1 := Bx.after hb b1
  replace b2 := Bx.after hb b2
  replace b3 := Bx.after hb b3
  replace HBd : Hid (Go.Lib.IsBuilderF 108 5 bb bb (Go.Lib.byteCells (A0 ++ A1)) y3b) := bld_after hb HBd.out
  replace HL : Hid (bb ≤ y3b.heap.size) := Nat.le_trans HL.out hb.size
  replace B0 := step B0 hb
  clear hb
  go_wp2_with fail
  refine (wstr9 bb bb (A0 ++ A1) (ptD D) y3b HBd.out (by have := HLA.out; simp; omega) HL.out).mono ?_
  rintro e y3 ⟨⟨v2, rfl⟩, hB1, hb, ho⟩
  replace Vm := Vm.kept9 ho hne (by decide)
  replace Vg := Vg.kept9 ho ng (by decide)
  replace b1 : Bx y3 g1 (ptD D) := Va.kept9 b1 ho ng1 (by decide)
  replace b2 : Bx y3 g2 [32] := Va.kept9 b2 ho ng2 (by decide)
  replace b3 : Bx y3 g3 nm := Va.kept9 b3 ho ng3 (by decide)
  replace HBd : Hid (Go.Lib.IsBuilderF 108 5 bb bb (Go.Lib.byteCells (A0 ++ A1 ++ (ptD D))) y3) := hB1
  replace HL : Hid (bb ≤ y3.heap.size) := Nat.le_trans HL.out hb.size
  replace B0 := B0.trans (hb.mono hbw)
  clear hb ho hB1
  go_wp2_with fail
  rw [rounds_succ]
  have q0 : y3.cell? ⟨g, 6, none⟩ = some (.func (.func 110) #[] #[]) := Vg.cellAt 6
  have q1 : y3.cell? ⟨g, 7, none⟩ = some (.func (.func 111) #[] #[]) := Vg.cellAt 7
  have m0 := Vm.d0
  have m1 := Vm.d1
  have m2 := Vm.d2
  have ml := Vm.lt
  have k0 := (Vm.old (.cells #[.func (.func 110) #[] #[], .func (.func 111) #[] #[]] 114)).d0
  have k1 := (Vm.old (.cells #[.func (.func 110) #[] #[], .func (.func 111) #[] #[]] 114)).d1
  have k2 := (Vm.old (.cells #[.func (.func 110) #[] #[], .func (.func 111) #[] #[]] 114)).d2
  go_wp2_with fail
  clear q0 q1 m0 m1 m2 ml k0 k1 k2
  refine ent1 y3 _ _ (Q := fun W => Calls Tryz.prog _ _ W _) ?_
  intro y4a hb hs_ Vp
  clear hs_ Vp
  replace Vm := Va.after hb Vm
  replace Vg := Va.after hb Vg
  replace b1 := Bx.after hb b1
  replace b2 := Bx.after hb b2
  replace b3 := Bx.after hb b3
  replace HBd : Hid (Go.Lib.IsBuilderF 108 5 bb bb (Go.Lib.byteCells (A0 ++ A1 ++ (ptD D))) y4a) := bld_after hb HBd.out
  replace HL : Hid (bb ≤ y4a.heap.size) := Nat.le_trans HL.out hb.size
  replace B0 := step B0 hb
  clear hb
  refine (tell2 A0 A1 A2 y4a).mono ?_
  rintro e y4b ⟨rfl, hb⟩
  replace Vm := Va.after hb Vm
  replace Vg := Va.after hb Vg
  replace b1 := Bx.after hb b1
  replace b2 := Bx.after hb b2
  replace b3 := Bx.after hb b3
  replace HBd : Hid (Go.Lib.IsBuilderF 108 5 bb bb (Go.Lib.byteCells (A0 ++ A1 ++ (ptD D))) y4b) := bld_after hb HBd.out
  replace HL : Hid (bb ≤ y4b.heap.size) := Nat.le_trans HL.out hb.size
  replace B0 := step B0 hb
  clear hb
  go_wp2_with fail
  refine (wstr9 bb bb (A0 ++ A1 ++ (ptD D)) A2 y4b HBd.out (by have := HLA.out; simp; omega) HL.out).mono ?_
  rintro e y4 ⟨⟨v3, rfl⟩, hB1, hb, ho⟩
  replace Vm := Vm.kept9 ho hne (by decide)
  replace Vg := Vg.kept9 ho ng (by decide)
  replace b1 : Bx y4 g1 (ptD D) := Va.kept9 b1 ho ng1 (by decide)
  replace b2 : Bx y4 g2 [32] := Va.kept9 b2 ho ng2 (by decide)
  replace b3 : Bx y4 g3 nm := Va.kept9 b3 ho ng3 (by decide)
  replace HBd : Hid (Go.Lib.IsBuilderF 108 5 bb bb (Go.Lib.byteCells (A0 ++ A1 ++ (ptD D) ++ A2)) y4) := hB1
  replace HL : Hid (bb ≤ y4.heap.size) := Nat.le_trans HL.out hb.size
  replace B0 := B0.trans (hb.mono hbw)
  clear hb ho hB1
  go_wp2_with fail
  rw [rounds_succ]
  have q0 : y4.cell? ⟨g, 8, none⟩ = some (.func (.func 103) #[] #[.pointer (some ⟨g2, 0, none⟩)]) := Vg.cellAt 8
  have q1 : y4.cell? ⟨g, 9, none⟩ = some (.func (.func 104) #[] #[.pointer (some ⟨g2, 0, none⟩)]) := Vg.cellAt 9
  have m0 := Vm.d0
  have m1 := Vm.d1
  have m2 := Vm.d2
  have ml := Vm.lt
  have k0 := (Vm.old (.cells #[.func (.func 103) #[] #[.pointer (some ⟨g2, 0, none⟩)], .func (.func 104) #[] #[.pointer (some ⟨g2, 0, none⟩)]] 114)).d0
  have k1 := (Vm.old (.cells #[.func (.func 103) #[] #[.pointer (some ⟨g2, 0, none⟩)], .func (.func 104) #[] #[.pointer (some ⟨g2, 0, none⟩)]] 114)).d1
  have k2 := (Vm.old (.cells #[.func (.func 103) #[] #[.pointer (some ⟨g2, 0, none⟩)], .func (.func 104) #[] #[.pointer (some ⟨g2, 0, none⟩)]] 114)).d2
  go_wp2_with fail
  clear q0 q1 m0 m1 m2 ml k0 k1 k2
  refine ent1 y4 _ _ (Q := fun W => Calls Tryz.prog _ _ W _) ?_
  intro y5a hb hs_ Vp
  clear hs_ Vp
  replace Vm := Va.after hb Vm
  replace Vg := Va.after hb Vg
  replace b1 := Bx.after hb b1
  replace b2 := Bx.after hb b2
  replace b3 := Bx.after hb b3
  replace HBd : Hid (Go.Lib.IsBuilderF 108 5 bb bb (Go.Lib.byteCells (A0 ++ A1 ++ (ptD D) ++ A2)) y5a) := bld_after hb HBd.out
  replace HL : Hid (bb ≤ y5a.heap.size) := Nat.le_trans HL.out hb.size
  replace B0 := step B0 hb
  clear hb
  refine (tellF A0 A1 A2 g2 [32] y5a b2).mono ?_
  rintro e y5b ⟨rfl, hb⟩
  replace Vm := Va.after hb Vm
  replace Vg := Va.after hb Vg
  replace b1 := Bx.after hb b1
  replace b2 := Bx.after hb b2
  replace b3 := Bx.after hb b3
  replace HBd : Hid (Go.Lib.IsBuilderF 108 5 bb bb (Go.Lib.byteCells (A0 ++ A1 ++ (ptD D) ++ A2)) y5b) := bld_after hb HBd.out
  replace HL : Hid (bb ≤ y5b.heap.size) := Nat.le_trans HL.out hb.size
  replace B0 := step B0 hb
  clear hb
  go_wp2_with fail
  refine (wstr9 bb bb (A0 ++ A1 ++ (ptD D) ++ A2) [32] y5b HBd.out (by have := HLA.out; simp; omega) HL.out).mono ?_
  rintro e y5 ⟨⟨v4, rfl⟩, hB1, hb, ho⟩
  replace Vm := Vm.kept9 ho hne (by decide)
  replace Vg := Vg.kept9 ho ng (by decide)
  replace b1 : Bx y5 g1 (ptD D) := Va.kept9 b1 ho ng1 (by decide)
  replace b2 : Bx y5 g2 [32] := Va.kept9 b2 ho ng2 (by decide)
  replace b3 : Bx y5 g3 nm := Va.kept9 b3 ho ng3 (by decide)
  replace HBd : Hid (Go.Lib.IsBuilderF 108 5 bb bb (Go.Lib.byteCells (A0 ++ A1 ++ (ptD D) ++ A2 ++ [32])) y5) := hB1
  replace HL : Hid (bb ≤ y5.heap.size) := Nat.le_trans HL.out hb.size
  replace B0 := B0.trans (hb.mono hbw)
  clear hb ho hB1
  go_wp2_with fail
  rw [rounds_succ]
  have q0 : y5.cell? ⟨g, 10, none⟩ = some (.func (.func 103) #[] #[.pointer (some ⟨g3, 0, none⟩)]) := Vg.cellAt 10
  have q1 : y5.cell? ⟨g, 11, none⟩ = some (.func (.func 104) #[] #[.pointer (some ⟨g3, 0, none⟩)]) := Vg.cellAt 11
  have m0 := Vm.d0
  have m1 := Vm.d1
  have m2 := Vm.d2
  have ml := Vm.lt
  have k0 := (Vm.old (.cells #[.func (.func 103) #[] #[.pointer (some ⟨g3, 0, none⟩)], .func (.func 104) #[] #[.pointer (some ⟨g3, 0, none⟩)]] 114)).d0
  have k1 := (Vm.old (.cells #[.func (.func 103) #[] #[.pointer (some ⟨g3, 0, none⟩)], .func (.func 104) #[] #[.pointer (some ⟨g3, 0, none⟩)]] 114)).d1
  have k2 := (Vm.old (.cells #[.func (.func 103) #[] #[.pointer (some ⟨g3, 0, none⟩)], .func (.func 104) #[] #[.pointer (some ⟨g3, 0, none⟩)]] 114)).d2
  go_wp2_with fail
  clear q0 q1 m0 m1 m2 ml k0 k1 k2
  refine ent1 y5 _ _ (Q := fun W => Calls Tryz.prog _ _ W _) ?_
  intro y6a hb hs_ Vp
  clear hs_ Vp
  replace Vm := Va.after hb Vm
  replace Vg := Va.after hb Vg
  replace b1 := Bx.after hb b1
  replace b2 := Bx.after hb b2
  replace b3 := Bx.after hb b3
  replace HBd : Hid (Go.Lib.IsBuilderF 108 5 bb bb (Go.Lib.byteCells (A0 ++ A1 ++ (ptD D) ++ A2 ++ [32])) y6a) := bld_after hb HBd.out
  replace HL : Hid (bb ≤ y6a.heap.size) := Nat.le_trans HL.out hb.size
  replace B0 := step B0 hb
  clear hb
  refine (tellF A0 A1 A2 g3 nm y6a b3).mono ?_
  rintro e y6b ⟨rfl, hb⟩
  replace Vm := Va.after hb Vm
  replace Vg := Va.after hb Vg
  replace b1 := Bx.after hb b1
  replace b2 := Bx.after hb b2
  replace b3 := Bx.after hb b3
  replace HBd : Hid (Go.Lib.IsBuilderF 108 5 bb bb (Go.Lib.byteCells (A0 ++ A1 ++ (ptD D) ++ A2 ++ [32])) y6b) := bld_after hb HBd.out
  replace HL : Hid (bb ≤ y6b.heap.size) := Nat.le_trans HL.out hb.size
  replace B0 := step B0 hb
  clear hb
  go_wp2_with fail
  refine (wstr9 bb bb (A0 ++ A1 ++ (ptD D) ++ A2 ++ [32]) nm y6b HBd.out (by have := HLA.out; simp; omega) HL.out).mono ?_
  rintro e y6 ⟨⟨v5, rfl⟩, hB1, hb, ho⟩
  replace Vm := Vm.kept9 ho hne (by decide)
  replace Vg := Vg.kept9 ho ng (by decide)
  replace b1 : Bx y6 g1 (ptD D) := Va.kept9 b1 ho ng1 (by decide)
  replace b2 : Bx y6 g2 [32] := Va.kept9 b2 ho ng2 (by decide)
  replace b3 : Bx y6 g3 nm := Va.kept9 b3 ho ng3 (by decide)
  replace HBd : Hid (Go.Lib.IsBuilderF 108 5 bb bb (Go.Lib.byteCells (A0 ++ A1 ++ (ptD D) ++ A2 ++ [32] ++ nm)) y6) := hB1
  replace HL : Hid (bb ≤ y6.heap.size) := Nat.le_trans HL.out hb.size
  replace B0 := B0.trans (hb.mono hbw)
  clear hb ho hB1
  go_wp2_with fail
  rw [rounds_succ]
  go_wp2_with fail
  refine (Tryz.Builder_String_any_k bb bb (A0 ++ A1 ++ (ptD D) ++ A2 ++ [32] ++ nm) y6 HBd.out HL.out).mono ?_
  rintro e y7 ⟨rfl, -, hb, -⟩
  go_wp2_with fail
  have ea : amt D nm t u = A0 ++ (A1 ++ (ptD D ++ (A2 ++ 32 :: nm))) := by rw [HA.out.2.1]; simp
  go_ret2
  exact ⟨t, by rw [ea]; rfl, HA.out.1, B0.trans (hb.mono hbw)⟩
theorem text9_no (nm : List UInt8) (D u : Int) (w : World) (hC : ¬ Cur nm D) :
    Calls Tryz.prog 35 #[.agg #[.string ⟨nm.toArray⟩, .int .i64 D], .int .i64 u] w fun e w' => e = .returned (.tuple #[.string ⟨#[]⟩, .int .i64 90]) ∧ Below w.heap.size w w' := by
  have B0 : Below w.heap.size w w := Below.refl _ _
  go_enter Tryz.func35, Tryz.ntmps35
  go_wp2_with fail
  refine ent1 w _ _ (Q := fun W => Calls Tryz.prog _ _ W _) ?_
  intro x1 hb hs_x1 V0
  replace B0 := step B0 hb
  clear hb hs_x1
  refine (check9_no nm D hC _).mono ?_
  rintro e x2 ⟨rfl, hb⟩
  replace V0 := Va.after hb V0
  replace B0 := step B0 hb
  clear hb
  have c_V0 := V0.c0
  have f0_V0 := V0.frozen 0
  have d_V0 := V0.c1
  have f1_V0 := V0.frozen 1
  have l_V0 := V0.lt
  have m_V0 := Nat.le_of_lt l_V0
  go_wp2_with fail
  go_ret2
  exact ⟨rfl, B0⟩
end Go.Proofs.YtigimdcaakfckaaGreatDoor
namespace Go.Proofs.YtigimdcaakfckaaGreatDoor
open Go.RowKit Go.Shelf
set_option linter.unusedVariables false

/-- A list of int64s as it lies. -/
def Li (w : World) (a : Option Addr) (len : Nat) (zs : List Int) : Prop :=
  zs.length = len ∧ (∀ z ∈ zs, b64 z) ∧ (0 < len → ∃ b off, a = some ⟨b, off, none⟩ ∧ ∀ i, i < len → w.cell? ⟨b, off + i, none⟩ = some (.int .i64 (zs.getD i 0)))
theorem Li.get {w : World} {a : Option Addr} {len : Nat} {zs : List Int} (h : Li w a len zs) {k : Nat} (hk : k < len) : b64 (zs.getD k 0) := by
  have hl : k < zs.length := by rw [h.1]; exact hk
  rw [List.getD_eq_getElem?_getD, List.getElem?_eq_getElem hl]
  exact h.2.1 _ (List.getElem_mem hl)
theorem wrap_cases {s : Int} (h1 : -18446744073709551616 ≤ s) (h2 : s < 18446744073709551616) : (-9223372036854775808 ≤ s ∧ s ≤ 9223372036854775807 ∧ wrap64 s = s) ∨ (s < -9223372036854775808 ∧ wrap64 s = s + 18446744073709551616) ∨ (9223372036854775807 < s ∧ wrap64 s = s - 18446744073709551616) := by
  unfold wrap64; omega
theorem add9 (a b : Int) (ha : b64 a) (hb : b64 b) (w : World) : Calls Tryz.prog 13 #[.int .i64 a, .int .i64 b] w fun e w' => e = .returned (.tuple #[.int .i64 (fit9 (a + b)).1, .int .i64 (fit9 (a + b)).2]) ∧ w' = w := by
  obtain ⟨a1, a2⟩ := ha
  obtain ⟨b1, b2⟩ := hb
  have hc := wrap_cases (s := a + b) (by omega) (by omega)
  obtain ⟨v, hv⟩ : ∃ v, wrap64 (a + b) = v := ⟨_, rfl⟩
  rw [hv] at hc
  rcases hc with ⟨c1, c2, c3⟩ | hc
  · rw [fit9_in c1 c2]
    have hx : (!decide (v < a) == decide (b < 0)) = false := by by_cases h0 : b < 0 <;> simp [h0] <;> omega
    have HC : Hid (v = a + b) := c3
    clear c1 c2 c3
    go_enter Tryz.func13, Tryz.ntmps13
    go_wp2_with fail
    all_goals (go_ret2; exact ⟨by show Ending.returned (.tuple #[.int .i64 (wrap64 (a + b)), .int .i64 0]) = _; rw [hv, HC.out], rfl⟩)
  · rw [fit9_out (by omega)]
    have hx : (!decide (v < a) == decide (b < 0)) = true := by by_cases h0 : b < 0 <;> simp [h0] <;> omega
    clear hc
    go_enter Tryz.func13, Tryz.ntmps13
    go_wp2_with fail
    all_goals (go_ret2; exact ⟨rfl, rfl⟩)
theorem sub9 (a b : Int) (ha : b64 a) (hb : b64 b) (w : World) : Calls Tryz.prog 14 #[.int .i64 a, .int .i64 b] w fun e w' => e = .returned (.tuple #[.int .i64 (fit9 (a - b)).1, .int .i64 (fit9 (a - b)).2]) ∧ w' = w := by
  obtain ⟨a1, a2⟩ := ha
  obtain ⟨b1, b2⟩ := hb
  have hc := wrap_cases (s := a - b) (by omega) (by omega)
  obtain ⟨v, hv⟩ : ∃ v, wrap64 (a - b) = v := ⟨_, rfl⟩
  rw [hv] at hc
  rcases hc with ⟨c1, c2, c3⟩ | hc
  · rw [fit9_in c1 c2]
    have hx : (!decide (a < v) == decide (b < 0)) = false := by by_cases h0 : b < 0 <;> simp [h0] <;> omega
    have HC : Hid (v = a - b) := c3
    clear c1 c2 c3
    go_enter Tryz.func14, Tryz.ntmps14
    go_wp2_with fail
    all_goals (go_ret2; exact ⟨by show Ending.returned (.tuple #[.int .i64 (wrap64 (a - b)), .int .i64 0]) = _; rw [hv, HC.out], rfl⟩)
  · rw [fit9_out (by omega)]
    have hx : (!decide (a < v) == decide (b < 0)) = true := by by_cases h0 : b < 0 <;> simp [h0] <;> omega
    clear hc
    go_enter Tryz.func14, Tryz.ntmps14
    go_wp2_with fail
    all_goals (go_ret2; exact ⟨rfl, rfl⟩)
set_option maxHeartbeats 1000000 in
theorem sum9 (a : Option Addr) (len cap : Nat) (zs : List Int) (w : World) (h : Li w a len zs) (hl : len ≤ 20000000000000) :
    Calls Tryz.prog 15 #[.slice a len cap] w fun e w' => e = .returned (.tuple #[.int .i64 (fit9 (lsum zs)).1, .int .i64 (fit9 (lsum zs)).2]) ∧ w' = w := by
  have HL : Hid (Li w a len zs) := h
  clear h
  go_enter Tryz.func15, Tryz.ntmps15
  go_wp2_with fail
  go_loopw [4, 5, 12] (fun lo hi i wr => ∃ (k : Nat) (low high : Int), lo = .int .u64 low ∧ hi = .int .i64 high ∧ i = .int .i64 k ∧ k ≤ len ∧ Hid (SI zs k low high) ∧ wr = w) (fun lo hi i _ => ((len : Int) - intOf i).toNat)
  case atStart => exact ⟨0, 0, 0, rfl, rfl, rfl, by omega, si_nil _, rfl⟩
  case round =>
    obtain ⟨k, low, high, rfl, rfl, rfl, hk, HI, rfl⟩ := hrel
    by_cases hkl : k < len
    · have hki : (k : Int) < len := by omega
      obtain ⟨b, off, rfl, hcell⟩ := HL.out.2.2 (by omega)
      have ck := hcell k hkl
      have hz := HL.out.get hkl
      have HS : Hid _ := si_step HI.out (by rw [HL.out.1]; exact hkl) hz
      obtain ⟨z, hzz⟩ : ∃ z, zs.getD k 0 = z := ⟨_, rfl⟩
      rw [hzz] at ck hz HS
      obtain ⟨b1, b2⟩ := hz
      obtain ⟨i1, i2, i3, i4, i5⟩ := HI.out
      obtain ⟨y, hy⟩ : ∃ y, z % 18446744073709551616 = y := ⟨_, rfl⟩
      rw [hy] at HS
      have hyw : IntKind.u64.wrap z = y := hy
      have hy0 : 0 ≤ y := by omega
      have hyl : y < 18446744073709551616 := by omega
      clear hcell hzz i1
      go_wp2_with (simp only [add64_0 low y i2 hy0])
      go_roundw
      case rel => exact ⟨k + 1, _, _, rfl, rfl, by simp, by omega, HS.out, trivial⟩
      case measure => simp [intOf]; omega
    · have hki : ¬ (k : Int) < len := by omega
      obtain rfl : k = len := by omega
      obtain ⟨sg, hsg⟩ : ∃ sg, sg = if low < 9223372036854775808 then low else low - 18446744073709551616 := ⟨_, rfl⟩
      have hw : wrap64 low = sg := by
        obtain ⟨i1, i2, i3, i4, i5⟩ := HI.out
        unfold wrap64
        rw [hsg]; split <;> omega
      have hI : SI zs zs.length low high := by have := HI.out; rwa [← HL.out.1] at this
      obtain ⟨e1, e2⟩ := si_end hI sg hsg
      obtain ⟨hi2, hh2⟩ : ∃ q, sg / 9223372036854775808 = q := ⟨_, rfl⟩
      rw [hh2] at e1 e2
      have b1 : -9223372036854775808 ≤ sg ∧ sg ≤ 9223372036854775807 := by
        obtain ⟨i1, i2, i3, i4, i5⟩ := HI.out
        rw [hsg]; split <;> omega
      clear hsg hI
      by_cases hq : high = hi2
      · have HE : Hid (fit9 (lsum zs) = (sg, 0)) := e1 hq
        have hqb : (high == hi2) = true := by simpa using hq
        clear e1 e2
        subst hq
        go_wp2_with fail
        go_ret2
        exact ⟨by rw [HE.out]; rfl, rfl⟩
      · have HE : Hid (fit9 (lsum zs) = (0, 5)) := e2 hq
        have hqb : (high == hi2) = false := by simpa using hq
        clear e1 e2
        go_wp2_with fail
        go_ret2
        exact ⟨by rw [HE.out]; rfl, rfl⟩
end Go.Proofs.YtigimdcaakfckaaGreatDoor
namespace Go.Proofs.YtigimdcaakfckaaGreatDoor
open Go.RowKit Go.Shelf
set_option linter.unusedVariables false

theorem results_cu {fn : Func} {i b : Nat} {v u : Value} {tmps : Array Value} {w : World} (h : fn.results = #[.cell i 47]) (hi : tmps.getD i undef = .pointer (some ⟨b, 0, none⟩)) (hv : Va w b 47 #[v, u]) :
    (results fn tmps).run Tryz.prog w = .ok (.agg #[v, u]) w := by
  have c := hv.c0; have d := hv.c1
  rw [Array.getD_eq_getD_getElem?] at hi
  simp [results, h, hi, c, d, go_sem]
theorem euro9 (w : World) : Calls Tryz.prog 43 #[] w fun e w' => e = .returned (.agg #[.string ⟨#[69, 85, 82]⟩, .int .i64 2]) ∧ Below w.heap.size w w' := by
  go_enter Tryz.func43, Tryz.ntmps43
  go_wp2_with fail
  refine bodyPost_ret (results_cu rfl rfl (Va.new w _ _)) rfl ?_
  exact ⟨rfl, (Below.refl _ _).alloc (Nat.le_refl _) _⟩
theorem curE : Cur [69, 85, 82] (2 : Nat) := ⟨rfl, by decide, by omega, by omega⟩
theorem textE (w : World) (hP : Pt w) : Calls Tryz.prog 35 #[.agg #[.string ⟨#[69, 85, 82]⟩, .int .i64 2], .int .i64 (-5)] w fun e w' => e = .returned (.tuple #[.string ⟨#[45, 48, 46, 48, 53, 32, 69, 85, 82]⟩, .int .i64 0]) ∧ Below w.heap.size w w' := by
  refine Calls.mono (text9 [69, 85, 82] 2 (-5) w curE (by omega) (by omega) hP) ?_
  rintro e w' ⟨t, rfl, ht, hb⟩
  have h5 : Tx 10 [53] (-5 : Int).natAbs := ⟨by simp, fun c hc => by simp at hc; subst hc; decide, by decide, fun h => rfl⟩
  have e : t = [53] := ht.unique (by omega) (by omega) h5
  subst e
  exact ⟨rfl, hb⟩
theorem parseE1 (w : World) (hT : Tm w) : Calls Tryz.prog 37 #[.agg #[.string ⟨#[69, 85, 82]⟩, .int .i64 2], .string ⟨#[49, 50, 46, 51, 52, 32, 69, 85, 82]⟩] w fun e w' => e = .returned (.tuple #[.int .i64 1234, .int .i64 0, .int .i64 0]) ∧ Below w.heap.size w w' := by
  have h := parse9 [69, 85, 82] [49, 50, 46, 51, 52, 32, 69, 85, 82] 2 w curE (by decide) hT
  have e : out9 (parR [69, 85, 82] 2 [49, 50, 46, 51, 52, 32, 69, 85, 82]) = (1234, 0, 0) := by decide
  rw [e] at h
  exact h
theorem parseE2 (w : World) (hT : Tm w) : Calls Tryz.prog 37 #[.agg #[.string ⟨#[69, 85, 82]⟩, .int .i64 2], .string ⟨#[45, 48, 46, 48, 48]⟩] w fun e w' => e = .returned (.tuple #[.int .i64 0, .int .i64 4, .int .i64 91]) ∧ Below w.heap.size w w' := by
  have h := parse9 [69, 85, 82] [45, 48, 46, 48, 48] 2 w curE (by decide) hT
  have e : out9 (parR [69, 85, 82] 2 [45, 48, 46, 48, 48]) = (0, 4, 91) := by decide
  rw [e] at h
  exact h
theorem li_va {w : World} {b : Nat} {zs : List Int} (h : Va w b 2 (zs.map (Value.int .i64)).toArray) (hz : ∀ z ∈ zs, b64 z) : Li w (some ⟨b, 0, none⟩) zs.length zs := by
  refine ⟨rfl, hz, fun _ => ⟨b, 0, rfl, fun i hi => ?_⟩⟩
  rw [Nat.zero_add, h.cellAt i]
  simp [List.getD_eq_getElem?_getD, hi]
theorem sumE (b : Nat) (w : World) (h : Va w b 2 #[.int .i64 9223372036854775807, .int .i64 1, .int .i64 (-1)]) : Calls Tryz.prog 15 #[.slice (some ⟨b, 0, none⟩) 3 3] w fun e w' => e = .returned (.tuple #[.int .i64 9223372036854775807, .int .i64 0]) ∧ w' = w := by
  have hL : Li w (some ⟨b, 0, none⟩) 3 [9223372036854775807, 1, -1] := li_va (zs := [9223372036854775807, 1, -1]) h (by intro z hz; simp at hz; rcases hz with rfl | rfl | rfl <;> exact ⟨by omega, by omega⟩)
  have h := sum9 (some ⟨b, 0, none⟩) 3 3 _ w hL (by omega)
  exact h
set_option maxHeartbeats 1000000 in
theorem awake9 (w : World) (hP : Pt w) (hT : Tm w) : Calls Tryz.prog 17 #[] w fun e w' => e = .returned (.bool true) ∧ Below w.heap.size w w' := by
  have HP : Hid (Pt w) := hP
  have HT : Hid (Tm w) := hT
  clear hP hT
  have B0 : Below w.heap.size w w := Below.refl _ _
  go_enter Tryz.func17, Tryz.ntmps17
  go_wp2_with fail
  refine (euro9 _).mono ?_
  rintro e x1 ⟨rfl, hb⟩
  replace B0 := step B0 hb
  clear hb
  go_wp2_with fail
  refine (textE _ (HP.out.to B0)).mono ?_
  rintro e x2 ⟨rfl, hb⟩
  replace B0 := step B0 hb
  clear hb
  go_wp2_with fail
  refine (euro9 _).mono ?_
  rintro e x3 ⟨rfl, hb⟩
  replace B0 := step B0 hb
  clear hb
  go_wp2_with fail
  refine (parseE1 _ (HT.out.to B0)).mono ?_
  rintro e x4 ⟨rfl, hb⟩
  replace B0 := step B0 hb
  clear hb
  go_wp2_with fail
  refine (euro9 _).mono ?_
  rintro e x5 ⟨rfl, hb⟩
  replace B0 := step B0 hb
  clear hb
  go_wp2_with fail
  refine (parseE2 _ (HT.out.to B0)).mono ?_
  rintro e x6 ⟨rfl, hb⟩
  replace B0 := step B0 hb
  clear hb
  go_wp2_with fail
  refine ent1 x6 _ _ (Q := fun W => Calls Tryz.prog _ _ W _) ?_
  intro x7 hb hs_x7 Vl
  replace B0 := step B0 hb
  clear hb hs_x7
  refine (sumE _ _ Vl).mono ?_
  rintro e w' ⟨rfl, hw⟩
  rw [hw]
  clear hw
  go_wp2_with fail
  go_ret
  exact ⟨rfl, B0⟩
end Go.Proofs.YtigimdcaakfckaaGreatDoor
namespace Go.Proofs.YtigimdcaakfckaaGreatDoor
open Go.RowKit Go.Shelf
set_option linter.unusedVariables false

/-- So many limbs in either part at most. -/
def Sz (n : Nat) (v : Rat) : Prop := (v.num.natAbs : Int) < pw n ∧ (v.den : Int) < pw n
theorem Sz.short {n : Nat} {v : Rat} (h : Sz n v) (hn : n ≤ 1024) : Short v := ⟨Int.lt_of_lt_of_le h.1 (pw_mono hn), Int.lt_of_lt_of_le h.2 (pw_mono hn)⟩
theorem Sz.mk {i : Nat} {N : Int} {D : Nat} (hD : D ≠ 0) (h1 : (N.natAbs : Int) < pw i) (h2 : (D : Int) < pw i) : Sz i (mkRat N D) := by
  unfold Sz
  rw [Rat.num_mkRat, Rat.den_mkRat, if_neg hD, if_neg hD]
  refine ⟨Int.lt_of_le_of_lt ?_ h1, Int.lt_of_le_of_lt ?_ h2⟩
  · have : (N / (D.gcd N.natAbs : Nat)).natAbs ≤ N.natAbs := by
      rw [Int.natAbs_ediv_of_dvd (Int.ofNat_dvd_left.2 (Nat.gcd_dvd_right _ _))]
      exact Nat.div_le_self _ _
    exact_mod_cast this
  · exact_mod_cast Nat.div_le_self _ _
theorem sz_sum {P Q x y : Int} (w : 2 * P ≤ Q) (h1 : (x.natAbs : Int) < P) (h2 : (y.natAbs : Int) < P) : ((x + y).natAbs : Int) < Q := by omega
theorem Sz.add {i j : Nat} {u v : Rat} (h1 : Sz i u) (h2 : Sz j v) : Sz (i + j + 1) (u + v) := by
  rw [Rat.add_def']
  have a1 : ((u.num * (v.den : Int)).natAbs : Int) < pw (i + j) := by rw [Int.natAbs_mul, Int.natCast_mul]; exact rt_fits (by omega) (by omega) h1.1 (show ((Int.natAbs (v.den : Int) : Nat) : Int) < _ from h2.2) (Nat.le_refl _)
  have a2 : ((v.num * (u.den : Int)).natAbs : Int) < pw (i + j) := by rw [Int.natAbs_mul, Int.natCast_mul]; exact rt_fits (by omega) (by omega) h2.1 (show ((Int.natAbs (u.den : Int) : Nat) : Int) < _ from h1.2) (by omega)
  refine Sz.mk (Nat.mul_ne_zero u.den_nz v.den_nz) (sz_sum (two_pw _) a1 a2) ?_
  rw [Int.natCast_mul]
  exact rt_fits (by omega) (by omega) h1.2 h2.2 (by omega)
theorem Sz.mul {i j : Nat} {u v : Rat} (h1 : Sz i u) (h2 : Sz j v) : Sz (i + j) (u * v) := by
  rw [Rat.mul_def']
  refine Sz.mk (Nat.mul_ne_zero u.den_nz v.den_nz) ?_ ?_
  · rw [Int.natAbs_mul, Int.natCast_mul]; exact rt_fits (by omega) (by omega) h1.1 h2.1 (Nat.le_refl _)
  · rw [Int.natCast_mul]; exact rt_fits (by omega) (by omega) h1.2 h2.2 (by omega)
theorem Sz.neg {i : Nat} {u : Rat} (h : Sz i u) : Sz i (-u) := by unfold Sz at *; rw [Rat.neg_num, Rat.neg_den, Int.natAbs_neg]; exact h
theorem Sz.sub {i j : Nat} {u v : Rat} (h1 : Sz i u) (h2 : Sz j v) : Sz (i + j + 1) (u - v) := by rw [Rat.sub_eq_add_neg]; exact h1.add h2.neg
theorem Sz.mono {i j : Nat} {u : Rat} (h : Sz i u) (hij : i ≤ j) : Sz j u := ⟨Int.lt_of_lt_of_le h.1 (pw_mono hij), Int.lt_of_lt_of_le h.2 (pw_mono hij)⟩
theorem sz_of {w : World} {s : Bool} {a b : Option Addr} {l m : Nat} {zs ys : List Int} (h1 : Sl w a l zs) (h2 : Sl w b m ys) {n : Nat} (hl : l ≤ n) (hm : m ≤ n) {v : Rat} (hv : iv s zs = v.num) (hd : num ys = v.den) : Sz n v := by
  have z0 := num_nonneg h1.2.1
  have u1 := usedN_le zs
  have u2 := usedN_le ys
  have e1 : (v.num.natAbs : Int) = num zs := by rw [← hv]; cases s <;> simp only [iv_t, iv_f] <;> omega
  refine ⟨by rw [e1]; exact lt_of_used h1.2.1 (by rw [h1.1] at u1; omega), by rw [← hd]; exact lt_of_used h2.2.1 (by rw [h2.1] at u2; omega)⟩

theorem qmul_to (s1 : Bool) (a1 : Option Addr) (l1 c1 : Nat) (z1 : List Int) (b1 : Option Addr) (m1 d1 : Nat) (y1 : List Int) (v1 : Rat) (s2 : Bool) (a2 : Option Addr) (l2 c2 : Nat) (z2 : List Int) (b2 : Option Addr) (m2 d2 : Nat) (y2 : List Int) (v2 : Rat) (v : Rat) (w : World) (h1 : Rt w s1 a1 l1 c1 z1 b1 m1 d1 y1 v1) (h2 : Rt w s2 a2 l2 c2 z2 b2 m2 d2 y2 v2) (he : v1 * v2 = v) (hs : Short v) :
    Calls Tryz.prog 63 #[.agg #[.bool s1, .slice a1 l1 c1, .slice b1 m1 d1], .agg #[.bool s2, .slice a2 l2 c2, .slice b2 m2 d2]] w fun e w' => ∃ s' a' l' c' zs' b' m' d' ds', e = .returned (.tuple #[.agg #[.bool s', .slice a' l' c', .slice b' m' d'], .int .i64 0]) ∧ Rt w' s' a' l' c' zs' b' m' d' ds' v ∧ Below w.heap.size w w' := by
  refine (qmul_any s1 a1 l1 c1 z1 b1 m1 d1 y1 v1 s2 a2 l2 c2 z2 b2 m2 d2 y2 v2 w h1 h2).mono ?_
  rintro e w' ⟨er, s', a', l', c', zs', b', m', d', ds', v', rfl, h', hra, hb⟩
  rw [he] at hra
  rcases hra.out with ⟨-, rfl, rfl⟩ | ⟨hn, -⟩
  · exact ⟨s', a', l', c', zs', b', m', d', ds', rfl, h', hb⟩
  · exact absurd hs hn

theorem qsmall_to (x y : Int) (h1 : -9223372036854775808 ≤ x) (h2 : x ≤ 9223372036854775807) (h3 : -9223372036854775808 ≤ y) (h4 : y ≤ 9223372036854775807) (h0 : y ≠ 0) (v : Rat) (w : World) (he : Rat.divInt x y = v) (hs : Short v) :
    Calls Tryz.prog 52 #[.int .i64 x, .int .i64 y] w fun e w' => ∃ s' a' l' c' zs' b' m' d' ds', e = .returned (.tuple #[.agg #[.bool s', .slice a' l' c', .slice b' m' d'], .int .i64 0]) ∧ Rt w' s' a' l' c' zs' b' m' d' ds' v ∧ Below w.heap.size w w' := by
  refine (qsmall_ok x y h1 h2 h3 h4 h0 w).mono ?_
  rintro e w' ⟨er, s', a', l', c', zs', b', m', d', ds', v', rfl, h', hra, hb⟩
  rw [he] at hra
  rcases hra.out with ⟨-, rfl, rfl⟩ | ⟨hn, -⟩
  · exact ⟨s', a', l', c', zs', b', m', d', ds', rfl, h', hb⟩
  · exact absurd hs hn
end Go.Proofs.YtigimdcaakfckaaGreatDoor
namespace Go.Proofs.YtigimdcaakfckaaGreatDoor
open Go.RowKit Go.Shelf
set_option linter.unusedVariables false

theorem short649 {x y : Int} (h1 : -9223372036854775808 ≤ x) (h2 : x ≤ 9223372036854775807) (h3 : -9223372036854775808 ≤ y) (h4 : y ≤ 9223372036854775807) (h0 : y ≠ 0) : Short (Rat.divInt x y) := by
  have b1 : (9223372036854775808 : Int) < pw 1024 := Int.lt_of_lt_of_le (by decide : (9223372036854775808 : Int) < pw 1) (pw_mono (by omega))
  unfold Short
  rw [Rat.num_divInt, Rat.den_divInt, if_neg h0]
  have g1 : ((y.sign * x) / (y.gcd x : Nat)).natAbs ≤ x.natAbs := by
    have hd : ((y.gcd x : Nat) : Int) ∣ y.sign * x := Int.dvd_mul_of_dvd_right (Int.gcd_dvd_right ..)
    rw [Int.natAbs_ediv_of_dvd hd, Int.natAbs_mul, Int.natAbs_sign_of_ne_zero h0, Nat.one_mul]
    exact Nat.div_le_self _ _
  have g2 := Nat.div_le_self y.natAbs (y.gcd x)
  exact ⟨Int.lt_of_le_of_lt (by omega) b1, Int.lt_of_le_of_lt (by omega) b1⟩
set_option maxHeartbeats 2000000 in
theorem major9 (nm : List UInt8) (D : Nat) (u : Int) (w : World) (hC : Cur nm D) (h1 : -9223372036854775808 ≤ u) (h2 : u ≤ 9223372036854775807) (hT : Tm w) :
    Calls Tryz.prog 25 #[.agg #[.string ⟨nm.toArray⟩, .int .i64 D], .int .i64 u] w fun e w' => ∃ s a l c zs b m d ds, e = .returned (.tuple #[.agg #[.bool s, .slice a l c, .slice b m d], .int .i64 0]) ∧ Rt w' s a l c zs b m d ds (Rat.divInt u ((10 ^ D : Nat) : Int)) ∧ Below w.heap.size w w' := by
  have HT : Hid (Tm w) := hT
  have hD : D ≤ 4 := by have := hC.2.2.2; omega
  clear hT
  obtain ⟨m, hm⟩ : ∃ m, 10 ^ D = m := ⟨_, rfl⟩
  have hm1 : 1 ≤ m ∧ m ≤ 10000 := by rw [← hm]; exact pow_few hD
  have HTC : Hid (∀ W, Below w.heap.size w W → W.cell? ⟨0, D, none⟩ = some (.int .i64 (m : Int))) := fun W hb => by rw [← hm]; exact (HT.out.to hb).cell D hD
  rw [hm]
  clear hm
  have hDi : (D : Int) < 5 := by omega
  have B0 : Below w.heap.size w w := Below.refl _ _
  go_enter Tryz.func25, Tryz.ntmps25
  go_wp2_with fail
  refine ent2 w _ _ _ _ (Q := fun W => Calls Tryz.prog _ _ W _) ?_
  intro x1 hb hs_x1 V0 V1
  replace B0 := step B0 hb
  clear hb hs_x1
  refine (check9_ok nm D hC _).mono ?_
  rintro e x2 ⟨rfl, hb⟩
  replace V0 := Va.after hb V0
  replace V1 := Va.after hb V1
  replace B0 := step B0 hb
  clear hb
  have tc := HTC.out _ B0
  have c_V0 := V0.c0
  have f0_V0 := V0.frozen 0
  have d_V0 := V0.c1
  have f1_V0 := V0.frozen 1
  have l_V0 := V0.lt
  have m_V0 := Nat.le_of_lt l_V0
  go_wp2_with fail
  clear tc
  refine (qsmall_to u (m : Int) h1 h2 (by omega) (by omega) (by omega) (Rat.divInt u (m : Int)) _ rfl (short649 h1 h2 (by omega) (by omega) (by omega))).mono ?_
  rintro e x3 ⟨s', a', l', c', zs', b', m', d', ds', rfl, h', hb⟩
  replace V0 := Va.after hb V0
  replace V1 := Va.after hb V1
  replace B0 := step B0 hb
  clear hb
  clear c_V0 f0_V0 d_V0 f1_V0 l_V0 m_V0
  have c_V1 := V1.d0
  have f0_V1 := V1.frozen 0
  have d_V1 := V1.d1
  have f1_V1 := V1.frozen 1
  have e_V1 := V1.d2
  have f2_V1 := V1.frozen 2
  have l_V1 := V1.lt
  have m_V1 := Nat.le_of_lt l_V1
  go_wp2_with fail
  refine bodyPost_ret (results_rt rfl rfl (V1.set3 _ _ _)) rfl ?_
  exact ⟨s', a', l', c', zs', b', m', d', ds', rfl, h'.far V1 (noInt3 _ _ _ _ _ _ _) (fa3 _ _ _ _ _), belo3 B0 (by omega) _ _ _⟩
theorem major9_no (nm : List UInt8) (D u : Int) (w : World) (hC : ¬ Cur nm D) :
    Calls Tryz.prog 25 #[.agg #[.string ⟨nm.toArray⟩, .int .i64 D], .int .i64 u] w fun e w' => e = .returned (.tuple #[.agg #[.bool false, .slice none 0 0, .slice none 0 0], .int .i64 90]) ∧ Below w.heap.size w w' := by
  have B0 : Below w.heap.size w w := Below.refl _ _
  go_enter Tryz.func25, Tryz.ntmps25
  go_wp2_with fail
  refine ent2 w _ _ _ _ (Q := fun W => Calls Tryz.prog _ _ W _) ?_
  intro x1 hb hs_x1 V0 V1
  replace B0 := step B0 hb
  clear hb hs_x1
  refine (check9_no nm D hC _).mono ?_
  rintro e x2 ⟨rfl, hb⟩
  replace V0 := Va.after hb V0
  replace V1 := Va.after hb V1
  replace B0 := step B0 hb
  clear hb
  have c_V0 := V0.c0
  have f0_V0 := V0.frozen 0
  have d_V0 := V0.c1
  have f1_V0 := V0.frozen 1
  have l_V0 := V0.lt
  have m_V0 := Nat.le_of_lt l_V0
  have c_V1 := V1.d0
  have f0_V1 := V1.frozen 0
  have d_V1 := V1.d1
  have f1_V1 := V1.frozen 1
  have e_V1 := V1.d2
  have f2_V1 := V1.frozen 2
  have l_V1 := V1.lt
  have m_V1 := Nat.le_of_lt l_V1
  go_wp2_with fail
  refine bodyPost_ret (results_rt rfl rfl (V1.set3 _ _ _)) rfl ?_
  exact ⟨rfl, belo3 B0 (by omega) _ _ _⟩
set_option maxHeartbeats 2000000 in
theorem minor9 (nm : List UInt8) (D : Nat) (s : Bool) (a : Option Addr) (l c : Nat) (zs : List Int) (b : Option Addr) (m0 d : Nat) (ds : List Int) (v : Rat) (w : World) (hC : Cur nm D) (hr : Rt w s a l c zs b m0 d ds v) (hT : Tm w) :
    Calls Tryz.prog 33 #[.agg #[.string ⟨nm.toArray⟩, .int .i64 D], .agg #[.bool s, .slice a l c, .slice b m0 d]] w fun e w' => ∃ er s' a' l' c' zs' b' m' d' ds' v', e = .returned (.tuple #[.agg #[.bool s', .slice a' l' c', .slice b' m' d'], .int .i64 er]) ∧ Rt w' s' a' l' c' zs' b' m' d' ds' v' ∧ Hid (RA (v * Rat.divInt ((10 ^ D : Nat) : Int) 1) er v') ∧ Below w.heap.size w w' := by
  have HT : Hid (Tm w) := hT
  have hD : D ≤ 4 := by have := hC.2.2.2; omega
  clear hT
  obtain ⟨m, hm⟩ : ∃ m, 10 ^ D = m := ⟨_, rfl⟩
  have hm1 : 1 ≤ m ∧ m ≤ 10000 := by rw [← hm]; exact pow_few hD
  have HTC : Hid (∀ W, Below w.heap.size w W → W.cell? ⟨0, D, none⟩ = some (.int .i64 (m : Int))) := fun W hb => by rw [← hm]; exact (HT.out.to hb).cell D hD
  rw [hm]
  clear hm
  have hDi : (D : Int) < 5 := by omega
  have B0 : Below w.heap.size w w := Below.refl _ _
  go_enter Tryz.func33, Tryz.ntmps33
  go_wp2_with fail
  refine ent3 w _ _ _ _ _ _ (Q := fun W => Calls Tryz.prog _ _ W _) ?_
  intro x1 hb hs_x1 V0 V2 V1
  replace hr := Rt.after hb hr
  replace B0 := step B0 hb
  clear hb hs_x1
  refine (check9_ok nm D hC _).mono ?_
  rintro e x2 ⟨rfl, hb⟩
  replace V0 := Va.after hb V0
  replace V2 := Va.after hb V2
  replace V1 := Va.after hb V1
  replace hr := Rt.after hb hr
  replace B0 := step B0 hb
  clear hb
  have tc := HTC.out _ B0
  have c_V0 := V0.c0
  have f0_V0 := V0.frozen 0
  have d_V0 := V0.c1
  have f1_V0 := V0.frozen 1
  have l_V0 := V0.lt
  have m_V0 := Nat.le_of_lt l_V0
  go_wp2_with fail
  clear tc
  refine (qsmall_to (m : Int) 1 (by omega) (by omega) (by omega) (by omega) (by omega) (Rat.divInt (m : Int) 1) _ rfl (short649 (by omega) (by omega) (by omega) (by omega) (by omega))).mono ?_
  rintro e x3 ⟨s2, a2, l2, c2, z2, b2, m2, d2, y2, rfl, h2, hb⟩
  replace V0 := Va.after hb V0
  replace V2 := Va.after hb V2
  replace V1 := Va.after hb V1
  replace hr := Rt.after hb hr
  replace B0 := step B0 hb
  clear hb
  clear c_V0 f0_V0 d_V0 f1_V0 l_V0 m_V0
  have c_V1 := V1.d0
  have f0_V1 := V1.frozen 0
  have d_V1 := V1.d1
  have f1_V1 := V1.frozen 1
  have e_V1 := V1.d2
  have f2_V1 := V1.frozen 2
  have l_V1 := V1.lt
  have m_V1 := Nat.le_of_lt l_V1
  have c_V2 := V2.d0
  have f0_V2 := V2.frozen 0
  have d_V2 := V2.d1
  have f1_V2 := V2.frozen 1
  have e_V2 := V2.d2
  have f2_V2 := V2.frozen 2
  have l_V2 := V2.lt
  have m_V2 := Nat.le_of_lt l_V2
  go_wp2_with fail
  refine ent1 x3 _ _ (Q := fun W => Calls Tryz.prog _ _ W _) ?_
  intro x4 hb hs_x4 V3
  replace V0 := Va.after hb V0
  replace V2 := Va.after hb V2
  replace V1 := Va.after hb V1
  replace hr := Rt.after hb hr
  replace h2 := Rt.after hb h2
  replace B0 := step B0 hb
  clear hb hs_x4
  refine (qmul_any s a l c zs b m0 d ds v s2 a2 l2 c2 z2 b2 m2 d2 y2 (Rat.divInt (m : Int) 1) _ hr h2).mono ?_
  rintro e x5 ⟨er, s', a', l', c', zs', b', m', d', ds', v', rfl, h', hra, hb⟩
  replace V0 := Va.after hb V0
  replace V2 := Va.after hb V2
  replace V1 := Va.after hb V1
  replace V3 := Va.after hb V3
  replace hr := Rt.after hb hr
  replace h2 := Rt.after hb h2
  replace B0 := step B0 hb
  clear hb
  clear c_V1 f0_V1 d_V1 f1_V1 e_V1 f2_V1 l_V1 m_V1 c_V2 f0_V2 d_V2 f1_V2 e_V2 f2_V2 l_V2 m_V2
  have c_V1 := V1.d0
  have f0_V1 := V1.frozen 0
  have d_V1 := V1.d1
  have f1_V1 := V1.frozen 1
  have e_V1 := V1.d2
  have f2_V1 := V1.frozen 2
  have l_V1 := V1.lt
  have m_V1 := Nat.le_of_lt l_V1
  go_wp2_with fail
  refine bodyPost_ret (results_rt rfl rfl (V1.set3 _ _ _)) rfl ?_
  exact ⟨er, s', a', l', c', zs', b', m', d', ds', v', rfl, h'.far V1 (noInt3 _ _ _ _ _ _ _) (fa3 _ _ _ _ _), hra, belo3 B0 (by omega) _ _ _⟩
theorem minor9_no (nm : List UInt8) (D : Int) (s : Bool) (a : Option Addr) (l c : Nat) (b : Option Addr) (m0 d : Nat) (w : World) (hC : ¬ Cur nm D) :
    Calls Tryz.prog 33 #[.agg #[.string ⟨nm.toArray⟩, .int .i64 D], .agg #[.bool s, .slice a l c, .slice b m0 d]] w fun e w' => e = .returned (.tuple #[.agg #[.bool false, .slice none 0 0, .slice none 0 0], .int .i64 90]) ∧ Below w.heap.size w w' := by
  have B0 : Below w.heap.size w w := Below.refl _ _
  go_enter Tryz.func33, Tryz.ntmps33
  go_wp2_with fail
  refine ent3 w _ _ _ _ _ _ (Q := fun W => Calls Tryz.prog _ _ W _) ?_
  intro x1 hb hs_x1 V0 V2 V1
  replace B0 := step B0 hb
  clear hb hs_x1
  refine (check9_no nm D hC _).mono ?_
  rintro e x2 ⟨rfl, hb⟩
  replace V0 := Va.after hb V0
  replace V2 := Va.after hb V2
  replace V1 := Va.after hb V1
  replace B0 := step B0 hb
  clear hb
  have c_V0 := V0.c0
  have f0_V0 := V0.frozen 0
  have d_V0 := V0.c1
  have f1_V0 := V0.frozen 1
  have l_V0 := V0.lt
  have m_V0 := Nat.le_of_lt l_V0
  have c_V1 := V1.d0
  have f0_V1 := V1.frozen 0
  have d_V1 := V1.d1
  have f1_V1 := V1.frozen 1
  have e_V1 := V1.d2
  have f2_V1 := V1.frozen 2
  have l_V1 := V1.lt
  have m_V1 := Nat.le_of_lt l_V1
  go_wp2_with fail
  refine bodyPost_ret (results_rt rfl rfl (V1.set3 _ _ _)) rfl ?_
  exact ⟨rfl, belo3 B0 (by omega) _ _ _⟩
end Go.Proofs.YtigimdcaakfckaaGreatDoor
namespace Go.Proofs.YtigimdcaakfckaaGreatDoor
open Go.RowKit Go.Shelf
set_option linter.unusedVariables false

theorem parse9_some {nm s : List UInt8} {D n : Nat} {u : Int} (w : World) (hC : Cur nm D) (hs : s.length ≤ 140737488355328) (hTm : Tm w) (h : parR nm D s = (n, some u)) :
    Calls Tryz.prog 37 #[.agg #[.string ⟨nm.toArray⟩, .int .i64 D], .string ⟨s.toArray⟩] w fun e w' => e = .returned (.tuple #[.int .i64 u, .int .i64 0, .int .i64 0]) ∧ Below w.heap.size w w' := by
  have := parse9 nm s D w hC hs hTm
  rw [h] at this
  exact this
theorem parse9_none {nm s : List UInt8} {D n : Nat} (w : World) (hC : Cur nm D) (hs : s.length ≤ 140737488355328) (hTm : Tm w) (h : parR nm D s = (n, none)) :
    Calls Tryz.prog 37 #[.agg #[.string ⟨nm.toArray⟩, .int .i64 D], .string ⟨s.toArray⟩] w fun e w' => e = .returned (.tuple #[.int .i64 0, .int .i64 n, .int .i64 91]) ∧ Below w.heap.size w w' := by
  have := parse9 nm s D w hC hs hTm
  rw [h] at this
  exact this
theorem conv1 (w : World) (c : UInt8) : (convert 81 9 (.slice (some ⟨w.heap.size, 0, none⟩) 1 1)).run Tryz.prog (w.alloc (.cells #[.int .u8 (c.toNat : Int)] 5)) = .ok (.string ⟨#[c]⟩) (w.alloc (.cells #[.int .u8 (c.toNat : Int)] 5)) :=
  run_convert_bytes_back (P := Tryz.prog) (w.alloc (.cells #[.int .u8 (c.toNat : Int)] 5)) 81 9 5 ⟨w.heap.size, 0, none⟩ 1 [c] Tryz.underlying81 Tryz.underlying5 Tryz.underlying9 (fun j hj => by
    obtain rfl : j = 0 := by simpa using hj
    exact Va.cell (Va.new w _ _))
theorem divInt_1 (u : Int) : Rat.divInt u 1 = (u : Rat) := (Rat.divInt_ofNat u 1).trans (Rat.mkRat_one u)
theorem back_rat (u : Int) {m : Nat} (hm : 1 ≤ m) : Rat.divInt u (m : Int) * Rat.divInt (m : Int) 1 = (u : Rat) := by
  rw [Rat.divInt_mul_divInt, show (m : Int) * 1 = 1 * (m : Int) by omega, Rat.divInt_mul_right (by omega : (m : Int) ≠ 0)]
  exact divInt_1 u
theorem minorBack (nm : List UInt8) (D : Nat) (u : Int) (s : Bool) (a : Option Addr) (l c : Nat) (zs : List Int) (b : Option Addr) (m0 d : Nat) (ds : List Int) (w : World) (hC : Cur nm D) (h1 : -9223372036854775808 ≤ u) (h2 : u ≤ 9223372036854775807) (hr : Rt w s a l c zs b m0 d ds (Rat.divInt u ((10 ^ D : Nat) : Int))) (hT : Tm w) :
    Calls Tryz.prog 33 #[.agg #[.string ⟨nm.toArray⟩, .int .i64 D], .agg #[.bool s, .slice a l c, .slice b m0 d]] w fun e w' => ∃ s' a' l' c' zs' b' m' d' ds', e = .returned (.tuple #[.agg #[.bool s', .slice a' l' c', .slice b' m' d'], .int .i64 0]) ∧ It w' s' a' l' c' zs' ∧ Nt w' b' m' d' ds' ∧ iv s' zs' = u ∧ dn ds' = 1 ∧ Below w.heap.size w w' := by
  refine (minor9 nm D s a l c zs b m0 d ds _ w hC hr hT).mono ?_
  rintro e w' ⟨er, s', a', l', c', zs', b', m', d', ds', v', rfl, h', hra, hb⟩
  have hD : D ≤ 4 := by have := hC.2.2.2; omega
  rw [back_rat u (pow_few hD).1] at hra
  have hsh : Short (u : Rat) := by
    have := short649 h1 h2 (y := 1) (by omega) (by omega) (by omega)
    rwa [divInt_1] at this
  rcases hra.out with ⟨-, rfl, rfl⟩ | ⟨hn, -⟩
  · exact ⟨s', a', l', c', zs', b', m', d', ds', rfl, h'.1, h'.2.1, by rw [h'.2.2.1]; simp, by rw [h'.2.2.2.1]; simp, hb⟩
  · exact absurd hsh hn
set_option maxHeartbeats 8000000 in
set_option maxRecDepth 20000 in
theorem back_walk (nm : List UInt8) (D0 u mb : Int) (w : World) (h1 : -9223372036854775808 ≤ u) (h2 : u ≤ 9223372036854775807) (m1 : 0 ≤ mb) (m2 : mb ≤ 255) (hP : Pt w) (hT : Tm w) :
    Calls Tryz.prog 8 #[.agg #[.string ⟨nm.toArray⟩, .int .i64 D0], .int .i64 u, .int .u8 mb] w fun e w' => e = .returned (.bool true) ∧ Below w.heap.size w w' := by
  have HP : Hid (Pt w) := hP
  have HT : Hid (Tm w) := hT
  clear hP hT
  obtain ⟨c, rfl⟩ : ∃ c : UInt8, mb = (c.toNat : Int) := ⟨UInt8.ofNatLT mb.toNat (by show mb.toNat < 256; omega), by rw [UInt8.toNat_ofNatLT]; omega⟩
  clear m1 m2
  by_cases hC : Cur nm D0
  · obtain ⟨D, rfl⟩ : ∃ D : Nat, D0 = D := ⟨D0.toNat, by have := hC.2.2.1; omega⟩
    have hD : D ≤ 4 := by have := hC.2.2.2; omega
    have B0 : Below w.heap.size w w := Below.refl _ _
    go_enter Tryz.func8, Tryz.ntmps8
    go_wp2_with fail
    refine ent1 w _ _ (Q := fun W => Calls Tryz.prog _ _ W _) ?_
    intro x1 hb hs_x1 V0
    replace B0 := step B0 hb
    clear hb hs_x1
    refine (awake9 _ (HP.out.to B0) (HT.out.to B0)).mono ?_
    rintro e x2 ⟨rfl, hb⟩
    replace V0 := Va.after hb V0
    replace B0 := step B0 hb
    clear hb
    have c_V0 := V0.c0
    have f0_V0 := V0.frozen 0
    have d_V0 := V0.c1
    have f1_V0 := V0.frozen 1
    have l_V0 := V0.lt
    have m_V0 := Nat.le_of_lt l_V0
    go_wp2_with fail
    refine (text9 nm D u _ hC h1 h2 (HP.out.to B0)).mono ?_
    rintro e x3 ⟨t, rfl, ht, hb⟩
    replace V0 := Va.after hb V0
    replace B0 := step B0 hb
    clear hb
    have htl := tx_len19 ht h1 h2
    obtain ⟨s, hs⟩ : ∃ s, amt D nm t u = s := ⟨_, rfl⟩
    have hpb := par_back (nm := nm) (D := D) h1 h2 ht
    rw [hs] at hpb ⊢
    have HPB : Hid (parR nm D s = (s.length, some u)) := hpb
    have hsl : s.length ≤ 100 := by
      rw [← hs]; unfold amt textL ptL sgL; have hpl := padL_len D t; have hnl := hC.1
      split <;> split <;> simp <;> omega
    clear hs hpb ht htl
    clear c_V0 f0_V0 d_V0 f1_V0 l_V0 m_V0
    have c_V0 := V0.c0
    have f0_V0 := V0.frozen 0
    have d_V0 := V0.c1
    have f1_V0 := V0.frozen 1
    have l_V0 := V0.lt
    have m_V0 := Nat.le_of_lt l_V0
    go_wp2_with fail
    refine (check9_ok nm D hC _).mono ?_
    rintro e x4 ⟨rfl, hb⟩
    replace V0 := Va.after hb V0
    replace B0 := step B0 hb
    clear hb
    clear c_V0 f0_V0 d_V0 f1_V0 l_V0 m_V0
    have c_V0 := V0.c0
    have f0_V0 := V0.frozen 0
    have d_V0 := V0.c1
    have f1_V0 := V0.frozen 1
    have l_V0 := V0.lt
    have m_V0 := Nat.le_of_lt l_V0
    go_wp2_with fail
    refine (parse9_some _ hC (by omega) (HT.out.to B0) HPB.out).mono ?_
    rintro e x5 ⟨rfl, hb⟩
    replace V0 := Va.after hb V0
    replace B0 := step B0 hb
    clear hb
    clear c_V0 f0_V0 d_V0 f1_V0 l_V0 m_V0
    have c_V0 := V0.c0
    have f0_V0 := V0.frozen 0
    have d_V0 := V0.c1
    have f1_V0 := V0.frozen 1
    have l_V0 := V0.lt
    have m_V0 := Nat.le_of_lt l_V0
    go_wp2_with fail
    refine (major9 nm D u _ hC h1 h2 (HT.out.to B0)).mono ?_
    rintro e x6 ⟨s1, a1, l1, c1, z1, b1, m1', d1, y1, rfl, hR, hb⟩
    replace V0 := Va.after hb V0
    replace B0 := step B0 hb
    clear hb
    clear c_V0 f0_V0 d_V0 f1_V0 l_V0 m_V0
    have c_V0 := V0.c0
    have f0_V0 := V0.frozen 0
    have d_V0 := V0.c1
    have f1_V0 := V0.frozen 1
    have l_V0 := V0.lt
    have m_V0 := Nat.le_of_lt l_V0
    go_wp2_with fail
    refine ent1 x6 _ _ (Q := fun W => Calls Tryz.prog _ _ W _) ?_
    intro x7 hb hs_x7 V1
    replace V0 := Va.after hb V0
    replace hR := Rt.after hb hR
    replace B0 := step B0 hb
    clear hb hs_x7
    refine (minorBack nm D u s1 a1 l1 c1 z1 b1 m1' d1 y1 _ hC h1 h2 hR (HT.out.to B0)).mono ?_
    rintro e x8 ⟨s2, a2, l2, c2, z2, b2, m3, d2, y2, rfl, hI, hN, hiv, hdn, hb⟩
    replace V0 := Va.after hb V0
    replace V1 := Va.after hb V1
    replace hR := Rt.after hb hR
    replace B0 := step B0 hb
    clear hb
    clear c_V0 f0_V0 d_V0 f1_V0 l_V0 m_V0
    have c_V0 := V0.c0
    have f0_V0 := V0.frozen 0
    have d_V0 := V0.c1
    have f1_V0 := V0.frozen 1
    have l_V0 := V0.lt
    have m_V0 := Nat.le_of_lt l_V0
    go_wp2_with fail
    refine ent1 x8 _ _ (Q := fun W => Calls Tryz.prog _ _ W _) ?_
    intro x9 hb hs_x9 V2
    replace V0 := Va.after hb V0
    replace V1 := Va.after hb V1
    replace hR := Rt.after hb hR
    replace hI := It.after hb hI
    replace hN := Nt.after hb hN
    replace B0 := step B0 hb
    clear hb hs_x9
    clear c_V0 f0_V0 d_V0 f1_V0 l_V0 m_V0
    clear V1 hR
    refine (qnum_any s2 a2 l2 c2 b2 m3 d2 _).mono ?_
    rintro e x10 ⟨rfl, hb⟩
    replace V0 := Va.after hb V0
    replace V2 := Va.after hb V2
    replace hI := It.after hb hI
    replace hN := Nt.after hb hN
    replace B0 := step B0 hb
    clear hb
    have c_V0 := V0.c0
    have f0_V0 := V0.frozen 0
    have d_V0 := V0.c1
    have f1_V0 := V0.frozen 1
    have l_V0 := V0.lt
    have m_V0 := Nat.le_of_lt l_V0
    have c_V2 := V2.d0
    have f0_V2 := V2.frozen 0
    have d_V2 := V2.d1
    have f1_V2 := V2.frozen 1
    have e_V2 := V2.d2
    have f2_V2 := V2.frozen 2
    have l_V2 := V2.lt
    have m_V2 := Nat.le_of_lt l_V2
    go_wp2_with fail
    have hnw := narrow_in s2 a2 l2 c2 z2 x10 hI (by rw [hiv]; exact h1) (by rw [hiv]; exact h2)
    rw [hiv] at hnw
    clear hiv
    refine (hnw).mono ?_
    rintro e x11 ⟨rfl, hb⟩
    replace V0 := Va.after hb V0
    replace V2 := Va.after hb V2
    replace hI := It.after hb hI
    replace hN := Nt.after hb hN
    replace B0 := step B0 hb
    clear hb
    clear c_V0 f0_V0 d_V0 f1_V0 l_V0 m_V0 c_V2 f0_V2 d_V2 f1_V2 e_V2 f2_V2 l_V2 m_V2
    have c_V0 := V0.c0
    have f0_V0 := V0.frozen 0
    have d_V0 := V0.c1
    have f1_V0 := V0.frozen 1
    have l_V0 := V0.lt
    have m_V0 := Nat.le_of_lt l_V0
    have c_V2 := V2.d0
    have f0_V2 := V2.frozen 0
    have d_V2 := V2.d1
    have f1_V2 := V2.frozen 1
    have e_V2 := V2.d2
    have f2_V2 := V2.frozen 2
    have l_V2 := V2.lt
    have m_V2 := Nat.le_of_lt l_V2
    go_wp2_with fail
    refine (rden_any s2 a2 l2 c2 b2 m3 d2 y2 _ hN).mono ?_
    rintro e x12 ⟨b4, m4, d4, y4, rfl, hN4, e4, hb⟩
    replace V0 := Va.after hb V0
    replace V2 := Va.after hb V2
    replace hI := It.after hb hI
    replace hN := Nt.after hb hN
    replace B0 := step B0 hb
    clear hb
    rw [hdn] at e4
    clear hdn
    clear c_V0 f0_V0 d_V0 f1_V0 l_V0 m_V0 c_V2 f0_V2 d_V2 f1_V2 e_V2 f2_V2 l_V2 m_V2
    have c_V0 := V0.c0
    have f0_V0 := V0.frozen 0
    have d_V0 := V0.c1
    have f1_V0 := V0.frozen 1
    have l_V0 := V0.lt
    have m_V0 := Nat.le_of_lt l_V0
    go_wp2_with fail
    have hu4 := uint64_small b4 m4 d4 y4 x12 hN4 (by rw [e4]; omega)
    rw [e4] at hu4
    clear e4
    refine (hu4).mono ?_
    rintro e x13 ⟨rfl, hb⟩
    replace V0 := Va.after hb V0
    replace V2 := Va.after hb V2
    replace hI := It.after hb hI
    replace hN := Nt.after hb hN
    replace hN4 := Nt.after hb hN4
    replace B0 := step B0 hb
    clear hb
    clear c_V0 f0_V0 d_V0 f1_V0 l_V0 m_V0
    have c_V0 := V0.c0
    have f0_V0 := V0.frozen 0
    have d_V0 := V0.c1
    have f1_V0 := V0.frozen 1
    have l_V0 := V0.lt
    have m_V0 := Nat.le_of_lt l_V0
    go_wp2_with fail
    clear c_V0 f0_V0 d_V0 f1_V0 l_V0 m_V0
    have HV0 : Hid (Va x13 w.heap.size 47 #[.string ⟨nm.toArray⟩, .int .i64 D]) := V0
    have HB0 : Hid (Below w.heap.size w x13) := B0
    clear V0 V2 hI hN hN4 B0 hnw hu4
    go_loopw [18] (fun i wr => ∃ j : Nat, i = .int .i64 j ∧ j ≤ s.length ∧ Hid (Va wr w.heap.size 47 #[.string ⟨nm.toArray⟩, .int .i64 D]) ∧ Hid (Below w.heap.size w wr)) (fun i _ => ((s.length : Int) - intOf i).toNat)
    case atStart => exact ⟨0, rfl, by omega, HV0.out, HB0.out⟩
    case round =>
      clear HV0 HB0
      obtain ⟨j, rfl, hj, HV0, HB0⟩ := hrel
      have V0 := HV0.out
      have B0 := HB0.out
      by_cases hjl : j < s.length
      ·
        have hji : (j : Int) < s.length := by omega
        have s1 := slice_hi s (j : Int) j rfl hj
        have HPR : Hid (parR nm D (s.take j) = (j, none)) := (par_good nm D).pre s _ u HPB.out j hjl
        have htk : (s.take j).length ≤ 140737488355328 := by simp; omega
        have c_V0 := V0.c0
        have f0_V0 := V0.frozen 0
        have d_V0 := V0.c1
        have f1_V0 := V0.frozen 1
        have l_V0 := V0.lt
        have m_V0 := Nat.le_of_lt l_V0
        go_wp2_with fail
        clear c_V0 f0_V0 d_V0 f1_V0 l_V0 m_V0
        refine wp_region_noPanic ?_
        replace V0 : Va wr.drew _ _ _ := V0
        replace B0 := Below.drew B0
        refine wp_region_held_drew (S := (fun W => W.cell? ⟨w.heap.size, 0, none⟩ = some (.string ⟨nm.toArray⟩) ∧ W.cell? ⟨w.heap.size, 1, none⟩ = some (.int .i64 D))) (by kernel_rfl) ⟨V0.c0, V0.c1⟩ (fun hHeld => ?_)
        obtain ⟨x14, hxd⟩ : ∃ xd, xd = wr.drew := ⟨_, rfl⟩
        rw [← hxd] at V0 B0 hHeld ⊢
        clear hxd
        refine wpAnyH_take (i := 0) (v := ?_) rfl (by kernel_rfl) (by kernel_rfl) (by kernel_rfl) (fun _ _ _ h => h) (Or.inl ⟨by rfl, ?_⟩) hHeld ?_
        rotate_left
        · (intro W hSw; (try dsimp only at hSw); go_simp; all_goals (with_reducible rfl))
        simp only [List.getElem_toArray, List.getElem_cons_zero, Act.put, List.setIfInBounds_toArray, List.set_cons_zero, List.set_cons_succ]
        refine wpAnyH_take (i := 1) (v := ?_) rfl (by kernel_rfl) (by kernel_rfl) (by kernel_rfl) (fun _ _ _ h => h) (Or.inl ⟨by rfl, ?_⟩) hHeld ?_
        rotate_left
        · (intro W hSw; (try dsimp only at hSw); go_simp; all_goals (with_reducible rfl))
        simp only [List.getElem_toArray, List.getElem_cons_zero, List.getElem_cons_succ, Act.put, List.setIfInBounds_toArray, List.set_cons_zero, List.set_cons_succ]
        refine wpAnyH_take (i := 2) (v := ?_) rfl (by kernel_rfl) (by kernel_rfl) (by kernel_rfl) (fun _ _ _ h => h) (Or.inl ⟨by rfl, ?_⟩) hHeld ?_
        rotate_left
        · (intro W hSw; (try dsimp only at hSw); go_simp; all_goals (with_reducible rfl))
        simp only [List.getElem_toArray, List.getElem_cons_zero, List.getElem_cons_succ, Act.put, List.setIfInBounds_toArray, List.set_cons_zero, List.set_cons_succ]
        refine wpAnyH_take (i := 3) (v := ?_) rfl (by kernel_rfl) (by kernel_rfl) (by kernel_rfl) (fun _ _ _ h => h) (Or.inl ⟨by rfl, ?_⟩) hHeld ?_
        rotate_left
        · (intro W hSw; (try dsimp only at hSw); go_simp; all_goals (with_reducible rfl))
        simp only [List.getElem_toArray, List.getElem_cons_zero, List.getElem_cons_succ, Act.put, List.setIfInBounds_toArray, List.set_cons_zero, List.set_cons_succ]
        refine wpAnyH_ready (rs := [4]) (by kernel_rfl) (by simp) ?_
        refine AllReadyH.cons rfl (fun K hK => ?_) AllReadyH.nil
        simp only [List.getElem_toArray, List.getElem_cons_zero, List.getElem_cons_succ]
        go_simp
        refine (parse9_none _ hC htk (HT.out.to B0) HPR.out).mono ?_
        rintro e x15 ⟨rfl, hb⟩
        replace V0 := Va.after hb V0
        replace B0 := step B0 hb
        clear hb
        try go_wp2_with fail
        refine hK.out _ _ ⟨V0.c0, V0.c1⟩ (fun hHeld => ?_)
        clear hK K
        refine wpAnyH_take (i := 5) (v := ?_) rfl (by kernel_rfl) (by kernel_rfl) (by kernel_rfl) (fun _ _ _ h => h) (Or.inl ⟨by rfl, ?_⟩) hHeld ?_
        rotate_left
        · (intro W hSw; (try dsimp only at hSw); go_simp; all_goals (with_reducible rfl))
        simp only [List.getElem_toArray, List.getElem_cons_zero, List.getElem_cons_succ, Act.put, List.setIfInBounds_toArray, List.set_cons_zero, List.set_cons_succ]
        refine wpAnyH_take (i := 6) (v := ?_) rfl (by kernel_rfl) (by kernel_rfl) (by kernel_rfl) (fun _ _ _ h => h) (Or.inl ⟨by rfl, ?_⟩) hHeld ?_
        rotate_left
        · (intro W hSw; (try dsimp only at hSw); go_simp; all_goals (with_reducible rfl))
        simp only [List.getElem_toArray, List.getElem_cons_zero, List.getElem_cons_succ, Act.put, List.setIfInBounds_toArray, List.set_cons_zero, List.set_cons_succ]
        refine wpAnyH_take (i := 7) (v := ?_) rfl (by kernel_rfl) (by kernel_rfl) (by kernel_rfl) (fun _ _ _ h => h) (Or.inl ⟨by rfl, ?_⟩) hHeld ?_
        rotate_left
        · (intro W hSw; (try dsimp only at hSw); go_simp; all_goals (with_reducible rfl))
        simp only [List.getElem_toArray, List.getElem_cons_zero, List.getElem_cons_succ, Act.put, List.setIfInBounds_toArray, List.set_cons_zero, List.set_cons_succ]
        refine wpAnyH_take (i := 8) (v := ?_) rfl (by kernel_rfl) (by kernel_rfl) (by kernel_rfl) (fun _ _ _ h => h) (Or.inl ⟨by rfl, ?_⟩) hHeld ?_
        rotate_left
        · (intro W hSw; (try dsimp only at hSw); go_simp; all_goals (with_reducible rfl))
        simp only [List.getElem_toArray, List.getElem_cons_zero, List.getElem_cons_succ, Act.put, List.setIfInBounds_toArray, List.set_cons_zero, List.set_cons_succ]
        refine wpAnyH_take (i := 9) (v := ?_) rfl (by kernel_rfl) (by kernel_rfl) (by kernel_rfl) (fun _ _ _ h => h) (Or.inl ⟨by rfl, ?_⟩) hHeld ?_
        rotate_left
        · (intro W hSw; (try dsimp only at hSw); go_simp; all_goals (with_reducible rfl))
        simp only [List.getElem_toArray, List.getElem_cons_zero, List.getElem_cons_succ, Act.put, List.setIfInBounds_toArray, List.set_cons_zero, List.set_cons_succ]
        refine wpAnyH_take (i := 10) (v := ?_) rfl (by kernel_rfl) (by kernel_rfl) (by kernel_rfl) (fun _ _ _ h => h) (Or.inl ⟨by rfl, ?_⟩) hHeld ?_
        rotate_left
        · (intro W hSw; (try dsimp only at hSw); go_simp; all_goals (with_reducible rfl))
        simp only [List.getElem_toArray, List.getElem_cons_zero, List.getElem_cons_succ, Act.put, List.setIfInBounds_toArray, List.set_cons_zero, List.set_cons_succ]
        refine wpAnyH_take (i := 11) (v := ?_) rfl (by kernel_rfl) (by kernel_rfl) (by kernel_rfl) (fun _ _ _ h => h) (Or.inl ⟨by rfl, ?_⟩) hHeld ?_
        rotate_left
        · (intro W hSw; (try dsimp only at hSw); go_simp; all_goals (with_reducible rfl))
        simp only [List.getElem_toArray, List.getElem_cons_zero, List.getElem_cons_succ, Act.put, List.setIfInBounds_toArray, List.set_cons_zero, List.set_cons_succ]
        refine wpAnyH_done (by kernel_rfl) ?_ _
        refine NoPanic.normal ?_
        clear hHeld
        have c_V0 := V0.c0
        have f0_V0 := V0.frozen 0
        have d_V0 := V0.c1
        have f1_V0 := V0.frozen 1
        have l_V0 := V0.lt
        have m_V0 := Nat.le_of_lt l_V0
        go_wp2_with fail
        clear c_V0 f0_V0 d_V0 f1_V0 l_V0 m_V0
        go_roundw
        case rel => exact ⟨j + 1, by simp, by omega, V0, B0⟩
        case measure => simp [intOf]; omega
      ·
        have hji : ¬ (j : Int) < s.length := by omega
        have cv := conv1 wr c
        have ct := cat s [c]
        have HSF : Hid (parR nm D (s ++ [c]) = (s.length, none)) := (par_good nm D).suf s _ u c HPB.out
        have hsc : (s ++ [c]).length ≤ 140737488355328 := by simp; omega
        have c_V0 := V0.c0
        have f0_V0 := V0.frozen 0
        have d_V0 := V0.c1
        have f1_V0 := V0.frozen 1
        have l_V0 := V0.lt
        have m_V0 := Nat.le_of_lt l_V0
        go_wp2_with fail
        clear cv ct
        refine ent1 wr _ _ (Q := fun W => Calls Tryz.prog _ _ W _) ?_
        intro x16 hb hs_x16 Vb
        replace V0 := Va.after hb V0
        replace B0 := step B0 hb
        clear hb hs_x16
        refine (parse9_none _ hC hsc (HT.out.to B0) HSF.out).mono ?_
        rintro e x17 ⟨rfl, hb⟩
        replace V0 := Va.after hb V0
        replace Vb := Va.after hb Vb
        replace B0 := step B0 hb
        clear hb
        clear c_V0 f0_V0 d_V0 f1_V0 l_V0 m_V0
        go_wp2_with fail
        go_ret
        exact ⟨by simp, B0⟩
  · have hck := check9_no nm D0 hC
    have htx := text9_no nm D0 u (hC := hC)
    have B0 : Below w.heap.size w w := Below.refl _ _
    go_enter Tryz.func8, Tryz.ntmps8
    go_wp2_with fail
    refine ent1 w _ _ (Q := fun W => Calls Tryz.prog _ _ W _) ?_
    intro x1 hb hs_x1 V0
    replace B0 := step B0 hb
    clear hb hs_x1
    refine (awake9 _ (HP.out.to B0) (HT.out.to B0)).mono ?_
    rintro e x2 ⟨rfl, hb⟩
    replace V0 := Va.after hb V0
    replace B0 := step B0 hb
    clear hb
    have c_V0 := V0.c0
    have f0_V0 := V0.frozen 0
    have d_V0 := V0.c1
    have f1_V0 := V0.frozen 1
    have l_V0 := V0.lt
    have m_V0 := Nat.le_of_lt l_V0
    go_wp2_with fail
    refine (htx _).mono ?_
    rintro e x3 ⟨rfl, hb⟩
    replace V0 := Va.after hb V0
    replace B0 := step B0 hb
    clear hb
    clear c_V0 f0_V0 d_V0 f1_V0 l_V0 m_V0
    have c_V0 := V0.c0
    have f0_V0 := V0.frozen 0
    have d_V0 := V0.c1
    have f1_V0 := V0.frozen 1
    have l_V0 := V0.lt
    have m_V0 := Nat.le_of_lt l_V0
    go_wp2_with fail
    refine (hck _).mono ?_
    rintro e x4 ⟨rfl, hb⟩
    replace V0 := Va.after hb V0
    replace B0 := step B0 hb
    clear hb
    clear c_V0 f0_V0 d_V0 f1_V0 l_V0 m_V0
    have c_V0 := V0.c0
    have f0_V0 := V0.frozen 0
    have d_V0 := V0.c1
    have f1_V0 := V0.frozen 1
    have l_V0 := V0.lt
    have m_V0 := Nat.le_of_lt l_V0
    go_wp2_with fail
    go_ret
    exact ⟨by simp, B0⟩
end Go.Proofs.YtigimdcaakfckaaGreatDoor
namespace Go.Proofs.YtigimdcaakfckaaGreatDoor
open Go.RowKit Go.Shelf
set_option linter.unusedVariables false

theorem gPow : Tryz.prog.globalNamed "internal/strconv.uint64pow10" = some 6 := by kernel_rfl
theorem gPowT : (Tryz.prog.globals[6]?).map (·.type) = some 223 := by kernel_rfl
theorem cPow : Tryz.prog.cellsOf 223 = 20 := by kernel_rfl
theorem cU64 : Tryz.prog.cellsOf 77 = 1 := by kernel_rfl
theorem ptOf {W : World} {rest : List (String × DataW Unit)} (h : laidMet Tryz.prog (("internal/strconv.uint64pow10", Rows.laid_internal_strconv_uint64pow10) :: rest) W) : Pt W :=
  Go.Lib.tabIs_of_head (zs := Go.Lib.pow10Tab) gPow gPowT Tryz.underlying223 Tryz.underlying77 cU64 cPow h
end Go.Proofs.YtigimdcaakfckaaGreatDoor
namespace Go.Proofs.YtigimdcaakfckaaGreatDoor
open Go.RowKit Go.Shelf
set_option linter.unusedVariables false

theorem gTmT : (Tryz.prog.globals[0]?).map (·.type) = some 94 := by kernel_rfl
theorem cTm : Tryz.prog.cellsOf 94 = 5 := by kernel_rfl
theorem cI64m : Tryz.prog.cellsOf 2 = 1 := by kernel_rfl
theorem tmOf {W : World} {rest : List (String × DataW Unit)} (h : laidMet Tryz.prog (("tollbook/money.tens", Rows.laid_tollbook_money_tens) :: rest) W) : Tm W :=
  Go.Lib.tabIs_of_head (zs := [1, 10, 100, 1000, 10000]) gTm gTmT Tryz.underlying94 Tryz.underlying2 cI64m cTm h
theorem ba_eta (s : ByteArray) : (⟨s.data.toList.toArray⟩ : ByteArray) = s := by simp
theorem b64_of_wf {x : Int} (h : (Lit.int .i64 x).wf = true) : -9223372036854775808 ≤ x ∧ x ≤ 9223372036854775807 := by
  simp [Lit.wf, IntKind.min, IntKind.max, IntKind.signed, IntKind.bits] at h
  exact ⟨by omega, by omega⟩
end Go.Proofs.YtigimdcaakfckaaGreatDoor
namespace Go.Proofs.YtigimdcaakfckaaGreatDoor
set_option linter.unusedVariables false
theorem moneyBack_walk0 (s0 : ByteArray) (q0 u mb : Int) (w : World) (wq : (Lit.int .i64 q0).wf = true) (wu : (Lit.int .i64 u).wf = true) (wb : (Lit.int .u8 mb).wf = true) (hP : Pt w) (hT : Tm w) :
    Calls Tryz.prog 8 #[.agg #[.string s0, .int .i64 q0], .int .i64 u, .int .u8 mb] w fun e w' => e = .returned (.bool true) ∧ Go.RowKit.Below w.heap.size w w' := by
  have hu := b64_of_wf wu
  have hb : 0 ≤ mb ∧ mb ≤ 255 := by
    simp [Lit.wf, IntKind.min, IntKind.max, IntKind.signed, IntKind.bits] at wb
    exact ⟨by omega, by omega⟩
  have h := back_walk s0.data.toList q0 u mb w hu.1 hu.2 hb.1 hb.2 hP hT
  rw [ba_eta] at h
  exact h
end Go.Proofs.YtigimdcaakfckaaGreatDoor
namespace Go.Proofs.YtigimdcaakfckaaGreatDoor.moneyBack
open Go.ChangeShapes Go.WideShapes Go.ChangeAt Go.RowKit
set_option linter.unusedVariables false

theorem own : ownKnob Tryz.prog.godebug = none := by kernel_rfl
theorem laidOut : laidOutB Tryz.prog = true := by kernel_rfl
theorem bytes8 : Tryz.prog.bytesOf 77 = 8 := by kernel_rfl

set_option maxRecDepth 100000 in
theorem contract (H : Type) (enc : TypeId × Value → H) (W : World) (base : Nat) (args : Array Value) (ds gs : List (DataW H)) (before : List MemPlace)
    (hval : ∀ (j : Nat) t v, Tryz.f8.params[j]? = some t → args[j]? = some v → Value.okWide Tryz.prog W .any base t v)
    (hW : DataW.Whole enc Tryz.prog Tryz.f8.params.toList Rows.moneyBackSpec.vars false W args.toList ds gs before) (hsz : (DataW.weightsEach Tryz.prog (Tryz.f8.params.toList ++ Rows.moneyBackSpec.plain.varTypes Tryz.prog) (ds ++ gs)).all (· ≤ reachBytes) = true) (hL0 : laidMetH Tryz.prog Rows.moneyBackRow.laid W) :
    Calls Tryz.prog 8 args W fun e W' => ∃ v, e = .returned v ∧ Rows.moneyBackSpec.post enc Tryz.prog Tryz.f8 false true false false W args v W' := by
  rw [MakeChecks.laidMetH_plain _ _ _ (by kernel_rfl)] at hL0
  have tb0 := by first | exact ptOf hL0 | exact ptOf hL0.tail | exact ptOf hL0.tail.tail | exact ptOf hL0.tail.tail.tail | exact ptOf hL0.tail.tail.tail.tail | exact ptOf hL0.tail.tail.tail.tail.tail | exact ptOf hL0.tail.tail.tail.tail.tail.tail | exact ptOf hL0.tail.tail.tail.tail.tail.tail.tail
  have tb1 := by first | exact tmOf hL0 | exact tmOf hL0.tail | exact tmOf hL0.tail.tail | exact tmOf hL0.tail.tail.tail | exact tmOf hL0.tail.tail.tail.tail | exact tmOf hL0.tail.tail.tail.tail.tail | exact tmOf hL0.tail.tail.tail.tail.tail.tail | exact tmOf hL0.tail.tail.tail.tail.tail.tail.tail
  have hW' := hW
  obtain ⟨p, q, hA0, hV, rfl, hfz, hnd⟩ := hW
  have hA : DataW.TrodAll enc Tryz.prog W 0 (fun _ => true) true Tryz.f8.params.toList args.toList ds p := hA0
  rw [Tryz.params8] at hA hval hsz
  obtain ⟨v0, vs0, d0, ds0, p0, q0, hargs, rfl, rfl, h0, r0⟩ := trodAll_cons hA
  obtain ⟨v1, vs1, d1, ds1, p1, q1, rfl, rfl, rfl, h1, r1⟩ := trodAll_cons r0
  obtain ⟨v2, vs2, d2, ds2, p2, q2, rfl, rfl, rfl, h2, r2⟩ := trodAll_cons r1
  obtain ⟨rfl, rfl, rfl⟩ := trodAll_nil r2
  obtain rfl : args = #[v0, v1, v2] := by cases args; simp_all
  obtain ⟨rfl, rfl⟩ := trodVars_none hV
  have k0 := h0
  have lt0 : ∀ x ∈ p0, x.block < W.heap.size := by obtain ⟨m, hm⟩ := k0; exact DataW.trod_lt m _ _ _ hm
  obtain ⟨u0, x0, y00, y01, m0, rfl, rfl, rfl, hy00, hy01⟩ := Go.Joins.open_agg2 Tryz.underlying47 (by kernel_rfl) (by kernel_rfl) (hval 0 47 v0 rfl rfl) h0
  obtain ⟨s0, ha0, hd0, wa0⟩ := DataW.trod_string Tryz.underlying9 hy00
  obtain ⟨q0, hq0, he0, wq0⟩ := DataW.trod_int Tryz.underlying3 hy01
  obtain rfl : u0 = .string s0 := by simpa using ha0
  obtain rfl : x0 = .int .i64 q0 := by simpa using hq0
  obtain ⟨a1, rfl, rfl, rfl, w1⟩ := open_int Tryz.underlying2 (hval 1 2 v1 rfl rfl) h1
  obtain ⟨a2, rfl, rfl, rfl, w2⟩ := open_int Tryz.underlying5 (hval 2 5 v2 rfl rfl) h2
  clear hA0
  refine (moneyBack_walk0 s0 q0 a1 a2 W wq0 w1 w2 tb0 tb1).mono fun e W' ⟨he, bel⟩ => ?_
  subst he
  exact ⟨_, rfl, _, _, _, [], _, [], hW', trodAll_mk1 (shut_bool Tryz.underlying4 _), (trodAll_cons_mk (Below.trod laidOut (by kernel_rfl) (of_decide_eq_true (by kernel_rfl)) k0 bel lt0) (trodAll_cons_mk (shut_int Tryz.underlying2 w1) (trodAll_cons_mk (shut_int Tryz.underlying5 w2) trodAll_mk0))), rfl, bel.frame _, fun h => by cases h⟩

set_option maxRecDepth 100000 in
theorem lifted (os : Os) (started : os.Started) (H : Type) (enc : TypeId × Value → H) :
    ReturnsInHanded {} Tryz.checked os 8 .any (fun w args => (Rows.moneyBackSpec.pre enc Tryz.prog Tryz.f8 [] false w args ∧ laidMetH Tryz.prog Rows.moneyBackRow.laid w) ∧ sizedMet enc Tryz.prog Tryz.f8 (OpenSpec.ofChange Rows.moneyBackSpec) false w args)
      (Rows.moneyBackSpec.post enc Tryz.prog Tryz.f8 false true false false) := by
  refine returnsInHanded_of_change_and (C := Tryz.checked) (X := fun w _ => laidMetH Tryz.prog Rows.moneyBackRow.laid w) (fun _ _ _ hh h => h.of_heap hh) own started (by kernel_rfl) Tryz.func8
    (ChangeSpec.witness_shaped (enc := enc) (C := Tryz.checked) (os := os) (X := fun w _ => laidMetH Tryz.prog Rows.moneyBackRow.laid w) false (World.laidAll Tryz.prog os Rows.moneyBackRow.laid) #[.agg #[.string ⟨#[]⟩, .int .i64 0], .int .i64 0, .int .u8 0] 8 (World.laidAll_os _ _ _)
      (World.shaped_of_ZipB (by kernel_rfl) (by kernel_rfl)) (by kernel_rfl) (by kernel_rfl) (by kernel_rfl)
      (by rw [MakeChecks.laidMetH_plain _ _ _ (by kernel_rfl)]; exact laidMet_laidAll _ (by kernel_rfl) (by kernel_rfl))) ?_
  intro W base args ds gs before hval0 hW _ hsz0 hL _
  exact contract H enc W base args ds gs before hval0 hW hsz0 hL

theorem over : Rows.moneyBackRow.holds Tryz.pinned (OpenSpec.ofChange Rows.moneyBackSpec) :=
  OpenClaim.holds_of_wide 8 Tryz.f8 rfl rfl rfl rfl rfl rfl rfl ⟨rfl, rfl, rfl, rfl, rfl⟩ rfl rfl rfl rfl rfl (by kernel_rfl) Tryz.func8 (by kernel_rfl)
    (of_decide_eq_true (by kernel_rfl)) (by unfold Func.isWrapper; first | (rw [if_pos (by decide +kernel)]; kernel_rfl) | (rw [if_neg (by decide +kernel)]; exact ⟨rfl, rfl⟩))
    (fun os started H enc _ => lifted os started H enc)
end Go.Proofs.YtigimdcaakfckaaGreatDoor.moneyBack
namespace Go.Proofs.YtigimdcaakfckaaGreatDoor
theorem moneyBack_plain (f : FuncId) (fn : Func) (hf : Tryz.pinned.checked.prog.funcNamed "tollbook/tollbooklaw09.MoneyBack" = some f) (hfn : Tryz.pinned.checked.prog.funcs[f]? = some fn) :
    false = Tryz.pinned.checked.prog.looks [] ∧ ∀ (j : Nat) t, fn.params[j]? = some t → Tryz.pinned.checked.prog.wantsStandIn t = false := by
  obtain rfl : f = 8 := Option.some.inj ((show Tryz.prog.funcNamed "tollbook/tollbooklaw09.MoneyBack" = some 8 by kernel_rfl).symm.trans hf) |>.symm
  obtain rfl : fn = Tryz.f8 := (Option.some.inj (Tryz.func8.symm.trans hfn)).symm
  refine ⟨by kernel_rfl, fun j t ht => ?_⟩
  rw [Tryz.params8] at ht
  have hm : t ∈ [47, 2, 5] := by have := Array.mem_of_getElem? ht; simp at this; simp; omega
  have hall : ([47, 2, 5].all fun u => !Tryz.prog.wantsStandIn u) = true := by kernel_rfl
  exact (show Tryz.prog.wantsStandIn t = false by simpa using List.all_eq_true.1 hall t hm)
theorem moneyBackCard_holds : Rows.MoneyBackCardSaid :=
  Claim7.holds_tied_plain_at .later [] _ _ _ _ moneyBack.over (fun _ h => by cases h) (by kernel_rfl) (fun _ h => by cases h) moneyBack_row_tie rfl ⟨rfl, rfl⟩ (by kernel_rfl) rfl moneyBack_plain (by kernel_rfl)
#print axioms moneyBackCard_holds
end Go.Proofs.YtigimdcaakfckaaGreatDoor
