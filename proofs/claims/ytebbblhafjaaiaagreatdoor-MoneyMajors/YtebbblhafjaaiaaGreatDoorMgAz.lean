/-
  money's reader: readSign, readAhead, readBehind.
-/
import Derived.Test.YtebbblhafjaaiaaGreatDoorMgAy
import Derived.Test.YtebbblhafjaaiaaGreatDoorMgAa
import Derived.Laws.EntriesVeiled
import Derived.Test.YtebbblhafjaaiaaGreatDoorMgAx
import Derived.Test.YtebbblhafjaaiaaGreatDoorMgAj
namespace Go.Proofs.YtebbblhafjaaiaaGreatDoor
open Go.RowKit Go.Shelf
set_option linter.unusedVariables false

abbrev Rdr (w : World) (b : Nat) (s : List UInt8) (p : Nat) (D : Int) (neg : Bool) (far : Nat) : Prop := Va w b 196 #[.string ⟨s.toArray⟩, .int .i64 p, .int .i64 D, .bool neg, .int .u64 far]
theorem digit9_any (b : Nat) (s : List UInt8) (p : Nat) (D : Int) (neg : Bool) (far rest : Nat) (w : World) (h : Rdr w b s p D neg far) (hp : p ≤ s.length) (hs : s.length ≤ 140737488355328) (hr : rest ≤ 4) (hf : far ≤ mostU neg) (hT : Tm w) :
    (∃ c, s.drop p = c :: s.drop (p + 1) ∧ p + 1 ≤ s.length ∧ okD neg far rest c = true ∧ Calls Tryz.prog 215 #[.pointer (some ⟨b, 0, none⟩), .int .i64 rest] w fun e w' => e = .returned (.bool true) ∧ Rdr w' b s (p + 1) D neg (far * 10 + wv c) ∧ Only b w w') ∨
    ((s.drop p = [] ∨ ∃ c l, s.drop p = c :: l ∧ okD neg far rest c = false) ∧ Calls Tryz.prog 215 #[.pointer (some ⟨b, 0, none⟩), .int .i64 rest] w fun e w' => e = .returned (.bool false) ∧ Rdr w' b s p D neg far ∧ Only b w w') := by
  rcases Nat.lt_or_ge p s.length with hl | hl
  · obtain ⟨c, hc, hcd⟩ := byte_at s p hl
    have hgc : s.getD p 0 = c := by
      have : s.getD p 0 = (s.drop p).getD 0 0 := by simp
      rw [this, hcd]; rfl
    have hd := digit_at b s p (.int .i64 D) neg far rest w h hl hs hr hf hT
    rw [hgc] at hd
    cases hok : okD neg far rest c
    · right
      rw [hok] at hd
      exact ⟨.inr ⟨c, _, hcd, hok⟩, hd⟩
    · left
      rw [hok] at hd
      refine ⟨c, hcd, by omega, hok, hd.mono fun e w' h => ?_⟩
      have h2 := h.2.1
      rw [hgc] at h2
      exact ⟨h.1, h2, h.2.2⟩
  · obtain rfl : p = s.length := by omega
    exact .inr ⟨.inl (by simp), digit_end b s (.int .i64 D) neg far rest w h⟩
set_option maxHeartbeats 1000000 in
theorem readSign9 (b : Nat) (s nm : List UInt8) (D : Nat) (w : World) (h : Rdr w b s 0 D false 0) (hs : s.length ≤ 140737488355328) (T : R9) (hT : parR nm D s = T) :
    Calls Tryz.prog 185 #[.pointer (some ⟨b, 0, none⟩)] w fun e w' => PcP b s (.int .i64 D) (fun p neg far => plus p (firR neg nm D (s.drop p)) = T ∧ far = 0) T w e w' := by
  have hfx := fixed9 b [45] s 0 (.int .i64 D) (.bool false) (.int .u64 (0 : Nat)) w h (Nat.zero_le _) hs (by simp) (fun _ => (0, some 0)) _ rfl
  have HT : Hid (parR nm D s = T) := hT
  clear h hT
  go_enter Tryz.func185, Tryz.ntmps185
  go_wp2_with fail
  refine hfx.mono ?_
  rintro e w1 ⟨ok, p, rfl, hp, V, h1, h2, ho⟩
  have HV : Hid (Rdr w1 b s p D false 0) := V
  have fz := V.frozen 3
  have hlt := V.lt
  have c3 : w1.cell? ⟨b, 3, none⟩ = some (.bool false) := V.cellAt 3
  have HP : Hid (plus p (firR ok nm D (s.drop p)) = T) := by
    show _ = _
    rw [← HT.out]
    cases s with
    | nil =>
      cases ok
      · have := h2 rfl
        simp [fixC, plus] at this
        subst this; rfl
      · have := h1 rfl
        simp [fixC, plus] at this
    | cons c l =>
      have e1 : parR nm D (c :: l) = if c = 45 then one (firR true nm D l) else firR false nm D (c :: l) := rfl
      have e2 : fixC [45] (fun _ => ((0 : Nat), some (0 : Int))) (c :: l) = if c = 45 then one (0, some 0) else (0, none) := rfl
      rw [e1]
      by_cases hc : c = 45
      · cases ok
        · have := h2 rfl
          rw [List.drop_zero, e2, if_pos hc] at this
          simp [plus, one] at this
        · have := h1 rfl
          rw [List.drop_zero, e2, if_pos hc] at this
          simp [plus, one] at this
          subst this
          rw [if_pos hc]
          show plus 1 (firR true nm D l) = _
          simp [plus, one]; omega
      · cases ok
        · have := h2 rfl
          rw [List.drop_zero, e2, if_neg hc] at this
          simp [plus] at this
          subst this
          rw [if_neg hc, List.drop_zero, plus_zero]
        · have := h1 rfl
          rw [List.drop_zero, e2, if_neg hc] at this
          simp [plus] at this
  clear h1 h2 V
  go_wp2_with fail
  go_ret
  exact ⟨true, ok, p, 0, rfl, hp, HV.out.seti 3 (.bool ok), fun _ => ⟨HP.out, rfl⟩, (fun h => by cases h), ho.set _ _⟩
set_option maxHeartbeats 1000000 in
theorem readBehind9 (b : Nat) (s nm : List UInt8) (D p far : Nat) (neg : Bool) (w : World) (h : Rdr w b s p D neg far) (hp : p ≤ s.length) (hs : s.length ≤ 140737488355328) (T : R9) (hT : plus p (behR neg nm D far (s.drop p)) = T) (hTm : Tm w) (hD : D ≤ 4) (hf : far ≤ mostU neg) (hb : b ≠ 1) :
    Calls Tryz.prog 189 #[.pointer (some ⟨b, 0, none⟩)] w fun e w' => PcP b s (.int .i64 D) (fun p n far => n = neg ∧ plus p (tailR neg nm far (s.drop p)) = T ∧ far ≤ mostU neg) T w e w' := by
  have c2 : w.cell? ⟨b, 2, none⟩ = some (.int .i64 D) := h.cellAt 2
  have HV0 : Hid (Rdr w b s p D neg far) := h
  have HT0 : Hid (plus p (behR neg nm D far (s.drop p)) = T) := hT
  have HTm : Hid (Tm w) := hTm
  have Hf : Hid (far ≤ mostU neg) := hf
  clear h hT hTm hf
  go_enter Tryz.func189, Tryz.ntmps189
  go_wp2_with fail
  go_loopw [3] (fun i wr => ∃ (k p far : Nat), i = .int .i64 ((k : Int) - 1) ∧ k ≤ D ∧ p ≤ s.length ∧ Hid (Rdr wr b s p D neg far) ∧ Hid (plus p (behR neg nm k far (s.drop p)) = T) ∧ Hid (far ≤ mostU neg) ∧ Hid (Only b w wr)) (fun i _ => (intOf i + 1).toNat)
  case atStart => exact ⟨D, p, far, rfl, by omega, hp, HV0.out, HT0.out, Hf.out, Only.refl _ _⟩
  case round =>
    clear hp HV0 HT0 Hf c2
    obtain ⟨k, p, far, rfl, hk, hp, HV, HT, Hf, HO⟩ := hrel
    cases k with
    | zero =>
      go_wp2_with fail
      go_ret
      exact ⟨true, neg, p, far, rfl, hp, HV.out, fun _ => ⟨rfl, HT.out, Hf.out⟩, (fun h => by cases h), HO.out⟩
    | succ j =>
      have eq : ((j + 1 : Nat) : Int) - 1 = (j : Int) := by omega
      have hj0 : (0 : Int) ≤ j := by omega
      rw [eq]
      rcases digit9_any b s p D neg far j wr HV.out hp hs (by omega) Hf.out (HTm.out.only HO.out hb) with ⟨c, hcd, hp1, hok, hd⟩ | ⟨hno, hd⟩
      · have HE : Hid (plus (p + 1) (behR neg nm j (far * 10 + wv c) (s.drop (p + 1))) = T) := by
          have e := HT.out
          rw [hcd] at e
          have e1 : behR neg nm (j + 1) far (c :: s.drop (p + 1)) = if okD neg far j c then one (behR neg nm j (far * 10 + wv c) (s.drop (p + 1))) else (0, none) := rfl
          rw [e1, if_pos hok, plus_one] at e
          exact e
        have HF : Hid (far * 10 + wv c ≤ mostU neg) := Nat.le_trans ((okD_iff _ _ _ _).1 hok).2.1 (Nat.div_le_self _ _)
        clear hcd hok eq
        go_wp2_with fail
        refine hd.mono ?_
        rintro e w1 ⟨rfl, V1, ho⟩
        have HV1 : Hid (Rdr w1 b s (p + 1) D neg (far * 10 + wv c)) := V1
        have HO1 : Hid (Only b w w1) := HO.out.trans ho
        clear V1 ho hd
        go_wp2_with fail
        go_roundw
        case rel => exact ⟨j, p + 1, _, rfl, by omega, hp1, HV1.out, HE.out, HF.out, HO1.out⟩
        case measure => simp [intOf]
      · have HE : Hid (T = (p, none)) := by
          have e := HT.out
          rcases hno with h0 | ⟨c, l, hcd, hok⟩
          · rw [h0] at e; exact e.symm
          · rw [hcd] at e
            have e1 : behR neg nm (j + 1) far (c :: l) = if okD neg far j c then one (behR neg nm j (far * 10 + wv c) l) else (0, none) := rfl
            rw [e1, hok] at e
            exact e.symm
        clear hno eq
        go_wp2_with fail
        refine hd.mono ?_
        rintro e w1 ⟨rfl, V1, ho⟩
        go_wp2_with fail
        go_ret
        exact ⟨false, neg, p, far, rfl, hp, V1, (fun h => by cases h), fun _ => HE.out, HO.out.trans ho⟩
theorem ah_stop {neg : Bool} {nm : List UInt8} {D far : Nat} {l : List UInt8} (h : far = 0 ∨ l = [] ∨ ∃ c r, l = c :: r ∧ okD neg far D c = false) : ahR neg nm D far l = ptR neg nm D far l := by
  cases l with
  | nil => rfl
  | cons c r =>
    show (if (decide (0 < far) && okD neg far D c) = true then _ else _) = _
    rw [if_neg]
    rcases h with h | h | ⟨c', r', h, hk⟩
    · simp [h]
    · cases h
    · injection h with h1 h2; subst h1; simp [hk]
set_option maxHeartbeats 2000000 in
theorem readAhead9 (b : Nat) (s nm : List UInt8) (D p : Nat) (neg : Bool) (w : World) (h : Rdr w b s p D neg 0) (hp : p ≤ s.length) (hs : s.length ≤ 140737488355328) (T : R9) (hT : plus p (firR neg nm D (s.drop p)) = T) (hTm : Tm w) (hD : D ≤ 4) (hb : b ≠ 1) :
    Calls Tryz.prog 187 #[.pointer (some ⟨b, 0, none⟩)] w fun e w' => PcP b s (.int .i64 D) (fun p n far => n = neg ∧ plus p (ptR neg nm D far (s.drop p)) = T ∧ far ≤ mostU neg) T w e w' := by
  have c2 : w.cell? ⟨b, 2, none⟩ = some (.int .i64 D) := h.cellAt 2
  have HTm : Hid (Tm w) := hTm
  have HT : Hid (plus p (firR neg nm D (s.drop p)) = T) := hT
  rcases digit9_any b s p D neg 0 D w h hp hs hD (Nat.zero_le _) hTm with ⟨c, hcd, hp1, hok, hd⟩ | ⟨hno, hd⟩
  · have HE : Hid (plus (p + 1) (ahR neg nm D (wv c) (s.drop (p + 1))) = T) := by
      have e := HT.out
      rw [hcd] at e
      have e1 : firR neg nm D (c :: s.drop (p + 1)) = if okD neg 0 D c = true then one (ahR neg nm D (wv c) (s.drop (p + 1))) else (0, none) := rfl
      rw [e1, if_pos hok, plus_one] at e
      exact e
    have HF : Hid (wv c ≤ mostU neg) := by
      have := Nat.le_trans ((okD_iff _ _ _ _).1 hok).2.1 (Nat.div_le_self _ _)
      rw [Nat.zero_mul, Nat.zero_add] at this; exact this
    rw [Nat.zero_mul, Nat.zero_add] at hd
    clear hcd hok h hT hTm HT
    go_enter Tryz.func187, Tryz.ntmps187
    go_wp2_with fail
    refine hd.mono ?_
    rintro e w1 ⟨rfl, V1, ho⟩
    have HV1 : Hid (Rdr w1 b s (p + 1) D neg (wv c)) := V1
    have HO1 : Hid (Only b w w1) := ho
    clear V1 ho hd c2
    go_wp2_with fail
    go_loopw [4] (fun m wr => ∃ (more : Bool) (p far : Nat), m = .bool more ∧ p ≤ s.length ∧ Hid (Rdr wr b s p D neg far) ∧ Hid ((more = true → plus p (ahR neg nm D far (s.drop p)) = T) ∧ (more = false → plus p (ptR neg nm D far (s.drop p)) = T)) ∧ Hid (far ≤ mostU neg) ∧ Hid (Only b w wr) ∧ Hid (1 ≤ s.length - p + (if more then 1 else 0) ∨ more = false)) (fun m wr => match wr.cell? ⟨b, 1, none⟩ with | some (.int .i64 q) => (s.length - q.toNat) + (match m with | .bool true => 1 | _ => 0) | _ => 0)
    case atStart => exact ⟨true, p + 1, _, rfl, hp1, HV1.out, ⟨fun _ => HE.out, fun h => by cases h⟩, HF.out, HO1.out, .inl (by simp)⟩
    case round =>
      clear hp hp1 HV1 HE HF HO1
      obtain ⟨more, p, far, rfl, hp, HV, HT, Hf, HO, -⟩ := hrel
      have V := HV.out
      have c4 : wr.cell? ⟨b, 4, none⟩ = some (.int .u64 far) := V.cellAt 4
      have c2 : wr.cell? ⟨b, 2, none⟩ = some (.int .i64 D) := V.cellAt 2
      clear V
      cases more with
      | false =>
        go_wp2_with fail
        go_ret
        exact ⟨true, neg, p, far, rfl, hp, HV.out, fun _ => ⟨rfl, by first | exact HT.out.2 rfl | exact HT.out.2 trivial, Hf.out⟩, (fun h => by cases h), HO.out⟩
      | true =>
        by_cases hf0 : far = 0
        · have HE : Hid (plus p (ptR neg nm D far (s.drop p)) = T) := by rw [← ah_stop (.inl hf0)]; exact HT.out.1 rfl
          have hfi : ¬ (0 : Int) < far := by omega
          clear hf0
          go_wp2_with fail
          go_ret
          exact ⟨true, neg, p, far, rfl, hp, HV.out, fun _ => ⟨rfl, HE.out, Hf.out⟩, (fun h => by cases h), HO.out⟩
        · have hfi : (0 : Int) < far := by omega
          have HF0 : Hid (far ≠ 0) := hf0
          clear hf0
          rcases digit9_any b s p D neg far D wr HV.out hp hs hD Hf.out (HTm.out.only HO.out hb) with ⟨c, hcd, hp1, hok, hd⟩ | ⟨hno, hd⟩
          · have HE : Hid (plus (p + 1) (ahR neg nm D (far * 10 + wv c) (s.drop (p + 1))) = T) := by
              have e := HT.out.1 rfl
              rw [hcd] at e
              have e1 : ahR neg nm D far (c :: s.drop (p + 1)) = if (decide (0 < far) && okD neg far D c) = true then one (ahR neg nm D (far * 10 + wv c) (s.drop (p + 1))) else ptR neg nm D far (c :: s.drop (p + 1)) := rfl
              rw [e1, if_pos (by rw [hok, decide_eq_true (by have := HF0.out; omega)]; rfl), plus_one] at e
              exact e
            have HF : Hid (far * 10 + wv c ≤ mostU neg) := Nat.le_trans ((okD_iff _ _ _ _).1 hok).2.1 (Nat.div_le_self _ _)
            clear hcd hok
            go_wp2_with fail
            refine hd.mono ?_
            rintro e w2 ⟨rfl, V1, ho⟩
            have HV1 : Hid (Rdr w2 b s (p + 1) D neg (far * 10 + wv c)) := V1
            have HO1 : Hid (Only b w w2) := HO.out.trans ho
            have HC0 : Hid (wr.cell? ⟨b, 1, none⟩ = some (.int .i64 p)) := HV.out.cellAt 1
            have HC1 : Hid (w2.cell? ⟨b, 1, none⟩ = some (.int .i64 (p + 1 : Nat))) := V1.cellAt 1
            clear V1 ho hd
            go_wp2_with fail
            go_roundw
            case rel => exact ⟨true, p + 1, _, rfl, hp1, HV1.out, ⟨fun _ => HE.out, fun h => by cases h⟩, HF.out, HO1.out, .inl (by simp)⟩
            case measure => rw [HC0.out, HC1.out]; simp; omega
          · have HE : Hid (plus p (ptR neg nm D far (s.drop p)) = T) := by rw [← ah_stop (.inr hno)]; exact HT.out.1 rfl
            clear hno
            go_wp2_with fail
            refine hd.mono ?_
            rintro e w2 ⟨rfl, V1, ho⟩
            have HV1 : Hid (Rdr w2 b s p D neg far) := V1
            have HO1 : Hid (Only b w w2) := HO.out.trans ho
            have HC0 : Hid (wr.cell? ⟨b, 1, none⟩ = some (.int .i64 p)) := HV.out.cellAt 1
            have HC1 : Hid (w2.cell? ⟨b, 1, none⟩ = some (.int .i64 p)) := V1.cellAt 1
            clear V1 ho hd
            go_wp2_with fail
            go_roundw
            case rel => exact ⟨false, p, far, rfl, hp, HV1.out, ⟨(fun h => by cases h), fun _ => HE.out⟩, Hf.out, HO1.out, .inr rfl⟩
            case measure => rw [HC0.out, HC1.out]; simp
  · have HE : Hid (T = (p, none)) := by
      have e := HT.out
      rcases hno with h0 | ⟨c, l, hcd, hok⟩
      · rw [h0] at e; exact e.symm
      · rw [hcd] at e
        have e1 : firR neg nm D (c :: l) = if okD neg 0 D c = true then one (ahR neg nm D (wv c) l) else (0, none) := rfl
        rw [e1, hok] at e
        exact e.symm
    clear hno h hT hTm HT
    go_enter Tryz.func187, Tryz.ntmps187
    go_wp2_with fail
    refine hd.mono ?_
    rintro e w1 ⟨rfl, V1, ho⟩
    go_wp2_with fail
    refine wp_loop_rounds 1 ?_
    rw [rounds_succ]
    go_wp2_with fail
    go_ret
    exact ⟨false, neg, p, 0, rfl, hp, V1, (fun h => by cases h), fun _ => HE.out, ho⟩
end Go.Proofs.YtebbblhafjaaiaaGreatDoor
namespace Go.Proofs.YtebbblhafjaaiaaGreatDoor
open Go.RowKit Go.Shelf
set_option linter.unusedVariables false

theorem results_pc {fn : Func} {i b : Nat} {v u : Value} {tmps : Array Value} {w : World} (h : fn.results = #[.cell i 189]) (hi : tmps.getD i undef = .pointer (some ⟨b, 0, none⟩)) (hv : Va w b 189 #[v, u]) :
    (results fn tmps).run Tryz.prog w = .ok (.agg #[v, u]) w := by
  have c := hv.c0; have d := hv.c1
  rw [Array.getD_eq_getD_getElem?] at hi
  simp [results, h, hi, c, d, go_sem]
/-- A captured text. -/
def Bx (w : World) (g : Nat) (t : List UInt8) : Prop := Va w g 9 #[.string ⟨t.toArray⟩]
theorem Bx.after {w w' : World} (hb : Below w.heap.size w w') {g : Nat} {t : List UInt8} (h : Bx w g t) : Bx w' g t := Va.after hb h
theorem Bx.drw {w : World} {g : Nat} {t : List UInt8} (h : Bx w g t) : Bx w.drew g t := h
theorem fixedL9 (t : List UInt8) (w : World) : Calls Tryz.prog 180 #[.string ⟨t.toArray⟩] w fun e w' => ∃ g, e = .returned (.agg #[.func (.func 181) #[] #[.pointer (some ⟨g, 0, none⟩)], .func (.func 182) #[] #[.pointer (some ⟨g, 0, none⟩)]]) ∧ Bx w' g t ∧ Below w.heap.size w w' := by
  go_enter Tryz.func180, Tryz.ntmps180
  go_wp2_with fail
  refine ent2 w _ _ _ _ (Q := fun W => bodyPost Tryz.prog _ _ _ _ W) ?_
  intro w1 B0 hs V0 V1
  refine bodyPost_ret (results_pc rfl rfl V1) rfl ?_
  exact ⟨_, rfl, V0, B0⟩
def pieceCells (g1 g2 g3 : Nat) : Array Value := #[.func (.func 184) #[] #[], .func (.func 185) #[] #[], .func (.func 186) #[] #[], .func (.func 187) #[] #[], .func (.func 181) #[] #[.pointer (some ⟨g1, 0, none⟩)], .func (.func 182) #[] #[.pointer (some ⟨g1, 0, none⟩)], .func (.func 188) #[] #[], .func (.func 189) #[] #[], .func (.func 181) #[] #[.pointer (some ⟨g2, 0, none⟩)], .func (.func 182) #[] #[.pointer (some ⟨g2, 0, none⟩)], .func (.func 181) #[] #[.pointer (some ⟨g3, 0, none⟩)], .func (.func 182) #[] #[.pointer (some ⟨g3, 0, none⟩)]]
theorem enters9 : ∀ args w, (callFunc 180 args).run Tryz.prog w = .ok (.enter 180 args) w := enters_of Tryz.func180 (by kernel_rfl) rfl
set_option maxHeartbeats 2000000 in
theorem pieces9 (nm : List UInt8) (D : Nat) (w : World) : Calls Tryz.prog 138 #[.agg #[.string ⟨nm.toArray⟩, .int .i64 D]] w fun e w' => ∃ g g1 g2 g3, e = .returned (.slice (some ⟨g, 0, none⟩) 6 6) ∧ Va w' g 189 (pieceCells g1 g2 g3) ∧ Bx w' g1 (ptD D) ∧ Bx w' g2 [32] ∧ Bx w' g3 nm ∧ Below w.heap.size w w' := by
  by_cases hD : (0 : Int) < D
  · have hp : ptD D = [46] := by unfold ptD; rw [if_neg (by omega)]
    rw [hp]; clear hp; have B0 : Below w.heap.size w w := Below.refl _ _
    go_enter Tryz.func138, Tryz.ntmps138
    (go_wp2_with fail); refine ent1 w _ _ (Q := fun W => Code.wp Tryz.prog _ _ _ W) ?_; intro x1 hb hs_x1 V0; replace B0 := step B0 hb; clear hb hs_x1; refine wp_region_noPanic ?_; replace V0 : Va x1.drew _ _ _ := V0; replace B0 := Below.drew B0; refine wp_region_held_drew (S := (fun W => W.cell? ⟨w.heap.size, 0, none⟩ = some (.string ⟨nm.toArray⟩) ∧ W.cell? ⟨w.heap.size, 1, none⟩ = some (.int .i64 D))) (by kernel_rfl) ⟨V0.c0, V0.c1⟩ (fun hHeld => ?_); (obtain ⟨x2, hxd⟩ : ∃ xd, xd = x1.drew := ⟨_, rfl⟩); rw [← hxd] at V0 B0 hHeld ⊢; clear hxd; refine tk 0 rfl hHeld ?_; simp only [gA, gB, Act.put, gD, gE, gF]; refine tk 1 rfl hHeld ?_; simp only [gA, gB, gC, Act.put, gD, gE, gF]; refine tk 2 rfl hHeld ?_; simp only [gA, gB, gC, Act.put, gD, gE, gF]; refine tk 3 rfl hHeld ?_; simp only [gA, gB, gC, Act.put, gD, gE, gF]; refine tk 5 rfl hHeld ?_; simp only [gA, gB, gC, Act.put, gD, gE, gF]; refine tk 6 rfl hHeld ?_; simp only [gA, gB, gC, Act.put, gD, gE, gF]
    refine tk 8 rfl hHeld ?_; simp only [gA, gB, gC, Act.put, gD, gE, gF]; refine tk 9 rfl hHeld ?_; simp only [gA, gB, gC, Act.put, gD, gE, gF]; refine tk 10 rfl hHeld ?_; simp only [gA, gB, gC, Act.put, gD, gE, gF]; refine wpAnyH_ready (rs := [4]) (by kernel_rfl) (by simp) ?_; refine AllReadyH.cons rfl (fun K hK => ?_) AllReadyH.nil; simp only [gA, gB, gC]; (go_simp)
    try rw [enters9, Oper.upon_enter]
    refine (fixedL9 [46] _).mono ?_; rintro e x3 ⟨g1, rfl, bg1, hb⟩; replace V0 := Va.after hb V0; replace B0 := step B0 hb; clear hb; (try go_wp2_with fail); refine hK.out _ _ ⟨V0.c0, V0.c1⟩ (fun hHeld => ?_); clear hK K; refine wpAnyH_ready (rs := [7]) (by kernel_rfl) (by simp) ?_; refine AllReadyH.cons rfl (fun K hK => ?_) AllReadyH.nil; simp only [gA, gB, gC]; (go_simp)
    try rw [enters9, Oper.upon_enter]
    refine (fixedL9 [32] _).mono ?_; rintro e x4 ⟨g2, rfl, bg2, hb⟩; replace V0 := Va.after hb V0; replace bg1 := Bx.after hb bg1; replace B0 := step B0 hb; clear hb; (try go_wp2_with fail); refine hK.out _ _ ⟨V0.c0, V0.c1⟩ (fun hHeld => ?_); clear hK K; refine wpAnyH_ready (rs := [11]) (by kernel_rfl) (by simp) ?_; refine AllReadyH.cons rfl (fun K hK => ?_) AllReadyH.nil; simp only [gA, gB, gC]; (go_simp)
    try rw [enters9, Oper.upon_enter]
    refine (fixedL9 nm _).mono ?_; rintro e x5 ⟨g3, rfl, bg3, hb⟩; replace V0 := Va.after hb V0; replace bg1 := Bx.after hb bg1; replace bg2 := Bx.after hb bg2; replace B0 := step B0 hb; clear hb; (try go_wp2_with fail); refine hK.out _ _ ⟨V0.c0, V0.c1⟩ (fun hHeld => ?_); clear hK K; refine wpAnyH_ready (rs := [12]) (by kernel_rfl) (by simp) ?_; refine AllReadyH.cons rfl (fun K hK => ?_) AllReadyH.nil; simp only [gA, gB, gC]; (go_simp); refine ent1 _ _ _ (Q := fun V => K _ V) ?_; intro y hb hs_ Vg; replace V0 := Va.after hb V0; replace bg1 := Bx.after hb bg1; replace bg2 := Bx.after hb bg2; replace bg3 := Bx.after hb bg3; replace B0 := step B0 hb; clear hb hs_; refine hK.out _ _ ⟨V0.c0, V0.c1⟩ (fun hHeld => ?_); clear hK K; refine tk 13 rfl hHeld ?_; simp only [gA, gB, gC, Act.put, gD, gE, gF]; refine wpAnyH_done (by kernel_rfl) ?_ _; refine NoPanic.normal ?_; clear hHeld; (go_wp2_with fail)
    go_ret
    exact ⟨_, g1, g2, g3, rfl, Vg, bg1, bg2, bg3, B0⟩
  · have hp : ptD D = [] := by unfold ptD; rw [if_pos (by omega)]
    rw [hp]; clear hp; have B0 : Below w.heap.size w w := Below.refl _ _
    go_enter Tryz.func138, Tryz.ntmps138
    (go_wp2_with fail); refine ent1 w _ _ (Q := fun W => Code.wp Tryz.prog _ _ _ W) ?_; intro x1 hb hs_x1 V0; replace B0 := step B0 hb; clear hb hs_x1; refine wp_region_noPanic ?_; replace V0 : Va x1.drew _ _ _ := V0; replace B0 := Below.drew B0; refine wp_region_held_drew (S := (fun W => W.cell? ⟨w.heap.size, 0, none⟩ = some (.string ⟨nm.toArray⟩) ∧ W.cell? ⟨w.heap.size, 1, none⟩ = some (.int .i64 D))) (by kernel_rfl) ⟨V0.c0, V0.c1⟩ (fun hHeld => ?_); (obtain ⟨x2, hxd⟩ : ∃ xd, xd = x1.drew := ⟨_, rfl⟩); rw [← hxd] at V0 B0 hHeld ⊢; clear hxd; refine tk 0 rfl hHeld ?_; simp only [gA, gB, Act.put, gD, gE, gF]; refine tk 1 rfl hHeld ?_; simp only [gA, gB, gC, Act.put, gD, gE, gF]; refine tk 2 rfl hHeld ?_; simp only [gA, gB, gC, Act.put, gD, gE, gF]; refine tk 3 rfl hHeld ?_; simp only [gA, gB, gC, Act.put, gD, gE, gF]; refine tk 5 rfl hHeld ?_; simp only [gA, gB, gC, Act.put, gD, gE, gF]; refine tk 6 rfl hHeld ?_; simp only [gA, gB, gC, Act.put, gD, gE, gF]
    refine tk 8 rfl hHeld ?_; simp only [gA, gB, gC, Act.put, gD, gE, gF]; refine tk 9 rfl hHeld ?_; simp only [gA, gB, gC, Act.put, gD, gE, gF]; refine tk 10 rfl hHeld ?_; simp only [gA, gB, gC, Act.put, gD, gE, gF]; refine wpAnyH_ready (rs := [4]) (by kernel_rfl) (by simp) ?_; refine AllReadyH.cons rfl (fun K hK => ?_) AllReadyH.nil; simp only [gA, gB, gC]; (go_simp)
    try rw [enters9, Oper.upon_enter]
    refine (fixedL9 [] _).mono ?_; rintro e x3 ⟨g1, rfl, bg1, hb⟩; replace V0 := Va.after hb V0; replace B0 := step B0 hb; clear hb; (try go_wp2_with fail); refine hK.out _ _ ⟨V0.c0, V0.c1⟩ (fun hHeld => ?_); clear hK K; refine wpAnyH_ready (rs := [7]) (by kernel_rfl) (by simp) ?_; refine AllReadyH.cons rfl (fun K hK => ?_) AllReadyH.nil; simp only [gA, gB, gC]; (go_simp)
    try rw [enters9, Oper.upon_enter]
    refine (fixedL9 [32] _).mono ?_; rintro e x4 ⟨g2, rfl, bg2, hb⟩; replace V0 := Va.after hb V0; replace bg1 := Bx.after hb bg1; replace B0 := step B0 hb; clear hb; (try go_wp2_with fail); refine hK.out _ _ ⟨V0.c0, V0.c1⟩ (fun hHeld => ?_); clear hK K; refine wpAnyH_ready (rs := [11]) (by kernel_rfl) (by simp) ?_; refine AllReadyH.cons rfl (fun K hK => ?_) AllReadyH.nil; simp only [gA, gB, gC]; (go_simp)
    try rw [enters9, Oper.upon_enter]
    refine (fixedL9 nm _).mono ?_; rintro e x5 ⟨g3, rfl, bg3, hb⟩; replace V0 := Va.after hb V0; replace bg1 := Bx.after hb bg1; replace bg2 := Bx.after hb bg2; replace B0 := step B0 hb; clear hb; (try go_wp2_with fail); refine hK.out _ _ ⟨V0.c0, V0.c1⟩ (fun hHeld => ?_); clear hK K; refine wpAnyH_ready (rs := [12]) (by kernel_rfl) (by simp) ?_; refine AllReadyH.cons rfl (fun K hK => ?_) AllReadyH.nil; simp only [gA, gB, gC]; (go_simp); refine ent1 _ _ _ (Q := fun V => K _ V) ?_; intro y hb hs_ Vg; replace V0 := Va.after hb V0; replace bg1 := Bx.after hb bg1; replace bg2 := Bx.after hb bg2; replace bg3 := Bx.after hb bg3; replace B0 := step B0 hb; clear hb hs_; refine hK.out _ _ ⟨V0.c0, V0.c1⟩ (fun hHeld => ?_); clear hK K; refine tk 13 rfl hHeld ?_; simp only [gA, gB, gC, Act.put, gD, gE, gF]; refine wpAnyH_done (by kernel_rfl) ?_ _; refine NoPanic.normal ?_; clear hHeld; (go_wp2_with fail)
    go_ret
    exact ⟨_, g1, g2, g3, rfl, Vg, bg1, bg2, bg3, B0⟩
end Go.Proofs.YtebbblhafjaaiaaGreatDoor
namespace Go.Proofs.YtebbblhafjaaiaaGreatDoor
open Go.RowKit Go.Shelf
set_option linter.unusedVariables false

set_option maxHeartbeats 1000000 in
theorem sameq_any (a b : Option Addr) (la ca cb : Nat) (xs : List Int) (w : World) (ha : Sl w a la xs) (hb : Sl w b la xs) (h1 : la ≤ 40000000000000) :
    Calls Tryz.prog 55 #[.slice a la ca, .slice b la cb] w fun e w' => e = .returned (.bool true) ∧ ∃ n, w' = w.drewN n := by
  have hza := ha.1
  have g1 : ((la : Int) != la) = false := by simp
  by_cases h0 : la = 0
  · subst h0
    clear ha hb
    go_enter Tryz.func55, Tryz.ntmps55
    go_wp2_with fail
    refine wp_loop_rounds 1 ?_
    rw [rounds_succ]
    go_wp2_with fail
    go_ret
    exact ⟨rfl, 0, rfl⟩
  · obtain ⟨ba, oa, rfl, hca⟩ := ha.2.2 (by omega)
    obtain ⟨bb, ob, rfl, hcb⟩ := hb.2.2 (by omega)
    clear ha hb
    go_enter Tryz.func55, Tryz.ntmps55
    go_wp2_with fail
    go_loopw [5] (fun i wr => ∃ k : Nat, k ≤ la ∧ i = .int .i64 k ∧ ∃ q, wr = w.drewN q) (fun i _ => la - (intOf i).toNat)
    case atStart => exact ⟨0, Nat.zero_le _, rfl, 0, rfl⟩
    case round =>
      obtain ⟨k, hk, rfl, q, rfl⟩ := hrel
      by_cases hlt : k < la
      · have hcx := hca k (by omega)
        have hcy := hcb k (by omega)
        obtain ⟨x, hx⟩ : ∃ x, xs.getD k 0 = x := ⟨_, rfl⟩
        rw [hx] at hcx hcy
        clear hx
        have g2 : (x != x) = false := by simp
        go_wp2_with fail
        go_quiet (fail)
        go_wp2_with fail
        go_roundw
        case rel => exact ⟨k + 1, by omega, by go_num, q + nq, rfl⟩
        case measure => simp [intOf]; omega
      · go_wp2_with fail
        go_ret
        exact ⟨rfl, q, rfl⟩


theorem sameq_b (a b : Option Addr) (la ca cb : Nat) (xs : List Int) (w : World) (ha : Sl w a la xs) (hb : Sl w b la xs) (h1 : la ≤ 40000000000000) :
    Calls Tryz.prog 55 #[.slice a la ca, .slice b la cb] w fun e w' => e = .returned (.bool true) ∧ Below w.heap.size w w' := by
  refine (sameq_any a b la ca cb xs w ha hb h1).mono ?_
  rintro e w' ⟨rfl, n, rfl⟩
  exact ⟨rfl, below_drewN (Below.refl _ _) n⟩

set_option maxHeartbeats 4000000 in
theorem rsame5 (s : Bool) (a1 a2 b1 b2 : Option Addr) (l m c1 c2 d1 d2 : Nat) (xs ys : List Int) (w : World) (h1 : Sl w a1 l xs) (h2 : Sl w a2 l xs) (h3 : Sl w b1 m ys) (h4 : Sl w b2 m ys) (hl : l ≤ 40000000000000) (hm : m ≤ 40000000000000) :
    Calls Tryz.prog 19 #[.agg #[.bool s, .slice a1 l c1, .slice b1 m d1], .agg #[.bool s, .slice a2 l c2, .slice b2 m d2]] w fun e w' => e = .returned (.bool true) ∧ Below w.heap.size w w' := by
  have hss : (s == s) = true := by simp
  have B0 : Below w.heap.size w w := Below.refl _ _
  go_enter Tryz.func19, Tryz.ntmps19
  go_wp2_with fail
  refine ent2 w _ _ _ _ (Q := fun W => Calls Tryz.prog _ _ W _) ?_
  intro x1 hb hs_x1 V0 V1
  replace h1 := Sl.after hb h1
  replace h2 := Sl.after hb h2
  replace h3 := Sl.after hb h3
  replace h4 := Sl.after hb h4
  replace B0 := step B0 hb
  clear hb hs_x1
  refine (sameq_b a1 a2 l c1 c2 xs x1 h1 h2 hl).mono ?_
  rintro e x2 ⟨rfl, hb⟩
  replace V0 := Va.after hb V0
  replace V1 := Va.after hb V1
  replace h1 := Sl.after hb h1
  replace h2 := Sl.after hb h2
  replace h3 := Sl.after hb h3
  replace h4 := Sl.after hb h4
  replace B0 := step B0 hb
  clear hb
  have c_V0 := V0.d0
  have f0_V0 := V0.frozen 0
  have d_V0 := V0.d1
  have f1_V0 := V0.frozen 1
  have e_V0 := V0.d2
  have f2_V0 := V0.frozen 2
  have l_V0 := V0.lt
  have m_V0 := Nat.le_of_lt l_V0
  have c_V1 := V1.d0
  have f0_V1 := V1.frozen 0
  have d_V1 := V1.d1
  have f1_V1 := V1.frozen 1
  have e_V1 := V1.d2
  have f2_V1 := V1.frozen 2
  have l_V1 := V1.lt
  have m_V1 := Nat.le_of_lt l_V1
  go_wp2_with fail
  refine (sameq_b b1 b2 m d1 d2 ys x2 h3 h4 hm).mono ?_
  rintro e x3 ⟨rfl, hb⟩
  replace V0 := Va.after hb V0
  replace V1 := Va.after hb V1
  replace h1 := Sl.after hb h1
  replace h2 := Sl.after hb h2
  replace h3 := Sl.after hb h3
  replace h4 := Sl.after hb h4
  replace B0 := step B0 hb
  clear hb
  clear c_V0 f0_V0 d_V0 f1_V0 e_V0 f2_V0 l_V0 m_V0 c_V1 f0_V1 d_V1 f1_V1 e_V1 f2_V1 l_V1 m_V1
  have c_V0 := V0.d0
  have f0_V0 := V0.frozen 0
  have d_V0 := V0.d1
  have f1_V0 := V0.frozen 1
  have e_V0 := V0.d2
  have f2_V0 := V0.frozen 2
  have l_V0 := V0.lt
  have m_V0 := Nat.le_of_lt l_V0
  have c_V1 := V1.d0
  have f0_V1 := V1.frozen 0
  have d_V1 := V1.d1
  have f1_V1 := V1.frozen 1
  have e_V1 := V1.d2
  have f2_V1 := V1.frozen 2
  have l_V1 := V1.lt
  have m_V1 := Nat.le_of_lt l_V1
  go_wp2_with fail
  go_ret
  exact ⟨rfl, B0⟩
theorem trim_one {xs ys : List Int} (hx : Limbs xs) (hy : Limbs ys) (ux : usedN xs = xs.length) (uy : usedN ys = ys.length) (e : num xs = num ys) : xs = ys := by
  obtain ⟨e1, e2⟩ := one_list hx hy rfl ux e
  rw [uy, List.take_of_length_le (Nat.le_refl _)] at e2
  exact e2
/-- What Plain tells of a number is the document's ratio of it. -/
theorem rt_rr {w w' : World} {s : Bool} {a : Option Addr} {l c : Nat} {zs : List Int} {b : Option Addr} {m d : Nat} {ds : List Int} {v : Rat} {s2 : Bool} {a2 : Option Addr} {l2 c2 : Nat} {xs : List Int} {b2 : Option Addr} {m2 d2 : Nat} {es : List Int}
    (h : Rt w s a l c zs b m d ds v) (g : Rr w' s2 a2 l2 c2 xs b2 m2 d2 es v) {ys : List Int} (hy : Limbs ys ∧ usedN ys = ys.length ∧ num ys = v.den) : s2 = s ∧ l2 = l ∧ xs = zs ∧ m2 = ys.length ∧ es = ys := by
  have e1 : s = decide (v.num < 0) := by rw [← h.2.2.1]; exact h.1.sign
  have g0 : 0 ≤ num xs := num_nonneg g.1.2.1
  have e2 : s2 = decide (v.num < 0) := by
    rw [← g.2.2.2.2.2.1]
    cases s2
    · rw [iv_f]; symm; simp; omega
    · have := g.2.2.2.2.2.2.2 rfl; rw [iv_t]; symm; simp; omega
  have es' : s2 = s := by rw [e1, e2]
  subst es'
  have en : num xs = num zs := by
    have q1 := h.2.2.1
    have q2 := g.2.2.2.2.2.1
    cases s2 <;> simp only [iv_t, iv_f] at q1 q2 <;> omega
  have z1 := h.1.1.1.1
  have z2 := g.1.1
  have z3 := g.2.1.1
  have x1 := trim_one g.1.2.1 h.1.1.limbs (by rw [g.2.2.1, z2]) (by rw [h.1.1.2.1, z1]) en
  have x2 := trim_one g.2.1.2.1 hy.1 (by rw [g.2.2.2.1, z3]) hy.2.1 (by rw [g.2.2.2.2.2.2.1, hy.2.2])
  exact ⟨rfl, by rw [← z2, ← z1, x1], x1, by rw [← z3, x2], x2⟩
theorem Ow.sl {w : World} {g : Nat} {cs : List Int} (h : Ow w g cs) (hL : Limbs cs) {n : Nat} (hn : cs.length = n) : Sl w (some ⟨g, 0, none⟩) n cs := by subst hn; exact Own.sl h hL
theorem len_4096 {zs : List Int} {w : World} {a : Option Addr} {l c : Nat} (h : Nt w a l c zs) : l ≤ 4096 := h.2.2.2
theorem den_4096 {ys : List Int} {v : Rat} (hv : Short v) (hy : Limbs ys ∧ usedN ys = ys.length ∧ num ys = v.den) : ys.length ≤ 1024 := by
  have := used_of_lt hy.1 (n := 1024) (by rw [hy.2.2]; exact hv.2)
  omega
end Go.Proofs.YtebbblhafjaaiaaGreatDoor
