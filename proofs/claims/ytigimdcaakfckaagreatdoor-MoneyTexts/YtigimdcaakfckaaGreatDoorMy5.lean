/-
  money's reader: readSign, readAhead, readBehind.
-/
import Derived.Test.YtigimdcaakfckaaGreatDoorMy4
namespace Go.Proofs.YtigimdcaakfckaaGreatDoor
open Go.RowKit Go.Shelf
set_option linter.unusedVariables false

abbrev Rdr (w : World) (b : Nat) (s : List UInt8) (p : Nat) (D : Int) (neg : Bool) (far : Nat) : Prop := Va w b 126 #[.string ⟨s.toArray⟩, .int .i64 p, .int .i64 D, .bool neg, .int .u64 far]
theorem digit9_any (b : Nat) (s : List UInt8) (p : Nat) (D : Int) (neg : Bool) (far rest : Nat) (w : World) (h : Rdr w b s p D neg far) (hp : p ≤ s.length) (hs : s.length ≤ 140737488355328) (hr : rest ≤ 4) (hf : far ≤ mostU neg) (hT : Tm w) :
    (∃ c, s.drop p = c :: s.drop (p + 1) ∧ p + 1 ≤ s.length ∧ okD neg far rest c = true ∧ Calls Tryz.prog 141 #[.pointer (some ⟨b, 0, none⟩), .int .i64 rest] w fun e w' => e = .returned (.bool true) ∧ Rdr w' b s (p + 1) D neg (far * 10 + wv c) ∧ Only b w w') ∨
    ((s.drop p = [] ∨ ∃ c l, s.drop p = c :: l ∧ okD neg far rest c = false) ∧ Calls Tryz.prog 141 #[.pointer (some ⟨b, 0, none⟩), .int .i64 rest] w fun e w' => e = .returned (.bool false) ∧ Rdr w' b s p D neg far ∧ Only b w w') := by
  rcases Nat.lt_or_ge p s.length with hl | hl
  · obtain ⟨c, hc, hcd⟩ := byte_at s p hl
    have hgc : s.getD p 0 = c := by
      have : s.getD p 0 = (s.drop p).getD 0 0 := by simp
      rw [this, hcd]; rfl
    have hd := digit_at b s p (.int .i64 D) neg far rest w h hl hs hr hf hT
    rw [hgc] at hd
    cases hok : okD neg far rest c
    · right
      rw [hok] at hd
      exact ⟨.inr ⟨c, _, hcd, hok⟩, hd⟩
    · left
      rw [hok] at hd
      refine ⟨c, hcd, by omega, hok, hd.mono fun e w' h => ?_⟩
      have h2 := h.2.1
      rw [hgc] at h2
      exact ⟨h.1, h2, h.2.2⟩
  · obtain rfl : p = s.length := by omega
    exact .inr ⟨.inl (by simp), digit_end b s (.int .i64 D) neg far rest w h⟩
set_option maxHeartbeats 1000000 in
theorem readSign9 (b : Nat) (s nm : List UInt8) (D : Nat) (w : World) (h : Rdr w b s 0 D false 0) (hs : s.length ≤ 140737488355328) (T : R9) (hT : parR nm D s = T) :
    Calls Tryz.prog 107 #[.pointer (some ⟨b, 0, none⟩)] w fun e w' => PcP b s (.int .i64 D) (fun p neg far => plus p (firR neg nm D (s.drop p)) = T ∧ far = 0) T w e w' := by
  have hfx := fixed9 b [45] s 0 (.int .i64 D) (.bool false) (.int .u64 (0 : Nat)) w h (Nat.zero_le _) hs (by simp) (fun _ => (0, some 0)) _ rfl
  have HT : Hid (parR nm D s = T) := hT
  clear h hT
  go_enter Tryz.func107, Tryz.ntmps107
  go_wp2_with fail
  refine hfx.mono ?_
  rintro e w1 ⟨ok, p, rfl, hp, V, h1, h2, ho⟩
  have HV : Hid (Rdr w1 b s p D false 0) := V
  have fz := V.frozen 3
  have hlt := V.lt
  have c3 : w1.cell? ⟨b, 3, none⟩ = some (.bool false) := V.cellAt 3
  have HP : Hid (plus p (firR ok nm D (s.drop p)) = T) := by
    show _ = _
    rw [← HT.out]
    cases s with
    | nil =>
      cases ok
      · have := h2 rfl
        simp [fixC, plus] at this
        subst this; rfl
      · have := h1 rfl
        simp [fixC, plus] at this
    | cons c l =>
      have e1 : parR nm D (c :: l) = if c = 45 then one (firR true nm D l) else firR false nm D (c :: l) := rfl
      have e2 : fixC [45] (fun _ => ((0 : Nat), some (0 : Int))) (c :: l) = if c = 45 then one (0, some 0) else (0, none) := rfl
      rw [e1]
      by_cases hc : c = 45
      · cases ok
        · have := h2 rfl
          rw [List.drop_zero, e2, if_pos hc] at this
          simp [plus, one] at this
        · have := h1 rfl
          rw [List.drop_zero, e2, if_pos hc] at this
          simp [plus, one] at this
          subst this
          rw [if_pos hc]
          show plus 1 (firR true nm D l) = _
          simp [plus, one]; omega
      · cases ok
        · have := h2 rfl
          rw [List.drop_zero, e2, if_neg hc] at this
          simp [plus] at this
          subst this
          rw [if_neg hc, List.drop_zero, plus_zero]
        · have := h1 rfl
          rw [List.drop_zero, e2, if_neg hc] at this
          simp [plus] at this
  clear h1 h2 V
  go_wp2_with fail
  go_ret
  exact ⟨true, ok, p, 0, rfl, hp, HV.out.seti 3 (.bool ok), fun _ => ⟨HP.out, rfl⟩, (fun h => by cases h), ho.set _ _⟩
set_option maxHeartbeats 1000000 in
theorem readBehind9 (b : Nat) (s nm : List UInt8) (D p far : Nat) (neg : Bool) (w : World) (h : Rdr w b s p D neg far) (hp : p ≤ s.length) (hs : s.length ≤ 140737488355328) (T : R9) (hT : plus p (behR neg nm D far (s.drop p)) = T) (hTm : Tm w) (hD : D ≤ 4) (hf : far ≤ mostU neg) (hb : b ≠ 0) :
    Calls Tryz.prog 111 #[.pointer (some ⟨b, 0, none⟩)] w fun e w' => PcP b s (.int .i64 D) (fun p n far => n = neg ∧ plus p (tailR neg nm far (s.drop p)) = T ∧ far ≤ mostU neg) T w e w' := by
  have c2 : w.cell? ⟨b, 2, none⟩ = some (.int .i64 D) := h.cellAt 2
  have HV0 : Hid (Rdr w b s p D neg far) := h
  have HT0 : Hid (plus p (behR neg nm D far (s.drop p)) = T) := hT
  have HTm : Hid (Tm w) := hTm
  have Hf : Hid (far ≤ mostU neg) := hf
  clear h hT hTm hf
  go_enter Tryz.func111, Tryz.ntmps111
  go_wp2_with fail
  go_loopw [3] (fun i wr => ∃ (k p far : Nat), i = .int .i64 ((k : Int) - 1) ∧ k ≤ D ∧ p ≤ s.length ∧ Hid (Rdr wr b s p D neg far) ∧ Hid (plus p (behR neg nm k far (s.drop p)) = T) ∧ Hid (far ≤ mostU neg) ∧ Hid (Only b w wr)) (fun i _ => (intOf i + 1).toNat)
  case atStart => exact ⟨D, p, far, rfl, by omega, hp, HV0.out, HT0.out, Hf.out, Only.refl _ _⟩
  case round =>
    clear hp HV0 HT0 Hf c2
    obtain ⟨k, p, far, rfl, hk, hp, HV, HT, Hf, HO⟩ := hrel
    cases k with
    | zero =>
      go_wp2_with fail
      go_ret
      exact ⟨true, neg, p, far, rfl, hp, HV.out, fun _ => ⟨rfl, HT.out, Hf.out⟩, (fun h => by cases h), HO.out⟩
    | succ j =>
      have eq : ((j + 1 : Nat) : Int) - 1 = (j : Int) := by omega
      have hj0 : (0 : Int) ≤ j := by omega
      rw [eq]
      rcases digit9_any b s p D neg far j wr HV.out hp hs (by omega) Hf.out (HTm.out.only HO.out hb) with ⟨c, hcd, hp1, hok, hd⟩ | ⟨hno, hd⟩
      · have HE : Hid (plus (p + 1) (behR neg nm j (far * 10 + wv c) (s.drop (p + 1))) = T) := by
          have e := HT.out
          rw [hcd] at e
          have e1 : behR neg nm (j + 1) far (c :: s.drop (p + 1)) = if okD neg far j c then one (behR neg nm j (far * 10 + wv c) (s.drop (p + 1))) else (0, none) := rfl
          rw [e1, if_pos hok, plus_one] at e
          exact e
        have HF : Hid (far * 10 + wv c ≤ mostU neg) := Nat.le_trans ((okD_iff _ _ _ _).1 hok).2.1 (Nat.div_le_self _ _)
        clear hcd hok eq
        go_wp2_with fail
        refine hd.mono ?_
        rintro e w1 ⟨rfl, V1, ho⟩
        have HV1 : Hid (Rdr w1 b s (p + 1) D neg (far * 10 + wv c)) := V1
        have HO1 : Hid (Only b w w1) := HO.out.trans ho
        clear V1 ho hd
        go_wp2_with fail
        go_roundw
        case rel => exact ⟨j, p + 1, _, rfl, by omega, hp1, HV1.out, HE.out, HF.out, HO1.out⟩
        case measure => simp [intOf]
      · have HE : Hid (T = (p, none)) := by
          have e := HT.out
          rcases hno with h0 | ⟨c, l, hcd, hok⟩
          · rw [h0] at e; exact e.symm
          · rw [hcd] at e
            have e1 : behR neg nm (j + 1) far (c :: l) = if okD neg far j c then one (behR neg nm j (far * 10 + wv c) l) else (0, none) := rfl
            rw [e1, hok] at e
            exact e.symm
        clear hno eq
        go_wp2_with fail
        refine hd.mono ?_
        rintro e w1 ⟨rfl, V1, ho⟩
        go_wp2_with fail
        go_ret
        exact ⟨false, neg, p, far, rfl, hp, V1, (fun h => by cases h), fun _ => HE.out, HO.out.trans ho⟩
theorem ah_stop {neg : Bool} {nm : List UInt8} {D far : Nat} {l : List UInt8} (h : far = 0 ∨ l = [] ∨ ∃ c r, l = c :: r ∧ okD neg far D c = false) : ahR neg nm D far l = ptR neg nm D far l := by
  cases l with
  | nil => rfl
  | cons c r =>
    show (if (decide (0 < far) && okD neg far D c) = true then _ else _) = _
    rw [if_neg]
    rcases h with h | h | ⟨c', r', h, hk⟩
    · simp [h]
    · cases h
    · injection h with h1 h2; subst h1; simp [hk]
set_option maxHeartbeats 2000000 in
theorem readAhead9 (b : Nat) (s nm : List UInt8) (D p : Nat) (neg : Bool) (w : World) (h : Rdr w b s p D neg 0) (hp : p ≤ s.length) (hs : s.length ≤ 140737488355328) (T : R9) (hT : plus p (firR neg nm D (s.drop p)) = T) (hTm : Tm w) (hD : D ≤ 4) (hb : b ≠ 0) :
    Calls Tryz.prog 109 #[.pointer (some ⟨b, 0, none⟩)] w fun e w' => PcP b s (.int .i64 D) (fun p n far => n = neg ∧ plus p (ptR neg nm D far (s.drop p)) = T ∧ far ≤ mostU neg) T w e w' := by
  have c2 : w.cell? ⟨b, 2, none⟩ = some (.int .i64 D) := h.cellAt 2
  have HTm : Hid (Tm w) := hTm
  have HT : Hid (plus p (firR neg nm D (s.drop p)) = T) := hT
  rcases digit9_any b s p D neg 0 D w h hp hs hD (Nat.zero_le _) hTm with ⟨c, hcd, hp1, hok, hd⟩ | ⟨hno, hd⟩
  · have HE : Hid (plus (p + 1) (ahR neg nm D (wv c) (s.drop (p + 1))) = T) := by
      have e := HT.out
      rw [hcd] at e
      have e1 : firR neg nm D (c :: s.drop (p + 1)) = if okD neg 0 D c = true then one (ahR neg nm D (wv c) (s.drop (p + 1))) else (0, none) := rfl
      rw [e1, if_pos hok, plus_one] at e
      exact e
    have HF : Hid (wv c ≤ mostU neg) := by
      have := Nat.le_trans ((okD_iff _ _ _ _).1 hok).2.1 (Nat.div_le_self _ _)
      rw [Nat.zero_mul, Nat.zero_add] at this; exact this
    rw [Nat.zero_mul, Nat.zero_add] at hd
    clear hcd hok h hT hTm HT
    go_enter Tryz.func109, Tryz.ntmps109
    go_wp2_with fail
    refine hd.mono ?_
    rintro e w1 ⟨rfl, V1, ho⟩
    have HV1 : Hid (Rdr w1 b s (p + 1) D neg (wv c)) := V1
    have HO1 : Hid (Only b w w1) := ho
    clear V1 ho hd c2
    go_wp2_with fail
    go_loopw [4] (fun m wr => ∃ (more : Bool) (p far : Nat), m = .bool more ∧ p ≤ s.length ∧ Hid (Rdr wr b s p D neg far) ∧ Hid ((more = true → plus p (ahR neg nm D far (s.drop p)) = T) ∧ (more = false → plus p (ptR neg nm D far (s.drop p)) = T)) ∧ Hid (far ≤ mostU neg) ∧ Hid (Only b w wr) ∧ Hid (1 ≤ s.length - p + (if more then 1 else 0) ∨ more = false)) (fun m wr => match wr.cell? ⟨b, 1, none⟩ with | some (.int .i64 q) => (s.length - q.toNat) + (match m with | .bool true => 1 | _ => 0) | _ => 0)
    case atStart => exact ⟨true, p + 1, _, rfl, hp1, HV1.out, ⟨fun _ => HE.out, fun h => by cases h⟩, HF.out, HO1.out, .inl (by simp)⟩
    case round =>
      clear hp hp1 HV1 HE HF HO1
      obtain ⟨more, p, far, rfl, hp, HV, HT, Hf, HO, -⟩ := hrel
      have V := HV.out
      have c4 : wr.cell? ⟨b, 4, none⟩ = some (.int .u64 far) := V.cellAt 4
      have c2 : wr.cell? ⟨b, 2, none⟩ = some (.int .i64 D) := V.cellAt 2
      clear V
      cases more with
      | false =>
        go_wp2_with fail
        go_ret
        exact ⟨true, neg, p, far, rfl, hp, HV.out, fun _ => ⟨rfl, by first | exact HT.out.2 rfl | exact HT.out.2 trivial, Hf.out⟩, (fun h => by cases h), HO.out⟩
      | true =>
        by_cases hf0 : far = 0
        · have HE : Hid (plus p (ptR neg nm D far (s.drop p)) = T) := by rw [← ah_stop (.inl hf0)]; exact HT.out.1 rfl
          have hfi : ¬ (0 : Int) < far := by omega
          clear hf0
          go_wp2_with fail
          go_ret
          exact ⟨true, neg, p, far, rfl, hp, HV.out, fun _ => ⟨rfl, HE.out, Hf.out⟩, (fun h => by cases h), HO.out⟩
        · have hfi : (0 : Int) < far := by omega
          have HF0 : Hid (far ≠ 0) := hf0
          clear hf0
          rcases digit9_any b s p D neg far D wr HV.out hp hs hD Hf.out (HTm.out.only HO.out hb) with ⟨c, hcd, hp1, hok, hd⟩ | ⟨hno, hd⟩
          · have HE : Hid (plus (p + 1) (ahR neg nm D (far * 10 + wv c) (s.drop (p + 1))) = T) := by
              have e := HT.out.1 rfl
              rw [hcd] at e
              have e1 : ahR neg nm D far (c :: s.drop (p + 1)) = if (decide (0 < far) && okD neg far D c) = true then one (ahR neg nm D (far * 10 + wv c) (s.drop (p + 1))) else ptR neg nm D far (c :: s.drop (p + 1)) := rfl
              rw [e1, if_pos (by rw [hok, decide_eq_true (by have := HF0.out; omega)]; rfl), plus_one] at e
              exact e
            have HF : Hid (far * 10 + wv c ≤ mostU neg) := Nat.le_trans ((okD_iff _ _ _ _).1 hok).2.1 (Nat.div_le_self _ _)
            clear hcd hok
            go_wp2_with fail
            refine hd.mono ?_
            rintro e w2 ⟨rfl, V1, ho⟩
            have HV1 : Hid (Rdr w2 b s (p + 1) D neg (far * 10 + wv c)) := V1
            have HO1 : Hid (Only b w w2) := HO.out.trans ho
            have HC0 : Hid (wr.cell? ⟨b, 1, none⟩ = some (.int .i64 p)) := HV.out.cellAt 1
            have HC1 : Hid (w2.cell? ⟨b, 1, none⟩ = some (.int .i64 (p + 1 : Nat))) := V1.cellAt 1
            clear V1 ho hd
            go_wp2_with fail
            go_roundw
            case rel => exact ⟨true, p + 1, _, rfl, hp1, HV1.out, ⟨fun _ => HE.out, fun h => by cases h⟩, HF.out, HO1.out, .inl (by simp)⟩
            case measure => rw [HC0.out, HC1.out]; simp; omega
          · have HE : Hid (plus p (ptR neg nm D far (s.drop p)) = T) := by rw [← ah_stop (.inr hno)]; exact HT.out.1 rfl
            clear hno
            go_wp2_with fail
            refine hd.mono ?_
            rintro e w2 ⟨rfl, V1, ho⟩
            have HV1 : Hid (Rdr w2 b s p D neg far) := V1
            have HO1 : Hid (Only b w w2) := HO.out.trans ho
            have HC0 : Hid (wr.cell? ⟨b, 1, none⟩ = some (.int .i64 p)) := HV.out.cellAt 1
            have HC1 : Hid (w2.cell? ⟨b, 1, none⟩ = some (.int .i64 p)) := V1.cellAt 1
            clear V1 ho hd
            go_wp2_with fail
            go_roundw
            case rel => exact ⟨false, p, far, rfl, hp, HV1.out, ⟨(fun h => by cases h), fun _ => HE.out⟩, Hf.out, HO1.out, .inr rfl⟩
            case measure => rw [HC0.out, HC1.out]; simp
  · have HE : Hid (T = (p, none)) := by
      have e := HT.out
      rcases hno with h0 | ⟨c, l, hcd, hok⟩
      · rw [h0] at e; exact e.symm
      · rw [hcd] at e
        have e1 : firR neg nm D (c :: l) = if okD neg 0 D c = true then one (ahR neg nm D (wv c) l) else (0, none) := rfl
        rw [e1, hok] at e
        exact e.symm
    clear hno h hT hTm HT
    go_enter Tryz.func109, Tryz.ntmps109
    go_wp2_with fail
    refine hd.mono ?_
    rintro e w1 ⟨rfl, V1, ho⟩
    go_wp2_with fail
    refine wp_loop_rounds 1 ?_
    rw [rounds_succ]
    go_wp2_with fail
    go_ret
    exact ⟨false, neg, p, 0, rfl, hp, V1, (fun h => by cases h), fun _ => HE.out, ho⟩
end Go.Proofs.YtigimdcaakfckaaGreatDoor
