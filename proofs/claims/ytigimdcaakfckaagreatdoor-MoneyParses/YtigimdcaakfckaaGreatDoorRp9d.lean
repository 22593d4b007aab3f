/-
  The document's reader of amounts: ahead.
-/
import Derived.Test.YtigimdcaakfckaaGreatDoorRp9c
import Derived.Test.YtigimdcaakfckaaGreatDoorMy5
namespace Go.Proofs.YtigimdcaakfckaaGreatDoor
open Go.RowKit Go.Shelf
set_option linter.unusedVariables false

theorem sto4 {W : World} {b : Nat} {t : TypeId} {x y z u : Value} (h : Va W b t #[x, y, z, u]) (x' y' z' u' : Value) {Q : World → Prop}
    (k : ∀ V, Va V b t #[x', y', z', u'] → (∀ c t cs, c ≠ b → Va W c t cs → Va V c t cs) → (∀ B v, B ≤ b → Below B v W → Below B v V) → Q V) : Q ((((W.setCell ⟨b, 0, none⟩ x').setCell ⟨b, 1, none⟩ y').setCell ⟨b, 2, none⟩ z').setCell ⟨b, 3, none⟩ u') :=
  k _ (h.set4 x' y' z' u') (fun c t cs hc hv => (((hv.other (p := ⟨b, 0, none⟩) hc _).other (p := ⟨b, 1, none⟩) hc _).other (p := ⟨b, 2, none⟩) hc _).other (p := ⟨b, 3, none⟩) hc _) (fun B v hB hb => belo4 hb hB x' y' z' u')
set_option maxHeartbeats 1000000 in
theorem rahead9 (s nm : List UInt8) (p D : Nat) (neg : Bool) (w : World) (hp : p ≤ s.length) (hs : s.length ≤ 140737488355328) (hD : D ≤ 4) (T : R9) (hT : plus p (firR neg nm D (s.drop p)) = T) : Calls Tryz.prog 70 #[rdv p 0 neg false, .string ⟨s.toArray⟩, .int .i64 D] w fun e w' => RpP s (fun p n f => n = neg ∧ plus p (ptR neg nm D f (s.drop p)) = T) T w e w' := by
  have HT : Hid (plus p (firR neg nm D (s.drop p)) = T) := hT
  clear hT
  go_enter Tryz.func70, Tryz.ntmps70
  go_wp2_with fail
  refine ent2 w _ _ _ _ (Q := fun W => Calls Tryz.prog _ _ W _) ?_
  intro x1 B0 hs1 V0 V1
  have hsz : w.heap.size + 2 ≤ x1.heap.size := by omega
  clear hs1
  rcases rdigit_any s p 0 D neg x1 hp hs (Nat.zero_le _) hD with ⟨c, hcd, hp1, hok, hd⟩ | ⟨hno, hd⟩
  · have HE : Hid (plus (p + 1) (ahR neg nm D (wv c) (s.drop (p + 1))) = T) := by
      have e := HT.out
      rw [hcd] at e
      have e1 : firR neg nm D (c :: s.drop (p + 1)) = if okD neg 0 D c = true then one (ahR neg nm D (wv c) (s.drop (p + 1))) else (0, none) := rfl
      rw [e1, if_pos hok, plus_one] at e
      exact e
    have HF : Hid (wv c ≤ mostU neg) := by
      have := Nat.le_trans ((okD_iff _ _ _ _).1 hok).2.1 (Nat.div_le_self _ _)
      rw [Nat.zero_mul, Nat.zero_add] at this; exact this
    rw [Nat.zero_mul, Nat.zero_add] at hd
    clear hcd hok HT
    refine hd.mono ?_
    rintro e x2 ⟨rfl, hb⟩
    replace V0 := Va.after hb V0
    replace V1 := Va.after hb V1
    replace B0 := step B0 hb
    clear hb hd
    have hl0 : w.heap.size < x2.heap.size := V0.lt
    have hl1 : w.heap.size + 1 < x2.heap.size := V1.lt
    have c0 : x2.cell? ⟨w.heap.size, 0, none⟩ = some (.int .i64 p) := V0.cellAt 0
    have f0 := V0.frozen 0
    have c1 : x2.cell? ⟨w.heap.size, 1, none⟩ = some (.int .u64 0) := V0.cellAt 1
    have f1 := V0.frozen 1
    have c2 : x2.cell? ⟨w.heap.size, 2, none⟩ = some (.bool neg) := V0.cellAt 2
    have f2 := V0.frozen 2
    have c3 : x2.cell? ⟨w.heap.size, 3, none⟩ = some (.bool false) := V0.cellAt 3
    have f3 := V0.frozen 3
    have e0 : x2.cell? ⟨w.heap.size + 1, 0, none⟩ = some (.int .i64 0) := V1.cellAt 0
    have d0 := V1.frozen 0
    have e1 : x2.cell? ⟨w.heap.size + 1, 1, none⟩ = some (.int .u64 0) := V1.cellAt 1
    have d1 := V1.frozen 1
    have e2 : x2.cell? ⟨w.heap.size + 1, 2, none⟩ = some (.bool false) := V1.cellAt 2
    have d2 := V1.frozen 2
    have e3 : x2.cell? ⟨w.heap.size + 1, 3, none⟩ = some (.bool false) := V1.cellAt 3
    have d3 := V1.frozen 3
    go_wp2_with fail
    clear c0 c1 c2 c3 f0 f1 f2 f3 e0 e1 e2 e3 d0 d1 d2 d3
    refine sto4 V0 _ _ _ _ (Q := fun W => Code.wp Tryz.prog _ _ _ W) ?_
    intro x3 V0' oth far'
    replace V1 := oth _ _ _ (by omega) V1
    replace B0 := far' _ _ (Nat.le_refl _) B0
    have HV0 : Hid (Va x3 w.heap.size 121 #[.int .i64 (p + 1 : Nat), .int .u64 (wv c : Nat), .bool neg, .bool false]) := V0'
    have HV1 : Hid (Va x3 (w.heap.size + 1) 121 #[.int .i64 0, .int .u64 0, .bool false, .bool false]) := V1
    have HB0 : Hid (Below w.heap.size w x3) := B0
    clear V0 V0' V1 B0 oth far' hl0 hl1 hsz
    go_loopw [] (fun wr => ∃ (q far : Nat), q ≤ s.length ∧ Hid (Va wr w.heap.size 121 #[.int .i64 q, .int .u64 far, .bool neg, .bool false]) ∧ Hid (Va wr (w.heap.size + 1) 121 #[.int .i64 0, .int .u64 0, .bool false, .bool false]) ∧ Hid (plus q (ahR neg nm D far (s.drop q)) = T) ∧ Hid (far ≤ mostU neg) ∧ Hid (Below w.heap.size w wr)) (fun wr => match wr.cell? ⟨w.heap.size, 0, none⟩ with | some (.int .i64 q) => s.length - q.toNat | _ => 0)
    case atStart => exact ⟨p + 1, wv c, hp1, HV0.out, HV1.out, HE.out, HF.out, HB0.out⟩
    case round =>
      clear HV0 HV1 HB0 HE HF hp hp1
      obtain ⟨q, far, hq, HV0, HV1, HE, HF, HB0⟩ := hrel
      have V0 := HV0.out
      have V1 := HV1.out
      have B0 := HB0.out
      have hl1 : w.heap.size + 1 < wr.heap.size := V1.lt
      have c0 : wr.cell? ⟨w.heap.size, 0, none⟩ = some (.int .i64 q) := V0.cellAt 0
      have f0 := V0.frozen 0
      have c1 : wr.cell? ⟨w.heap.size, 1, none⟩ = some (.int .u64 far) := V0.cellAt 1
      have f1 := V0.frozen 1
      have c2 : wr.cell? ⟨w.heap.size, 2, none⟩ = some (.bool neg) := V0.cellAt 2
      have f2 := V0.frozen 2
      have c3 : wr.cell? ⟨w.heap.size, 3, none⟩ = some (.bool false) := V0.cellAt 3
      have f3 := V0.frozen 3
      have e0 : wr.cell? ⟨w.heap.size + 1, 0, none⟩ = some (.int .i64 0) := V1.cellAt 0
      have d0 := V1.frozen 0
      have e1 : wr.cell? ⟨w.heap.size + 1, 1, none⟩ = some (.int .u64 0) := V1.cellAt 1
      have d1 := V1.frozen 1
      have e2 : wr.cell? ⟨w.heap.size + 1, 2, none⟩ = some (.bool false) := V1.cellAt 2
      have d2 := V1.frozen 2
      have e3 : wr.cell? ⟨w.heap.size + 1, 3, none⟩ = some (.bool false) := V1.cellAt 3
      have d3 := V1.frozen 3
      by_cases hf0 : far = 0
      · have HS : Hid (plus q (ptR neg nm D far (s.drop q)) = T) := by rw [← ah_stop (.inl hf0)]; exact HE.out
        have hfi : ¬ (0 : Int) < far := by omega
        clear hf0
        go_wp2_with fail
        refine bodyPost_ret (results_rd rfl rfl (V1.set4 _ _ _ _)) rfl ?_
        exact ⟨false, neg, q, far, rfl, hq, HF.out, fun _ => ⟨rfl, HS.out⟩, (fun h => by cases h), belo4 B0 (by omega) _ _ _ _⟩
      · have hfi : (0 : Int) < far := by omega
        have HF0 : Hid (far ≠ 0) := hf0
        clear hf0
        rcases rdigit_any s q far D neg wr hq hs HF.out hD with ⟨c, hcd, hp1, hok, hd⟩ | ⟨hno, hd⟩
        · have HE2 : Hid (plus (q + 1) (ahR neg nm D (far * 10 + wv c) (s.drop (q + 1))) = T) := by
            have e := HE.out
            rw [hcd] at e
            have e1 : ahR neg nm D far (c :: s.drop (q + 1)) = if (decide (0 < far) && okD neg far D c) = true then one (ahR neg nm D (far * 10 + wv c) (s.drop (q + 1))) else ptR neg nm D far (c :: s.drop (q + 1)) := rfl
            rw [e1, if_pos (by rw [hok, decide_eq_true (by have := HF0.out; omega)]; rfl), plus_one] at e
            exact e
          have HF2 : Hid (far * 10 + wv c ≤ mostU neg) := Nat.le_trans ((okD_iff _ _ _ _).1 hok).2.1 (Nat.div_le_self _ _)
          have HC0 : Hid (wr.cell? ⟨w.heap.size, 0, none⟩ = some (.int .i64 q)) := c0
          clear hcd hok
          obtain ⟨q1, hq1⟩ : ∃ q1, q + 1 = q1 := ⟨_, rfl⟩
          obtain ⟨fz, hf1⟩ : ∃ fz, far * 10 + wv c = fz := ⟨_, rfl⟩
          rw [hq1, hf1] at hd HE2
          rw [hq1] at hp1
          rw [hf1] at HF2
          have HQ1 : Hid (q + 1 = q1) := hq1
          clear hq1 hf1
          go_wp2_with fail
          refine hd.mono ?_
          rintro e y1 ⟨rfl, hb⟩
          replace V0 := Va.after hb V0
          replace V1 := Va.after hb V1
          replace B0 := step B0 hb
          clear c0 c1 c2 c3 f0 f1 f2 f3 e0 e1 e2 e3 d0 d1 d2 d3
          clear hb hd hl1
          have hl1 : w.heap.size + 1 < y1.heap.size := V1.lt
          have hl0 : w.heap.size < y1.heap.size := V0.lt
          have c0 : y1.cell? ⟨w.heap.size, 0, none⟩ = some (.int .i64 q) := V0.cellAt 0
          have f0 := V0.frozen 0
          have c1 : y1.cell? ⟨w.heap.size, 1, none⟩ = some (.int .u64 far) := V0.cellAt 1
          have f1 := V0.frozen 1
          have c2 : y1.cell? ⟨w.heap.size, 2, none⟩ = some (.bool neg) := V0.cellAt 2
          have f2 := V0.frozen 2
          have c3 : y1.cell? ⟨w.heap.size, 3, none⟩ = some (.bool false) := V0.cellAt 3
          have f3 := V0.frozen 3
          have e0 : y1.cell? ⟨w.heap.size + 1, 0, none⟩ = some (.int .i64 0) := V1.cellAt 0
          have d0 := V1.frozen 0
          have e1 : y1.cell? ⟨w.heap.size + 1, 1, none⟩ = some (.int .u64 0) := V1.cellAt 1
          have d1 := V1.frozen 1
          have e2 : y1.cell? ⟨w.heap.size + 1, 2, none⟩ = some (.bool false) := V1.cellAt 2
          have d2 := V1.frozen 2
          have e3 : y1.cell? ⟨w.heap.size + 1, 3, none⟩ = some (.bool false) := V1.cellAt 3
          have d3 := V1.frozen 3
          have oc0 : (y1.alloc (.cells #[.int .i64 (q1 : Nat), .int .u64 (fz : Nat), .bool neg, .bool false] 121)).cell? ⟨w.heap.size, 0, none⟩ = some (.int .i64 q) := (V0.old (.cells #[.int .i64 (q1 : Nat), .int .u64 (fz : Nat), .bool neg, .bool false] 121)).cellAt 0
          have of0 := (V0.old (.cells #[.int .i64 (q1 : Nat), .int .u64 (fz : Nat), .bool neg, .bool false] 121)).frozen 0
          have oc1 : (y1.alloc (.cells #[.int .i64 (q1 : Nat), .int .u64 (fz : Nat), .bool neg, .bool false] 121)).cell? ⟨w.heap.size, 1, none⟩ = some (.int .u64 far) := (V0.old (.cells #[.int .i64 (q1 : Nat), .int .u64 (fz : Nat), .bool neg, .bool false] 121)).cellAt 1
          have of1 := (V0.old (.cells #[.int .i64 (q1 : Nat), .int .u64 (fz : Nat), .bool neg, .bool false] 121)).frozen 1
          have oc2 : (y1.alloc (.cells #[.int .i64 (q1 : Nat), .int .u64 (fz : Nat), .bool neg, .bool false] 121)).cell? ⟨w.heap.size, 2, none⟩ = some (.bool neg) := (V0.old (.cells #[.int .i64 (q1 : Nat), .int .u64 (fz : Nat), .bool neg, .bool false] 121)).cellAt 2
          have of2 := (V0.old (.cells #[.int .i64 (q1 : Nat), .int .u64 (fz : Nat), .bool neg, .bool false] 121)).frozen 2
          have oc3 : (y1.alloc (.cells #[.int .i64 (q1 : Nat), .int .u64 (fz : Nat), .bool neg, .bool false] 121)).cell? ⟨w.heap.size, 3, none⟩ = some (.bool false) := (V0.old (.cells #[.int .i64 (q1 : Nat), .int .u64 (fz : Nat), .bool neg, .bool false] 121)).cellAt 3
          have of3 := (V0.old (.cells #[.int .i64 (q1 : Nat), .int .u64 (fz : Nat), .bool neg, .bool false] 121)).frozen 3
          have oe0 : (y1.alloc (.cells #[.int .i64 (q1 : Nat), .int .u64 (fz : Nat), .bool neg, .bool false] 121)).cell? ⟨w.heap.size + 1, 0, none⟩ = some (.int .i64 0) := (V1.old (.cells #[.int .i64 (q1 : Nat), .int .u64 (fz : Nat), .bool neg, .bool false] 121)).cellAt 0
          have od0 := (V1.old (.cells #[.int .i64 (q1 : Nat), .int .u64 (fz : Nat), .bool neg, .bool false] 121)).frozen 0
          have oe1 : (y1.alloc (.cells #[.int .i64 (q1 : Nat), .int .u64 (fz : Nat), .bool neg, .bool false] 121)).cell? ⟨w.heap.size + 1, 1, none⟩ = some (.int .u64 0) := (V1.old (.cells #[.int .i64 (q1 : Nat), .int .u64 (fz : Nat), .bool neg, .bool false] 121)).cellAt 1
          have od1 := (V1.old (.cells #[.int .i64 (q1 : Nat), .int .u64 (fz : Nat), .bool neg, .bool false] 121)).frozen 1
          have oe2 : (y1.alloc (.cells #[.int .i64 (q1 : Nat), .int .u64 (fz : Nat), .bool neg, .bool false] 121)).cell? ⟨w.heap.size + 1, 2, none⟩ = some (.bool false) := (V1.old (.cells #[.int .i64 (q1 : Nat), .int .u64 (fz : Nat), .bool neg, .bool false] 121)).cellAt 2
          have od2 := (V1.old (.cells #[.int .i64 (q1 : Nat), .int .u64 (fz : Nat), .bool neg, .bool false] 121)).frozen 2
          have oe3 : (y1.alloc (.cells #[.int .i64 (q1 : Nat), .int .u64 (fz : Nat), .bool neg, .bool false] 121)).cell? ⟨w.heap.size + 1, 3, none⟩ = some (.bool false) := (V1.old (.cells #[.int .i64 (q1 : Nat), .int .u64 (fz : Nat), .bool neg, .bool false] 121)).cellAt 3
          have od3 := (V1.old (.cells #[.int .i64 (q1 : Nat), .int .u64 (fz : Nat), .bool neg, .bool false] 121)).frozen 3
          go_wp2_with fail
          clear c0 c1 c2 c3 f0 f1 f2 f3 e0 e1 e2 e3 d0 d1 d2 d3
          clear oc0 oc1 oc2 oc3 of0 of1 of2 of3 oe0 oe1 oe2 oe3 od0 od1 od2 od3
          have V0s := (V0.set4 (.int .i64 (q1 : Nat)) (.int .u64 (fz : Nat)) (.bool neg) (.bool false)).old (.cells #[.int .i64 (q1 : Nat), .int .u64 (fz : Nat), .bool neg, .bool false] 121)
          have V1s := ((((V1.other (p := ⟨w.heap.size, 0, none⟩) (by show w.heap.size + 1 ≠ w.heap.size; omega) (.int .i64 (q1 : Nat))).other (p := ⟨w.heap.size, 1, none⟩) (by show w.heap.size + 1 ≠ w.heap.size; omega) (.int .u64 (fz : Nat))).other (p := ⟨w.heap.size, 2, none⟩) (by show w.heap.size + 1 ≠ w.heap.size; omega) (.bool neg)).other (p := ⟨w.heap.size, 3, none⟩) (by show w.heap.size + 1 ≠ w.heap.size; omega) (.bool false)).old (.cells #[.int .i64 (q1 : Nat), .int .u64 (fz : Nat), .bool neg, .bool false] 121)
          have B0s := belo4 B0 (Nat.le_refl _) (.int .i64 (q1 : Nat)) (.int .u64 (fz : Nat)) (.bool neg) (.bool false)
          have B0t := B0s.alloc B0s.size (.cells #[.int .i64 (q1 : Nat), .int .u64 (fz : Nat), .bool neg, .bool false] 121)
          have HC1 : Hid (World.cell? _ ⟨w.heap.size, 0, none⟩ = some (Value.int .i64 (q1 : Nat))) := V0s.cellAt 0
          go_roundw
          case rel => exact ⟨q1, fz, hp1, V0s, V1s, HE2.out, HF2.out, B0t⟩
          case measure =>
            rw [HC0.out, HC1.out]
            have := HQ1.out
            simp; omega
        · have HS : Hid (plus q (ptR neg nm D far (s.drop q)) = T) := by rw [← ah_stop (.inr hno)]; exact HE.out
          clear hno
          go_wp2_with fail
          refine hd.mono ?_
          rintro e y1 ⟨rfl, hb⟩
          replace V0 := Va.after hb V0
          replace V1 := Va.after hb V1
          replace B0 := step B0 hb
          clear c0 c1 c2 c3 f0 f1 f2 f3 e0 e1 e2 e3 d0 d1 d2 d3
          clear hb hd hl1
          have hl1 : w.heap.size + 1 < y1.heap.size := V1.lt
          have hl0 : w.heap.size < y1.heap.size := V0.lt
          have c0 : y1.cell? ⟨w.heap.size, 0, none⟩ = some (.int .i64 q) := V0.cellAt 0
          have f0 := V0.frozen 0
          have c1 : y1.cell? ⟨w.heap.size, 1, none⟩ = some (.int .u64 far) := V0.cellAt 1
          have f1 := V0.frozen 1
          have c2 : y1.cell? ⟨w.heap.size, 2, none⟩ = some (.bool neg) := V0.cellAt 2
          have f2 := V0.frozen 2
          have c3 : y1.cell? ⟨w.heap.size, 3, none⟩ = some (.bool false) := V0.cellAt 3
          have f3 := V0.frozen 3
          have e0 : y1.cell? ⟨w.heap.size + 1, 0, none⟩ = some (.int .i64 0) := V1.cellAt 0
          have d0 := V1.frozen 0
          have e1 : y1.cell? ⟨w.heap.size + 1, 1, none⟩ = some (.int .u64 0) := V1.cellAt 1
          have d1 := V1.frozen 1
          have e2 : y1.cell? ⟨w.heap.size + 1, 2, none⟩ = some (.bool false) := V1.cellAt 2
          have d2 := V1.frozen 2
          have e3 : y1.cell? ⟨w.heap.size + 1, 3, none⟩ = some (.bool false) := V1.cellAt 3
          have d3 := V1.frozen 3
          have oc0 : (y1.alloc (.cells #[.int .i64 (q : Nat), .int .u64 (far : Nat), .bool neg, .bool true] 121)).cell? ⟨w.heap.size, 0, none⟩ = some (.int .i64 q) := (V0.old (.cells #[.int .i64 (q : Nat), .int .u64 (far : Nat), .bool neg, .bool true] 121)).cellAt 0
          have of0 := (V0.old (.cells #[.int .i64 (q : Nat), .int .u64 (far : Nat), .bool neg, .bool true] 121)).frozen 0
          have oc1 : (y1.alloc (.cells #[.int .i64 (q : Nat), .int .u64 (far : Nat), .bool neg, .bool true] 121)).cell? ⟨w.heap.size, 1, none⟩ = some (.int .u64 far) := (V0.old (.cells #[.int .i64 (q : Nat), .int .u64 (far : Nat), .bool neg, .bool true] 121)).cellAt 1
          have of1 := (V0.old (.cells #[.int .i64 (q : Nat), .int .u64 (far : Nat), .bool neg, .bool true] 121)).frozen 1
          have oc2 : (y1.alloc (.cells #[.int .i64 (q : Nat), .int .u64 (far : Nat), .bool neg, .bool true] 121)).cell? ⟨w.heap.size, 2, none⟩ = some (.bool neg) := (V0.old (.cells #[.int .i64 (q : Nat), .int .u64 (far : Nat), .bool neg, .bool true] 121)).cellAt 2
          have of2 := (V0.old (.cells #[.int .i64 (q : Nat), .int .u64 (far : Nat), .bool neg, .bool true] 121)).frozen 2
          have oc3 : (y1.alloc (.cells #[.int .i64 (q : Nat), .int .u64 (far : Nat), .bool neg, .bool true] 121)).cell? ⟨w.heap.size, 3, none⟩ = some (.bool false) := (V0.old (.cells #[.int .i64 (q : Nat), .int .u64 (far : Nat), .bool neg, .bool true] 121)).cellAt 3
          have of3 := (V0.old (.cells #[.int .i64 (q : Nat), .int .u64 (far : Nat), .bool neg, .bool true] 121)).frozen 3
          have oe0 : (y1.alloc (.cells #[.int .i64 (q : Nat), .int .u64 (far : Nat), .bool neg, .bool true] 121)).cell? ⟨w.heap.size + 1, 0, none⟩ = some (.int .i64 0) := (V1.old (.cells #[.int .i64 (q : Nat), .int .u64 (far : Nat), .bool neg, .bool true] 121)).cellAt 0
          have od0 := (V1.old (.cells #[.int .i64 (q : Nat), .int .u64 (far : Nat), .bool neg, .bool true] 121)).frozen 0
          have oe1 : (y1.alloc (.cells #[.int .i64 (q : Nat), .int .u64 (far : Nat), .bool neg, .bool true] 121)).cell? ⟨w.heap.size + 1, 1, none⟩ = some (.int .u64 0) := (V1.old (.cells #[.int .i64 (q : Nat), .int .u64 (far : Nat), .bool neg, .bool true] 121)).cellAt 1
          have od1 := (V1.old (.cells #[.int .i64 (q : Nat), .int .u64 (far : Nat), .bool neg, .bool true] 121)).frozen 1
          have oe2 : (y1.alloc (.cells #[.int .i64 (q : Nat), .int .u64 (far : Nat), .bool neg, .bool true] 121)).cell? ⟨w.heap.size + 1, 2, none⟩ = some (.bool false) := (V1.old (.cells #[.int .i64 (q : Nat), .int .u64 (far : Nat), .bool neg, .bool true] 121)).cellAt 2
          have od2 := (V1.old (.cells #[.int .i64 (q : Nat), .int .u64 (far : Nat), .bool neg, .bool true] 121)).frozen 2
          have oe3 : (y1.alloc (.cells #[.int .i64 (q : Nat), .int .u64 (far : Nat), .bool neg, .bool true] 121)).cell? ⟨w.heap.size + 1, 3, none⟩ = some (.bool false) := (V1.old (.cells #[.int .i64 (q : Nat), .int .u64 (far : Nat), .bool neg, .bool true] 121)).cellAt 3
          have od3 := (V1.old (.cells #[.int .i64 (q : Nat), .int .u64 (far : Nat), .bool neg, .bool true] 121)).frozen 3
          go_wp2_with fail
          have V1s := (V1.set4 (.int .i64 (q : Nat)) (.int .u64 (far : Nat)) (.bool neg) (.bool false)).old (.cells #[.int .i64 (q : Nat), .int .u64 (far : Nat), .bool neg, .bool true] 121)
          have B0s := belo4 B0 (show w.heap.size ≤ w.heap.size + 1 by omega) (.int .i64 (q : Nat)) (.int .u64 (far : Nat)) (.bool neg) (.bool false)
          have B0t := B0s.alloc B0s.size (.cells #[.int .i64 (q : Nat), .int .u64 (far : Nat), .bool neg, .bool true] 121)
          refine bodyPost_ret (results_rd rfl rfl V1s) rfl ?_
          exact ⟨false, neg, q, far, rfl, hq, HF.out, fun _ => ⟨rfl, HS.out⟩, (fun h => by cases h), B0t⟩
  · have HE : Hid (T = (p, none)) := by
      have e := HT.out
      rcases hno with h0 | ⟨c, l, hcd, hok⟩
      · rw [h0] at e; exact e.symm
      · rw [hcd] at e
        have e1 : firR neg nm D (c :: l) = if okD neg 0 D c = true then one (ahR neg nm D (wv c) l) else (0, none) := rfl
        rw [e1, hok] at e
        exact e.symm
    clear hno HT
    refine hd.mono ?_
    rintro e x2 ⟨rfl, hb⟩
    replace V0 := Va.after hb V0
    replace V1 := Va.after hb V1
    replace B0 := step B0 hb
    clear hb hd
    have hl0 : w.heap.size < x2.heap.size := V0.lt
    have hl1 : w.heap.size + 1 < x2.heap.size := V1.lt
    have c0 : x2.cell? ⟨w.heap.size, 0, none⟩ = some (.int .i64 p) := V0.cellAt 0
    have f0 := V0.frozen 0
    have c1 : x2.cell? ⟨w.heap.size, 1, none⟩ = some (.int .u64 0) := V0.cellAt 1
    have f1 := V0.frozen 1
    have c2 : x2.cell? ⟨w.heap.size, 2, none⟩ = some (.bool neg) := V0.cellAt 2
    have f2 := V0.frozen 2
    have c3 : x2.cell? ⟨w.heap.size, 3, none⟩ = some (.bool false) := V0.cellAt 3
    have f3 := V0.frozen 3
    have e0 : x2.cell? ⟨w.heap.size + 1, 0, none⟩ = some (.int .i64 0) := V1.cellAt 0
    have d0 := V1.frozen 0
    have e1 : x2.cell? ⟨w.heap.size + 1, 1, none⟩ = some (.int .u64 0) := V1.cellAt 1
    have d1 := V1.frozen 1
    have e2 : x2.cell? ⟨w.heap.size + 1, 2, none⟩ = some (.bool false) := V1.cellAt 2
    have d2 := V1.frozen 2
    have e3 : x2.cell? ⟨w.heap.size + 1, 3, none⟩ = some (.bool false) := V1.cellAt 3
    have d3 := V1.frozen 3
    go_wp2_with fail
    clear c0 c1 c2 c3 f0 f1 f2 f3 e0 e1 e2 e3 d0 d1 d2 d3
    refine sto4 V0 _ _ _ _ (Q := fun W => Code.wp Tryz.prog _ _ _ W) ?_
    intro x3 V0' oth far'
    replace V1 := oth _ _ _ (by omega) V1
    replace B0 := far' _ _ (Nat.le_refl _) B0
    clear V0 oth far'
    have V0 := V0'
    clear V0'
    have c0 : x3.cell? ⟨w.heap.size, 0, none⟩ = some (.int .i64 p) := V0.cellAt 0
    have f0 := V0.frozen 0
    have c1 : x3.cell? ⟨w.heap.size, 1, none⟩ = some (.int .u64 (0 : Nat)) := V0.cellAt 1
    have f1 := V0.frozen 1
    have c2 : x3.cell? ⟨w.heap.size, 2, none⟩ = some (.bool neg) := V0.cellAt 2
    have f2 := V0.frozen 2
    have c3 : x3.cell? ⟨w.heap.size, 3, none⟩ = some (.bool true) := V0.cellAt 3
    have f3 := V0.frozen 3
    have e0 : x3.cell? ⟨w.heap.size + 1, 0, none⟩ = some (.int .i64 0) := V1.cellAt 0
    have d0 := V1.frozen 0
    have e1 : x3.cell? ⟨w.heap.size + 1, 1, none⟩ = some (.int .u64 0) := V1.cellAt 1
    have d1 := V1.frozen 1
    have e2 : x3.cell? ⟨w.heap.size + 1, 2, none⟩ = some (.bool false) := V1.cellAt 2
    have d2 := V1.frozen 2
    have e3 : x3.cell? ⟨w.heap.size + 1, 3, none⟩ = some (.bool false) := V1.cellAt 3
    have d3 := V1.frozen 3
    refine wp_loop_rounds 1 ?_
    rw [rounds_succ]
    go_wp2_with fail
    refine bodyPost_ret (results_rd rfl rfl (V1.set4 _ _ _ _)) rfl ?_
    exact ⟨true, neg, p, 0, rfl, hp, Nat.zero_le _, (fun h => by cases h), fun _ => HE.out, belo4 B0 (by omega) _ _ _ _⟩
end Go.Proofs.YtigimdcaakfckaaGreatDoor
