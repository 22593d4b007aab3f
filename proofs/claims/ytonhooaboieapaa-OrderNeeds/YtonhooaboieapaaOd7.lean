/-
  order: goDown.
-/
import Derived.Test.YtonhooaboieapaaOd6
namespace Go.Proofs.Ytonhooaboieapaa
open Go.RowKit Go.Shelf
set_option linter.unusedVariables false
set_option linter.unusedSimpArgs false
variable {n b0 : Nat} {w wr w' : World} {P : Tpp} {dv ov dv' ov' : Value} {M M' : Tmm}

theorem nameW {w : World} {Q : World → Prop} (h : ∀ W, W = w → Q W) : Q w := h w rfl
set_option maxRecDepth 20000 in
set_option maxHeartbeats 8000000 in
theorem goDown_any (h : Se n b0 w wr P dv ov M) (x : Nat) (hx : x < n) (hm : M.many ≤ 1000000) (hd : M.dn.length ≤ 1000000) (ho : M.op.length ≤ 1000000) :
    Calls Try.prog 48 #[.pointer (some ⟨P.p, 0, none⟩), .int .i64 (x : Int)] wr fun e w' => (∃ u, e = .returned u) ∧ ∃ dv' ov', Se n b0 w w' P dv' ov' ⟨M.gone, upf M.came x (M.many + 1), upf M.early x (M.many + 1), M.many + 1, M.dn ++ [x], M.op ++ [x], upf M.isO x true, M.least⟩ := by
  have HS : Hid (Se n b0 w wr P dv ov M) := h
  have c3 := h.f3
  have f3 := h.st.frozen 3
  have hw1 : IntKind.i64.wrap ((M.many : Int) + 1) = (M.many : Int) + 1 := by rw [IntKind.wrap_i64]; omega
  have hxi : (x : Int) < n := by omega
  have HS1 := h.setMany (M.many + 1) (u := (M.many : Int) + 1) (by omega)
  clear h
  go_enter Try.func48, Try.ntmps48
  go_wp2_with fail
  obtain ⟨W1, hW1⟩ : ∃ W1, W1 = wr.setCell ⟨P.p, 3, none⟩ (.int .i64 ((M.many : Int) + 1)) := ⟨_, rfl⟩
  rw [← hW1] at HS1 ⊢
  clear hW1 c3 f3
  have c2 := HS1.f2
  have c4 := HS1.f4
  have c3 := HS1.f3
  have hmm : ((M.many + 1 : Nat) : Int) = (M.many : Int) + 1 := by omega
  simp only [hmm] at c3
  clear hmm
  have d1 := HS1.ca.cell hx
  have d2 := HS1.ea.cell hx
  have e1 := Fv.frozen HS1.ca x
  have e2 := Fv.frozen HS1.ea x
  have e3 := Fv.frozen (HS1.setCame x (M.many + 1) (u := (M.many : Int) + 1) (by omega)).ea x
  have e4 := (HS1.setCame x (M.many + 1) (u := (M.many : Int) + 1) (by omega)).ea.cell hx
  have HS1h : Hid _ := HS1
  clear HS1
  go_region
  have HS3 := ((HS1h.out.setCame x (M.many + 1) (u := (M.many : Int) + 1) (by omega)).setEarly x (M.many + 1) (u := (M.many : Int) + 1) (by omega))
  clear c2 c3 c4 d1 d2 e1 e2 e3 e4 HS1h
  refine nameW (Q := fun W => Exit.then _ _ _ _ W) (fun W3 hW3 => ?_)
  have HS3h : Hid (Se n b0 w W3 P dv ov ⟨M.gone, upf M.came x (M.many + 1), upf M.early x (M.many + 1), M.many + 1, M.dn, M.op, M.isO, M.least⟩) := by
    have := HS3.drew1
    rw [← hW3] at this
    exact this
  clear HS3 hW3
  have c7 := HS3h.out.f7
  have d7 := HS3h.out.ia.cell hx
  have e7 := Fv.frozen HS3h.out.ia x
  have HS4 : Hid (Se n b0 w (W3.setCell ⟨P.gi, x, none⟩ (.bool true)) P dv ov ⟨M.gone, upf M.came x (M.many + 1), upf M.early x (M.many + 1), M.many + 1, M.dn, M.op, upf M.isO x true, M.least⟩) := HS3h.out.setIs x true
  have c5 := HS4.out.f5
  obtain ⟨ad, cd, hdv, -, -, -⟩ := HS4.out.dg.shape
  obtain ⟨ao, co, hov, -, -, -⟩ := HS4.out.og.shape
  simp only at hdv hov
  rw [hdv] at c5
  have HDV : Hid (dv = .slice ad (ints M.dn).length cd) := hdv
  have HOV : Hid (ov = .slice ao (ints M.op).length co) := hov
  have HG4 : Hid (Ge elI (W3.setCell ⟨P.gi, x, none⟩ (.bool true)) w.heap.size (.slice ad (ints M.dn).length cd) (ints M.dn)) := by
    have := HS4.out.dg; rwa [hdv] at this
  have HN4 : Hid (Le elI ((W3.setCell ⟨P.gi, x, none⟩ (.bool true)).alloc (.cells #[.int .i64 (x : Int)] 3)) (some ⟨W3.heap.size, 0, none⟩) 1 [(x : Int)]) := Le.tmp _ _ (by simp)
  have HL4 : Hid ((ints M.dn).length + 1 ≤ 1000000000000) := by show _ ≤ _; rw [ints_length]; omega
  have HL5 : Hid ((ints M.op).length + 1 ≤ 1000000000000) := by show _ ≤ _; rw [ints_length]; omega
  have HZ4 : Hid (w.heap.size ≤ (W3.setCell ⟨P.gi, x, none⟩ (.bool true)).heap.size) := HS4.out.below.size
  clear hdv hov HS3h
  go_wp2_with (at_builtin; first
    | (refine wpList_appE rfl _ _ _ rfl elI rfl w.heap.size _ (ints M.dn) rfl (HG4.out.al _) W3.heap.size 0 1 1 [(x : Int)] rfl HN4.out HL4.out (by have := HZ4.out; simp at this ⊢; omega) ?_; intro v5 w5 hg5 hgr5 hob5; rw [← HDV.out] at hgr5 hob5; have HS5 : Hid (Se n b0 w (w5.setCell ⟨P.p, 5, none⟩ v5) P v5 ov ⟨M.gone, upf M.came x (M.many + 1), upf M.early x (M.many + 1), M.many + 1, M.dn ++ [x], M.op, upf M.isO x true, M.least⟩) := HS4.out.growDn (l := M.dn ++ [x]) hgr5 (by rw [ints_snoc]; exact hg5) hob5; have q5 := (HS4.out.stD hgr5).at 5 _ rfl; have r5 := (HS4.out.stD hgr5).frozen 5; have c6 := HS5.out.f6; rw [HOV.out] at c6; have HG6 : Hid (Ge elI (w5.setCell ⟨P.p, 5, none⟩ v5) w.heap.size (.slice ao (ints M.op).length co) (ints M.op)) := (by have := HS5.out.og; rwa [HOV.out] at this); have HZ6 : Hid (w.heap.size ≤ (w5.setCell ⟨P.p, 5, none⟩ v5).heap.size) := HS5.out.below.size; have HN6 : Hid (Le elI ((w5.setCell ⟨P.p, 5, none⟩ v5).alloc (.cells #[.int .i64 (x : Int)] 3)) (some ⟨w5.heap.size, 0, none⟩) 1 [(x : Int)]) := Le.tmp _ _ (by simp); obtain ⟨a5, k5, e5, -, -, -⟩ := hg5.shape; rw [List.length_append] at e5; replace e5 : v5 = .slice a5 ((ints M.dn).length + 1) k5 := e5; subst e5; clear hg5 hgr5 hob5)
    | (refine wpList_appE rfl _ _ _ rfl elI rfl w.heap.size _ (ints M.op) rfl (HG6.out.al _) w5.heap.size 0 1 1 [(x : Int)] rfl HN6.out HL5.out (by have := HZ6.out; simp at this ⊢; omega) ?_; intro v7 w7 hg7 hgr7 hob7; rw [← HOV.out] at hgr7 hob7; have HS7 : Hid (Se n b0 w (w7.setCell ⟨P.p, 6, none⟩ v7) P _ v7 ⟨M.gone, upf M.came x (M.many + 1), upf M.early x (M.many + 1), M.many + 1, M.dn ++ [x], M.op ++ [x], upf M.isO x true, M.least⟩) := HS5.out.growOp (l := M.op ++ [x]) hgr7 (by rw [ints_snoc]; exact hg7) hob7; have q7 := (HS5.out.stO hgr7).at 6 _ rfl; have r7 := (HS5.out.stO hgr7).frozen 6; obtain ⟨a7, k7, e7', -, -, -⟩ := hg7.shape; rw [List.length_append] at e7'; replace e7' : v7 = .slice a7 ((ints M.op).length + 1) k7 := e7'; subst e7'; clear hg7 hgr7 hob7))
  go_end0
  exact ⟨⟨_, rfl⟩, _, _, HS7.out⟩
end Go.Proofs.Ytonhooaboieapaa
