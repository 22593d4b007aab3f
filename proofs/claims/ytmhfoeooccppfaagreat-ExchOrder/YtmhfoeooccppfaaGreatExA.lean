/-
  exchange: newest.
-/
import Derived.Test.YtmhfoeooccppfaaGreatEx9
namespace Go.Proofs.YtmhfoeooccppfaaGreat
open Go.RowKit Go.Shelf
set_option linter.unusedVariables false
set_option maxRecDepth 20000

theorem results_qt {fn : Func} {i j b : Nat} {x y : Value} {tmps : Array Value} {w : World} (h : fn.results = #[.cell i 76, .tmp j]) (hi : tmps.getD i undef = .pointer (some ⟨b, 0, none⟩)) (hv : Va w b 76 #[x, y]) :
    (results fn tmps).run Tryz.prog w = .ok (.tuple #[.agg #[x, y], tmps.getD j undef]) w := by
  have c : w.cell? ⟨b, 0, none⟩ = some x := by rw [hv.cellAt 0]; rfl
  have d : w.cell? ⟨b, 1, none⟩ = some y := by rw [hv.cellAt 1]; rfl
  rw [Array.getD_eq_getD_getElem?] at hi
  simp [results, h, hi, c, d, go_sem]
theorem Va.set2q {w : World} {b : Nat} {t : TypeId} {x y : Value} (h : Va w b t #[x, y]) (x' y' : Value) : Va ((w.setCell ⟨b, 0, none⟩ x').setCell ⟨b, 1, none⟩ y') b t #[x', y'] := by
  have := (h.sti 0 x').sti 1 y'
  simpa using this
theorem belo2q {B : Nat} {a w : World} (h : Below B a w) {c : Nat} (hc : B ≤ c) (x y : Value) : Below B a ((w.setCell ⟨c, 0, none⟩ x).setCell ⟨c, 1, none⟩ y) :=
  (h.setCell (p := ⟨c, 0, none⟩) hc x).setCell (p := ⟨c, 1, none⟩) hc y
set_option maxHeartbeats 8000000 in
theorem newest_any (f t : List UInt8) (hk : Sho (f, t)) (d : Int) (hd : 0 ≤ d) (hd2 : d ≤ 3652058) (S : Nat → Prop) (b m n : Nat) (D : DataW Value) (T : List Qe) (w : World) (h : Tb w S b m n D T) (hT : Tok T) :
    Calls Tryz.prog 34 #[.pointer (some ⟨b, 0, none⟩), .agg #[sv f, sv t], .int .i64 d] w fun e w' => (∃ (y : Int) (r : Nat) (F : Bool), e = .returned (.tuple #[.agg #[.int .i64 y, .float .f64 r], .bool F]) ∧ (F = true → Nst (sel f t T) d (y, r)) ∧ (F = false → Nol (sel f t T) d)) ∧ Below w.heap.size w w' := by
  have B0 : Below w.heap.size w w := Below.refl _ _
  obtain ⟨v, hlook, -, hGe, -⟩ := h.look hk
  obtain ⟨xs, hxs⟩ : ∃ xs, sel f t T = xs := ⟨_, rfl⟩
  rw [hxs] at hGe ⊢
  have HXL : xs.length ≤ 4096 := by rw [← hxs]; exact Nat.le_trans (sel_len _ _ _) hT.len
  have HRI : Hid (Ris xs) := by show Ris _; rw [← hxs]; exact sel_ris hT.srt
  clear hxs
  obtain ⟨a, cap, rfl, hcp, hcm, hsh⟩ := hGe.shape
  have HGE : Hid (Ge elQ w 0 (.slice a xs.length cap) xs) := hGe
  have HSH2 : Hid (a = none ∧ xs = [] ∧ cap = 0 ∨ ∃ g, a = some ⟨g, 0, none⟩) := hsh
  have HTb : Tb w S b m n D T := h
  have HLK := hlook
  clear hGe hcp hcm hsh hlook h
  obtain ⟨len, hlen⟩ : ∃ len, xs.length = len := ⟨_, rfl⟩
  have HN : Hid (xs.length = len) := hlen
  rw [hlen] at HXL HGE HLK
  clear hlen
  have hw : IntKind.i64.wrap (d + 1) = d + 1 := by rw [IntKind.wrap_i64]; omega
  go_enter Tryz.func34, Tryz.ntmps34
  go_upto_region 1 with fail
  refine ent2 w _ _ _ _ (Q := fun W => Code.wp Tryz.prog _ _ _ W) ?_
  intro wx hb hs1 V1 V2
  replace HTb := HTb.after hb
  replace HGE : Hid (Ge elQ wx 0 (.slice a len cap) xs) := HGE.out.after hb
  replace B0 := step B0 hb
  have HTd : Tb wx.drew S b m n D T := HTb.after ((Below.refl _ _).drew)
  have HGd : Ge elQ wx.drew 0 (.slice a len cap) xs := HGE.out.after ((Below.refl _ _).drew)
  have hlk := HLK wx.drew hb.drew
  clear HTb HGE hb hs1
  refine wp_region_noPanic ?_
  replace V1 : Va wx.drew _ _ _ := V1
  replace V2 : Va wx.drew _ _ _ := V2
  replace B0 := Below.drew B0
  refine wp_region_held_drew (S := (fun W => W.cell? ⟨b, 1, none⟩ = some (.map (some m)) ∧ (W.cell? ⟨w.heap.size, 0, none⟩ = some (sv f) ∧ W.cell? ⟨w.heap.size, 1, none⟩ = some (sv t)) ∧ (Instr.lookup 30 (.map (some m)) (pv (f, t)) false).run Tryz.prog W = .ok (.slice a len cap) W)) (by kernel_rfl) ⟨HTd.cells.at1, ⟨by rw [V1.cellAt 0]; rfl, by rw [V1.cellAt 1]; rfl⟩, hlk⟩ (fun hHeld => ?_)
  obtain ⟨y1, hxd⟩ : ∃ xd, xd = wx.drew := ⟨_, rfl⟩
  rw [← hxd] at V1 V2 B0 hHeld ⊢
  have HTb : Tb y1 S b m n D T := by rw [hxd]; exact HTd
  have HGE : Hid (Ge elQ y1 0 (.slice a len cap) xs) := by rw [hxd]; exact HGd
  clear hxd HTd HGd hlk HLK
  refine wpAnyH_take (i := 0) (v := ?_) rfl (by kernel_rfl) (by kernel_rfl) (by kernel_rfl) (fun _ _ _ h => h) (Or.inl ⟨by rfl, ?_⟩) hHeld ?_
  rotate_left
  · (intro W hSw; (try dsimp only at hSw); go_simp; all_goals (with_reducible rfl))
  simp only [List.getElem_toArray, List.getElem_cons_zero, Act.put, List.setIfInBounds_toArray, List.set_cons_zero, List.set_cons_succ]
  refine wpAnyH_take (i := 1) (v := ?_) rfl (by kernel_rfl) (by kernel_rfl) (by kernel_rfl) (fun _ _ _ h => h) (Or.inl ⟨by rfl, ?_⟩) hHeld ?_
  rotate_left
  · (intro W hSw; (try dsimp only at hSw); go_simp; all_goals (with_reducible rfl))
  simp only [List.getElem_toArray, List.getElem_cons_zero, List.getElem_cons_succ, Act.put, List.setIfInBounds_toArray, List.set_cons_zero, List.set_cons_succ]
  refine wpAnyH_take (i := 2) (v := ?_) rfl (by kernel_rfl) (by kernel_rfl) (by kernel_rfl) (fun _ _ _ h => h) (Or.inl ⟨by rfl, ?_⟩) hHeld ?_
  rotate_left
  · (intro W hSw; (try dsimp only at hSw); go_simp; all_goals (with_reducible rfl))
  simp only [List.getElem_toArray, List.getElem_cons_zero, List.getElem_cons_succ, Act.put, List.setIfInBounds_toArray, List.set_cons_zero, List.set_cons_succ]
  refine wpAnyH_take (i := 3) (v := ?_) rfl (by kernel_rfl) (by kernel_rfl) (by kernel_rfl) (fun _ _ _ h => h) (Or.inl ⟨by rfl, ?_⟩) hHeld ?_
  rotate_left
  · (intro W hSw; (try dsimp only at hSw); go_simp; all_goals (with_reducible rfl))
  simp only [List.getElem_toArray, List.getElem_cons_zero, List.getElem_cons_succ, Act.put, List.setIfInBounds_toArray, List.set_cons_zero, List.set_cons_succ]
  refine wpAnyH_take (i := 4) (v := ?_) rfl (by kernel_rfl) (by kernel_rfl) (by kernel_rfl) (fun _ _ _ h => h) (Or.inl ⟨by rfl, ?_⟩) hHeld ?_
  rotate_left
  · (intro W hSw; (try dsimp only at hSw); go_simp; all_goals (with_reducible rfl))
  simp only [List.getElem_toArray, List.getElem_cons_zero, List.getElem_cons_succ, Act.put, List.setIfInBounds_toArray, List.set_cons_zero, List.set_cons_succ]
  refine wpAnyH_take (i := 5) (v := ?_) rfl (by kernel_rfl) (by kernel_rfl) (by kernel_rfl) (fun _ _ _ h => h) (Or.inl ⟨by rfl, ?_⟩) hHeld ?_
  rotate_left
  · (intro W hSw; (try dsimp only at hSw); go_simp; all_goals (with_reducible rfl))
  simp only [List.getElem_toArray, List.getElem_cons_zero, List.getElem_cons_succ, Act.put, List.setIfInBounds_toArray, List.set_cons_zero, List.set_cons_succ]
  refine wpAnyH_take (i := 6) (v := ?_) rfl (by kernel_rfl) (by kernel_rfl) (by kernel_rfl) (fun _ _ _ h => h) (Or.inl ⟨by rfl, ?_⟩) hHeld ?_
  rotate_left
  · (intro W hSw; (try dsimp only at hSw); go_simp; all_goals (with_reducible rfl))
  simp only [List.getElem_toArray, List.getElem_cons_zero, List.getElem_cons_succ, Act.put, List.setIfInBounds_toArray, List.set_cons_zero, List.set_cons_succ]
  refine wpAnyH_done (by kernel_rfl) ?_ _
  refine NoPanic.normal ?_
  clear hHeld
  have bs := fun W hb => bsearch_any xs a cap (d + 1) W (by rw [HN.out]; exact HGE.out.toLe.after hb) HRI.out (by rw [HN.out]; omega)
  rw [HN.out] at bs
  go_wp2_with fail
  refine (bs _ (Below.refl _ _)).mono ?_
  rintro e y2 ⟨⟨i, F, rfl, hs⟩, hb⟩
  have HS : Hid (Sch xs (d + 1) i F) := hs
  have HB2 : Hid (Below y1.heap.size y1 y2) := hb
  clear hs hb
  replace V2 := Va.after HB2.out V2
  replace B0 := step B0 HB2.out
  have HG2 : Hid (Ge elQ y2 0 (.slice a len cap) xs) := HGE.out.after HB2.out
  clear HGE HB2 bs
  obtain ⟨ii, hii⟩ : ∃ ii : Int, (i : Int) = ii := ⟨_, rfl⟩
  rcases Nat.eq_zero_or_pos i with h0 | h0
  · subst h0
    clear hii
    have HNOL : Hid (Nol xs d) := fun y hy => by
      have := HS.out.2.2.1 y (by simpa using hy)
      omega
    clear HS
    have sf := run_store_flt
    have c_0 : y2.cell? ⟨w.heap.size + 1, 0, none⟩ = some (.int .i64 0) := by rw [V2.cellAt 0]; rfl
    have c_1 : y2.cell? ⟨w.heap.size + 1, 1, none⟩ = some (.float .f64 0) := by rw [V2.cellAt 1]; rfl
    have f_0 := V2.frozen 0
    have f_1 := V2.frozen 1
    have l_1 := V2.lt
    go_wp2_with fail
    refine bodyPost_ret (results_qt rfl rfl (V2.set2q _ _)) rfl ?_
    exact ⟨⟨_, _, false, rfl, (fun e => by cases e), fun _ => HNOL.out⟩, belo2q B0 (by omega) _ _⟩
  · clear hii
    have hil : i ≤ xs.length := HS.out.1
    rw [HN.out] at hil
    obtain ⟨g, rfl⟩ : ∃ g, a = some ⟨g, 0, none⟩ := by
      rcases HSH2.out with ⟨-, e, -⟩ | h
      · have := HN.out; rw [e] at this; simp at this; omega
      · exact h
    obtain ⟨j, rfl⟩ : ∃ j, i = j + 1 := ⟨i - 1, by omega⟩
    have hjl : j < len := by omega
    have hxj := getQ xs j (by rw [HN.out]; exact hjl)
    have HNST : Hid (Nst xs d (xs.getD j (0, 0))) := nst_at HRI.out (i := j) (fun y hy => by have := HS.out.2.1 y hy; omega) (fun y hy => by have := HS.out.2.2.1 y hy; omega) hxj
    have c0 : y2.cell? ⟨g, j * 2, none⟩ = some (.int .i64 (xs.getD j (0, 0)).1) := by have := HG2.out.toLe.at j hjl 0 _ rfl; simpa [elQ] using this
    have c1 : y2.cell? ⟨g, j * 2 + 1, none⟩ = some (.float .f64 (xs.getD j (0, 0)).2) := by have := HG2.out.toLe.at j hjl 1 _ rfl; simpa [elQ] using this
    generalize xs.getD j (0, 0) = xj at *
    obtain ⟨yy, rr⟩ := xj
    simp only at c0 c1
    have hj1 : ((j + 1 : Nat) : Int) - 1 = (j : Int) := by omega
    have hj0 : ¬ ((j + 1 : Nat) : Int) = 0 := by omega
    have hjb : (((j + 1 : Nat) : Int) == 0) = false := by simpa using hj0
    clear hxj h0 HS
    have sf := run_store_flt
    have c_0 : y2.cell? ⟨w.heap.size + 1, 0, none⟩ = some (.int .i64 0) := by rw [V2.cellAt 0]; rfl
    have c_1 : y2.cell? ⟨w.heap.size + 1, 1, none⟩ = some (.float .f64 0) := by rw [V2.cellAt 1]; rfl
    have f_0 := V2.frozen 0
    have f_1 := V2.frozen 1
    have l_1 := V2.lt
    go_wp2_with fail
    refine bodyPost_ret (results_qt rfl rfl (V2.set2q _ _)) rfl ?_
    exact ⟨⟨yy, rr, true, rfl, (fun _ => HNST.out), (fun e => by cases e)⟩, belo2q B0 (by omega) _ _⟩
end Go.Proofs.YtmhfoeooccppfaaGreat
