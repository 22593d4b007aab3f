/-
  The document's Text of whole numbers.
-/
import Derived.Test.YtpfbcicjfnfpgaaDoorTwQ
import Derived.Test.YtpfbcicjfnfpgaaDoorWh5
import Derived.Test.YtpfbcicjfnfpgaaDoorGrU
import Derived.Test.YtpfbcicjfnfpgaaDoorWTxt
namespace Go.Proofs.YtpfbcicjfnfpgaaDoor
open Go.RowKit Go.Shelf
set_option linter.unusedVariables false
def Wr4 (w : World) (g m : Nat) (ds : List Int) : Prop := ds.length = m ∧ ∃ cur : Array Value, w.heap[g]? = some (.cells cur 43 (0, 0)) ∧ ∀ i, i < m → cur[i]? = some (.int .u64 (ds.getD i 0))
theorem Wr4.cell {w : World} {g m : Nat} {ds : List Int} (h : Wr4 w g m ds) (i : Nat) (hi : i < m) : w.cell? ⟨g, i, none⟩ = some (.int .u64 (ds.getD i 0)) := by
  obtain ⟨-, cur, h1, h2⟩ := h
  simp only [World.cell?, h1]
  simpa using h2 i hi
theorem Wr4.frozen {w : World} {g m : Nat} {ds : List Int} (h : Wr4 w g m ds) (i : Nat) : w.frozen? ⟨g, i, none⟩ = false := by
  obtain ⟨-, cur, h1, h2⟩ := h
  simp [World.frozen?, h1]
theorem Wr4.lt {w : World} {g m : Nat} {ds : List Int} (h : Wr4 w g m ds) : g < w.heap.size := by
  obtain ⟨-, cur, h1, h2⟩ := h
  rcases Nat.lt_or_ge g w.heap.size with h' | h'
  · exact h'
  · rw [Array.getElem?_eq_none h'] at h1; cases h1
theorem Wr4.set {w : World} {g m : Nat} {ds : List Int} (h : Wr4 w g m ds) (i : Nat) (hi : i < m) (v : Int) : Wr4 (w.setCell ⟨g, i, none⟩ (.int .u64 v)) g m (ds.set i v) := by
  obtain ⟨h0, cur, h1, h2⟩ := h
  have hc : i < cur.size := by
    rcases Nat.lt_or_ge i cur.size with h' | h'
    · exact h'
    · have := h2 i hi; rw [Array.getElem?_eq_none h'] at this; cases this
  refine ⟨by rw [List.length_set]; exact h0, cur.setIfInBounds i (.int .u64 v), ?_, fun j hj => ?_⟩
  · simp only [World.setCell]
    rw [Array.getElem?_modify, if_pos rfl, h1]
    simp
  · rw [List.getD_eq_getElem?_getD]
    by_cases e : i = j
    · subst e
      rw [Array.getElem?_setIfInBounds_self_of_lt hc, List.getElem?_set_self (by omega)]; rfl
    · rw [Array.getElem?_setIfInBounds_ne e, List.getElem?_set_ne e, ← List.getD_eq_getElem?_getD]; exact h2 j hj
theorem Wr4.sl {w : World} {g m : Nat} {ds : List Int} (h : Wr4 w g m ds) (hL : Limbs ds) : Sl w (some ⟨g, 0, none⟩) m ds :=
  ⟨h.1, hL, fun _ => ⟨g, 0, rfl, fun i hi => by rw [Nat.zero_add]; exact h.cell i hi⟩⟩
theorem Wr4.take {w : World} {g m : Nat} {ds : List Int} (h : Wr4 w g m ds) {n : Nat} (hn : n ≤ m) : Wr4 w g n (ds.take n) := by
  obtain ⟨h0, cur, h1, h2⟩ := h
  refine ⟨by rw [List.length_take]; omega, cur, h1, fun i hi => ?_⟩
  rw [h2 i (by omega), List.getD_eq_getElem?_getD, List.getD_eq_getElem?_getD, List.getElem?_take_of_lt hi]
theorem Wr4.below {B : Nat} {w w' : World} {g m : Nat} {ds : List Int} (h : Wr4 w g m ds) (b : Below B w w') (hg : g < B) : Wr4 w' g m ds := by
  obtain ⟨h0, cur, h1, h2⟩ := h
  exact ⟨h0, cur, by rw [b.block g hg]; exact h1, h2⟩
theorem Gr.shape4 {w : World} {B : Nat} {v : Value} {cs : List Int} (h : Gr w B v cs) : (v = .slice none 0 0 ∧ cs = []) ∨ ∃ g cap, v = .slice (some ⟨g, 0, none⟩) cs.length cap ∧ B ≤ g ∧ g < w.heap.size ∧ cs.length ≤ cap ∧ Wr4 w g cs.length cs := by
  obtain ⟨h1, h2 | ⟨g, cap, cur, rfl, hB, hh, hc, hm, hs, ht⟩⟩ := h
  · obtain ⟨rfl, h0⟩ := h2
    exact .inl ⟨rfl, List.length_eq_zero_iff.1 h0⟩
  · refine .inr ⟨g, cap, rfl, hB, ?_, hc, rfl, cur, hh, fun i hi => ?_⟩
    · rcases Nat.lt_or_ge g w.heap.size with h' | h'
      · exact h'
      · rw [Array.getElem?_eq_none h'] at hh; cases hh
    · have hr := row_getElem? cs i hi
      rw [← ht, Nat.mul_one, List.getElem?_take_of_lt hi] at hr
      simpa using hr
def slenT : Value → Nat
  | .slice _ n _ => n
  | _ => 0
theorem GrU.lenT {w : World} {B : Nat} {v : Value} {cs : List UInt8} (h : GrU w B v cs) : slenT v = cs.length := by
  obtain ⟨h1, h2 | ⟨g, cap, cur, e, hB, hh, hc, hm, hs, ht⟩⟩ := h
  · obtain ⟨rfl, h0⟩ := h2
    rw [h0]; rfl
  · rw [e]; rfl
theorem size_setCell (w : World) (p : Addr) (v : Value) : (w.setCell p v).heap.size = w.heap.size := by simp
theorem GrU.seth {w : World} {B : Nat} {v : Value} {cs : List UInt8} (h : GrU w B v cs) {g : Nat} (hg : g < B) (k : Nat) (x : Value) : GrU (w.setCell ⟨g, k, none⟩ x) B v cs := by
  obtain ⟨h1, h2 | ⟨g', cap, cur, e, hB, hh, hc, hm, hs, ht⟩⟩ := h
  · exact ⟨h1, .inl h2⟩
  · refine ⟨h1, .inr ⟨g', cap, cur, e, hB, ?_, hc, hm, hs, ht⟩⟩
    rw [Below.heap_setCell w ⟨g, k, none⟩ x g' (show g' ≠ g by omega)]
    exact hh
theorem Gr.after3 {w w' : World} (hb : Below w.heap.size w w') {B : Nat} {v : Value} {cs : List Int} (h : Gr w B v cs) : Gr w' B v cs := by
  obtain ⟨h1, h2 | ⟨g, cap, cur, e, hg, hh, hc, hm, hs, ht⟩⟩ := h
  · exact ⟨h1, .inl h2⟩
  · refine ⟨h1, .inr ⟨g, cap, cur, e, hg, ?_, hc, hm, hs, ht⟩⟩
    rw [hb.block g (by rcases Nat.lt_or_ge g w.heap.size with h' | h'; exact h'; rw [Array.getElem?_eq_none h'] at hh; cases hh)]
    exact hh
def RdU (w : World) (g m : Nat) (bs : List UInt8) : Prop := bs.length = m ∧ ∃ cur : Array Value, w.heap[g]? = some (.cells cur 5 (0, 0)) ∧ ∀ i, i < m → cur[i]? = some (.int .u8 ((bs.getD i 0).toNat : Int))
theorem RdU.cell {w : World} {g m : Nat} {bs : List UInt8} (h : RdU w g m bs) (i : Nat) (hi : i < m) : w.cell? ⟨g, i, none⟩ = some (.int .u8 ((bs.getD i 0).toNat : Int)) := by
  obtain ⟨-, cur, hc, hd⟩ := h
  simp [World.cell?, hc, hd i hi, go_sem]
theorem RdU.below {B : Nat} {w w' : World} {g m : Nat} {bs : List UInt8} (h : RdU w g m bs) (b : Below B w w') (hg : g < B) : RdU w' g m bs := by
  obtain ⟨h1, cur, hc, hd⟩ := h
  exact ⟨h1, cur, by rw [b.block g hg]; exact hc, hd⟩
theorem rowU_getElem? (cs : List UInt8) (i : Nat) (h : i < cs.length) : (rowU cs)[i]? = some (.int .u8 ((cs.getD i 0).toNat : Int)) := by
  unfold rowU
  rw [List.getElem?_map, List.getD_eq_getElem?_getD, List.getElem?_eq_getElem h]
  rfl
theorem GrU.shape4 {w : World} {B : Nat} {v : Value} {cs : List UInt8} (h : GrU w B v cs) : (v = .slice none 0 0 ∧ cs = []) ∨ ∃ g cap, v = .slice (some ⟨g, 0, none⟩) cs.length cap ∧ B ≤ g ∧ g < w.heap.size ∧ cs.length ≤ cap ∧ RdU w g cs.length cs := by
  obtain ⟨h1, h2 | ⟨g, cap, cur, rfl, hB, hh, hc, hm, hs, ht⟩⟩ := h
  · obtain ⟨rfl, h0⟩ := h2
    exact .inl ⟨rfl, List.length_eq_zero_iff.1 h0⟩
  · refine .inr ⟨g, cap, rfl, hB, ?_, hc, rfl, cur, hh, fun i hi => ?_⟩
    · rcases Nat.lt_or_ge g w.heap.size with h' | h'
      · exact h'
      · rw [Array.getElem?_eq_none h'] at hh; cases hh
    · have hr := rowU_getElem? cs i hi
      rw [← ht, Nat.mul_one, List.getElem?_take_of_lt hi] at hr
      simpa using hr
theorem map_getD {os : List Int} {i : Nat} (h : i < os.length) : (os.map ltr).getD i 0 = ltr (os.getD i 0) := by
  rw [List.getD_eq_getElem?_getD, List.getD_eq_getElem?_getD, List.getElem?_map, List.getElem?_eq_getElem h]
  rfl
theorem all_zero {l : List Int} {n : Nat} (hl : l.length = n) (h : ∀ j, j < n → l.getD j 0 = 0) : ∀ z ∈ l, z = 0 := fun z hz => by
  obtain ⟨j, hj, rfl⟩ := List.getElem_of_mem hz
  have := h j (by omega)
  rw [List.getD_eq_getElem?_getD, List.getElem?_eq_getElem hj] at this
  exact this
set_option maxHeartbeats 4000000 in
set_option maxRecDepth 8000 in
theorem rtext4 (s : Bool) (a : Option Addr) (l c : Nat) (zs : List Int) (w : World) (h : Ir w s a l c zs) (hl : l ≤ 4096) (hl0 : 0 < l) :
    Calls Tryd.prog 6 #[.agg #[.bool s, .slice a l c]] w fun e W' => ∃ t, e = .returned (.string ⟨(sg s ++ t).toArray⟩) ∧ Tx 10 t (num zs).toNat ∧ Below w.heap.size w W' := by
  have hs0 := h.1
  have hu0 := h.2.1
  have hz := hs0.1
  have hL := hs0.2.1
  obtain ⟨b, off, rfl, -⟩ := hs0.2.2 hl0
  have HSL : Hid (Sl w (some ⟨b, off, none⟩) l zs) := hs0
  clear h hs0
  have hli : ¬ (l : Int) = 0 := by omega
  have hlb : ((l : Int) == 0) = false := by simp; omega
  have B0 : Below w.heap.size w w := Below.refl _ _
  go_enter Tryd.func6, Tryd.ntmps6
  go_wp2_with fail
  refine ent1 w _ _ (Q := fun W => Code.wp Tryd.prog _ _ _ W) ?_
  intro x1 hb hs1 V1
  replace B0 := step B0 hb
  clear hb
  have HV1 : Hid (Va x1 w.heap.size 29 #[.bool s, .slice (some ⟨b, off, none⟩) l c]) := V1
  have HB0 : Hid (Below w.heap.size w x1) := B0
  clear V1 B0
  go_loopw [3, 4] (fun v k wr => ∃ j : Nat, k = .int .i64 ((j : Int) - 1) ∧ j ≤ l ∧ Hid (Gr wr (w.heap.size + 1) v (hs (zs.drop j))) ∧ Hid (Va wr w.heap.size 29 #[.bool s, .slice (some ⟨b, off, none⟩) l c]) ∧ Hid (Below w.heap.size w wr)) (fun _ k _ => (intOf k + 1).toNat)
  case atStart => exact ⟨l, rfl, Nat.le_refl _, by rw [← hz, List.drop_length]; exact Gr.nil _ _, HV1, HB0⟩
  case round =>
    clear HV1 HB0
    obtain ⟨j, rfl, hj, hG, HV1, HB0⟩ := hrel
    rcases Nat.eq_zero_or_pos j with h0 | h0
    rotate_left
    · obtain ⟨i, rfl⟩ : ∃ i, j = i + 1 := ⟨j - 1, by omega⟩
      have hki : ((i + 1 : Nat) : Int) - 1 = i := by omega
      rw [hki]
      clear hki
      have V1 := HV1.out
      have B0 := HB0.out
      have hs2 := HSL.out.below B0 (Nat.le_refl _)
      obtain ⟨b2, off2, e2, hcell⟩ := hs2.2.2 hl0
      cases e2
      have hcx := hcell i (by omega)
      have hw := hL.getD i
      have hstep := hs_drop (zs := zs) (k := i) (by omega)
      obtain ⟨x, hx⟩ : ∃ x, zs.getD i 0 = x := ⟨_, rfl⟩
      rw [hx] at hcx hw hstep
      obtain ⟨y1, y2⟩ := hw
      obtain ⟨d0, hd0⟩ : ∃ d, x % 4294967296 = d := ⟨_, rfl⟩
      obtain ⟨d1, hd1⟩ : ∃ d, x / 4294967296 = d := ⟨_, rfl⟩
      rw [hd0, hd1] at hstep
      have e1 : x.tmod 4294967296 = d0 := by rw [Int.tmod_eq_emod_of_nonneg y1, hd0]
      obtain ⟨cs, hcs⟩ : ∃ cs, hs (zs.drop (i + 1)) = cs := ⟨_, rfl⟩
      rw [hcs] at hG hstep
      have hcl : cs.length ≤ 8192 := by rw [← hcs, hs_len, List.length_drop]; omega
      have HS : Hid (hs (zs.drop i) = cs ++ [d1, d0]) := by show _ = _; rw [hstep]; simp
      have hii : (0 : Int) ≤ i := by omega
      have hil : (i : Int) < l := by omega
      clear hs2 hcell hx hstep hcs HV1 HB0
      have c_V1 := V1.c0
      have f0_V1 := V1.frozen 0
      have d_V1 := V1.c1
      have f1_V1 := V1.frozen 1
      have l_V1 := V1.lt
      have m_V1 := Nat.le_of_lt l_V1
      go_wp2_with fail
      clear c_V1 f0_V1 d_V1 f1_V1 l_V1 m_V1
      refine wp_region_noPanic ?_
      replace V1 : Va wr.drew _ _ _ := V1
      replace B0 := Below.drew B0
      refine wp_region_held_drew (S := (fun W => W.cell? ⟨w.heap.size, 1, none⟩ = some (.slice (some ⟨b, off, none⟩) l c) ∧ W.cell? ⟨b, off + i, none⟩ = some (.int .u64 x))) (by kernel_rfl) ⟨V1.c1, hcx⟩ (fun hHeld => ?_)
      obtain ⟨x2, hxd⟩ : ∃ xd, xd = wr.drew := ⟨_, rfl⟩
      rw [← hxd] at V1 B0 hHeld ⊢
      replace hcx : x2.cell? ⟨b, off + i, none⟩ = some (.int .u64 x) := by rw [hxd]; exact hcx
      replace hG : Hid (Gr x2 (w.heap.size + 1) u3 cs) := by rw [hxd]; exact hG
      have lV := V1.lt
      clear hxd
      refine wpAnyH_take (i := 0) (v := ?_) rfl (by kernel_rfl) (by kernel_rfl) (by kernel_rfl) (fun _ _ _ h => h) (Or.inl ⟨by rfl, ?_⟩) hHeld ?_
      rotate_left
      · (intro W hSw; (try dsimp only at hSw); go_simp; all_goals (with_reducible rfl))
      simp only [List.getElem_toArray, List.getElem_cons_zero, Act.put, List.setIfInBounds_toArray, List.set_cons_zero, List.set_cons_succ]
      refine wpAnyH_take (i := 1) (v := ?_) rfl (by kernel_rfl) (by kernel_rfl) (by kernel_rfl) (fun _ _ _ h => h) (Or.inl ⟨by rfl, ?_⟩) hHeld ?_
      rotate_left
      · (intro W hSw; (try dsimp only at hSw); go_simp; all_goals (with_reducible rfl))
      simp only [List.getElem_toArray, List.getElem_cons_zero, List.getElem_cons_succ, Act.put, List.setIfInBounds_toArray, List.set_cons_zero, List.set_cons_succ]
      refine wpAnyH_take (i := 2) (v := ?_) rfl (by kernel_rfl) (by kernel_rfl) (by kernel_rfl) (fun _ _ _ h => h) (Or.inl ⟨by rfl, ?_⟩) hHeld ?_
      rotate_left
      · (intro W hSw; (try dsimp only at hSw); go_simp; all_goals (with_reducible rfl))
      simp only [List.getElem_toArray, List.getElem_cons_zero, List.getElem_cons_succ, Act.put, List.setIfInBounds_toArray, List.set_cons_zero, List.set_cons_succ]
      refine wpAnyH_take (i := 3) (v := ?_) rfl (by kernel_rfl) (by kernel_rfl) (by kernel_rfl) (fun _ _ _ h => h) (Or.inl ⟨by rfl, ?_⟩) hHeld ?_
      rotate_left
      · (intro W hSw; (try dsimp only at hSw); go_simp; all_goals (with_reducible rfl))
      simp only [List.getElem_toArray, List.getElem_cons_zero, List.getElem_cons_succ, Act.put, List.setIfInBounds_toArray, List.set_cons_zero, List.set_cons_succ]
      refine wpAnyH_take (i := 4) (v := ?_) rfl (by kernel_rfl) (by kernel_rfl) (by kernel_rfl) (fun _ _ _ h => h) (Or.inl ⟨by rfl, ?_⟩) hHeld ?_
      rotate_left
      · (intro W hSw; (try dsimp only at hSw); go_simp; all_goals (with_reducible rfl))
      simp only [List.getElem_toArray, List.getElem_cons_zero, List.getElem_cons_succ, Act.put, List.setIfInBounds_toArray, List.set_cons_zero, List.set_cons_succ]
      refine wpAnyH_take (i := 5) (v := ?_) rfl (by kernel_rfl) (by kernel_rfl) (by kernel_rfl) (fun _ _ _ h => h) (Or.inl ⟨by rfl, ?_⟩) hHeld ?_
      rotate_left
      · (intro W hSw; (try dsimp only at hSw); go_simp; all_goals (with_reducible rfl))
      simp only [List.getElem_toArray, List.getElem_cons_zero, List.getElem_cons_succ, Act.put, List.setIfInBounds_toArray, List.set_cons_zero, List.set_cons_succ]
      refine wpAnyH_take (i := 6) (v := ?_) rfl (by kernel_rfl) (by kernel_rfl) (by kernel_rfl) (fun _ _ _ h => h) (Or.inl ⟨by rfl, ?_⟩) hHeld ?_
      rotate_left
      · (intro W hSw; (try dsimp only at hSw); go_simp; all_goals (with_reducible rfl))
      simp only [List.getElem_toArray, List.getElem_cons_zero, List.getElem_cons_succ, Act.put, List.setIfInBounds_toArray, List.set_cons_zero, List.set_cons_succ]
      refine wpAnyH_take (i := 7) (v := ?_) rfl (by kernel_rfl) (by kernel_rfl) (by kernel_rfl) (fun _ _ _ h => h) (Or.inl ⟨by rfl, ?_⟩) hHeld ?_
      rotate_left
      · (intro W hSw; (try dsimp only at hSw); go_simp; all_goals (with_reducible rfl))
      simp only [List.getElem_toArray, List.getElem_cons_zero, List.getElem_cons_succ, Act.put, List.setIfInBounds_toArray, List.set_cons_zero, List.set_cons_succ]
      refine wpAnyH_take (i := 8) (v := ?_) rfl (by kernel_rfl) (by kernel_rfl) (by kernel_rfl) (fun _ _ _ h => h) (Or.inl ⟨by rfl, ?_⟩) hHeld ?_
      rotate_left
      · (intro W hSw; (try dsimp only at hSw); go_simp; all_goals (with_reducible rfl))
      simp only [List.getElem_toArray, List.getElem_cons_zero, List.getElem_cons_succ, Act.put, List.setIfInBounds_toArray, List.set_cons_zero, List.set_cons_succ]
      refine wpAnyH_take (i := 9) (v := ?_) rfl (by kernel_rfl) (by kernel_rfl) (by kernel_rfl) (fun _ _ _ h => h) (Or.inl ⟨by rfl, ?_⟩) hHeld ?_
      rotate_left
      · (intro W hSw; (try dsimp only at hSw); go_simp; all_goals (with_reducible rfl))
      simp only [List.getElem_toArray, List.getElem_cons_zero, List.getElem_cons_succ, Act.put, List.setIfInBounds_toArray, List.set_cons_zero, List.set_cons_succ]
      refine wpAnyH_take (i := 10) (v := ?_) rfl (by kernel_rfl) (by kernel_rfl) (by kernel_rfl) (fun _ _ _ h => h) (Or.inl ⟨by rfl, ?_⟩) hHeld ?_
      rotate_left
      · (intro W hSw; (try dsimp only at hSw); go_simp; all_goals (with_reducible rfl))
      simp only [List.getElem_toArray, List.getElem_cons_zero, List.getElem_cons_succ, Act.put, List.setIfInBounds_toArray, List.set_cons_zero, List.set_cons_succ]
      refine wpAnyH_take (i := 11) (v := ?_) rfl (by kernel_rfl) (by kernel_rfl) (by kernel_rfl) (fun _ _ _ h => h) (Or.inl ⟨by rfl, ?_⟩) hHeld ?_
      rotate_left
      · (intro W hSw; (try dsimp only at hSw); go_simp; all_goals (with_reducible rfl))
      simp only [List.getElem_toArray, List.getElem_cons_zero, List.getElem_cons_succ, Act.put, List.setIfInBounds_toArray, List.set_cons_zero, List.set_cons_succ]
      refine wpAnyH_take (i := 12) (v := ?_) rfl (by kernel_rfl) (by kernel_rfl) (by kernel_rfl) (fun _ _ _ h => h) (Or.inl ⟨by rfl, ?_⟩) hHeld ?_
      rotate_left
      · (intro W hSw; (try dsimp only at hSw); go_simp; all_goals (with_reducible rfl))
      simp only [List.getElem_toArray, List.getElem_cons_zero, List.getElem_cons_succ, Act.put, List.setIfInBounds_toArray, List.set_cons_zero, List.set_cons_succ]
      refine wpAnyH_ready (rs := [13]) (by kernel_rfl) (by simp) ?_
      refine AllReadyH.cons rfl (fun K hK => ?_) AllReadyH.nil
      simp only [List.getElem_toArray, List.getElem_cons_zero, List.getElem_cons_succ]
      go_simp
      refine ent1 x2 _ _ (Q := fun V => K _ V) ?_
      intro x3 hb hsz VG
      have lB := B0.size
      have lc : b < w.heap.size := HSL.out.lt hl0 rfl
      replace V1 := Va.after hb V1
      replace hcx := (hb.cell (p := ⟨b, off + i, none⟩) (show b < x2.heap.size by omega)).trans hcx
      replace hG : Hid (Gr x3 (w.heap.size + 1) u3 cs) := Gr.after3 hb hG.out
      replace B0 := step B0 hb
      have hsz3 : x2.heap.size < x3.heap.size := by omega
      clear hb hsz
      refine hK.out _ _ ⟨V1.c1, hcx⟩ (fun hHeld => ?_)
      clear hK K
      refine wpAnyH_ready (rs := [14]) (by kernel_rfl) (by simp) ?_
      refine AllReadyH.cons rfl (fun K hK => ?_) AllReadyH.nil
      simp only [List.getElem_toArray, List.getElem_cons_zero, List.getElem_cons_succ]
      refine step_app (o := { dst := some 40, op := .call { callee := .builtin .append, args := #[.tmp 26, .tmp 39], argTypes := #[22, 22] }, type := 22, pos := "ref.go:117", after := #[{ on := 0, ground := .data }, { on := 13, ground := .data }], guard := none }) rfl (.tmp 26) (.tmp 39) rfl (w.heap.size + 1) u3 cs rfl hG.out x2.heap.size 2 2 [d1, d0] rfl rfl VG (by omega) (by omega) ?_
      intro v4 x4 hG4 hb4
      replace V1 := V1.below hb4 (Nat.lt_succ_self _)
      replace hcx := (hb4.cell (p := ⟨b, off + i, none⟩) (show b < w.heap.size + 1 by omega)).trans hcx
      replace B0 := B0.trans (hb4.mono (Nat.le_succ _))
      have HG4 : Hid (Gr x4 (w.heap.size + 1) v4 (hs (zs.drop i))) := by show Gr _ _ _ _; rw [HS.out]; exact hG4
      clear hG4 hb4 VG hG
      simp only [Act.put, List.setIfInBounds_toArray, List.set_cons_zero, List.set_cons_succ]
      refine hK.out _ _ ⟨V1.c1, hcx⟩ (fun hHeld => ?_)
      clear hK K
      refine wpAnyH_take (i := 15) (v := ?_) rfl (by kernel_rfl) (by kernel_rfl) (by kernel_rfl) (fun _ _ _ h => h) (Or.inl ⟨by rfl, ?_⟩) hHeld ?_
      rotate_left
      · (intro W hSw; (try dsimp only at hSw); go_simp; all_goals (with_reducible rfl))
      simp only [List.getElem_toArray, List.getElem_cons_zero, List.getElem_cons_succ, Act.put, List.setIfInBounds_toArray, List.set_cons_zero, List.set_cons_succ]
      refine wpAnyH_done (by kernel_rfl) ?_ _
      refine NoPanic.normal ?_
      clear hHeld
      have HV4 : Hid (Va x4 w.heap.size 29 #[.bool s, .slice (some ⟨b, off, none⟩) l c]) := V1
      have HB4 : Hid (Below w.heap.size w x4) := B0
      clear V1 B0 hcx
      go_wp2_with fail
      go_roundw
      case rel => exact ⟨i, by go_num, by omega, HG4, HV4, HB4⟩
      case measure => simp [intOf]
    · subst h0
      rw [show (((0 : Nat) : Int) - 1) = -1 from rfl]
      rw [List.drop_zero] at hG
      obtain ⟨L, hLL⟩ : ∃ L, (hs zs).length = L := ⟨_, rfl⟩
      have hL2 : L = 2 * l := by rw [← hLL, hs_len, hz]
      obtain ⟨g, cap, hsh, hg1, hg2, hgc, hW⟩ : ∃ g cap, u3 = .slice (some ⟨g, 0, none⟩) (hs zs).length cap ∧ w.heap.size + 1 ≤ g ∧ g < wr.heap.size ∧ (hs zs).length ≤ cap ∧ Wr4 wr g (hs zs).length (hs zs) := by
        rcases hG.out.shape4 with ⟨-, e⟩ | h
        · rw [e] at hLL; simp at hLL; omega
        · exact h
      rw [hLL] at hsh hgc hW
      subst hsh
      obtain ⟨B1, hB1⟩ : ∃ B1, B1 = wr.heap.size := ⟨_, rfl⟩
      obtain ⟨Nn, hNn⟩ : ∃ Nn, num zs = Nn := ⟨_, rfl⟩
      have hN0 : 0 < Nn := by have h1 := num_nonneg hL; have h2 := num_eq_zero hL; rw [hu0] at h2; rw [hNn] at h1 h2; omega
      have hNb : Nn < 2 ^ (64 * 4096) := by rw [← pw_eq, ← hNn]; exact Int.lt_of_lt_of_le (num_lt hL) (pw_mono (by omega))
      have HM : Hid (∀ n : Nat, (10 : Int) ^ n ≤ Nn → n ≤ 262144) := fun n hn => ten_len hNb hn
      have HNN : Hid (num zs = Nn ∧ 0 < Nn) := ⟨hNn, hN0⟩
      have hbe : be (hs zs) = Nn := by rw [hs_be, hNn]
      have HW0 : Hid (Wr4 wr g L (hs zs)) := hW
      have HF0 : Hid (Hf (hs zs) ∧ (hs zs).length = L ∧ ∀ j, j < 0 → (hs zs).getD j 0 = 0) := ⟨hs_hf hL, hLL, fun j hj => absurd hj (by omega)⟩
      have HE0 : Hid ((0 = L ∧ be (hs zs) = 0) ∨ (0 < L ∧ 0 < be (hs zs))) := .inr ⟨by omega, by rw [hbe]; exact hN0⟩
      have HO0 : Hid (No Nn (be (hs zs)) []) := by show No _ _ _; rw [hbe]; exact No.start Nn
      have HU0 : Hid (GrU wr B1 (.slice none 0 0) (([] : List Int).map ltr)) := GrU.nil _ _
      have hgB : g < B1 := by omega
      have hBw : w.heap.size + 1 ≤ B1 := by omega
      have hB1e : B1 ≤ wr.heap.size := by omega
      have hL8 : L ≤ 8192 := by omega
      have hL1 : 1 ≤ L := by omega
      have HV1b : Hid (Va wr w.heap.size 29 #[.bool s, .slice (some ⟨b, off, none⟩) l c]) := HV1.out
      clear hG hW hNn hNb hN0 hbe hL hz HSL hu0 hB1 hLL hL2
      clear HV1
      have HV1 := HV1b
      clear HV1b
      go_wp2_with fail
      go_loopw [5, 6] (fun bk fr W => ∃ (cs os : List Int) (f : Nat), fr = .int .i64 f ∧ f ≤ L ∧ Hid (Wr4 W g L cs) ∧ Hid (Hf cs ∧ cs.length = L ∧ ∀ j, j < f → cs.getD j 0 = 0) ∧ Hid ((f = L ∧ be cs = 0) ∨ (f < L ∧ 0 < be cs)) ∧ Hid (No Nn (be cs) os) ∧ Hid (GrU W B1 bk (os.map ltr)) ∧ os.length ≤ 262153 ∧ Hid (Va W w.heap.size 29 #[.bool s, .slice (some ⟨b, off, none⟩) l c]) ∧ Hid (Below w.heap.size w W) ∧ B1 ≤ W.heap.size) (fun bk _ _ => 300000 - slenT bk)
      case atStart => exact ⟨_, [], 0, rfl, by omega, HW0, HF0, HE0, HO0, HU0, by simp, HV1, HB0, hB1e⟩
      case round =>
        clear HW0 HF0 HE0 HO0 HU0 HV1 HB0 hB1e
        obtain ⟨cs, os, f, rfl, hfL, HW, HF, HE, HO, HU, hol, HV1, HB0, hBW⟩ := hrel
        have hln := HU.out.lenT
        rcases HE.out with ⟨hfe, hb0⟩ | ⟨hfl, hbp⟩
        rotate_left
        · have hfi : (f : Int) < L := by omega
          have hos : os.length ≤ 262144 := HM.out _ (HO.out.len hbp)
          have HD0 : Hid (Dv cs cs f 0) := Dv.start HF.out.1 HF.out.2.2 (by rw [HF.out.2.1]; exact hfL)
          have HZ0 : Hid (∀ j, j < f → cs.getD j 0 = 0) := HF.out.2.2
          have HCL : Hid (cs.length = L) := HF.out.2.1
          clear hbp HE HF
          go_wp2_with fail
          go_loopw [7, 8] (fun rs kk W => ∃ (c2 : List Int) (k : Nat) (r : Int), rs = .int .u64 r ∧ kk = .int .i64 k ∧ f ≤ k ∧ k ≤ L ∧ Hid (Dv cs c2 k r) ∧ Hid (∀ j, j < f → c2.getD j 0 = 0) ∧ Hid (Wr4 W g L c2) ∧ Hid (GrU W B1 u5 (os.map ltr)) ∧ Hid (Va W w.heap.size 29 #[.bool s, .slice (some ⟨b, off, none⟩) l c]) ∧ Hid (Below w.heap.size w W) ∧ B1 ≤ W.heap.size) (fun _ kk _ => L - (intOf kk).toNat)
          case atStart => exact ⟨cs, f, 0, rfl, rfl, Nat.le_refl _, hfL, HD0, HZ0, HW, HU, HV1, HB0, hBW⟩
          case round =>
            clear HD0 HZ0 HW HU HV1 HB0 hBW
            obtain ⟨c2, k, r, rfl, rfl, hfk, hkL, HD, HZ, HW, HU, HV1, HB0, hBW⟩ := hrel
            by_cases hk : k < L
            · have hki : (k : Int) < L := by omega
              have hcell := HW.out.cell k hk
              have hfro := HW.out.frozen k
              have hyb := HD.out.hf.getD k
              have hst := HD.out.step (by rw [HCL.out]; exact hk)
              have hr0 := HD.out.r0
              have hr1 := HD.out.r1
              have hlt := HW.out.lt
              obtain ⟨y, hy⟩ : ∃ y, c2.getD k 0 = y := ⟨_, rfl⟩
              rw [hy] at hcell hyb hst
              obtain ⟨y0, y1⟩ := hyb
              obtain ⟨X, hX⟩ : ∃ X, r * 4294967296 + y = X := ⟨_, rfl⟩
              rw [hX] at hst
              have X0 : 0 ≤ X := by omega
              have X1 : X < 18446744073709551616 := by omega
              obtain ⟨q, hq⟩ : ∃ q, X / 1000000000 = q := ⟨_, rfl⟩
              obtain ⟨m, hm⟩ : ∃ m, X % 1000000000 = m := ⟨_, rfl⟩
              rw [hq, hm] at hst
              have e1 : X.tdiv 1000000000 = q := by rw [Int.tdiv_eq_ediv_of_nonneg X0, hq]
              have e2 : X.tmod 1000000000 = m := by rw [Int.tmod_eq_emod_of_nonneg X0, hm]
              have q0 : 0 ≤ q := by omega
              have q1 : q < 18446744073709551616 := by omega
              have wq : IntKind.u64.wrap q = q := by rw [IntKind.wrap_u64]; omega
              have wr1 : IntKind.u64.wrap (r * 4294967296) = r * 4294967296 := by rw [IntKind.wrap_u64]; omega
              have HST : Hid (Dv cs (c2.set k q) (k + 1) m) := hst
              have HW2 : Hid (∀ W, W = wr → Wr4 (W.setCell ⟨g, k, none⟩ (.int .u64 q)) g L (c2.set k q)) := fun W hW => by subst hW; exact HW.out.set k hk q
              have HZ2 : Hid (∀ j, j < f → (c2.set k q).getD j 0 = 0) := fun j hj => by rw [List.getD_eq_getElem?_getD, List.getElem?_set_ne (by omega), ← List.getD_eq_getElem?_getD]; exact HZ.out j hj
              clear hst hy hq hm HD HZ hr1
              go_wp2_with fail
              have HU2 : Hid (GrU (wr.setCell ⟨g, k, none⟩ (.int .u64 q)) B1 u5 (os.map ltr)) := HU.out.seth hgB _ _
              have HV2 : Hid (Va (wr.setCell ⟨g, k, none⟩ (.int .u64 q)) w.heap.size 29 #[.bool s, .slice (some ⟨b, off, none⟩) l c]) := HV1.out.other (p := ⟨g, k, none⟩) (show w.heap.size ≠ g by omega) _
              have HB2 : Hid (Below w.heap.size w (wr.setCell ⟨g, k, none⟩ (.int .u64 q))) := HB0.out.setCell (p := ⟨g, k, none⟩) (show w.heap.size ≤ g by omega) _
              have hBW2 : B1 ≤ (wr.setCell ⟨g, k, none⟩ (.int .u64 q)).heap.size := by rw [size_setCell]; exact hBW
              go_roundw
              case rel => exact ⟨c2.set k q, k + 1, m, rfl, by go_num, by omega, by omega, HST, HZ2, HW2.out _ rfl, HU2, HV2, HB2, hBW2⟩
              case measure => simp [intOf]; omega
            · obtain rfl : k = L := by omega
              have hki : ¬ (k : Int) < k := by omega
              have hdn : be cs = be c2 * 1000000000 + r := by have := HD.out; rw [← HCL.out] at this; exact this.done
              have hcl2 : c2.length = k := by rw [HD.out.len]; exact HCL.out
              have HNI : Hid (Ni Nn (be c2) 0 os r) := HO.out.into hdn HD.out.r0 HD.out.r1
              have HC2 : Hid (Hf c2 ∧ c2.length = k ∧ ∀ j, j < f → c2.getD j 0 = 0) := ⟨HD.out.hf, hcl2, HZ.out⟩
              clear hdn hcl2 HD HZ HO HCL
              go_wp2_with fail
              go_loopw [5, 7, 10] (fun bk rs nn W => ∃ (o2 : List Int) (i : Nat) (r : Int), rs = .int .u64 r ∧ nn = .int .i64 i ∧ i ≤ 9 ∧ Hid (Ni Nn (be c2) i o2 r) ∧ o2.length = os.length + i ∧ Hid (GrU W B1 bk (o2.map ltr)) ∧ Hid (Wr4 W g k c2) ∧ Hid (Va W w.heap.size 29 #[.bool s, .slice (some ⟨b, off, none⟩) l c]) ∧ Hid (Below w.heap.size w W) ∧ B1 ≤ W.heap.size) (fun _ _ nn _ => (9 - intOf nn).toNat)
              case atStart => exact ⟨os, 0, r, rfl, rfl, by omega, HNI, by simp, HU, HW, HV1, HB0, hBW⟩
              case round =>
                clear HNI HU HW HV1 HB0 hBW
                obtain ⟨o2, i, r, rfl, rfl, hi9, HNI, hol2, HU, HW, HV1, HB0, hBW⟩ := hrel
                by_cases hi : i < 9
                · have hii : (i : Int) < 9 := by omega
                  have hst := HNI.out.step hi
                  have hr0 := HNI.out.r0
                  have hr1 := HNI.out.rb
                  obtain ⟨d, hd⟩ : ∃ d, r % 10 = d := ⟨_, rfl⟩
                  obtain ⟨q, hq⟩ : ∃ q, r / 10 = q := ⟨_, rfl⟩
                  rw [hd, hq] at hst
                  have HST : Hid (Ni Nn (be c2) (i + 1) (o2 ++ [d]) q) := hst
                  have e1 : r.tmod 10 = d := by rw [Int.tmod_eq_emod_of_nonneg hr0, hd]
                  have e2 : r.tdiv 10 = q := by rw [Int.tdiv_eq_ediv_of_nonneg hr0, hq]
                  have d0 : 0 ≤ d := by omega
                  have d1 : d < 10 := by omega
                  have hlv := ltr_ten (x := d) ⟨d0, d1⟩
                  obtain ⟨ch, hch⟩ : ∃ ch, ltr d = ch := ⟨_, rfl⟩
                  rw [hch] at hlv
                  have wq : IntKind.u64.wrap q = q := by rw [IntKind.wrap_u64]; omega
                  have w64 : IntKind.u64.wrap (48 + d) = 48 + d := by rw [IntKind.wrap_u64]; omega
                  have w8 : IntKind.u8.wrap (48 + d) = (ch.toNat : Int) := by rw [hlv]; show (48 + d) % 256 = _; omega
                  have HMP : Hid ((o2 ++ [d]).map ltr = o2.map ltr ++ [ch]) := by show _ = _; rw [List.map_append, List.map_singleton, hch]
                  have hlen : (o2.map ltr).length + 1 ≤ 17592186044416 := by rw [List.length_map]; omega
                  obtain ⟨bs, hbs⟩ : ∃ bs, o2.map ltr = bs := ⟨_, rfl⟩
                  have HBS : Hid (o2.map ltr = bs) := hbs
                  rw [hbs] at HU HMP hlen
                  have hsA : B1 ≤ (wr.alloc (.cells #[.int .u8 (ch.toNat : Int)] 5)).heap.size := by simp; omega
                  have HUa : Hid (GrU (wr.alloc (.cells #[.int .u8 (ch.toNat : Int)] 5)) B1 u5 bs) := HU.out.alloc _
                  have HC1 : Hid ((wr.alloc (.cells #[.int .u8 (ch.toNat : Int)] 5)).cell? ⟨wr.heap.size, 0, none⟩ = some (.int .u8 (ch.toNat : Int))) := (Va.new wr 5 #[.int .u8 (ch.toNat : Int)]).cell
                  have HBa : Hid (Below B1 wr (wr.alloc (.cells #[.int .u8 (ch.toNat : Int)] 5))) := (Below.refl B1 wr).alloc hBW _
                  clear hst hd hq hch hlv HU HNI hr0 hr1 hbs
                  go_wp2_with (at_builtin; refine wpList_appU rfl (.tmp 70) (.tmp 75) rfl B1 u5 bs rfl HUa.out wr.heap.size ch rfl HC1.out hlen hsA ?_; intro v2 w2 HG2 hb2)
                  have bb : Below B1 wr w2 := HBa.out.trans hb2
                  have HG3 : Hid (GrU w2 B1 v2 ((o2 ++ [d]).map ltr)) := by rw [HMP.out]; exact HG2.out
                  have HW3 : Hid (Wr4 w2 g k c2) := HW.out.below bb hgB
                  have HV3 : Hid (Va w2 w.heap.size 29 #[.bool s, .slice (some ⟨b, off, none⟩) l c]) := HV1.out.below bb (by omega)
                  have HB3 : Hid (Below w.heap.size w w2) := HB0.out.trans (bb.mono (by omega))
                  have hBW3 : B1 ≤ w2.heap.size := Nat.le_trans hBW bb.size
                  clear HG2 hb2 HUa HC1 HBa bb HW HV1 HB0 hBW HMP
                  go_wp2_with fail
                  go_roundw
                  case rel => exact ⟨o2 ++ [d], i + 1, q, rfl, by go_num, by omega, HST, by rw [List.length_append, List.length_singleton]; omega, HG3, HW3, HV3, HB3, hBW3⟩
                  case measure => simp [intOf]; omega
                · obtain rfl : i = 9 := by omega
                  have HNO : Hid (No Nn (be c2) o2) := HNI.out.leave
                  have HZ9 : Hid (∀ j, j < f → c2.getD j 0 = 0) := HC2.out.2.2
                  have HF9 : Hid (Hf c2 ∧ c2.length = k) := ⟨HC2.out.1, HC2.out.2.1⟩
                  have hln2 := HU.out.lenT
                  clear HNI HC2
                  go_wp2_with fail
                  obtain ⟨wv, hwv⟩ : ∃ wv, wv = wr := ⟨_, rfl⟩
                  rw [← hwv] at HU HW HV1 HB0 hBW ⊢
                  clear hwv
                  go_loopw [6] (fun fr W => ∃ f2 : Nat, fr = .int .i64 f2 ∧ f2 ≤ k ∧ Hid (∀ j, j < f2 → c2.getD j 0 = 0) ∧ W = wv) (fun fr _ => k - (intOf fr).toNat)
                  case atStart => exact ⟨f, rfl, hfL, HZ9, rfl⟩
                  case round =>
                    clear HZ9
                    obtain ⟨f2, rfl, hf2, HZ9, hwr⟩ := hrel
                    rw [hwr]
                    clear hwr
                    by_cases hf3 : f2 < k
                    · have hf3i : (f2 : Int) < k := by omega
                      have hf3n : decide (f2 < k) = true := decide_eq_true hf3
                      have hcell := HW.out.cell f2 hf3
                      obtain ⟨z, hz9⟩ : ∃ z, c2.getD f2 0 = z := ⟨_, rfl⟩
                      rw [hz9] at hcell
                      by_cases hz0 : z = 0
                      · subst hz0
                        have HZ8 : Hid (∀ j, j < f2 + 1 → c2.getD j 0 = 0) := fun j hj => by
                          rcases Nat.lt_or_ge j f2 with h | h
                          · exact HZ9.out j h
                          · obtain rfl : j = f2 := by omega
                            exact hz9
                        clear hz9
                        go_wp2_with fail
                        go_roundw
                        case rel => exact ⟨f2 + 1, by go_num, by omega, HZ8, trivial⟩
                        case measure => simp [intOf]; omega
                      have hzb : (z == 0) = false := by simpa using hz0
                      have HE2 : Hid ((f2 = k ∧ be c2 = 0) ∨ (f2 < k ∧ 0 < be c2)) := .inr ⟨hf3, be_pos HF9.out.1 (by rw [HF9.out.2]; exact hf3) (by rw [hz9]; exact hz0)⟩
                      have HF2 : Hid (Hf c2 ∧ c2.length = k ∧ ∀ j, j < f2 → c2.getD j 0 = 0) := ⟨HF9.out.1, HF9.out.2, HZ9.out⟩
                      clear hz9 HZ9 HF9
                      go_wp2_with fail
                      go_roundw
                      case rel => exact ⟨c2, o2, f2, rfl, hf2, HW, HF2, HE2, HNO, HU, by omega, HV1, HB0, hBW⟩
                      case measure => rw [List.length_map] at hln hln2; omega
                    · obtain rfl : f2 = k := by omega
                      have hf3i : ¬ (f2 : Int) < f2 := by omega
                      have hbz : be c2 = 0 := be_zeros (all_zero HF9.out.2 HZ9.out)
                      have HBZ : Hid (be c2 = 0) := hbz
                      clear hbz
                      have HF2 : Hid (Hf c2 ∧ c2.length = f2 ∧ ∀ j, j < f2 → c2.getD j 0 = 0) := ⟨HF9.out.1, HF9.out.2, HZ9.out⟩
                      clear HZ9 HF9
                      go_wp2_with fail
                      go_roundw
                      case rel => exact ⟨c2, o2, f2, rfl, hf2, HW, HF2, .inl ⟨rfl, HBZ.out⟩, HNO, HU, by omega, HV1, HB0, hBW⟩
                      case measure => rw [List.length_map] at hln hln2; omega
        · subst hfe
          have hfi : ¬ (f : Int) < f := by omega
          have hO := HO.out
          rw [hb0] at hO
          have hv : lvB 10 os = Nn := by have := hO.val; rw [Int.mul_zero, Int.add_zero] at this; exact this.symm
          have hdg := hO.dig
          have hne : os ≠ [] := fun e => by rw [e] at hv; simp [lvB] at hv; have := HNN.out.2; omega
          obtain ⟨g2, cap2, hsh, hg2b, hg2l, hg2c, hR⟩ : ∃ g2 cap2, u5 = .slice (some ⟨g2, 0, none⟩) (os.map ltr).length cap2 ∧ B1 ≤ g2 ∧ g2 < wr.heap.size ∧ (os.map ltr).length ≤ cap2 ∧ RdU wr g2 (os.map ltr).length (os.map ltr) := by
            rcases HU.out.shape4 with ⟨-, e⟩ | h
            · exact absurd (List.map_eq_nil_iff.1 e) hne
            · exact h
          rw [List.length_map] at hsh hg2c hR
          subst hsh
          obtain ⟨m, hm⟩ : ∃ m, os.length = m := ⟨_, rfl⟩
          rw [hm] at hR hg2c hol ⊢
          have hm1 : 1 ≤ m := by have := List.length_pos_iff.2 hne; omega
          have HR : Hid (RdU wr g2 m (os.map ltr)) := hR
          have HOS : Hid (DgI 10 os ∧ lvB 10 os = Nn ∧ os.length = m) := ⟨hdg, hv, hm⟩
          have HZ0 : Hid (∀ j, m ≤ j → j < m → os.getD j 0 = 0) := fun j h1 h2 => absurd h2 (by omega)
          obtain ⟨wv, hwv⟩ : ∃ wv, wv = wr := ⟨_, rfl⟩
          rw [← hwv] at HR HV1 HB0 hg2l ⊢
          clear hO hv hdg hne hR HU HO HW HF HE hb0 hm hwv hln hBW
          go_wp2_with fail
          go_loopw [11] (fun nn W => ∃ n : Nat, nn = .int .i64 n ∧ 1 ≤ n ∧ n ≤ m ∧ Hid (∀ j, n ≤ j → j < m → os.getD j 0 = 0) ∧ W = wv) (fun nn _ => (intOf nn).toNat)
          case atStart => exact ⟨m, rfl, hm1, Nat.le_refl _, HZ0, rfl⟩
          case round =>
            clear HZ0
            obtain ⟨n, rfl, hn1, hnm, HZ, hwr⟩ := hrel
            rw [hwr]
            clear hwr
            obtain ⟨n0, rfl⟩ : ∃ n0, n = n0 + 1 := ⟨n - 1, by omega⟩
            have hcell := HR.out.cell n0 (by omega)
            have hdx := HOS.out.1.getD (i := n0) (by rw [HOS.out.2.2]; omega)
            rw [map_getD (by rw [HOS.out.2.2]; omega), ltr_ten hdx] at hcell
            obtain ⟨x, hx⟩ : ∃ x, os.getD n0 0 = x := ⟨_, rfl⟩
            rw [hx] at hcell hdx
            have HX : Hid (os.getD n0 0 = x) := hx
            clear hx
            have hnn : (((n0 + 1 : Nat) : Int) - 1) = n0 := by omega
            have hnc : ((n0 + 1 : Nat) : Int) = (n0 : Int) + 1 := by omega
            have hn0m : (n0 : Int) < m := by omega
            have hwn : IntKind.i64.wrap (n0 : Int) = n0 := by rw [IntKind.wrap_i64]; omega
            by_cases hgo : 0 < n0 ∧ x = 0
            · obtain ⟨hg0, rfl⟩ := hgo
              have g1 : (1 : Int) < ((n0 + 1 : Nat) : Int) := by omega
              have g1b : decide ((1 : Int) < ((n0 + 1 : Nat) : Int)) = true := decide_eq_true g1
              have g1n : decide (1 < n0 + 1) = true := decide_eq_true (by omega)
              have HZ2 : Hid (∀ j, n0 ≤ j → j < m → os.getD j 0 = 0) := fun j h1 h2 => by
                rcases Nat.lt_or_ge n0 j with h | h
                · exact HZ.out j h h2
                · obtain rfl : j = n0 := by omega
                  exact HX.out
              clear HZ HX
              go_wp2_with fail
              go_roundw
              case rel => exact ⟨n0, by go_num, by omega, by omega, HZ2, trivial⟩
              case measure => simp [intOf]
            have HTX : Hid (Tx 10 (tB3 (os.take (n0 + 1))) Nn.toNat) := cut_tx HOS.out.1 HOS.out.2.1 (by omega) (by rw [HOS.out.2.2]; exact hnm) (fun j h1 h2 => HZ.out j h1 (by rw [HOS.out.2.2] at h2; exact h2)) (by rcases Nat.eq_zero_or_pos n0 with h | h; exact .inl (by omega); exact .inr (fun e => hgo ⟨h, by have := HX.out; rw [← this]; exact e⟩))
            have HGO : Hid (¬ (0 < n0 ∧ x = 0)) := hgo
            clear hgo HX HZ
            go_upto_region 26 with fail
            go_cut [103] (fun s103 wx => s103 = .bool false ∧ wx = wv)
            case first =>
              rcases Nat.eq_zero_or_pos n0 with hn0 | hn0
              · subst hn0
                have g1 : ¬ (1 : Int) < ((0 + 1 : Nat) : Int) := by omega
                go_wp2_with fail
                go_meet
                exact ⟨rfl, rfl⟩
              · have g1 : (1 : Int) < ((n0 + 1 : Nat) : Int) := by omega
                have g1n : decide (1 < n0 + 1) = true := decide_eq_true (by omega)
                have hx0 : ¬ x = 0 := fun e => HGO.out ⟨hn0, e⟩
                have hxb : (48 + x == 48) = false := by simp; omega
                go_wp2_with fail
                go_meet
                exact ⟨rfl, rfl⟩
            case rest =>
              obtain ⟨rfl, hwx⟩ := hcut
              rw [hwx]
              rw [hnc]
              clear hwx HGO hcell hdx hnn hnc
              have V1 := HV1.out
              obtain ⟨B2, hB2⟩ : ∃ B2, B2 = wv.heap.size := ⟨_, rfl⟩
              rw [← hB2] at hg2l
              have hB2e : B2 ≤ wv.heap.size := by omega
              have c_V1 := V1.c0
              have f0_V1 := V1.frozen 0
              have d_V1 := V1.c1
              have f1_V1 := V1.frozen 1
              have l_V1 := V1.lt
              have m_V1 := Nat.le_of_lt l_V1
              go_upto_if 107 with fail
              go_cut [12] (fun s12 wx => Hid (GrU wx B2 s12 (sg s)) ∧ Hid (Below B2 wv wx))
              case first =>
                cases s
                · go_wp2_with fail
                  go_meet
                  exact ⟨GrU.nil _ _, Below.refl _ _⟩
                · have hsA : B2 ≤ (wv.alloc (.cells #[.int .u8 45] 5)).heap.size := by simp; omega
                  have HUa : Hid (GrU (wv.alloc (.cells #[.int .u8 45] 5)) B2 (.slice none 0 0) []) := GrU.nil _ _
                  have HC1 : Hid ((wv.alloc (.cells #[.int .u8 45] 5)).cell? ⟨wv.heap.size, 0, none⟩ = some (.int .u8 (((45 : UInt8).toNat : Nat) : Int))) := (Va.new wv 5 #[.int .u8 45]).cell
                  have HBa : Hid (Below B2 wv (wv.alloc (.cells #[.int .u8 45] 5))) := (Below.refl B2 wv).alloc hB2e _
                  go_wp2_with (at_builtin; refine wpList_appU rfl (.tmp 108) (.tmp 109) rfl B2 (.slice none 0 0) [] rfl HUa.out wv.heap.size 45 rfl HC1.out (by simp) hsA ?_; intro v2 w2 HG2 hb2)
                  go_wp2_with fail
                  go_meet
                  exact ⟨HG2.out, HBa.out.trans hb2⟩
              case rest =>
                clear c_V1 f0_V1 d_V1 f1_V1 l_V1 m_V1 V1
                obtain ⟨HG0, HBW⟩ := hcut
                obtain ⟨ts, hts⟩ : ∃ ts, os.take (n0 + 1) = ts := ⟨_, rfl⟩
                rw [hts] at HTX
                have htl : ts.length = n0 + 1 := by rw [← hts, List.length_take, HOS.out.2.2]; omega
                have HTG : Hid (∀ i, i < n0 + 1 → (os.map ltr).getD i 0 = ltr (ts.getD i 0) ∧ 0 ≤ ts.getD i 0 ∧ ts.getD i 0 < 10) := fun i hi => by
                  have h1 : i < os.length := by rw [HOS.out.2.2]; omega
                  have h2 : ts.getD i 0 = os.getD i 0 := by rw [← hts, List.getD_eq_getElem?_getD, List.getD_eq_getElem?_getD, List.getElem?_take_of_lt hi]
                  rw [map_getD h1, h2]
                  exact ⟨rfl, HOS.out.1.getD h1⟩
                have HTL : Hid (ts.length = n0 + 1) := htl
                have HU0 : Hid (GrU wc B2 u12 (sg s ++ tB3 (ts.drop (n0 + 1)))) := by show GrU _ _ _ _; rw [← htl, List.drop_length]; simpa [tB3] using HG0.out
                clear hts htl HG0 HOS
                obtain ⟨wz, hwz⟩ : ∃ wz, wz = wc := ⟨_, rfl⟩
                rw [← hwz] at HU0 HBW ⊢
                clear hwz
                go_wp2_with fail
                go_loopw [12, 13] (fun bv kk W => ∃ k : Nat, k ≤ n0 + 1 ∧ kk = .int .i64 ((k : Int) - 1) ∧ Hid (GrU W B2 bv (sg s ++ tB3 (ts.drop k))) ∧ Hid (Below B2 wv W)) (fun _ kk _ => (intOf kk + 1).toNat)
                case atStart => exact ⟨n0 + 1, Nat.le_refl _, by go_num, HU0, HBW⟩
                case round =>
                  clear HU0 HBW
                  obtain ⟨k2, hk2, rfl, HU, HBr⟩ := hrel
                  rcases Nat.eq_zero_or_pos k2 with hk0 | hk0
                  · subst hk0
                    have hki : ¬ (0 : Int) ≤ ((0 : Nat) : Int) - 1 := by omega
                    have hU := HU.out
                    rw [List.drop_zero] at hU
                    have hcv := hU.conv (by intro e; have := congrArg List.length e; rw [List.length_append, tB3_len, HTL.out] at this; simp at this)
                    have HB2 : Hid (Below w.heap.size w wr) := HB0.out.trans (HBr.out.mono (by have := HB0.out.size; omega))
                    clear hU HU HBr
                    generalize tB3 ts = TT at *
                    obtain ⟨S0, hS0⟩ : ∃ S0, sg s ++ TT = S0 := ⟨_, rfl⟩
                    have HS0 : Hid (sg s ++ TT = S0) := hS0
                    rw [hS0] at hcv
                    clear hS0
                    go_wp2_with fail
                    go_ret
                    refine ⟨TT, ?_, ?_, HB2.out⟩
                    · rw [HS0.out]; rfl
                    · rw [HNN.out.1]; exact HTX.out
                  · obtain ⟨j, rfl⟩ : ∃ j, k2 = j + 1 := ⟨k2 - 1, by omega⟩
                    have hki : (((j + 1 : Nat) : Int) - 1) = j := by omega
                    rw [hki]
                    clear hki
                    have hji : (0 : Int) ≤ j := by omega
                    have hjm : (j : Int) < m := by omega
                    have htg := HTG.out j (by omega)
                    have hcj := (HR.out.below HBr.out (by omega)).cell j (by omega)
                    rw [htg.1] at hcj
                    have hst := tB3_drop ts (k := j) (by rw [HTL.out]; omega)
                    obtain ⟨ch, hch⟩ : ∃ ch, ltr (ts.getD j 0) = ch := ⟨_, rfl⟩
                    rw [hch] at hcj hst
                    have HST : Hid (tB3 (ts.drop j) = tB3 (ts.drop (j + 1)) ++ [ch]) := hst
                    have hsg1 : (sg s).length ≤ 1 := by cases s <;> simp [sg]
                    have hlen2 : (sg s ++ tB3 (ts.drop (j + 1))).length + 1 ≤ 17592186044416 := by rw [List.length_append, tB3_len, List.length_drop, HTL.out]; omega
                    have hBWr : B2 ≤ wr.heap.size := by have := HBr.out.size; omega
                    have hsA : B2 ≤ (wr.alloc (.cells #[.int .u8 (ch.toNat : Int)] 5)).heap.size := by simp; omega
                    obtain ⟨bs, hbs⟩ : ∃ bs, sg s ++ tB3 (ts.drop (j + 1)) = bs := ⟨_, rfl⟩
                    have HBS : Hid (sg s ++ tB3 (ts.drop (j + 1)) = bs) := hbs
                    rw [hbs] at HU hlen2
                    have HUa : Hid (GrU (wr.alloc (.cells #[.int .u8 (ch.toNat : Int)] 5)) B2 u12 bs) := HU.out.alloc _
                    have HC1 : Hid ((wr.alloc (.cells #[.int .u8 (ch.toNat : Int)] 5)).cell? ⟨wr.heap.size, 0, none⟩ = some (.int .u8 (ch.toNat : Int))) := (Va.new wr 5 #[.int .u8 (ch.toNat : Int)]).cell
                    have HBa : Hid (Below B2 wr (wr.alloc (.cells #[.int .u8 (ch.toNat : Int)] 5))) := (Below.refl B2 wr).alloc hBWr _
                    clear htg hst hch hbs HU
                    go_wp2_with (at_builtin; refine wpList_appU rfl (.tmp 117) (.tmp 122) rfl B2 u12 bs rfl HUa.out wr.heap.size ch rfl HC1.out hlen2 hsA ?_; intro v2 w2 HG2 hb2)
                    have HB3 : Hid (Below B2 wv w2) := HBr.out.trans (HBa.out.trans hb2)
                    have HG3 : Hid (GrU w2 B2 v2 (sg s ++ tB3 (ts.drop j))) := by rw [HST.out, ← List.append_assoc, HBS.out]; exact HG2.out
                    clear hb2 HG2 HUa HC1 HBa HBr
                    go_wp2_with fail
                    go_roundw
                    case rel => exact ⟨j, by omega, by go_num, HG3, HB3⟩
                    case measure => simp [intOf]
end Go.Proofs.YtpfbcicjfnfpgaaDoor
