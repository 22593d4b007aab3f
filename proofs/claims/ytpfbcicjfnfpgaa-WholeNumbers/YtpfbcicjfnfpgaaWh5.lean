/-
  A copy of a list, the document's New, a number of plain data ('of'), the same number ('same').
-/
import Derived.Test.YtpfbcicjfnfpgaaWh3
import Derived.Test.YtpfbcicjfnfpgaaBsI
namespace Go.Proofs.Ytpfbcicjfnfpgaa
open Go.RowKit Go.Shelf
set_option linter.unusedVariables false

theorem copyl_any (a : Option Addr) (la ca : Nat) (zs : List Int) (w : World) (h : Sl w a la zs) (hn : a = none → la = 0 ∧ ca = 0) (hl : la ≤ 17592186044416) :
    Calls Try.prog 17 #[.slice a la ca] w fun e w' => ∃ a' c', e = .returned (.slice a' la c') ∧ Sl w' a' la zs ∧ la ≤ c' ∧ (a' = none → la = 0 ∧ c' = 0) ∧ Below w.heap.size w w' := by
  have hL := h.2.1
  have hz := h.1
  cases a with
  | none =>
    obtain ⟨rfl, rfl⟩ := hn rfl
    have hz : zs = [] := List.eq_nil_of_length_eq_zero h.1
    subst hz
    go_enter Try.func17, Try.ntmps17
    go_wp2_with fail
    go_ret
    exact ⟨_, _, rfl, h, fun _ => rfl, Below.refl _ _⟩
  | some ad =>
    have HSL : Hid (Sl w (some ad) la zs) := h
    have HLL : Hid (Limbs zs ∧ zs.length = la) := ⟨hL, hz⟩
    clear h hn hL hz
    go_enter Try.func17, Try.ntmps17
    go_wp2_with (at_builtin; refine wpList_app_some rfl (.tmp 4) (.tmp 5) rfl w.heap.size _ [] rfl (Gr.nil _ _) ad la ca zs rfl HSL.out (by simpa using hl) (Nat.le_refl _) ?_; intro v1 w1 hG hb)
    go_ret
    obtain ⟨a1, c1, gm, e1, h1, h2, -, h3, -⟩ := Gr.parts (by simpa using hG.out) HLL.out.1
    rw [HLL.out.2] at e1 h1 h2 h3
    subst e1
    exact ⟨a1, c1, rfl, h2, h1, h3, hb⟩

theorem results_i {fn : Func} {i b : Nat} {x y : Value} {tmps : Array Value} {w : World} (h : fn.results = #[.cell i 29]) (hi : tmps.getD i undef = .pointer (some ⟨b, 0, none⟩)) (hv : Va w b 29 #[x, y]) :
    (results fn tmps).run Try.prog w = .ok (.agg #[x, y]) w := by
  have c := hv.c0; have d := hv.c1
  rw [Array.getD_eq_getD_getElem?] at hi
  simp [results, h, hi, c, d, go_sem]
theorem results_wit {fn : Func} {i j k b c : Nat} {x y u v : Value} {tmps : Array Value} {w : World} (h : fn.results = #[.cell i 27, .cell j 29, .tmp k]) (hi : tmps.getD i undef = .pointer (some ⟨b, 0, none⟩)) (hv : Va w b 27 #[x, y])
    (hj : tmps.getD j undef = .pointer (some ⟨c, 0, none⟩)) (hu : Va w c 29 #[u, v]) :
    (results fn tmps).run Try.prog w = .ok (.tuple #[.agg #[x, y], .agg #[u, v], tmps.getD k undef]) w := by
  have c0 := hv.c0; have c1 := hv.c1; have d0 := hu.c0; have d1 := hu.c1
  rw [Array.getD_eq_getD_getElem?] at hi hj
  simp [results, h, hi, hj, c0, c1, d0, d1, go_sem]

/-- A number of the document's: trimmed, of any length; 0 has no sign. -/
def Ir (w : World) (s : Bool) (a : Option Addr) (l c : Nat) (zs : List Int) : Prop := Sl w a l zs ∧ usedN zs = l ∧ l ≤ c ∧ (a = none → l = 0 ∧ c = 0) ∧ (s = true → num zs ≠ 0)
theorem Ir.after {w w' : World} (hb : Below w.heap.size w w') {s : Bool} {a : Option Addr} {l c : Nat} {zs : List Int} (h : Ir w s a l c zs) : Ir w' s a l c zs := ⟨h.1.below hb (Nat.le_refl _), h.2⟩
theorem Ir.drw {w : World} {s : Bool} {a : Option Addr} {l c : Nat} {zs : List Int} (h : Ir w s a l c zs) : Ir w.drew s a l c zs := h
theorem Ir.far {w : World} {s : Bool} {a : Option Addr} {l c : Nat} {zs : List Int} (h : Ir w s a l c zs) {b : Nat} {t : TypeId} {cs : Array Value} (V : Va w b t cs) (hn : NoInt cs) {w' : World} (k : ∀ c, c ≠ b → w'.heap[c]? = w.heap[c]?) : Ir w' s a l c zs := ⟨h.1.far V hn k, h.2⟩
theorem Ir.nonneg {w : World} {s : Bool} {a : Option Addr} {l c : Nat} {zs : List Int} (h : Ir w s a l c zs) : 0 ≤ num zs := num_nonneg h.1.2.1
theorem Nt.same {w w' : World} {a b : Option Addr} {l c m : Nat} {zs ds : List Int} (h : Nt w a l c zs) (s : Sl w' b m ds) (u : usedN ds = m) (e : num ds = num zs) : m = l ∧ ds = zs := by
  obtain ⟨e1, e2⟩ := one_list s.2.1 h.limbs s.1 u e
  have hz := h.1.1
  rw [h.2.1] at e1 e2
  rw [List.take_of_length_le (by omega)] at e2
  exact ⟨e1, e2⟩

set_option maxHeartbeats 1000000 in
theorem rnew_any (s : Bool) (a : Option Addr) (l c : Nat) (zs : List Int) (w : World) (h : Sl w a l zs) (hc : l ≤ c) (hl : l ≤ 17592186044416) :
    Calls Try.prog 19 #[.bool s, .slice a l c] w fun e w' => ∃ s' a' l' c' zs', e = .returned (.agg #[.bool s', .slice a' l' c']) ∧ Ir w' s' a' l' c' zs' ∧ num zs' = num zs ∧ iv s' zs' = iv s zs ∧ l' ≤ l ∧ Below w.heap.size w w' := by
  have hu := usedN_le zs
  have hz := h.1
  have hL := h.2.1
  have hne := num_eq_zero hL
  have eu := usedN_take zs (Nat.le_refl (usedN zs))
  have en := num_take_used zs (Nat.le_refl (usedN zs))
  have B0 : Below w.heap.size w w := Below.refl _ _
  go_enter Try.func19, Try.ntmps19
  go_wp2_with fail
  refine ent1 w _ _ (Q := fun W => Calls Try.prog _ _ W _) ?_
  intro x1 hb hs_x1 V0
  replace h := h.below hb (Nat.le_refl _)
  replace B0 := step B0 hb
  clear hb hs_x1
  refine (rtrim_n a l c zs x1 h hl hc).mono ?_
  rintro e x2 ⟨a', c', rfl, hs, hc', hn', hb⟩
  replace V0 := Va.after hb V0
  replace h := h.below hb (Nat.le_refl _)
  replace B0 := step B0 hb
  clear hb
  obtain ⟨u, hU⟩ : ∃ u, usedN zs = u := ⟨_, rfl⟩
  obtain ⟨ds, hD⟩ : ∃ ds, zs.take u = ds := ⟨_, rfl⟩
  rw [hU] at hs hc' hn' eu en hne ⊢
  rw [hD] at hs eu en
  have HZ : Hid (num ds = num zs) := en
  have HE : Hid (num zs = 0 ↔ u = 0) := hne
  have HU : Hid (usedN ds = u) := eu
  have HLE : Hid (u ≤ l) := by show _ ≤ _; omega
  clear en hne eu hD hU hu hz hL h hc hl
  cases s
  ·
    have c_V0 := V0.c0
    have d_V0 := V0.c1
    have f_V0 := V0.frozen 0
    have g_V0 := V0.frozen 1
    have l_V0 := V0.lt
    have m_V0 := Nat.le_of_lt l_V0
    go_wp2_with fail
    refine bodyPost_ret (results_i rfl rfl (V0.set2 _ _)) rfl ?_
    exact ⟨false, a', _, c', ds, rfl, ⟨hs.far V0 (noInt2 _ _ _ _) (far2 _ _ _ _), HU.out, hc', hn', fun e => by cases e⟩, HZ.out, by rw [iv_f, iv_f, HZ.out], HLE.out, below_2 B0 (by omega) _ _⟩
  ·
    by_cases h0 : 0 < u
    ·
      have h1 : (0 : Int) < u := by omega
      have c_V0 := V0.c0
      have d_V0 := V0.c1
      have f_V0 := V0.frozen 0
      have g_V0 := V0.frozen 1
      have l_V0 := V0.lt
      have m_V0 := Nat.le_of_lt l_V0
      go_wp2_with fail
      refine bodyPost_ret (results_i rfl rfl (V0.set2 _ _)) rfl ?_
      have hne : num ds ≠ 0 := by rw [HZ.out]; intro e; have := HE.out.1 e; omega
      exact ⟨true, a', _, c', ds, rfl, ⟨hs.far V0 (noInt2 _ _ _ _) (far2 _ _ _ _), HU.out, hc', hn', fun _ => hne⟩, HZ.out, by rw [iv_t, iv_t, HZ.out], HLE.out, below_2 B0 (by omega) _ _⟩
    ·
      obtain rfl : u = 0 := by omega
      have c_V0 := V0.c0
      have d_V0 := V0.c1
      have f_V0 := V0.frozen 0
      have g_V0 := V0.frozen 1
      have l_V0 := V0.lt
      have m_V0 := Nat.le_of_lt l_V0
      go_wp2_with fail
      refine bodyPost_ret (results_i rfl rfl (V0.set2 _ _)) rfl ?_
      have hne : num ds = 0 := by rw [HZ.out]; exact HE.out.2 trivial
      exact ⟨false, a', _, c', ds, rfl, ⟨hs.far V0 (noInt2 _ _ _ _) (far2 _ _ _ _), HU.out, Nat.zero_le _, (fun e => ⟨rfl, (hn' e).2⟩), fun e => by cases e⟩, HZ.out, by have := HZ.out; rw [iv_t, iv_f]; omega, Nat.zero_le _, below_2 B0 (by omega) _ _⟩

/-- A number of plain data: the program's, and the document's; of more than 4096 limbs the first ones. -/
theorem of_core (s : Bool) (a : Option Addr) (l l0 c : Nat) (zs : List Int) (w : World) (h : Sl w a l0 zs) (hn : a = none → l = 0 ∧ c = 0) (h0 : l0 ≤ l) (hc : l ≤ c) (hl0 : (l ≤ 4096 ∧ l0 = l) ∨ (4096 < l ∧ l0 = 4096)) :
    Calls Try.prog 5 #[.agg #[.bool s, .slice a l c]] w fun e w' => ∃ s' a' l' c' zs' a2 c2, e = .returned (.tuple #[.agg #[.bool s', .slice a' l' c'], .agg #[.bool s', .slice a2 l' c2], .bool true]) ∧ It w' s' a' l' c' zs' ∧ Ir w' s' a2 l' c2 zs' ∧ iv s' zs' = iv s zs ∧ Below w.heap.size w w' := by
  have hn0 : a = none → l0 = 0 ∧ c = 0 := fun e => ⟨by have := (hn e).1; omega, (hn e).2⟩
  have hu : usedN zs ≤ 4096 := by have := usedN_le zs; have := h.1; omega
  have B0 : Below w.heap.size w w := Below.refl _ _
  rcases hl0 with ⟨hl1, hl2⟩ | ⟨hl1, hl2⟩
  ·
    subst hl2
    have hl3 : ¬ (4096 : Int) < l0 := by omega
    go_enter Try.func5, Try.ntmps5
    go_wp2_with fail
    refine ent3 w _ _ _ _ _ _ (Q := fun W => Calls Try.prog _ _ W _) ?_
    intro x1 hb hs_x1 V0 V1 V2
    replace h := h.below hb (Nat.le_refl _)
    replace B0 := step B0 hb
    clear hb hs_x1
    refine (copyl_any a l0 c zs x1 h hn0 (by omega)).mono ?_
    rintro e x2 ⟨a1, c1, rfl, h1, hc1, hn1, hb⟩
    replace V0 := Va.after hb V0
    replace V1 := Va.after hb V1
    replace V2 := Va.after hb V2
    replace h := h.below hb (Nat.le_refl _)
    replace B0 := step B0 hb
    clear hb
    have c_V0 := V0.c0
    have d_V0 := V0.c1
    have f_V0 := V0.frozen 0
    have g_V0 := V0.frozen 1
    have l_V0 := V0.lt
    have m_V0 := Nat.le_of_lt l_V0
    have c_V1 := V1.c0
    have d_V1 := V1.c1
    have f_V1 := V1.frozen 0
    have g_V1 := V1.frozen 1
    have l_V1 := V1.lt
    have m_V1 := Nat.le_of_lt l_V1
    have c_V2 := V2.c0
    have d_V2 := V2.c1
    have f_V2 := V2.frozen 0
    have g_V2 := V2.frozen 1
    have l_V2 := V2.lt
    have m_V2 := Nat.le_of_lt l_V2
    go_wp2_with fail
    refine (of_ok a1 l0 c1 zs x2 h1 (by omega) hc1 hu).mono ?_
    rintro e x3 ⟨g2, l2, k2, z2, rfl, hg2, h2, n2, hb⟩
    replace V0 := Va.after hb V0
    replace V1 := Va.after hb V1
    replace V2 := Va.after hb V2
    replace h := h.below hb (Nat.le_refl _)
    replace h1 := h1.below hb (Nat.le_refl _)
    replace B0 := step B0 hb
    clear hb
    clear c_V0 d_V0 f_V0 g_V0 l_V0 m_V0 c_V1 d_V1 f_V1 g_V1 l_V1 m_V1 c_V2 d_V2 f_V2 g_V2 l_V2 m_V2
    have c_V0 := V0.c0
    have d_V0 := V0.c1
    have f_V0 := V0.frozen 0
    have g_V0 := V0.frozen 1
    have l_V0 := V0.lt
    have m_V0 := Nat.le_of_lt l_V0
    have c_V1 := V1.c0
    have d_V1 := V1.c1
    have f_V1 := V1.frozen 0
    have g_V1 := V1.frozen 1
    have l_V1 := V1.lt
    have m_V1 := Nat.le_of_lt l_V1
    have c_V2 := V2.c0
    have d_V2 := V2.c1
    have f_V2 := V2.frozen 0
    have g_V2 := V2.frozen 1
    have l_V2 := V2.lt
    have m_V2 := Nat.le_of_lt l_V2
    go_wp2_with fail
    clear h1
    clear hg2
    have lt3 := V2.lt
    refine ent1 x3 _ _ (Q := fun W => Code.wp Try.prog _ _ _ W) ?_
    intro x4 hb hs_x4 V3
    replace V0 := Va.after hb V0
    replace V1 := Va.after hb V1
    replace V2 := Va.after hb V2
    replace h2 := Nt.after hb h2
    replace h := h.below hb (Nat.le_refl _)
    replace B0 := step B0 hb
    clear hb hs_x4
    clear c_V0 d_V0 f_V0 g_V0 l_V0 m_V0 c_V1 d_V1 f_V1 g_V1 l_V1 m_V1 c_V2 d_V2 f_V2 g_V2 l_V2 m_V2
    refine wp_region_noPanic ?_
    replace V0 : Va x4.drew _ _ _ := V0
    replace V1 : Va x4.drew _ _ _ := V1
    replace V2 : Va x4.drew _ _ _ := V2
    replace V3 : Va x4.drew _ _ _ := V3
    replace h2 : Nt x4.drew _ _ _ _ := h2
    replace h : Sl x4.drew _ _ _ := h
    replace B0 := Below.drew B0
    refine wp_region_held_drew (S := (fun W => W.cell? ⟨w.heap.size, 0, none⟩ = some (.bool s) ∧ W.cell? ⟨w.heap.size, 1, none⟩ = some (.slice a l0 c) ∧ W.cell? ⟨x3.heap.size, 0, none⟩ = some (.slice (some ⟨g2, 0, none⟩) l2 k2))) (by kernel_rfl) ⟨V0.c0, V0.c1, V3.cell⟩ (fun hHeld => ?_)
    obtain ⟨x5, hxd⟩ : ∃ xd, xd = x4.drew := ⟨_, rfl⟩
    rw [← hxd] at V0 V1 V2 V3 h2 h B0 hHeld ⊢
    clear hxd
    refine wpAnyH_take (i := 0) (v := ?_) rfl (by kernel_rfl) (by kernel_rfl) (by kernel_rfl) (fun _ _ _ h => h) (Or.inl ⟨by rfl, ?_⟩) hHeld ?_
    rotate_left
    · (intro W hSw; (try dsimp only at hSw); go_simp; all_goals (with_reducible rfl))
    simp only [List.getElem_toArray, List.getElem_cons_zero, Act.put, List.setIfInBounds_toArray, List.set_cons_zero, List.set_cons_succ]
    refine wpAnyH_take (i := 1) (v := ?_) rfl (by kernel_rfl) (by kernel_rfl) (by kernel_rfl) (fun _ _ _ h => h) (Or.inl ⟨by rfl, ?_⟩) hHeld ?_
    rotate_left
    · (intro W hSw; (try dsimp only at hSw); go_simp; all_goals (with_reducible rfl))
    simp only [List.getElem_toArray, List.getElem_cons_zero, List.getElem_cons_succ, Act.put, List.setIfInBounds_toArray, List.set_cons_zero, List.set_cons_succ]
    refine wpAnyH_take (i := 2) (v := ?_) rfl (by kernel_rfl) (by kernel_rfl) (by kernel_rfl) (fun _ _ _ h => h) (Or.inl ⟨by rfl, ?_⟩) hHeld ?_
    rotate_left
    · (intro W hSw; (try dsimp only at hSw); go_simp; all_goals (with_reducible rfl))
    simp only [List.getElem_toArray, List.getElem_cons_zero, List.getElem_cons_succ, Act.put, List.setIfInBounds_toArray, List.set_cons_zero, List.set_cons_succ]
    refine wpAnyH_take (i := 4) (v := ?_) rfl (by kernel_rfl) (by kernel_rfl) (by kernel_rfl) (fun _ _ _ h => h) (Or.inl ⟨by rfl, ?_⟩) hHeld ?_
    rotate_left
    · (intro W hSw; (try dsimp only at hSw); go_simp; all_goals (with_reducible rfl))
    simp only [List.getElem_toArray, List.getElem_cons_zero, List.getElem_cons_succ, Act.put, List.setIfInBounds_toArray, List.set_cons_zero, List.set_cons_succ]
    refine wpAnyH_take (i := 5) (v := ?_) rfl (by kernel_rfl) (by kernel_rfl) (by kernel_rfl) (fun _ _ _ h => h) (Or.inl ⟨by rfl, ?_⟩) hHeld ?_
    rotate_left
    · (intro W hSw; (try dsimp only at hSw); go_simp; all_goals (with_reducible rfl))
    simp only [List.getElem_toArray, List.getElem_cons_zero, List.getElem_cons_succ, Act.put, List.setIfInBounds_toArray, List.set_cons_zero, List.set_cons_succ]
    refine wpAnyH_take (i := 6) (v := ?_) rfl (by kernel_rfl) (by kernel_rfl) (by kernel_rfl) (fun _ _ _ h => h) (Or.inl ⟨by rfl, ?_⟩) hHeld ?_
    rotate_left
    · (intro W hSw; (try dsimp only at hSw); go_simp; all_goals (with_reducible rfl))
    simp only [List.getElem_toArray, List.getElem_cons_zero, List.getElem_cons_succ, Act.put, List.setIfInBounds_toArray, List.set_cons_zero, List.set_cons_succ]
    refine wpAnyH_take (i := 8) (v := ?_) rfl (by kernel_rfl) (by kernel_rfl) (by kernel_rfl) (fun _ _ _ h => h) (Or.inl ⟨by rfl, ?_⟩) hHeld ?_
    rotate_left
    · (intro W hSw; (try dsimp only at hSw); go_simp; all_goals (with_reducible rfl))
    simp only [List.getElem_toArray, List.getElem_cons_zero, List.getElem_cons_succ, Act.put, List.setIfInBounds_toArray, List.set_cons_zero, List.set_cons_succ]
    refine wpAnyH_take (i := 9) (v := ?_) rfl (by kernel_rfl) (by kernel_rfl) (by kernel_rfl) (fun _ _ _ h => h) (Or.inl ⟨by rfl, ?_⟩) hHeld ?_
    rotate_left
    · (intro W hSw; (try dsimp only at hSw); go_simp; all_goals (with_reducible rfl))
    simp only [List.getElem_toArray, List.getElem_cons_zero, List.getElem_cons_succ, Act.put, List.setIfInBounds_toArray, List.set_cons_zero, List.set_cons_succ]
    refine wpAnyH_ready (rs := [3]) (by kernel_rfl) (by simp) ?_
    refine AllReadyH.cons rfl (fun K hK => ?_) AllReadyH.nil
    simp only [List.getElem_toArray, List.getElem_cons_zero, List.getElem_cons_succ]
    go_simp
    refine (wnew_any s _ l2 k2 z2 _ h2).mono ?_
    rintro e x6 ⟨s3, rfl, h3, e3, hb⟩
    replace V0 := Va.after hb V0
    replace V1 := Va.after hb V1
    replace V2 := Va.after hb V2
    replace V3 := Va.after hb V3
    replace h2 := Nt.after hb h2
    replace h := h.below hb (Nat.le_refl _)
    replace B0 := step B0 hb
    clear hb
    try go_wp2_with fail
    refine hK.out _ _ ⟨V0.c0, V0.c1, V3.cell⟩ (fun hHeld => ?_)
    clear hK K
    refine wpAnyH_ready (rs := [7]) (by kernel_rfl) (by simp) ?_
    refine AllReadyH.cons rfl (fun K hK => ?_) AllReadyH.nil
    simp only [List.getElem_toArray, List.getElem_cons_zero, List.getElem_cons_succ]
    go_simp
    refine (rnew_any s a l0 c zs _ h (by omega) (by omega)).mono ?_
    rintro e x7 ⟨s4, a4, l4, k4, z4, rfl, h4, n4, e4, hl4, hb⟩
    replace V0 := Va.after hb V0
    replace V1 := Va.after hb V1
    replace V2 := Va.after hb V2
    replace V3 := Va.after hb V3
    replace h2 := Nt.after hb h2
    replace h3 := It.after hb h3
    replace h := h.below hb (Nat.le_refl _)
    replace B0 := step B0 hb
    clear hb
    clear hl4
    obtain ⟨hl5, hz5⟩ := h3.1.same h4.1 h4.2.1 (n4.trans n2.symm)
    subst hl5 hz5
    have es : s4 = s3 := by
      have q1 := h3.sign
      have q2 : s4 = decide (iv s4 z4 < 0) := by
        have p0 := h4.nonneg
        cases s4
        · rw [iv_f]; symm; simpa using p0
        · have := h4.2.2.2.2 rfl
          rw [iv_t]; symm; simp; omega
      rw [q1, q2, e4, e3]
      cases s
      · rw [iv_f, iv_f, n2]
      · rw [iv_t, iv_t, n2]
    subst es
    try go_wp2_with fail
    refine hK.out _ _ ⟨V0.c0, V0.c1, V3.cell⟩ (fun hHeld => ?_)
    clear hK K
    clear h2
    have c_V1 := V1.c0
    have d_V1 := V1.c1
    have f_V1 := V1.frozen 0
    have g_V1 := V1.frozen 1
    have l_V1 := V1.lt
    have m_V1 := Nat.le_of_lt l_V1
    refine wpAnyH_ready (rs := [10]) (by kernel_rfl) (by simp) ?_
    refine AllReadyH.cons rfl (fun K hK => ?_) AllReadyH.nil
    simp only [List.getElem_toArray, List.getElem_cons_zero, List.getElem_cons_succ]
    go_simp
    clear c_V1 d_V1 f_V1 g_V1 l_V1 m_V1
    refine st2 V1 (.bool s4) (.slice (some ⟨g2, 0, none⟩) l4 k2) (Q := fun W => K _ W) ?_
    intro x8 V' oth far
    replace V0 := oth _ _ _ (by first | omega | assumption) V0
    replace V2 := oth _ _ _ (by first | omega | assumption) V2
    replace V3 := oth _ _ _ (by first | omega | assumption) V3
    replace h3 := h3.far V1 (noInt2 _ _ _ _) far.1
    replace h := h.far V1 (noInt2 _ _ _ _) far.1
    replace h4 := h4.far V1 (noInt2 _ _ _ _) far.1
    replace B0 := far.2 _ _ (by first | omega | (simp; omega)) B0
    replace V1 := V'
    clear oth far
    refine hK.out _ _ ⟨V0.c0, V0.c1, V3.cell⟩ (fun hHeld => ?_)
    clear hK K
    have c_V2 := V2.c0
    have d_V2 := V2.c1
    have f_V2 := V2.frozen 0
    have g_V2 := V2.frozen 1
    have l_V2 := V2.lt
    have m_V2 := Nat.le_of_lt l_V2
    refine wpAnyH_ready (rs := [11]) (by kernel_rfl) (by simp) ?_
    refine AllReadyH.cons rfl (fun K hK => ?_) AllReadyH.nil
    simp only [List.getElem_toArray, List.getElem_cons_zero, List.getElem_cons_succ]
    go_simp
    clear c_V2 d_V2 f_V2 g_V2 l_V2 m_V2
    refine st2 V2 (.bool s4) (.slice a4 l4 k4) (Q := fun W => K _ W) ?_
    intro x9 V' oth far
    replace V0 := oth _ _ _ (by first | omega | assumption) V0
    replace V1 := oth _ _ _ (by first | omega | assumption) V1
    replace V3 := oth _ _ _ (by first | omega | assumption) V3
    replace h3 := h3.far V2 (noInt2 _ _ _ _) far.1
    replace h := h.far V2 (noInt2 _ _ _ _) far.1
    replace h4 := h4.far V2 (noInt2 _ _ _ _) far.1
    replace B0 := far.2 _ _ (by first | omega | (simp; omega)) B0
    replace V2 := V'
    clear oth far
    refine hK.out _ _ ⟨V0.c0, V0.c1, V3.cell⟩ (fun hHeld => ?_)
    clear hK K
    refine wpAnyH_take (i := 12) (v := ?_) rfl (by kernel_rfl) (by kernel_rfl) (by kernel_rfl) (fun _ _ _ h => h) (Or.inl ⟨by rfl, ?_⟩) hHeld ?_
    rotate_left
    · (intro W hSw; (try dsimp only at hSw); go_simp; all_goals (with_reducible rfl))
    simp only [List.getElem_toArray, List.getElem_cons_zero, List.getElem_cons_succ, Act.put, List.setIfInBounds_toArray, List.set_cons_zero, List.set_cons_succ]
    refine wpAnyH_done (by kernel_rfl) ?_ _
    refine NoPanic.normal ?_
    clear hHeld
    go_wp2_with fail
    refine bodyPost_ret (results_wit rfl rfl V1 rfl V2) rfl ?_
    exact ⟨_, _, _, _, _, _, _, rfl, h3, h4, e4, B0⟩
  ·
    subst hl2
    have hl3 : (4096 : Int) < l := by omega
    have hl4 : 4096 ≤ c := by omega
    cases a with
    | none => (have := (hn rfl).1; omega)
    | some ad =>
      go_enter Try.func5, Try.ntmps5
      go_wp2_with fail
      refine ent3 w _ _ _ _ _ _ (Q := fun W => Calls Try.prog _ _ W _) ?_
      intro x1 hb hs_x1 V0 V1 V2
      replace h := h.below hb (Nat.le_refl _)
      replace B0 := step B0 hb
      clear hb hs_x1
      refine (copyl_any (some ad) 4096 c zs x1 h hn0 (by omega)).mono ?_
      rintro e x2 ⟨a1, c1, rfl, h1, hc1, hn1, hb⟩
      replace V0 := Va.after hb V0
      replace V1 := Va.after hb V1
      replace V2 := Va.after hb V2
      replace h := h.below hb (Nat.le_refl _)
      replace B0 := step B0 hb
      clear hb
      have c_V0 := V0.c0
      have d_V0 := V0.c1
      have f_V0 := V0.frozen 0
      have g_V0 := V0.frozen 1
      have l_V0 := V0.lt
      have m_V0 := Nat.le_of_lt l_V0
      have c_V1 := V1.c0
      have d_V1 := V1.c1
      have f_V1 := V1.frozen 0
      have g_V1 := V1.frozen 1
      have l_V1 := V1.lt
      have m_V1 := Nat.le_of_lt l_V1
      have c_V2 := V2.c0
      have d_V2 := V2.c1
      have f_V2 := V2.frozen 0
      have g_V2 := V2.frozen 1
      have l_V2 := V2.lt
      have m_V2 := Nat.le_of_lt l_V2
      go_wp2_with fail
      refine (of_ok a1 4096 c1 zs x2 h1 (by omega) hc1 hu).mono ?_
      rintro e x3 ⟨g2, l2, k2, z2, rfl, hg2, h2, n2, hb⟩
      replace V0 := Va.after hb V0
      replace V1 := Va.after hb V1
      replace V2 := Va.after hb V2
      replace h := h.below hb (Nat.le_refl _)
      replace h1 := h1.below hb (Nat.le_refl _)
      replace B0 := step B0 hb
      clear hb
      clear c_V0 d_V0 f_V0 g_V0 l_V0 m_V0 c_V1 d_V1 f_V1 g_V1 l_V1 m_V1 c_V2 d_V2 f_V2 g_V2 l_V2 m_V2
      have c_V0 := V0.c0
      have d_V0 := V0.c1
      have f_V0 := V0.frozen 0
      have g_V0 := V0.frozen 1
      have l_V0 := V0.lt
      have m_V0 := Nat.le_of_lt l_V0
      have c_V1 := V1.c0
      have d_V1 := V1.c1
      have f_V1 := V1.frozen 0
      have g_V1 := V1.frozen 1
      have l_V1 := V1.lt
      have m_V1 := Nat.le_of_lt l_V1
      have c_V2 := V2.c0
      have d_V2 := V2.c1
      have f_V2 := V2.frozen 0
      have g_V2 := V2.frozen 1
      have l_V2 := V2.lt
      have m_V2 := Nat.le_of_lt l_V2
      go_wp2_with fail
      clear h1
      clear hg2
      have lt3 := V2.lt
      refine ent1 x3 _ _ (Q := fun W => Code.wp Try.prog _ _ _ W) ?_
      intro x4 hb hs_x4 V3
      replace V0 := Va.after hb V0
      replace V1 := Va.after hb V1
      replace V2 := Va.after hb V2
      replace h2 := Nt.after hb h2
      replace h := h.below hb (Nat.le_refl _)
      replace B0 := step B0 hb
      clear hb hs_x4
      clear c_V0 d_V0 f_V0 g_V0 l_V0 m_V0 c_V1 d_V1 f_V1 g_V1 l_V1 m_V1 c_V2 d_V2 f_V2 g_V2 l_V2 m_V2
      refine wp_region_noPanic ?_
      replace V0 : Va x4.drew _ _ _ := V0
      replace V1 : Va x4.drew _ _ _ := V1
      replace V2 : Va x4.drew _ _ _ := V2
      replace V3 : Va x4.drew _ _ _ := V3
      replace h2 : Nt x4.drew _ _ _ _ := h2
      replace h : Sl x4.drew _ _ _ := h
      replace B0 := Below.drew B0
      refine wp_region_held_drew (S := (fun W => W.cell? ⟨w.heap.size, 0, none⟩ = some (.bool s) ∧ W.cell? ⟨w.heap.size, 1, none⟩ = some (.slice (some ad) l c) ∧ W.cell? ⟨x3.heap.size, 0, none⟩ = some (.slice (some ⟨g2, 0, none⟩) l2 k2))) (by kernel_rfl) ⟨V0.c0, V0.c1, V3.cell⟩ (fun hHeld => ?_)
      obtain ⟨x5, hxd⟩ : ∃ xd, xd = x4.drew := ⟨_, rfl⟩
      rw [← hxd] at V0 V1 V2 V3 h2 h B0 hHeld ⊢
      clear hxd
      refine wpAnyH_take (i := 0) (v := ?_) rfl (by kernel_rfl) (by kernel_rfl) (by kernel_rfl) (fun _ _ _ h => h) (Or.inl ⟨by rfl, ?_⟩) hHeld ?_
      rotate_left
      · (intro W hSw; (try dsimp only at hSw); go_simp; all_goals (with_reducible rfl))
      simp only [List.getElem_toArray, List.getElem_cons_zero, Act.put, List.setIfInBounds_toArray, List.set_cons_zero, List.set_cons_succ]
      refine wpAnyH_take (i := 1) (v := ?_) rfl (by kernel_rfl) (by kernel_rfl) (by kernel_rfl) (fun _ _ _ h => h) (Or.inl ⟨by rfl, ?_⟩) hHeld ?_
      rotate_left
      · (intro W hSw; (try dsimp only at hSw); go_simp; all_goals (with_reducible rfl))
      simp only [List.getElem_toArray, List.getElem_cons_zero, List.getElem_cons_succ, Act.put, List.setIfInBounds_toArray, List.set_cons_zero, List.set_cons_succ]
      refine wpAnyH_take (i := 2) (v := ?_) rfl (by kernel_rfl) (by kernel_rfl) (by kernel_rfl) (fun _ _ _ h => h) (Or.inl ⟨by rfl, ?_⟩) hHeld ?_
      rotate_left
      · (intro W hSw; (try dsimp only at hSw); go_simp; all_goals (with_reducible rfl))
      simp only [List.getElem_toArray, List.getElem_cons_zero, List.getElem_cons_succ, Act.put, List.setIfInBounds_toArray, List.set_cons_zero, List.set_cons_succ]
      refine wpAnyH_take (i := 4) (v := ?_) rfl (by kernel_rfl) (by kernel_rfl) (by kernel_rfl) (fun _ _ _ h => h) (Or.inl ⟨by rfl, ?_⟩) hHeld ?_
      rotate_left
      · (intro W hSw; (try dsimp only at hSw); go_simp; all_goals (with_reducible rfl))
      simp only [List.getElem_toArray, List.getElem_cons_zero, List.getElem_cons_succ, Act.put, List.setIfInBounds_toArray, List.set_cons_zero, List.set_cons_succ]
      refine wpAnyH_take (i := 5) (v := ?_) rfl (by kernel_rfl) (by kernel_rfl) (by kernel_rfl) (fun _ _ _ h => h) (Or.inl ⟨by rfl, ?_⟩) hHeld ?_
      rotate_left
      · (intro W hSw; (try dsimp only at hSw); go_simp; all_goals (with_reducible rfl))
      simp only [List.getElem_toArray, List.getElem_cons_zero, List.getElem_cons_succ, Act.put, List.setIfInBounds_toArray, List.set_cons_zero, List.set_cons_succ]
      refine wpAnyH_take (i := 6) (v := ?_) rfl (by kernel_rfl) (by kernel_rfl) (by kernel_rfl) (fun _ _ _ h => h) (Or.inl ⟨by rfl, ?_⟩) hHeld ?_
      rotate_left
      · (intro W hSw; (try dsimp only at hSw); go_simp; all_goals (with_reducible rfl))
      simp only [List.getElem_toArray, List.getElem_cons_zero, List.getElem_cons_succ, Act.put, List.setIfInBounds_toArray, List.set_cons_zero, List.set_cons_succ]
      refine wpAnyH_take (i := 8) (v := ?_) rfl (by kernel_rfl) (by kernel_rfl) (by kernel_rfl) (fun _ _ _ h => h) (Or.inl ⟨by rfl, ?_⟩) hHeld ?_
      rotate_left
      · (intro W hSw; (try dsimp only at hSw); go_simp; all_goals (with_reducible rfl))
      simp only [List.getElem_toArray, List.getElem_cons_zero, List.getElem_cons_succ, Act.put, List.setIfInBounds_toArray, List.set_cons_zero, List.set_cons_succ]
      refine wpAnyH_take (i := 9) (v := ?_) rfl (by kernel_rfl) (by kernel_rfl) (by kernel_rfl) (fun _ _ _ h => h) (Or.inl ⟨by rfl, ?_⟩) hHeld ?_
      rotate_left
      · (intro W hSw; (try dsimp only at hSw); go_simp; all_goals (with_reducible rfl))
      simp only [List.getElem_toArray, List.getElem_cons_zero, List.getElem_cons_succ, Act.put, List.setIfInBounds_toArray, List.set_cons_zero, List.set_cons_succ]
      refine wpAnyH_ready (rs := [3]) (by kernel_rfl) (by simp) ?_
      refine AllReadyH.cons rfl (fun K hK => ?_) AllReadyH.nil
      simp only [List.getElem_toArray, List.getElem_cons_zero, List.getElem_cons_succ]
      go_simp
      refine (wnew_any s _ l2 k2 z2 _ h2).mono ?_
      rintro e x6 ⟨s3, rfl, h3, e3, hb⟩
      replace V0 := Va.after hb V0
      replace V1 := Va.after hb V1
      replace V2 := Va.after hb V2
      replace V3 := Va.after hb V3
      replace h2 := Nt.after hb h2
      replace h := h.below hb (Nat.le_refl _)
      replace B0 := step B0 hb
      clear hb
      try go_wp2_with fail
      refine hK.out _ _ ⟨V0.c0, V0.c1, V3.cell⟩ (fun hHeld => ?_)
      clear hK K
      refine wpAnyH_ready (rs := [7]) (by kernel_rfl) (by simp) ?_
      refine AllReadyH.cons rfl (fun K hK => ?_) AllReadyH.nil
      simp only [List.getElem_toArray, List.getElem_cons_zero, List.getElem_cons_succ]
      go_simp
      refine (rnew_any s (some ad) 4096 c zs _ h (by omega) (by omega)).mono ?_
      rintro e x7 ⟨s4, a4, l4, k4, z4, rfl, h4, n4, e4, hl4, hb⟩
      replace V0 := Va.after hb V0
      replace V1 := Va.after hb V1
      replace V2 := Va.after hb V2
      replace V3 := Va.after hb V3
      replace h2 := Nt.after hb h2
      replace h3 := It.after hb h3
      replace h := h.below hb (Nat.le_refl _)
      replace B0 := step B0 hb
      clear hb
      clear hl4
      obtain ⟨hl5, hz5⟩ := h3.1.same h4.1 h4.2.1 (n4.trans n2.symm)
      subst hl5 hz5
      have es : s4 = s3 := by
        have q1 := h3.sign
        have q2 : s4 = decide (iv s4 z4 < 0) := by
          have p0 := h4.nonneg
          cases s4
          · rw [iv_f]; symm; simpa using p0
          · have := h4.2.2.2.2 rfl
            rw [iv_t]; symm; simp; omega
        rw [q1, q2, e4, e3]
        cases s
        · rw [iv_f, iv_f, n2]
        · rw [iv_t, iv_t, n2]
      subst es
      try go_wp2_with fail
      refine hK.out _ _ ⟨V0.c0, V0.c1, V3.cell⟩ (fun hHeld => ?_)
      clear hK K
      clear h2
      have c_V1 := V1.c0
      have d_V1 := V1.c1
      have f_V1 := V1.frozen 0
      have g_V1 := V1.frozen 1
      have l_V1 := V1.lt
      have m_V1 := Nat.le_of_lt l_V1
      refine wpAnyH_ready (rs := [10]) (by kernel_rfl) (by simp) ?_
      refine AllReadyH.cons rfl (fun K hK => ?_) AllReadyH.nil
      simp only [List.getElem_toArray, List.getElem_cons_zero, List.getElem_cons_succ]
      go_simp
      clear c_V1 d_V1 f_V1 g_V1 l_V1 m_V1
      refine st2 V1 (.bool s4) (.slice (some ⟨g2, 0, none⟩) l4 k2) (Q := fun W => K _ W) ?_
      intro x8 V' oth far
      replace V0 := oth _ _ _ (by first | omega | assumption) V0
      replace V2 := oth _ _ _ (by first | omega | assumption) V2
      replace V3 := oth _ _ _ (by first | omega | assumption) V3
      replace h3 := h3.far V1 (noInt2 _ _ _ _) far.1
      replace h := h.far V1 (noInt2 _ _ _ _) far.1
      replace h4 := h4.far V1 (noInt2 _ _ _ _) far.1
      replace B0 := far.2 _ _ (by first | omega | (simp; omega)) B0
      replace V1 := V'
      clear oth far
      refine hK.out _ _ ⟨V0.c0, V0.c1, V3.cell⟩ (fun hHeld => ?_)
      clear hK K
      have c_V2 := V2.c0
      have d_V2 := V2.c1
      have f_V2 := V2.frozen 0
      have g_V2 := V2.frozen 1
      have l_V2 := V2.lt
      have m_V2 := Nat.le_of_lt l_V2
      refine wpAnyH_ready (rs := [11]) (by kernel_rfl) (by simp) ?_
      refine AllReadyH.cons rfl (fun K hK => ?_) AllReadyH.nil
      simp only [List.getElem_toArray, List.getElem_cons_zero, List.getElem_cons_succ]
      go_simp
      clear c_V2 d_V2 f_V2 g_V2 l_V2 m_V2
      refine st2 V2 (.bool s4) (.slice a4 l4 k4) (Q := fun W => K _ W) ?_
      intro x9 V' oth far
      replace V0 := oth _ _ _ (by first | omega | assumption) V0
      replace V1 := oth _ _ _ (by first | omega | assumption) V1
      replace V3 := oth _ _ _ (by first | omega | assumption) V3
      replace h3 := h3.far V2 (noInt2 _ _ _ _) far.1
      replace h := h.far V2 (noInt2 _ _ _ _) far.1
      replace h4 := h4.far V2 (noInt2 _ _ _ _) far.1
      replace B0 := far.2 _ _ (by first | omega | (simp; omega)) B0
      replace V2 := V'
      clear oth far
      refine hK.out _ _ ⟨V0.c0, V0.c1, V3.cell⟩ (fun hHeld => ?_)
      clear hK K
      refine wpAnyH_take (i := 12) (v := ?_) rfl (by kernel_rfl) (by kernel_rfl) (by kernel_rfl) (fun _ _ _ h => h) (Or.inl ⟨by rfl, ?_⟩) hHeld ?_
      rotate_left
      · (intro W hSw; (try dsimp only at hSw); go_simp; all_goals (with_reducible rfl))
      simp only [List.getElem_toArray, List.getElem_cons_zero, List.getElem_cons_succ, Act.put, List.setIfInBounds_toArray, List.set_cons_zero, List.set_cons_succ]
      refine wpAnyH_done (by kernel_rfl) ?_ _
      refine NoPanic.normal ?_
      clear hHeld
      go_wp2_with fail
      refine bodyPost_ret (results_wit rfl rfl V1 rfl V2) rfl ?_
      exact ⟨_, _, _, _, _, _, _, rfl, h3, h4, e4, B0⟩

theorem oflaw4 (s : Bool) (a : Option Addr) (l c : Nat) (zs : List Int) (w : World) (h : Sl w a l zs) (hn : a = none → l = 0 ∧ c = 0) (hc : l ≤ c) :
    Calls Try.prog 5 #[.agg #[.bool s, .slice a l c]] w fun e w' => ∃ s' a' l' c' zs' a2 c2, e = .returned (.tuple #[.agg #[.bool s', .slice a' l' c'], .agg #[.bool s', .slice a2 l' c2], .bool true]) ∧ It w' s' a' l' c' zs' ∧ Ir w' s' a2 l' c2 zs' ∧ iv s' zs' = iv s (zs.take 4096) ∧ Below w.heap.size w w' := by
  by_cases hl : l ≤ 4096
  · rw [List.take_of_length_le (by have := h.1; omega)]
    exact of_core s a l l c zs w h hn (Nat.le_refl _) hc (Or.inl ⟨hl, rfl⟩)
  · exact of_core s a l 4096 c (zs.take 4096) w (h.take (by omega)) hn (by omega) hc (Or.inr ⟨by omega, rfl⟩)

end Go.Proofs.Ytpfbcicjfnfpgaa
