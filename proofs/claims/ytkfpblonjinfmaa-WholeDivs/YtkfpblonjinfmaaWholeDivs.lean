/-
  For every two whole numbers as plain data WholeDivs answers true, and leaves its arguments as they were; no condition.
-/
import Derived.Test.YtkfpblonjinfmaaLaw3
import Derived.Test.YtkfpblonjinfmaaWh4
import Derived.Test.YtkfpblonjinfmaaNRef3
import Derived.Test.YtkfpblonjinfmaaNRef4
import Derived.Test.YtkfpblonjinfmaaNRef6
import Derived.Test.YtkfpblonjinfmaaNRef7
import Derived.Test.YtkfpblonjinfmaaRowp
import Derived.Test.YtkfpblonjinfmaaUni
import Derived.Test.YtkfpblonjinfmaaRows
import Derived.ProofKit
import Derived.OpenShut
import Derived.ShutString
import Derived.ChangeOld
import Derived.SizedLaws
import Derived.Lib.SmallJoins
namespace Go.Proofs.Ytkfpblonjinfmaa
open Go.RowKit Go.Shelf

set_option maxHeartbeats 400000 in
theorem rtrim_n (a : Option Addr) (len cap : Nat) (zs : List Int) (w : World) (h : Sl w a len zs) (hl : len ≤ 17592186044416) (hcap : len ≤ cap) :
    Calls Try.prog 42 #[.slice a len cap] w fun e w' => ∃ a' c', e = .returned (.slice a' (usedN zs) c') ∧ Sl w' a' (usedN zs) (zs.take (usedN zs)) ∧ usedN zs ≤ c' ∧ (a' = none → usedN zs = 0 ∧ c' = 0) ∧ Below w.heap.size w w' := by
  have HSL : Hid (Sl w a len zs) := h
  obtain ⟨hz, hL, hc⟩ := h
  by_cases h0 : len = 0
  · subst h0
    have e0 : usedN zs = 0 := by have := usedN_le zs; omega
    rw [e0]
    cases a with
    | none =>
      go_enter Try.func42, Try.ntmps42
      go_wp2_with fail
      refine wp_loop_rounds 1 ?_
      rw [rounds_succ]
      go_wp2_with fail
      go_ret
      exact ⟨none, 0, rfl, ⟨rfl, Limbs.nil, fun h => absurd h (by decide)⟩, Nat.le_refl _, fun _ => ⟨trivial, rfl⟩, Below.refl _ _⟩
    | some ad =>
      have hsl : Sl w (some ad) 0 [] := ⟨rfl, Limbs.nil, fun h => absurd h (by decide)⟩
      go_enter Try.func42, Try.ntmps42
      go_wp2_with fail
      refine wp_loop_rounds 1 ?_
      rw [rounds_succ]
      go_wp2_with (at_builtin; refine wpList_app_some rfl (.tmp 19) (.tmp 22) rfl w.heap.size _ [] rfl (Gr.nil _ _) ad 0 cap [] rfl hsl (by simp) (Nat.le_refl _) ?_; intro v1 w1 hG hb)
      go_ret
      obtain ⟨a1, c1, gm, e1, hc1, hs1, -, hn1, -⟩ := Gr.parts (by simpa using hG.out) Limbs.nil
      exact ⟨a1, c1, congrArg _ e1, hs1, hc1, fun h => ⟨trivial, (hn1 h).2⟩, hb⟩
  · obtain ⟨b, off, rfl, hcell⟩ := hc (by omega)
    go_enter Try.func42, Try.ntmps42
    go_wp2_with fail
    go_loop [3] (fun i => ∃ k : Nat, k ≤ len ∧ i = .int .i64 k ∧ Hid (∀ j, k ≤ j → j < len → zs.getD j 0 = 0)) (fun i => (intOf i).toNat)
    case atStart => exact ⟨len, Nat.le_refl _, rfl, fun j h1 h2 => absurd h1 (by omega)⟩
    case round =>
      obtain ⟨k, hk, rfl, hI⟩ := hrel
      by_cases hlt : 0 < k
      · have hcx := hcell (k - 1) (by omega)
        have ex : ((k : Int) - 1).toNat = k - 1 := by omega
        obtain ⟨x, hx⟩ : ∃ x, zs.getD (k - 1) 0 = x := ⟨_, rfl⟩
        rw [hx] at hcx
        have HX : Hid (zs.getD (k - 1) 0 = x) := hx
        clear hx
        by_cases hx0 : x = 0
        · have g1 : (x == 0) = true := by simp [hx0]
          have HX0 : Hid (x = 0) := hx0
          clear hx0
          go_wp2_with fail
          go_round
          case rel =>
            refine ⟨k - 1, by omega, by rw [show ((k - 1 : Nat) : Int) = (k : Int) - 1 by omega], ?_⟩
            intro j h1 h2
            by_cases hj : j = k - 1
            · rw [hj, HX.out, HX0.out]
            · exact hI.out j (by omega) h2
          case measure => simp [intOf]; omega
        · have g1 : (x == 0) = false := by simp [hx0]
          have hu : usedN zs = k := usedN_eq (by omega) (fun i h1 h2 => hI.out i h1 (by omega)) (.inr (by rw [HX.out]; exact hx0))
          have HU : Hid (usedN zs = k) := hu
          clear hu hx0
          have hsl := HSL.out.take (m := k) (by omega)
          go_wp2_with (at_builtin; refine wpList_app_some rfl (.tmp 19) (.tmp 22) rfl w.heap.size _ [] rfl (Gr.nil _ _) ⟨b, off, none⟩ k cap (zs.take k) rfl hsl (by simp <;> omega) (Nat.le_refl _) ?_; intro v1 w1 hG hb)
          go_ret
          obtain ⟨a1, c1, gm, e1, hc1, hs1, -, hn1, -⟩ := Gr.parts (by simpa using hG.out) (hL.take k)
          rw [List.length_take, Nat.min_eq_left (by omega)] at e1 hc1 hs1 hn1
          exact ⟨a1, c1, by rw [HU.out]; exact congrArg _ e1, by rw [HU.out]; exact hs1, by rw [HU.out]; exact hc1, by rw [HU.out]; exact hn1, hb⟩
      · obtain rfl : k = 0 := by omega
        have hu : usedN zs = 0 := usedN_eq (by omega) (fun i h1 h2 => hI.out i (by omega) (by omega)) (.inl rfl)
        have HU : Hid (usedN zs = 0) := hu
        clear hu
        have hsl := HSL.out.take (m := 0) (by omega)
        go_wp2_with (at_builtin; refine wpList_app_some rfl (.tmp 19) (.tmp 22) rfl w.heap.size _ [] rfl (Gr.nil _ _) ⟨b, off, none⟩ 0 cap (zs.take 0) rfl hsl (by simp <;> omega) (Nat.le_refl _) ?_; intro v1 w1 hG hb)
        go_ret
        obtain ⟨a1, c1, gm, e1, hc1, hs1, -, hn1, -⟩ := Gr.parts (by simpa using hG.out) (hL.take 0)
        rw [List.length_take, Nat.min_eq_left (by omega)] at e1 hc1 hs1 hn1
        exact ⟨a1, c1, by rw [HU.out]; exact congrArg _ e1, by rw [HU.out]; exact hs1, by rw [HU.out]; exact hc1, by rw [HU.out]; exact hn1, hb⟩

end Go.Proofs.Ytkfpblonjinfmaa
namespace Go.Proofs.Ytkfpblonjinfmaa
open Go.RowKit Go.Shelf
set_option linter.unusedVariables false

theorem copyl_any (a : Option Addr) (la ca : Nat) (zs : List Int) (w : World) (h : Sl w a la zs) (hn : a = none → la = 0 ∧ ca = 0) (hl : la ≤ 17592186044416) :
    Calls Try.prog 34 #[.slice a la ca] w fun e w' => ∃ a' c', e = .returned (.slice a' la c') ∧ Sl w' a' la zs ∧ la ≤ c' ∧ (a' = none → la = 0 ∧ c' = 0) ∧ Below w.heap.size w w' := by
  have hL := h.2.1
  have hz := h.1
  cases a with
  | none =>
    obtain ⟨rfl, rfl⟩ := hn rfl
    have hz : zs = [] := List.eq_nil_of_length_eq_zero h.1
    subst hz
    go_enter Try.func34, Try.ntmps34
    go_wp2_with fail
    go_ret
    exact ⟨_, _, rfl, h, fun _ => rfl, Below.refl _ _⟩
  | some ad =>
    have HSL : Hid (Sl w (some ad) la zs) := h
    have HLL : Hid (Limbs zs ∧ zs.length = la) := ⟨hL, hz⟩
    clear h hn hL hz
    go_enter Try.func34, Try.ntmps34
    go_wp2_with (at_builtin; refine wpList_app_some rfl (.tmp 4) (.tmp 5) rfl w.heap.size _ [] rfl (Gr.nil _ _) ad la ca zs rfl HSL.out (by simpa using hl) (Nat.le_refl _) ?_; intro v1 w1 hG hb)
    go_ret
    obtain ⟨a1, c1, gm, e1, h1, h2, -, h3, -⟩ := Gr.parts (by simpa using hG.out) HLL.out.1
    rw [HLL.out.2] at e1 h1 h2 h3
    subst e1
    exact ⟨a1, c1, rfl, h2, h1, h3, hb⟩

theorem results_i {fn : Func} {i b : Nat} {x y : Value} {tmps : Array Value} {w : World} (h : fn.results = #[.cell i 29]) (hi : tmps.getD i undef = .pointer (some ⟨b, 0, none⟩)) (hv : Va w b 29 #[x, y]) :
    (results fn tmps).run Try.prog w = .ok (.agg #[x, y]) w := by
  have c := hv.c0; have d := hv.c1
  rw [Array.getD_eq_getD_getElem?] at hi
  simp [results, h, hi, c, d, go_sem]
theorem results_wit {fn : Func} {i j k b c : Nat} {x y u v : Value} {tmps : Array Value} {w : World} (h : fn.results = #[.cell i 28, .cell j 29, .tmp k]) (hi : tmps.getD i undef = .pointer (some ⟨b, 0, none⟩)) (hv : Va w b 28 #[x, y])
    (hj : tmps.getD j undef = .pointer (some ⟨c, 0, none⟩)) (hu : Va w c 29 #[u, v]) :
    (results fn tmps).run Try.prog w = .ok (.tuple #[.agg #[x, y], .agg #[u, v], tmps.getD k undef]) w := by
  have c0 := hv.c0; have c1 := hv.c1; have d0 := hu.c0; have d1 := hu.c1
  rw [Array.getD_eq_getD_getElem?] at hi hj
  simp [results, h, hi, hj, c0, c1, d0, d1, go_sem]

/-- A number of the document's: trimmed, of any length; 0 has no sign. -/
def Ir (w : World) (s : Bool) (a : Option Addr) (l c : Nat) (zs : List Int) : Prop := Sl w a l zs ∧ usedN zs = l ∧ l ≤ c ∧ (a = none → l = 0 ∧ c = 0) ∧ (s = true → num zs ≠ 0)
theorem Ir.after {w w' : World} (hb : Below w.heap.size w w') {s : Bool} {a : Option Addr} {l c : Nat} {zs : List Int} (h : Ir w s a l c zs) : Ir w' s a l c zs := ⟨h.1.below hb (Nat.le_refl _), h.2⟩
theorem Ir.drw {w : World} {s : Bool} {a : Option Addr} {l c : Nat} {zs : List Int} (h : Ir w s a l c zs) : Ir w.drew s a l c zs := h
theorem Ir.far {w : World} {s : Bool} {a : Option Addr} {l c : Nat} {zs : List Int} (h : Ir w s a l c zs) {b : Nat} {t : TypeId} {cs : Array Value} (V : Va w b t cs) (hn : NoInt cs) {w' : World} (k : ∀ c, c ≠ b → w'.heap[c]? = w.heap[c]?) : Ir w' s a l c zs := ⟨h.1.far V hn k, h.2⟩
theorem Ir.nonneg {w : World} {s : Bool} {a : Option Addr} {l c : Nat} {zs : List Int} (h : Ir w s a l c zs) : 0 ≤ num zs := num_nonneg h.1.2.1
theorem Nt.same {w w' : World} {a b : Option Addr} {l c m : Nat} {zs ds : List Int} (h : Nt w a l c zs) (s : Sl w' b m ds) (u : usedN ds = m) (e : num ds = num zs) : m = l ∧ ds = zs := by
  obtain ⟨e1, e2⟩ := one_list s.2.1 h.limbs s.1 u e
  have hz := h.1.1
  rw [h.2.1] at e1 e2
  rw [List.take_of_length_le (by omega)] at e2
  exact ⟨e1, e2⟩

set_option maxHeartbeats 1000000 in
theorem rnew_any (s : Bool) (a : Option Addr) (l c : Nat) (zs : List Int) (w : World) (h : Sl w a l zs) (hc : l ≤ c) (hl : l ≤ 17592186044416) :
    Calls Try.prog 17 #[.bool s, .slice a l c] w fun e w' => ∃ s' a' l' c' zs', e = .returned (.agg #[.bool s', .slice a' l' c']) ∧ Ir w' s' a' l' c' zs' ∧ num zs' = num zs ∧ iv s' zs' = iv s zs ∧ l' ≤ l ∧ Below w.heap.size w w' := by
  have hu := usedN_le zs
  have hz := h.1
  have hL := h.2.1
  have hne := num_eq_zero hL
  have eu := usedN_take zs (Nat.le_refl (usedN zs))
  have en := num_take_used zs (Nat.le_refl (usedN zs))
  have B0 : Below w.heap.size w w := Below.refl _ _
  go_enter Try.func17, Try.ntmps17
  go_wp2_with fail
  refine ent1 w _ _ (Q := fun W => Calls Try.prog _ _ W _) ?_
  intro x1 hb hs_x1 V0
  replace h := h.below hb (Nat.le_refl _)
  replace B0 := step B0 hb
  clear hb hs_x1
  refine (rtrim_n a l c zs x1 h hl hc).mono ?_
  rintro e x2 ⟨a', c', rfl, hs, hc', hn', hb⟩
  replace V0 := Va.after hb V0
  replace h := h.below hb (Nat.le_refl _)
  replace B0 := step B0 hb
  clear hb
  obtain ⟨u, hU⟩ : ∃ u, usedN zs = u := ⟨_, rfl⟩
  obtain ⟨ds, hD⟩ : ∃ ds, zs.take u = ds := ⟨_, rfl⟩
  rw [hU] at hs hc' hn' eu en hne ⊢
  rw [hD] at hs eu en
  have HZ : Hid (num ds = num zs) := en
  have HE : Hid (num zs = 0 ↔ u = 0) := hne
  have HU : Hid (usedN ds = u) := eu
  have HLE : Hid (u ≤ l) := by show _ ≤ _; omega
  clear en hne eu hD hU hu hz hL h hc hl
  cases s
  ·
    have c_V0 := V0.c0
    have d_V0 := V0.c1
    have f_V0 := V0.frozen 0
    have g_V0 := V0.frozen 1
    have l_V0 := V0.lt
    have m_V0 := Nat.le_of_lt l_V0
    go_wp2_with fail
    refine bodyPost_ret (results_i rfl rfl (V0.set2 _ _)) rfl ?_
    exact ⟨false, a', _, c', ds, rfl, ⟨hs.far V0 (noInt2 _ _ _ _) (far2 _ _ _ _), HU.out, hc', hn', fun e => by cases e⟩, HZ.out, by rw [iv_f, iv_f, HZ.out], HLE.out, below_2 B0 (by omega) _ _⟩
  ·
    by_cases h0 : 0 < u
    ·
      have h1 : (0 : Int) < u := by omega
      have c_V0 := V0.c0
      have d_V0 := V0.c1
      have f_V0 := V0.frozen 0
      have g_V0 := V0.frozen 1
      have l_V0 := V0.lt
      have m_V0 := Nat.le_of_lt l_V0
      go_wp2_with fail
      refine bodyPost_ret (results_i rfl rfl (V0.set2 _ _)) rfl ?_
      have hne : num ds ≠ 0 := by rw [HZ.out]; intro e; have := HE.out.1 e; omega
      exact ⟨true, a', _, c', ds, rfl, ⟨hs.far V0 (noInt2 _ _ _ _) (far2 _ _ _ _), HU.out, hc', hn', fun _ => hne⟩, HZ.out, by rw [iv_t, iv_t, HZ.out], HLE.out, below_2 B0 (by omega) _ _⟩
    ·
      obtain rfl : u = 0 := by omega
      have c_V0 := V0.c0
      have d_V0 := V0.c1
      have f_V0 := V0.frozen 0
      have g_V0 := V0.frozen 1
      have l_V0 := V0.lt
      have m_V0 := Nat.le_of_lt l_V0
      go_wp2_with fail
      refine bodyPost_ret (results_i rfl rfl (V0.set2 _ _)) rfl ?_
      have hne : num ds = 0 := by rw [HZ.out]; exact HE.out.2 trivial
      exact ⟨false, a', _, c', ds, rfl, ⟨hs.far V0 (noInt2 _ _ _ _) (far2 _ _ _ _), HU.out, Nat.zero_le _, (fun e => ⟨rfl, (hn' e).2⟩), fun e => by cases e⟩, HZ.out, by have := HZ.out; rw [iv_t, iv_f]; omega, Nat.zero_le _, below_2 B0 (by omega) _ _⟩

/-- A number of plain data: the program's, and the document's; of more than 4096 limbs the first ones. -/
theorem of_core (s : Bool) (a : Option Addr) (l l0 c : Nat) (zs : List Int) (w : World) (h : Sl w a l0 zs) (hn : a = none → l = 0 ∧ c = 0) (h0 : l0 ≤ l) (hc : l ≤ c) (hl0 : (l ≤ 4096 ∧ l0 = l) ∨ (4096 < l ∧ l0 = 4096)) :
    Calls Try.prog 7 #[.agg #[.bool s, .slice a l c]] w fun e w' => ∃ s' a' l' c' zs' a2 c2, e = .returned (.tuple #[.agg #[.bool s', .slice a' l' c'], .agg #[.bool s', .slice a2 l' c2], .bool true]) ∧ It w' s' a' l' c' zs' ∧ Ir w' s' a2 l' c2 zs' ∧ iv s' zs' = iv s zs ∧ Below w.heap.size w w' := by
  have hn0 : a = none → l0 = 0 ∧ c = 0 := fun e => ⟨by have := (hn e).1; omega, (hn e).2⟩
  have hu : usedN zs ≤ 4096 := by have := usedN_le zs; have := h.1; omega
  have B0 : Below w.heap.size w w := Below.refl _ _
  rcases hl0 with ⟨hl1, hl2⟩ | ⟨hl1, hl2⟩
  ·
    subst hl2
    have hl3 : ¬ (4096 : Int) < l0 := by omega
    go_enter Try.func7, Try.ntmps7
    go_wp2_with fail
    refine ent3 w _ _ _ _ _ _ (Q := fun W => Calls Try.prog _ _ W _) ?_
    intro x1 hb hs_x1 V0 V1 V2
    replace h := h.below hb (Nat.le_refl _)
    replace B0 := step B0 hb
    clear hb hs_x1
    refine (copyl_any a l0 c zs x1 h hn0 (by omega)).mono ?_
    rintro e x2 ⟨a1, c1, rfl, h1, hc1, hn1, hb⟩
    replace V0 := Va.after hb V0
    replace V1 := Va.after hb V1
    replace V2 := Va.after hb V2
    replace h := h.below hb (Nat.le_refl _)
    replace B0 := step B0 hb
    clear hb
    have c_V0 := V0.c0
    have d_V0 := V0.c1
    have f_V0 := V0.frozen 0
    have g_V0 := V0.frozen 1
    have l_V0 := V0.lt
    have m_V0 := Nat.le_of_lt l_V0
    have c_V1 := V1.c0
    have d_V1 := V1.c1
    have f_V1 := V1.frozen 0
    have g_V1 := V1.frozen 1
    have l_V1 := V1.lt
    have m_V1 := Nat.le_of_lt l_V1
    have c_V2 := V2.c0
    have d_V2 := V2.c1
    have f_V2 := V2.frozen 0
    have g_V2 := V2.frozen 1
    have l_V2 := V2.lt
    have m_V2 := Nat.le_of_lt l_V2
    go_wp2_with fail
    refine (of_ok a1 l0 c1 zs x2 h1 (by omega) hc1 hu).mono ?_
    rintro e x3 ⟨g2, l2, k2, z2, rfl, hg2, h2, n2, hb⟩
    replace V0 := Va.after hb V0
    replace V1 := Va.after hb V1
    replace V2 := Va.after hb V2
    replace h := h.below hb (Nat.le_refl _)
    replace h1 := h1.below hb (Nat.le_refl _)
    replace B0 := step B0 hb
    clear hb
    clear c_V0 d_V0 f_V0 g_V0 l_V0 m_V0 c_V1 d_V1 f_V1 g_V1 l_V1 m_V1 c_V2 d_V2 f_V2 g_V2 l_V2 m_V2
    have c_V0 := V0.c0
    have d_V0 := V0.c1
    have f_V0 := V0.frozen 0
    have g_V0 := V0.frozen 1
    have l_V0 := V0.lt
    have m_V0 := Nat.le_of_lt l_V0
    have c_V1 := V1.c0
    have d_V1 := V1.c1
    have f_V1 := V1.frozen 0
    have g_V1 := V1.frozen 1
    have l_V1 := V1.lt
    have m_V1 := Nat.le_of_lt l_V1
    have c_V2 := V2.c0
    have d_V2 := V2.c1
    have f_V2 := V2.frozen 0
    have g_V2 := V2.frozen 1
    have l_V2 := V2.lt
    have m_V2 := Nat.le_of_lt l_V2
    go_wp2_with fail
    clear h1
    clear hg2
    have lt3 := V2.lt
    refine ent1 x3 _ _ (Q := fun W => Code.wp Try.prog _ _ _ W) ?_
    intro x4 hb hs_x4 V3
    replace V0 := Va.after hb V0
    replace V1 := Va.after hb V1
    replace V2 := Va.after hb V2
    replace h2 := Nt.after hb h2
    replace h := h.below hb (Nat.le_refl _)
    replace B0 := step B0 hb
    clear hb hs_x4
    clear c_V0 d_V0 f_V0 g_V0 l_V0 m_V0 c_V1 d_V1 f_V1 g_V1 l_V1 m_V1 c_V2 d_V2 f_V2 g_V2 l_V2 m_V2
    refine wp_region_noPanic ?_
    replace V0 : Va x4.drew _ _ _ := V0
    replace V1 : Va x4.drew _ _ _ := V1
    replace V2 : Va x4.drew _ _ _ := V2
    replace V3 : Va x4.drew _ _ _ := V3
    replace h2 : Nt x4.drew _ _ _ _ := h2
    replace h : Sl x4.drew _ _ _ := h
    replace B0 := Below.drew B0
    refine wp_region_held_drew (S := (fun W => W.cell? ⟨w.heap.size, 0, none⟩ = some (.bool s) ∧ W.cell? ⟨w.heap.size, 1, none⟩ = some (.slice a l0 c) ∧ W.cell? ⟨x3.heap.size, 0, none⟩ = some (.slice (some ⟨g2, 0, none⟩) l2 k2))) (by kernel_rfl) ⟨V0.c0, V0.c1, V3.cell⟩ (fun hHeld => ?_)
    obtain ⟨x5, hxd⟩ : ∃ xd, xd = x4.drew := ⟨_, rfl⟩
    rw [← hxd] at V0 V1 V2 V3 h2 h B0 hHeld ⊢
    clear hxd
    refine wpAnyH_take (i := 0) (v := ?_) rfl (by kernel_rfl) (by kernel_rfl) (by kernel_rfl) (fun _ _ _ h => h) (Or.inl ⟨by rfl, ?_⟩) hHeld ?_
    rotate_left
    · (intro W hSw; (try dsimp only at hSw); go_simp; all_goals (with_reducible rfl))
    simp only [List.getElem_toArray, List.getElem_cons_zero, Act.put, List.setIfInBounds_toArray, List.set_cons_zero, List.set_cons_succ]
    refine wpAnyH_take (i := 1) (v := ?_) rfl (by kernel_rfl) (by kernel_rfl) (by kernel_rfl) (fun _ _ _ h => h) (Or.inl ⟨by rfl, ?_⟩) hHeld ?_
    rotate_left
    · (intro W hSw; (try dsimp only at hSw); go_simp; all_goals (with_reducible rfl))
    simp only [List.getElem_toArray, List.getElem_cons_zero, List.getElem_cons_succ, Act.put, List.setIfInBounds_toArray, List.set_cons_zero, List.set_cons_succ]
    refine wpAnyH_take (i := 2) (v := ?_) rfl (by kernel_rfl) (by kernel_rfl) (by kernel_rfl) (fun _ _ _ h => h) (Or.inl ⟨by rfl, ?_⟩) hHeld ?_
    rotate_left
    · (intro W hSw; (try dsimp only at hSw); go_simp; all_goals (with_reducible rfl))
    simp only [List.getElem_toArray, List.getElem_cons_zero, List.getElem_cons_succ, Act.put, List.setIfInBounds_toArray, List.set_cons_zero, List.set_cons_succ]
    refine wpAnyH_take (i := 4) (v := ?_) rfl (by kernel_rfl) (by kernel_rfl) (by kernel_rfl) (fun _ _ _ h => h) (Or.inl ⟨by rfl, ?_⟩) hHeld ?_
    rotate_left
    · (intro W hSw; (try dsimp only at hSw); go_simp; all_goals (with_reducible rfl))
    simp only [List.getElem_toArray, List.getElem_cons_zero, List.getElem_cons_succ, Act.put, List.setIfInBounds_toArray, List.set_cons_zero, List.set_cons_succ]
    refine wpAnyH_take (i := 5) (v := ?_) rfl (by kernel_rfl) (by kernel_rfl) (by kernel_rfl) (fun _ _ _ h => h) (Or.inl ⟨by rfl, ?_⟩) hHeld ?_
    rotate_left
    · (intro W hSw; (try dsimp only at hSw); go_simp; all_goals (with_reducible rfl))
    simp only [List.getElem_toArray, List.getElem_cons_zero, List.getElem_cons_succ, Act.put, List.setIfInBounds_toArray, List.set_cons_zero, List.set_cons_succ]
    refine wpAnyH_take (i := 6) (v := ?_) rfl (by kernel_rfl) (by kernel_rfl) (by kernel_rfl) (fun _ _ _ h => h) (Or.inl ⟨by rfl, ?_⟩) hHeld ?_
    rotate_left
    · (intro W hSw; (try dsimp only at hSw); go_simp; all_goals (with_reducible rfl))
    simp only [List.getElem_toArray, List.getElem_cons_zero, List.getElem_cons_succ, Act.put, List.setIfInBounds_toArray, List.set_cons_zero, List.set_cons_succ]
    refine wpAnyH_take (i := 8) (v := ?_) rfl (by kernel_rfl) (by kernel_rfl) (by kernel_rfl) (fun _ _ _ h => h) (Or.inl ⟨by rfl, ?_⟩) hHeld ?_
    rotate_left
    · (intro W hSw; (try dsimp only at hSw); go_simp; all_goals (with_reducible rfl))
    simp only [List.getElem_toArray, List.getElem_cons_zero, List.getElem_cons_succ, Act.put, List.setIfInBounds_toArray, List.set_cons_zero, List.set_cons_succ]
    refine wpAnyH_take (i := 9) (v := ?_) rfl (by kernel_rfl) (by kernel_rfl) (by kernel_rfl) (fun _ _ _ h => h) (Or.inl ⟨by rfl, ?_⟩) hHeld ?_
    rotate_left
    · (intro W hSw; (try dsimp only at hSw); go_simp; all_goals (with_reducible rfl))
    simp only [List.getElem_toArray, List.getElem_cons_zero, List.getElem_cons_succ, Act.put, List.setIfInBounds_toArray, List.set_cons_zero, List.set_cons_succ]
    refine wpAnyH_ready (rs := [3]) (by kernel_rfl) (by simp) ?_
    refine AllReadyH.cons rfl (fun K hK => ?_) AllReadyH.nil
    simp only [List.getElem_toArray, List.getElem_cons_zero, List.getElem_cons_succ]
    go_simp
    refine (wnew_any s _ l2 k2 z2 _ h2).mono ?_
    rintro e x6 ⟨s3, rfl, h3, e3, hb⟩
    replace V0 := Va.after hb V0
    replace V1 := Va.after hb V1
    replace V2 := Va.after hb V2
    replace V3 := Va.after hb V3
    replace h2 := Nt.after hb h2
    replace h := h.below hb (Nat.le_refl _)
    replace B0 := step B0 hb
    clear hb
    try go_wp2_with fail
    refine hK.out _ _ ⟨V0.c0, V0.c1, V3.cell⟩ (fun hHeld => ?_)
    clear hK K
    refine wpAnyH_ready (rs := [7]) (by kernel_rfl) (by simp) ?_
    refine AllReadyH.cons rfl (fun K hK => ?_) AllReadyH.nil
    simp only [List.getElem_toArray, List.getElem_cons_zero, List.getElem_cons_succ]
    go_simp
    refine (rnew_any s a l0 c zs _ h (by omega) (by omega)).mono ?_
    rintro e x7 ⟨s4, a4, l4, k4, z4, rfl, h4, n4, e4, hl4, hb⟩
    replace V0 := Va.after hb V0
    replace V1 := Va.after hb V1
    replace V2 := Va.after hb V2
    replace V3 := Va.after hb V3
    replace h2 := Nt.after hb h2
    replace h3 := It.after hb h3
    replace h := h.below hb (Nat.le_refl _)
    replace B0 := step B0 hb
    clear hb
    clear hl4
    obtain ⟨hl5, hz5⟩ := h3.1.same h4.1 h4.2.1 (n4.trans n2.symm)
    subst hl5 hz5
    have es : s4 = s3 := by
      have q1 := h3.sign
      have q2 : s4 = decide (iv s4 z4 < 0) := by
        have p0 := h4.nonneg
        cases s4
        · rw [iv_f]; symm; simpa using p0
        · have := h4.2.2.2.2 rfl
          rw [iv_t]; symm; simp; omega
      rw [q1, q2, e4, e3]
      cases s
      · rw [iv_f, iv_f, n2]
      · rw [iv_t, iv_t, n2]
    subst es
    try go_wp2_with fail
    refine hK.out _ _ ⟨V0.c0, V0.c1, V3.cell⟩ (fun hHeld => ?_)
    clear hK K
    clear h2
    have c_V1 := V1.c0
    have d_V1 := V1.c1
    have f_V1 := V1.frozen 0
    have g_V1 := V1.frozen 1
    have l_V1 := V1.lt
    have m_V1 := Nat.le_of_lt l_V1
    refine wpAnyH_ready (rs := [10]) (by kernel_rfl) (by simp) ?_
    refine AllReadyH.cons rfl (fun K hK => ?_) AllReadyH.nil
    simp only [List.getElem_toArray, List.getElem_cons_zero, List.getElem_cons_succ]
    go_simp
    clear c_V1 d_V1 f_V1 g_V1 l_V1 m_V1
    refine st2 V1 (.bool s4) (.slice (some ⟨g2, 0, none⟩) l4 k2) (Q := fun W => K _ W) ?_
    intro x8 V' oth far
    replace V0 := oth _ _ _ (by first | omega | assumption) V0
    replace V2 := oth _ _ _ (by first | omega | assumption) V2
    replace V3 := oth _ _ _ (by first | omega | assumption) V3
    replace h3 := h3.far V1 (noInt2 _ _ _ _) far.1
    replace h := h.far V1 (noInt2 _ _ _ _) far.1
    replace h4 := h4.far V1 (noInt2 _ _ _ _) far.1
    replace B0 := far.2 _ _ (by first | omega | (simp; omega)) B0
    replace V1 := V'
    clear oth far
    refine hK.out _ _ ⟨V0.c0, V0.c1, V3.cell⟩ (fun hHeld => ?_)
    clear hK K
    have c_V2 := V2.c0
    have d_V2 := V2.c1
    have f_V2 := V2.frozen 0
    have g_V2 := V2.frozen 1
    have l_V2 := V2.lt
    have m_V2 := Nat.le_of_lt l_V2
    refine wpAnyH_ready (rs := [11]) (by kernel_rfl) (by simp) ?_
    refine AllReadyH.cons rfl (fun K hK => ?_) AllReadyH.nil
    simp only [List.getElem_toArray, List.getElem_cons_zero, List.getElem_cons_succ]
    go_simp
    clear c_V2 d_V2 f_V2 g_V2 l_V2 m_V2
    refine st2 V2 (.bool s4) (.slice a4 l4 k4) (Q := fun W => K _ W) ?_
    intro x9 V' oth far
    replace V0 := oth _ _ _ (by first | omega | assumption) V0
    replace V1 := oth _ _ _ (by first | omega | assumption) V1
    replace V3 := oth _ _ _ (by first | omega | assumption) V3
    replace h3 := h3.far V2 (noInt2 _ _ _ _) far.1
    replace h := h.far V2 (noInt2 _ _ _ _) far.1
    replace h4 := h4.far V2 (noInt2 _ _ _ _) far.1
    replace B0 := far.2 _ _ (by first | omega | (simp; omega)) B0
    replace V2 := V'
    clear oth far
    refine hK.out _ _ ⟨V0.c0, V0.c1, V3.cell⟩ (fun hHeld => ?_)
    clear hK K
    refine wpAnyH_take (i := 12) (v := ?_) rfl (by kernel_rfl) (by kernel_rfl) (by kernel_rfl) (fun _ _ _ h => h) (Or.inl ⟨by rfl, ?_⟩) hHeld ?_
    rotate_left
    · (intro W hSw; (try dsimp only at hSw); go_simp; all_goals (with_reducible rfl))
    simp only [List.getElem_toArray, List.getElem_cons_zero, List.getElem_cons_succ, Act.put, List.setIfInBounds_toArray, List.set_cons_zero, List.set_cons_succ]
    refine wpAnyH_done (by kernel_rfl) ?_ _
    refine NoPanic.normal ?_
    clear hHeld
    go_wp2_with fail
    refine bodyPost_ret (results_wit rfl rfl V1 rfl V2) rfl ?_
    exact ⟨_, _, _, _, _, _, _, rfl, h3, h4, e4, B0⟩
  ·
    subst hl2
    have hl3 : (4096 : Int) < l := by omega
    have hl4 : 4096 ≤ c := by omega
    cases a with
    | none => (have := (hn rfl).1; omega)
    | some ad =>
      go_enter Try.func7, Try.ntmps7
      go_wp2_with fail
      refine ent3 w _ _ _ _ _ _ (Q := fun W => Calls Try.prog _ _ W _) ?_
      intro x1 hb hs_x1 V0 V1 V2
      replace h := h.below hb (Nat.le_refl _)
      replace B0 := step B0 hb
      clear hb hs_x1
      refine (copyl_any (some ad) 4096 c zs x1 h hn0 (by omega)).mono ?_
      rintro e x2 ⟨a1, c1, rfl, h1, hc1, hn1, hb⟩
      replace V0 := Va.after hb V0
      replace V1 := Va.after hb V1
      replace V2 := Va.after hb V2
      replace h := h.below hb (Nat.le_refl _)
      replace B0 := step B0 hb
      clear hb
      have c_V0 := V0.c0
      have d_V0 := V0.c1
      have f_V0 := V0.frozen 0
      have g_V0 := V0.frozen 1
      have l_V0 := V0.lt
      have m_V0 := Nat.le_of_lt l_V0
      have c_V1 := V1.c0
      have d_V1 := V1.c1
      have f_V1 := V1.frozen 0
      have g_V1 := V1.frozen 1
      have l_V1 := V1.lt
      have m_V1 := Nat.le_of_lt l_V1
      have c_V2 := V2.c0
      have d_V2 := V2.c1
      have f_V2 := V2.frozen 0
      have g_V2 := V2.frozen 1
      have l_V2 := V2.lt
      have m_V2 := Nat.le_of_lt l_V2
      go_wp2_with fail
      refine (of_ok a1 4096 c1 zs x2 h1 (by omega) hc1 hu).mono ?_
      rintro e x3 ⟨g2, l2, k2, z2, rfl, hg2, h2, n2, hb⟩
      replace V0 := Va.after hb V0
      replace V1 := Va.after hb V1
      replace V2 := Va.after hb V2
      replace h := h.below hb (Nat.le_refl _)
      replace h1 := h1.below hb (Nat.le_refl _)
      replace B0 := step B0 hb
      clear hb
      clear c_V0 d_V0 f_V0 g_V0 l_V0 m_V0 c_V1 d_V1 f_V1 g_V1 l_V1 m_V1 c_V2 d_V2 f_V2 g_V2 l_V2 m_V2
      have c_V0 := V0.c0
      have d_V0 := V0.c1
      have f_V0 := V0.frozen 0
      have g_V0 := V0.frozen 1
      have l_V0 := V0.lt
      have m_V0 := Nat.le_of_lt l_V0
      have c_V1 := V1.c0
      have d_V1 := V1.c1
      have f_V1 := V1.frozen 0
      have g_V1 := V1.frozen 1
      have l_V1 := V1.lt
      have m_V1 := Nat.le_of_lt l_V1
      have c_V2 := V2.c0
      have d_V2 := V2.c1
      have f_V2 := V2.frozen 0
      have g_V2 := V2.frozen 1
      have l_V2 := V2.lt
      have m_V2 := Nat.le_of_lt l_V2
      go_wp2_with fail
      clear h1
      clear hg2
      have lt3 := V2.lt
      refine ent1 x3 _ _ (Q := fun W => Code.wp Try.prog _ _ _ W) ?_
      intro x4 hb hs_x4 V3
      replace V0 := Va.after hb V0
      replace V1 := Va.after hb V1
      replace V2 := Va.after hb V2
      replace h2 := Nt.after hb h2
      replace h := h.below hb (Nat.le_refl _)
      replace B0 := step B0 hb
      clear hb hs_x4
      clear c_V0 d_V0 f_V0 g_V0 l_V0 m_V0 c_V1 d_V1 f_V1 g_V1 l_V1 m_V1 c_V2 d_V2 f_V2 g_V2 l_V2 m_V2
      refine wp_region_noPanic ?_
      replace V0 : Va x4.drew _ _ _ := V0
      replace V1 : Va x4.drew _ _ _ := V1
      replace V2 : Va x4.drew _ _ _ := V2
      replace V3 : Va x4.drew _ _ _ := V3
      replace h2 : Nt x4.drew _ _ _ _ := h2
      replace h : Sl x4.drew _ _ _ := h
      replace B0 := Below.drew B0
      refine wp_region_held_drew (S := (fun W => W.cell? ⟨w.heap.size, 0, none⟩ = some (.bool s) ∧ W.cell? ⟨w.heap.size, 1, none⟩ = some (.slice (some ad) l c) ∧ W.cell? ⟨x3.heap.size, 0, none⟩ = some (.slice (some ⟨g2, 0, none⟩) l2 k2))) (by kernel_rfl) ⟨V0.c0, V0.c1, V3.cell⟩ (fun hHeld => ?_)
      obtain ⟨x5, hxd⟩ : ∃ xd, xd = x4.drew := ⟨_, rfl⟩
      rw [← hxd] at V0 V1 V2 V3 h2 h B0 hHeld ⊢
      clear hxd
      refine wpAnyH_take (i := 0) (v := ?_) rfl (by kernel_rfl) (by kernel_rfl) (by kernel_rfl) (fun _ _ _ h => h) (Or.inl ⟨by rfl, ?_⟩) hHeld ?_
      rotate_left
      · (intro W hSw; (try dsimp only at hSw); go_simp; all_goals (with_reducible rfl))
      simp only [List.getElem_toArray, List.getElem_cons_zero, Act.put, List.setIfInBounds_toArray, List.set_cons_zero, List.set_cons_succ]
      refine wpAnyH_take (i := 1) (v := ?_) rfl (by kernel_rfl) (by kernel_rfl) (by kernel_rfl) (fun _ _ _ h => h) (Or.inl ⟨by rfl, ?_⟩) hHeld ?_
      rotate_left
      · (intro W hSw; (try dsimp only at hSw); go_simp; all_goals (with_reducible rfl))
      simp only [List.getElem_toArray, List.getElem_cons_zero, List.getElem_cons_succ, Act.put, List.setIfInBounds_toArray, List.set_cons_zero, List.set_cons_succ]
      refine wpAnyH_take (i := 2) (v := ?_) rfl (by kernel_rfl) (by kernel_rfl) (by kernel_rfl) (fun _ _ _ h => h) (Or.inl ⟨by rfl, ?_⟩) hHeld ?_
      rotate_left
      · (intro W hSw; (try dsimp only at hSw); go_simp; all_goals (with_reducible rfl))
      simp only [List.getElem_toArray, List.getElem_cons_zero, List.getElem_cons_succ, Act.put, List.setIfInBounds_toArray, List.set_cons_zero, List.set_cons_succ]
      refine wpAnyH_take (i := 4) (v := ?_) rfl (by kernel_rfl) (by kernel_rfl) (by kernel_rfl) (fun _ _ _ h => h) (Or.inl ⟨by rfl, ?_⟩) hHeld ?_
      rotate_left
      · (intro W hSw; (try dsimp only at hSw); go_simp; all_goals (with_reducible rfl))
      simp only [List.getElem_toArray, List.getElem_cons_zero, List.getElem_cons_succ, Act.put, List.setIfInBounds_toArray, List.set_cons_zero, List.set_cons_succ]
      refine wpAnyH_take (i := 5) (v := ?_) rfl (by kernel_rfl) (by kernel_rfl) (by kernel_rfl) (fun _ _ _ h => h) (Or.inl ⟨by rfl, ?_⟩) hHeld ?_
      rotate_left
      · (intro W hSw; (try dsimp only at hSw); go_simp; all_goals (with_reducible rfl))
      simp only [List.getElem_toArray, List.getElem_cons_zero, List.getElem_cons_succ, Act.put, List.setIfInBounds_toArray, List.set_cons_zero, List.set_cons_succ]
      refine wpAnyH_take (i := 6) (v := ?_) rfl (by kernel_rfl) (by kernel_rfl) (by kernel_rfl) (fun _ _ _ h => h) (Or.inl ⟨by rfl, ?_⟩) hHeld ?_
      rotate_left
      · (intro W hSw; (try dsimp only at hSw); go_simp; all_goals (with_reducible rfl))
      simp only [List.getElem_toArray, List.getElem_cons_zero, List.getElem_cons_succ, Act.put, List.setIfInBounds_toArray, List.set_cons_zero, List.set_cons_succ]
      refine wpAnyH_take (i := 8) (v := ?_) rfl (by kernel_rfl) (by kernel_rfl) (by kernel_rfl) (fun _ _ _ h => h) (Or.inl ⟨by rfl, ?_⟩) hHeld ?_
      rotate_left
      · (intro W hSw; (try dsimp only at hSw); go_simp; all_goals (with_reducible rfl))
      simp only [List.getElem_toArray, List.getElem_cons_zero, List.getElem_cons_succ, Act.put, List.setIfInBounds_toArray, List.set_cons_zero, List.set_cons_succ]
      refine wpAnyH_take (i := 9) (v := ?_) rfl (by kernel_rfl) (by kernel_rfl) (by kernel_rfl) (fun _ _ _ h => h) (Or.inl ⟨by rfl, ?_⟩) hHeld ?_
      rotate_left
      · (intro W hSw; (try dsimp only at hSw); go_simp; all_goals (with_reducible rfl))
      simp only [List.getElem_toArray, List.getElem_cons_zero, List.getElem_cons_succ, Act.put, List.setIfInBounds_toArray, List.set_cons_zero, List.set_cons_succ]
      refine wpAnyH_ready (rs := [3]) (by kernel_rfl) (by simp) ?_
      refine AllReadyH.cons rfl (fun K hK => ?_) AllReadyH.nil
      simp only [List.getElem_toArray, List.getElem_cons_zero, List.getElem_cons_succ]
      go_simp
      refine (wnew_any s _ l2 k2 z2 _ h2).mono ?_
      rintro e x6 ⟨s3, rfl, h3, e3, hb⟩
      replace V0 := Va.after hb V0
      replace V1 := Va.after hb V1
      replace V2 := Va.after hb V2
      replace V3 := Va.after hb V3
      replace h2 := Nt.after hb h2
      replace h := h.below hb (Nat.le_refl _)
      replace B0 := step B0 hb
      clear hb
      try go_wp2_with fail
      refine hK.out _ _ ⟨V0.c0, V0.c1, V3.cell⟩ (fun hHeld => ?_)
      clear hK K
      refine wpAnyH_ready (rs := [7]) (by kernel_rfl) (by simp) ?_
      refine AllReadyH.cons rfl (fun K hK => ?_) AllReadyH.nil
      simp only [List.getElem_toArray, List.getElem_cons_zero, List.getElem_cons_succ]
      go_simp
      refine (rnew_any s (some ad) 4096 c zs _ h (by omega) (by omega)).mono ?_
      rintro e x7 ⟨s4, a4, l4, k4, z4, rfl, h4, n4, e4, hl4, hb⟩
      replace V0 := Va.after hb V0
      replace V1 := Va.after hb V1
      replace V2 := Va.after hb V2
      replace V3 := Va.after hb V3
      replace h2 := Nt.after hb h2
      replace h3 := It.after hb h3
      replace h := h.below hb (Nat.le_refl _)
      replace B0 := step B0 hb
      clear hb
      clear hl4
      obtain ⟨hl5, hz5⟩ := h3.1.same h4.1 h4.2.1 (n4.trans n2.symm)
      subst hl5 hz5
      have es : s4 = s3 := by
        have q1 := h3.sign
        have q2 : s4 = decide (iv s4 z4 < 0) := by
          have p0 := h4.nonneg
          cases s4
          · rw [iv_f]; symm; simpa using p0
          · have := h4.2.2.2.2 rfl
            rw [iv_t]; symm; simp; omega
        rw [q1, q2, e4, e3]
        cases s
        · rw [iv_f, iv_f, n2]
        · rw [iv_t, iv_t, n2]
      subst es
      try go_wp2_with fail
      refine hK.out _ _ ⟨V0.c0, V0.c1, V3.cell⟩ (fun hHeld => ?_)
      clear hK K
      clear h2
      have c_V1 := V1.c0
      have d_V1 := V1.c1
      have f_V1 := V1.frozen 0
      have g_V1 := V1.frozen 1
      have l_V1 := V1.lt
      have m_V1 := Nat.le_of_lt l_V1
      refine wpAnyH_ready (rs := [10]) (by kernel_rfl) (by simp) ?_
      refine AllReadyH.cons rfl (fun K hK => ?_) AllReadyH.nil
      simp only [List.getElem_toArray, List.getElem_cons_zero, List.getElem_cons_succ]
      go_simp
      clear c_V1 d_V1 f_V1 g_V1 l_V1 m_V1
      refine st2 V1 (.bool s4) (.slice (some ⟨g2, 0, none⟩) l4 k2) (Q := fun W => K _ W) ?_
      intro x8 V' oth far
      replace V0 := oth _ _ _ (by first | omega | assumption) V0
      replace V2 := oth _ _ _ (by first | omega | assumption) V2
      replace V3 := oth _ _ _ (by first | omega | assumption) V3
      replace h3 := h3.far V1 (noInt2 _ _ _ _) far.1
      replace h := h.far V1 (noInt2 _ _ _ _) far.1
      replace h4 := h4.far V1 (noInt2 _ _ _ _) far.1
      replace B0 := far.2 _ _ (by first | omega | (simp; omega)) B0
      replace V1 := V'
      clear oth far
      refine hK.out _ _ ⟨V0.c0, V0.c1, V3.cell⟩ (fun hHeld => ?_)
      clear hK K
      have c_V2 := V2.c0
      have d_V2 := V2.c1
      have f_V2 := V2.frozen 0
      have g_V2 := V2.frozen 1
      have l_V2 := V2.lt
      have m_V2 := Nat.le_of_lt l_V2
      refine wpAnyH_ready (rs := [11]) (by kernel_rfl) (by simp) ?_
      refine AllReadyH.cons rfl (fun K hK => ?_) AllReadyH.nil
      simp only [List.getElem_toArray, List.getElem_cons_zero, List.getElem_cons_succ]
      go_simp
      clear c_V2 d_V2 f_V2 g_V2 l_V2 m_V2
      refine st2 V2 (.bool s4) (.slice a4 l4 k4) (Q := fun W => K _ W) ?_
      intro x9 V' oth far
      replace V0 := oth _ _ _ (by first | omega | assumption) V0
      replace V1 := oth _ _ _ (by first | omega | assumption) V1
      replace V3 := oth _ _ _ (by first | omega | assumption) V3
      replace h3 := h3.far V2 (noInt2 _ _ _ _) far.1
      replace h := h.far V2 (noInt2 _ _ _ _) far.1
      replace h4 := h4.far V2 (noInt2 _ _ _ _) far.1
      replace B0 := far.2 _ _ (by first | omega | (simp; omega)) B0
      replace V2 := V'
      clear oth far
      refine hK.out _ _ ⟨V0.c0, V0.c1, V3.cell⟩ (fun hHeld => ?_)
      clear hK K
      refine wpAnyH_take (i := 12) (v := ?_) rfl (by kernel_rfl) (by kernel_rfl) (by kernel_rfl) (fun _ _ _ h => h) (Or.inl ⟨by rfl, ?_⟩) hHeld ?_
      rotate_left
      · (intro W hSw; (try dsimp only at hSw); go_simp; all_goals (with_reducible rfl))
      simp only [List.getElem_toArray, List.getElem_cons_zero, List.getElem_cons_succ, Act.put, List.setIfInBounds_toArray, List.set_cons_zero, List.set_cons_succ]
      refine wpAnyH_done (by kernel_rfl) ?_ _
      refine NoPanic.normal ?_
      clear hHeld
      go_wp2_with fail
      refine bodyPost_ret (results_wit rfl rfl V1 rfl V2) rfl ?_
      exact ⟨_, _, _, _, _, _, _, rfl, h3, h4, e4, B0⟩

theorem oflaw4 (s : Bool) (a : Option Addr) (l c : Nat) (zs : List Int) (w : World) (h : Sl w a l zs) (hn : a = none → l = 0 ∧ c = 0) (hc : l ≤ c) :
    Calls Try.prog 7 #[.agg #[.bool s, .slice a l c]] w fun e w' => ∃ s' a' l' c' zs' a2 c2, e = .returned (.tuple #[.agg #[.bool s', .slice a' l' c'], .agg #[.bool s', .slice a2 l' c2], .bool true]) ∧ It w' s' a' l' c' zs' ∧ Ir w' s' a2 l' c2 zs' ∧ iv s' zs' = iv s (zs.take 4096) ∧ Below w.heap.size w w' := by
  by_cases hl : l ≤ 4096
  · rw [List.take_of_length_le (by have := h.1; omega)]
    exact of_core s a l l c zs w h hn (Nat.le_refl _) hc (Or.inl ⟨hl, rfl⟩)
  · exact of_core s a l 4096 c (zs.take 4096) w (h.take (by omega)) hn (by omega) hc (Or.inr ⟨by omega, rfl⟩)

theorem wsame_ok (s t : Bool) (a b : Option Addr) (la ca lb cb : Nat) (xs ys : List Int) (w : World) (hx : It w s a la ca xs) (hy : It w t b lb cb ys) (he : iv s xs = iv t ys) :
    Calls Try.prog 31 #[.agg #[.bool s, .slice a la ca], .agg #[.bool t, .slice b lb cb]] w fun e w' => e = .returned (.bool true) ∧ Below w.heap.size w w' := by
  have B0 : Below w.heap.size w w := Below.refl _ _
  go_enter Try.func31, Try.ntmps31
  go_wp2_with fail
  refine ent2 w _ _ _ _ (Q := fun W => Code.wp Try.prog _ _ _ W) ?_
  intro x1 hb hs_x1 V0 V1
  replace hx := It.after hb hx
  replace hy := It.after hb hy
  replace B0 := step B0 hb
  clear hb hs_x1
  refine wp_region_noPanic ?_
  replace V0 : Va x1.drew _ _ _ := V0
  replace V1 : Va x1.drew _ _ _ := V1
  replace hx : It x1.drew _ _ _ _ _ := hx
  replace hy : It x1.drew _ _ _ _ _ := hy
  replace B0 := Below.drew B0
  refine wp_region_held_drew (S := (fun W => W.cell? ⟨w.heap.size, 0, none⟩ = some (.bool s) ∧ W.cell? ⟨w.heap.size, 1, none⟩ = some (.slice a la ca) ∧ W.cell? ⟨w.heap.size + 1, 0, none⟩ = some (.bool t) ∧ W.cell? ⟨w.heap.size + 1, 1, none⟩ = some (.slice b lb cb))) (by kernel_rfl) ⟨V0.c0, V0.c1, V1.c0, V1.c1⟩ (fun hHeld => ?_)
  obtain ⟨x2, hxd⟩ : ∃ xd, xd = x1.drew := ⟨_, rfl⟩
  rw [← hxd] at V0 V1 hx hy B0 hHeld ⊢
  clear hxd
  refine wpAnyH_take (i := 0) (v := ?_) rfl (by kernel_rfl) (by kernel_rfl) (by kernel_rfl) (fun _ _ _ h => h) (Or.inl ⟨by rfl, ?_⟩) hHeld ?_
  rotate_left
  · (intro W hSw; (try dsimp only at hSw); go_simp; all_goals (with_reducible rfl))
  simp only [List.getElem_toArray, List.getElem_cons_zero, Act.put, List.setIfInBounds_toArray, List.set_cons_zero, List.set_cons_succ]
  refine wpAnyH_take (i := 1) (v := ?_) rfl (by kernel_rfl) (by kernel_rfl) (by kernel_rfl) (fun _ _ _ h => h) (Or.inl ⟨by rfl, ?_⟩) hHeld ?_
  rotate_left
  · (intro W hSw; (try dsimp only at hSw); go_simp; all_goals (with_reducible rfl))
  simp only [List.getElem_toArray, List.getElem_cons_zero, List.getElem_cons_succ, Act.put, List.setIfInBounds_toArray, List.set_cons_zero, List.set_cons_succ]
  refine wpAnyH_ready (rs := [2]) (by kernel_rfl) (by simp) ?_
  refine AllReadyH.cons rfl (fun K hK => ?_) AllReadyH.nil
  simp only [List.getElem_toArray, List.getElem_cons_zero, List.getElem_cons_succ]
  go_simp
  refine (wcompare_any s t a b la ca lb cb xs ys _ hx hy).mono ?_
  rintro e x3 ⟨rfl, hb⟩
  replace V0 := Va.after hb V0
  replace V1 := Va.after hb V1
  replace hx := It.after hb hx
  replace hy := It.after hb hy
  replace B0 := step B0 hb
  clear hb
  rw [cmp3_eq he]
  try go_wp2_with fail
  refine hK.out _ _ ⟨V0.c0, V0.c1, V1.c0, V1.c1⟩ (fun hHeld => ?_)
  clear hK K
  refine wpAnyH_take (i := 3) (v := ?_) rfl (by kernel_rfl) (by kernel_rfl) (by kernel_rfl) (fun _ _ _ h => h) (Or.inl ⟨by rfl, ?_⟩) hHeld ?_
  rotate_left
  · (intro W hSw; (try dsimp only at hSw); go_simp; all_goals (with_reducible rfl))
  simp only [List.getElem_toArray, List.getElem_cons_zero, List.getElem_cons_succ, Act.put, List.setIfInBounds_toArray, List.set_cons_zero, List.set_cons_succ]
  refine wpAnyH_take (i := 4) (v := ?_) rfl (by kernel_rfl) (by kernel_rfl) (by kernel_rfl) (fun _ _ _ h => h) (Or.inl ⟨by rfl, ?_⟩) hHeld ?_
  rotate_left
  · (intro W hSw; (try dsimp only at hSw); go_simp; all_goals (with_reducible rfl))
  simp only [List.getElem_toArray, List.getElem_cons_zero, List.getElem_cons_succ, Act.put, List.setIfInBounds_toArray, List.set_cons_zero, List.set_cons_succ]
  refine wpAnyH_take (i := 5) (v := ?_) rfl (by kernel_rfl) (by kernel_rfl) (by kernel_rfl) (fun _ _ _ h => h) (Or.inl ⟨by rfl, ?_⟩) hHeld ?_
  rotate_left
  · (intro W hSw; (try dsimp only at hSw); go_simp; all_goals (with_reducible rfl))
  simp only [List.getElem_toArray, List.getElem_cons_zero, List.getElem_cons_succ, Act.put, List.setIfInBounds_toArray, List.set_cons_zero, List.set_cons_succ]
  refine wpAnyH_take (i := 7) (v := ?_) rfl (by kernel_rfl) (by kernel_rfl) (by kernel_rfl) (fun _ _ _ h => h) (Or.inl ⟨by rfl, ?_⟩) hHeld ?_
  rotate_left
  · (intro W hSw; (try dsimp only at hSw); go_simp; all_goals (with_reducible rfl))
  simp only [List.getElem_toArray, List.getElem_cons_zero, List.getElem_cons_succ, Act.put, List.setIfInBounds_toArray, List.set_cons_zero, List.set_cons_succ]
  refine wpAnyH_ready (rs := [6]) (by kernel_rfl) (by simp) ?_
  refine AllReadyH.cons rfl (fun K hK => ?_) AllReadyH.nil
  simp only [List.getElem_toArray, List.getElem_cons_zero, List.getElem_cons_succ]
  go_simp
  refine (wsign_any s a la ca xs _ hx).mono ?_
  rintro e x4 ⟨rfl, hb⟩
  replace V0 := Va.after hb V0
  replace V1 := Va.after hb V1
  replace hx := It.after hb hx
  replace hy := It.after hb hy
  replace B0 := step B0 hb
  clear hb
  rw [he]
  obtain ⟨q, hq⟩ : ∃ q, Int.sign (iv t ys) = q := ⟨_, rfl⟩
  rw [hq]
  try go_wp2_with fail
  refine hK.out _ _ ⟨V0.c0, V0.c1, V1.c0, V1.c1⟩ (fun hHeld => ?_)
  clear hK K
  refine wpAnyH_ready (rs := [8]) (by kernel_rfl) (by simp) ?_
  refine AllReadyH.cons rfl (fun K hK => ?_) AllReadyH.nil
  simp only [List.getElem_toArray, List.getElem_cons_zero, List.getElem_cons_succ]
  go_simp
  refine (wsign_any t b lb cb ys _ hy).mono ?_
  rintro e x5 ⟨rfl, hb⟩
  replace V0 := Va.after hb V0
  replace V1 := Va.after hb V1
  replace hx := It.after hb hx
  replace hy := It.after hb hy
  replace B0 := step B0 hb
  clear hb
  rw [hq]
  try go_wp2_with fail
  refine hK.out _ _ ⟨V0.c0, V0.c1, V1.c0, V1.c1⟩ (fun hHeld => ?_)
  clear hK K
  refine wpAnyH_take (i := 9) (v := ?_) rfl (by kernel_rfl) (by kernel_rfl) (by kernel_rfl) (fun _ _ _ h => h) (Or.inl ⟨by rfl, ?_⟩) hHeld ?_
  rotate_left
  · (intro W hSw; (try dsimp only at hSw); go_simp; all_goals (with_reducible rfl))
  simp only [List.getElem_toArray, List.getElem_cons_zero, List.getElem_cons_succ, Act.put, List.setIfInBounds_toArray, List.set_cons_zero, List.set_cons_succ]
  refine wpAnyH_take (i := 10) (v := ?_) rfl (by kernel_rfl) (by kernel_rfl) (by kernel_rfl) (fun _ _ _ h => h) (Or.inl ⟨by rfl, ?_⟩) hHeld ?_
  rotate_left
  · (intro W hSw; (try dsimp only at hSw); go_simp; all_goals (with_reducible rfl))
  simp only [List.getElem_toArray, List.getElem_cons_zero, List.getElem_cons_succ, Act.put, List.setIfInBounds_toArray, List.set_cons_zero, List.set_cons_succ]
  refine wpAnyH_take (i := 11) (v := ?_) rfl (by kernel_rfl) (by kernel_rfl) (by kernel_rfl) (fun _ _ _ h => h) (Or.inl ⟨by rfl, ?_⟩) hHeld ?_
  rotate_left
  · (intro W hSw; (try dsimp only at hSw); go_simp; all_goals (with_reducible rfl))
  simp only [List.getElem_toArray, List.getElem_cons_zero, List.getElem_cons_succ, Act.put, List.setIfInBounds_toArray, List.set_cons_zero, List.set_cons_succ]
  refine wpAnyH_done (by kernel_rfl) ?_ _
  refine NoPanic.normal ?_
  clear hHeld
  go_wp2_with fail
  go_ret
  exact ⟨rfl, B0⟩
end Go.Proofs.Ytkfpblonjinfmaa
namespace Go.Proofs.Ytkfpblonjinfmaa
open Go.RowKit Go.Shelf
set_option linter.unusedVariables false

set_option maxHeartbeats 1000000 in
theorem samek_any (a b : Option Addr) (la ca cb : Nat) (xs : List Int) (w : World) (ha : Sl w a la xs) (hb : Sl w b la xs) (h1 : la ≤ 40000000000000) :
    Calls Try.prog 37 #[.slice a la ca, .slice b la cb] w fun e w' => e = .returned (.bool true) ∧ ∃ n, w' = w.drewN n := by
  have hza := ha.1
  have g1 : ((la : Int) != la) = false := by simp
  by_cases h0 : la = 0
  · subst h0
    clear ha hb
    go_enter Try.func37, Try.ntmps37
    go_wp2_with fail
    refine wp_loop_rounds 1 ?_
    rw [rounds_succ]
    go_wp2_with fail
    go_ret
    exact ⟨rfl, 0, rfl⟩
  · obtain ⟨ba, oa, rfl, hca⟩ := ha.2.2 (by omega)
    obtain ⟨bb, ob, rfl, hcb⟩ := hb.2.2 (by omega)
    clear ha hb
    go_enter Try.func37, Try.ntmps37
    go_wp2_with fail
    go_loopw [5] (fun i wr => ∃ k : Nat, k ≤ la ∧ i = .int .i64 k ∧ ∃ q, wr = w.drewN q) (fun i _ => la - (intOf i).toNat)
    case atStart => exact ⟨0, Nat.zero_le _, rfl, 0, rfl⟩
    case round =>
      obtain ⟨k, hk, rfl, q, rfl⟩ := hrel
      by_cases hlt : k < la
      · have hcx := hca k (by omega)
        have hcy := hcb k (by omega)
        obtain ⟨x, hx⟩ : ∃ x, xs.getD k 0 = x := ⟨_, rfl⟩
        rw [hx] at hcx hcy
        clear hx
        have g2 : (x != x) = false := by simp
        go_wp2_with fail
        go_quiet (fail)
        go_wp2_with fail
        go_roundw
        case rel => exact ⟨k + 1, by omega, by go_num, q + nq, rfl⟩
        case measure => simp [intOf]; omega
      · go_wp2_with fail
        go_ret
        exact ⟨rfl, q, rfl⟩


theorem samek_b (a b : Option Addr) (la ca cb : Nat) (xs : List Int) (w : World) (ha : Sl w a la xs) (hb : Sl w b la xs) (h1 : la ≤ 40000000000000) :
    Calls Try.prog 37 #[.slice a la ca, .slice b la cb] w fun e w' => e = .returned (.bool true) ∧ Below w.heap.size w w' := by
  refine (samek_any a b la ca cb xs w ha hb h1).mono ?_
  rintro e w' ⟨rfl, n, rfl⟩
  exact ⟨rfl, below_drewN (Below.refl _ _) n⟩
theorem own_aft {w w' : World} {g : Nat} {cs : List Int} (b : Below w.heap.size w w') (h : Own w g cs) : Own w' g cs := h.below b h.lt
theorem Ir.sign {w : World} {s : Bool} {a : Option Addr} {l c : Nat} {zs : List Int} (h : Ir w s a l c zs) : s = decide (iv s zs < 0) := by
  have h0 := h.nonneg
  cases s
  · rw [iv_f]; symm; simpa using h0
  · have := h.2.2.2.2 rfl
    rw [iv_t]; symm; simp; omega
theorem Ir.abs {w : World} {s : Bool} {a : Option Addr} {l c : Nat} {zs : List Int} (h : Ir w s a l c zs) : num zs = (iv s zs).natAbs := by
  have h0 := h.nonneg
  cases s
  · rw [iv_f]; omega
  · rw [iv_t]; omega
theorem Ir.zero {w : World} {s : Bool} {a : Option Addr} {l c : Nat} {zs : List Int} (h : Ir w s a l c zs) : ((l : Int) == 0) = decide (num zs = 0) := by
  have e := num_eq_zero h.1.2.1
  rw [h.2.1] at e
  rw [Bool.eq_iff_iff]; simp; omega
theorem Ir.nil (w : World) : Ir w false none 0 0 [] := ⟨⟨rfl, Limbs.nil, fun h => absurd h (by decide)⟩, rfl, Nat.le_refl _, fun _ => ⟨rfl, rfl⟩, fun h => by cases h⟩
theorem It.ir {w w' : World} {s t : Bool} {a b : Option Addr} {l c m k : Nat} {zs ds : List Int} (h : It w s a l c zs) (g : Ir w' t b m k ds) (e : iv t ds = iv s zs) : t = s ∧ m = l ∧ ds = zs := by
  have e1 := h.sign
  have e2 := g.sign
  rw [e] at e2
  obtain ⟨e3, e4⟩ := h.1.same g.1 g.2.1 (by rw [g.abs, h.abs, e])
  exact ⟨e2.trans e1.symm, e3, e4⟩

theorem rsign_any (s : Bool) (a : Option Addr) (l c : Nat) (zs : List Int) (w : World) (h : Ir w s a l c zs) :
    Calls Try.prog 29 #[.agg #[.bool s, .slice a l c]] w fun e w' => e = .returned (.int .i64 (Int.sign (iv s zs))) ∧ Below w.heap.size w w' := by
  have hz := h.zero
  have hp := h.nonneg
  cases s
  · have es : Int.sign (iv false zs) = if num zs = 0 then 0 else 1 := by
      rw [iv_f]
      by_cases e : num zs = 0
      · rw [if_pos e, e]; rfl
      · rw [if_neg e, Int.sign_eq_one_of_pos (by omega)]
    rw [es]
    clear es
    by_cases e : num zs = 0
    · rw [if_pos e]
      have ez : ((l : Int) == 0) = true := by rw [hz]; simpa using e
      clear hz hp e h
      go_enter Try.func29, Try.ntmps29
      go_wp2_with fail
      go_ret
      exact ⟨rfl, (Below.refl _ _).alloc (Nat.le_refl _) _⟩
    · rw [if_neg e]
      have ez : ((l : Int) == 0) = false := by rw [hz]; simpa using e
      clear hz hp e h
      go_enter Try.func29, Try.ntmps29
      go_wp2_with fail
      go_ret
      exact ⟨rfl, (Below.refl _ _).alloc (Nat.le_refl _) _⟩
  · have es : Int.sign (iv true zs) = -1 := by
      have := h.2.2.2.2 rfl
      rw [iv_t, Int.sign_eq_neg_one_of_neg (by omega)]
    rw [es]
    clear es hz hp h
    go_enter Try.func29, Try.ntmps29
    go_wp2_with fail
    go_ret
    exact ⟨rfl, (Below.refl _ _).alloc (Nat.le_refl _) _⟩

set_option maxHeartbeats 4000000 in
theorem is4_ok (s t : Bool) (a b : Option Addr) (l c m k : Nat) (zs ds : List Int) (w : World) (h : It w s a l c zs) (g : Ir w t b m k ds) (he : iv t ds = iv s zs) :
    Calls Try.prog 11 #[.agg #[.bool s, .slice a l c], .agg #[.bool t, .slice b m k]] w fun e w' => e = .returned (.bool true) ∧ Below w.heap.size w w' := by
  obtain ⟨rfl, rfl, rfl⟩ := h.ir g he
  have hl := h.1.2.2.2
  have hzl := h.1.1.1
  clear he
  have B0 : Below w.heap.size w w := Below.refl _ _
  go_enter Try.func11, Try.ntmps11
  go_wp2_with fail
  refine ent2 w _ _ _ _ (Q := fun W => Code.wp Try.prog _ _ _ W) ?_
  intro x1 hb hs_x1 V0 V1
  replace h := It.after hb h
  replace g := Ir.after hb g
  replace B0 := step B0 hb
  clear hb hs_x1
  refine wp_region_noPanic ?_
  replace V0 : Va x1.drew _ _ _ := V0
  replace V1 : Va x1.drew _ _ _ := V1
  replace h : It x1.drew _ _ _ _ _ := h
  replace g := g.drw
  replace B0 := Below.drew B0
  refine wp_region_held_drew (S := (fun W => W.cell? ⟨w.heap.size, 0, none⟩ = some (.bool t) ∧ W.cell? ⟨w.heap.size, 1, none⟩ = some (.slice a m c) ∧ W.cell? ⟨w.heap.size + 1, 0, none⟩ = some (.bool t) ∧ W.cell? ⟨w.heap.size + 1, 1, none⟩ = some (.slice b m k))) (by kernel_rfl) ⟨V0.c0, V0.c1, V1.c0, V1.c1⟩ (fun hHeld => ?_)
  obtain ⟨x2, hxd⟩ : ∃ xd, xd = x1.drew := ⟨_, rfl⟩
  rw [← hxd] at V0 V1 h g B0 hHeld ⊢
  clear hxd
  refine wpAnyH_take (i := 0) (v := ?_) rfl (by kernel_rfl) (by kernel_rfl) (by kernel_rfl) (fun _ _ _ h => h) (Or.inl ⟨by rfl, ?_⟩) hHeld ?_
  rotate_left
  · (intro W hSw; (try dsimp only at hSw); go_simp; all_goals (with_reducible rfl))
  simp only [List.getElem_toArray, List.getElem_cons_zero, Act.put, List.setIfInBounds_toArray, List.set_cons_zero, List.set_cons_succ]
  refine wpAnyH_take (i := 2) (v := ?_) rfl (by kernel_rfl) (by kernel_rfl) (by kernel_rfl) (fun _ _ _ h => h) (Or.inl ⟨by rfl, ?_⟩) hHeld ?_
  rotate_left
  · (intro W hSw; (try dsimp only at hSw); go_simp; all_goals (with_reducible rfl))
  simp only [List.getElem_toArray, List.getElem_cons_zero, List.getElem_cons_succ, Act.put, List.setIfInBounds_toArray, List.set_cons_zero, List.set_cons_succ]
  refine wpAnyH_ready (rs := [1]) (by kernel_rfl) (by simp) ?_
  refine AllReadyH.cons rfl (fun K hK => ?_) AllReadyH.nil
  simp only [List.getElem_toArray, List.getElem_cons_zero, List.getElem_cons_succ]
  go_simp
  refine (wsign_any t a m c ds _ h).mono ?_
  rintro e x3 ⟨rfl, hb⟩
  replace V0 := Va.after hb V0
  replace V1 := Va.after hb V1
  replace h := It.after hb h
  replace g := Ir.after hb g
  replace B0 := step B0 hb
  clear hb
  obtain ⟨q, hq⟩ : ∃ q, Int.sign (iv t ds) = q := ⟨_, rfl⟩
  rw [hq]
  try go_wp2_with fail
  refine hK.out _ _ ⟨V0.c0, V0.c1, V1.c0, V1.c1⟩ (fun hHeld => ?_)
  clear hK K
  refine wpAnyH_ready (rs := [3]) (by kernel_rfl) (by simp) ?_
  refine AllReadyH.cons rfl (fun K hK => ?_) AllReadyH.nil
  simp only [List.getElem_toArray, List.getElem_cons_zero, List.getElem_cons_succ]
  go_simp
  refine (rsign_any t b m k ds _ g).mono ?_
  rintro e x4 ⟨rfl, hb⟩
  replace V0 := Va.after hb V0
  replace V1 := Va.after hb V1
  replace h := It.after hb h
  replace g := Ir.after hb g
  replace B0 := step B0 hb
  clear hb
  rw [hq]
  try go_wp2_with fail
  refine hK.out _ _ ⟨V0.c0, V0.c1, V1.c0, V1.c1⟩ (fun hHeld => ?_)
  clear hK K
  refine wpAnyH_take (i := 4) (v := ?_) rfl (by kernel_rfl) (by kernel_rfl) (by kernel_rfl) (fun _ _ _ h => h) (Or.inl ⟨by rfl, ?_⟩) hHeld ?_
  rotate_left
  · (intro W hSw; (try dsimp only at hSw); go_simp; all_goals (with_reducible rfl))
  simp only [List.getElem_toArray, List.getElem_cons_zero, List.getElem_cons_succ, Act.put, List.setIfInBounds_toArray, List.set_cons_zero, List.set_cons_succ]
  refine wpAnyH_take (i := 5) (v := ?_) rfl (by kernel_rfl) (by kernel_rfl) (by kernel_rfl) (fun _ _ _ h => h) (Or.inl ⟨by rfl, ?_⟩) hHeld ?_
  rotate_left
  · (intro W hSw; (try dsimp only at hSw); go_simp; all_goals (with_reducible rfl))
  simp only [List.getElem_toArray, List.getElem_cons_zero, List.getElem_cons_succ, Act.put, List.setIfInBounds_toArray, List.set_cons_zero, List.set_cons_succ]
  refine wpAnyH_take (i := 6) (v := ?_) rfl (by kernel_rfl) (by kernel_rfl) (by kernel_rfl) (fun _ _ _ h => h) (Or.inl ⟨by rfl, ?_⟩) hHeld ?_
  rotate_left
  · (intro W hSw; (try dsimp only at hSw); go_simp; all_goals (with_reducible rfl))
  simp only [List.getElem_toArray, List.getElem_cons_zero, List.getElem_cons_succ, Act.put, List.setIfInBounds_toArray, List.set_cons_zero, List.set_cons_succ]
  refine wpAnyH_take (i := 9) (v := ?_) rfl (by kernel_rfl) (by kernel_rfl) (by kernel_rfl) (fun _ _ _ h => h) (Or.inl ⟨by rfl, ?_⟩) hHeld ?_
  rotate_left
  · (intro W hSw; (try dsimp only at hSw); go_simp; all_goals (with_reducible rfl))
  simp only [List.getElem_toArray, List.getElem_cons_zero, List.getElem_cons_succ, Act.put, List.setIfInBounds_toArray, List.set_cons_zero, List.set_cons_succ]
  refine wpAnyH_take (i := 10) (v := ?_) rfl (by kernel_rfl) (by kernel_rfl) (by kernel_rfl) (fun _ _ _ h => h) (Or.inl ⟨by rfl, ?_⟩) hHeld ?_
  rotate_left
  · (intro W hSw; (try dsimp only at hSw); go_simp; all_goals (with_reducible rfl))
  simp only [List.getElem_toArray, List.getElem_cons_zero, List.getElem_cons_succ, Act.put, List.setIfInBounds_toArray, List.set_cons_zero, List.set_cons_succ]
  refine wpAnyH_ready (rs := [7]) (by kernel_rfl) (by simp) ?_
  refine AllReadyH.cons rfl (fun K hK => ?_) AllReadyH.nil
  simp only [List.getElem_toArray, List.getElem_cons_zero, List.getElem_cons_succ]
  go_simp
  refine (wabs_any t a m c _).mono ?_
  rintro e x5 ⟨rfl, hb⟩
  replace V0 := Va.after hb V0
  replace V1 := Va.after hb V1
  replace h := It.after hb h
  replace g := Ir.after hb g
  replace B0 := step B0 hb
  clear hb
  try go_wp2_with fail
  refine hK.out _ _ ⟨V0.c0, V0.c1, V1.c0, V1.c1⟩ (fun hHeld => ?_)
  clear hK K
  refine wpAnyH_ready (rs := [8]) (by kernel_rfl) (by simp) ?_
  refine AllReadyH.cons rfl (fun K hK => ?_) AllReadyH.nil
  simp only [List.getElem_toArray, List.getElem_cons_zero, List.getElem_cons_succ]
  go_simp
  refine (limbs_any a m c ds _ h.1).mono ?_
  rintro e x6 ⟨g1, rfl, hg1, ho, hb⟩
  replace V0 := Va.after hb V0
  replace V1 := Va.after hb V1
  replace h := It.after hb h
  replace g := Ir.after hb g
  replace B0 := step B0 hb
  clear hb
  clear hg1
  try go_wp2_with fail
  refine hK.out _ _ ⟨V0.c0, V0.c1, V1.c0, V1.c1⟩ (fun hHeld => ?_)
  clear hK K
  refine wpAnyH_ready (rs := [11]) (by kernel_rfl) (by simp) ?_
  refine AllReadyH.cons rfl (fun K hK => ?_) AllReadyH.nil
  simp only [List.getElem_toArray, List.getElem_cons_zero, List.getElem_cons_succ]
  go_simp
  refine (samek_b (some ⟨g1, 0, none⟩) b m m k ds _ (by have s1 := ho.sl h.1.limbs; rw [hzl] at s1; exact s1) g.1 (by omega)).mono ?_
  rintro e x7 ⟨rfl, hb⟩
  replace V0 := Va.after hb V0
  replace V1 := Va.after hb V1
  replace h := It.after hb h
  replace ho := own_aft hb ho
  replace g := Ir.after hb g
  replace B0 := step B0 hb
  clear hb
  try go_wp2_with fail
  refine hK.out _ _ ⟨V0.c0, V0.c1, V1.c0, V1.c1⟩ (fun hHeld => ?_)
  clear hK K
  refine wpAnyH_take (i := 12) (v := ?_) rfl (by kernel_rfl) (by kernel_rfl) (by kernel_rfl) (fun _ _ _ h => h) (Or.inl ⟨by rfl, ?_⟩) hHeld ?_
  rotate_left
  · (intro W hSw; (try dsimp only at hSw); go_simp; all_goals (with_reducible rfl))
  simp only [List.getElem_toArray, List.getElem_cons_zero, List.getElem_cons_succ, Act.put, List.setIfInBounds_toArray, List.set_cons_zero, List.set_cons_succ]
  refine wpAnyH_take (i := 13) (v := ?_) rfl (by kernel_rfl) (by kernel_rfl) (by kernel_rfl) (fun _ _ _ h => h) (Or.inl ⟨by rfl, ?_⟩) hHeld ?_
  rotate_left
  · (intro W hSw; (try dsimp only at hSw); go_simp; all_goals (with_reducible rfl))
  simp only [List.getElem_toArray, List.getElem_cons_zero, List.getElem_cons_succ, Act.put, List.setIfInBounds_toArray, List.set_cons_zero, List.set_cons_succ]
  refine wpAnyH_done (by kernel_rfl) ?_ _
  refine NoPanic.normal ?_
  clear hHeld
  go_wp2_with fail
  go_ret
  exact ⟨rfl, B0⟩

theorem rneg_any (s : Bool) (a : Option Addr) (l c : Nat) (zs : List Int) (w : World) (h : Ir w s a l c zs) (hl : l ≤ 1000000) :
    Calls Try.prog 13 #[.agg #[.bool s, .slice a l c]] w fun e w' => ∃ s' a' l' c' zs', e = .returned (.agg #[.bool s', .slice a' l' c']) ∧ Ir w' s' a' l' c' zs' ∧ iv s' zs' = - iv s zs ∧ l' ≤ l ∧ Below w.heap.size w w' := by
  have B0 : Below w.heap.size w w := Below.refl _ _
  go_enter Try.func13, Try.ntmps13
  go_wp2_with fail
  refine ent2 w _ _ _ _ (Q := fun W => Calls Try.prog _ _ W _) ?_
  intro x1 hb hs_x1 V0 V1
  replace h := Ir.after hb h
  replace B0 := step B0 hb
  clear hb hs_x1
  refine (rnew_any (!s) a l c zs x1 h.1 h.2.2.1 (by omega)).mono ?_
  rintro e x2 ⟨s', a', l', c', zs', rfl, h', n', e', hl', hb⟩
  replace V0 := Va.after hb V0
  replace V1 := Va.after hb V1
  replace h := Ir.after hb h
  replace B0 := step B0 hb
  clear hb
  have c_V1 := V1.c0
  have d_V1 := V1.c1
  have f_V1 := V1.frozen 0
  have g_V1 := V1.frozen 1
  have l_V1 := V1.lt
  have m_V1 := Nat.le_of_lt l_V1
  go_wp2_with fail
  refine bodyPost_ret (results_i rfl rfl (V1.set2 _ _)) rfl ?_
  refine ⟨s', a', l', c', zs', rfl, h'.far V1 (noInt2 _ _ _ _) (far2 _ _ _ _), ?_, hl', below_2 B0 (by omega) _ _⟩
  rw [e']
  cases s
  · rfl
  · show num zs = - - num zs; omega

theorem cmp3_sign {x y : Int} (h : Int.sign x ≠ Int.sign y) : cmp3 x y = if Int.sign x < Int.sign y then -1 else 1 := by
  rcases Int.lt_trichotomy x 0 with hx | hx | hx <;> rcases Int.lt_trichotomy y 0 with hy | hy | hy
  all_goals (first | (rw [Int.sign_eq_neg_one_of_neg hx] at h ⊢) | (rw [Int.sign_eq_one_of_pos hx] at h ⊢) | (subst hx; rw [Int.sign_zero] at h ⊢))
  all_goals (first | (rw [Int.sign_eq_neg_one_of_neg hy] at h ⊢) | (rw [Int.sign_eq_one_of_pos hy] at h ⊢) | (subst hy; rw [Int.sign_zero] at h ⊢))
  all_goals (first | exact absurd rfl h | (rw [if_pos (by decide)]; exact cmp3_lt (by omega)) | (rw [if_neg (by decide)]; exact cmp3_gt (by omega)))
set_option maxHeartbeats 4000000 in
theorem rcmp_any (s t : Bool) (a b : Option Addr) (la ca lb cb : Nat) (xs ys : List Int) (w : World) (hx : Ir w s a la ca xs) (hy : Ir w t b lb cb ys) (hl1 : la ≤ 1000000) (hl2 : lb ≤ 1000000) :
    Calls Try.prog 20 #[.agg #[.bool s, .slice a la ca], .agg #[.bool t, .slice b lb cb]] w fun e w' => e = .returned (.int .i64 (cmp3 (iv s xs) (iv t ys))) ∧ Below w.heap.size w w' := by
  by_cases he : Int.sign (iv s xs) = Int.sign (iv t ys)
  ·
    have hst : s = t := by
      have q1 : (iv s xs < 0) ↔ (iv t ys < 0) := by rw [← Int.sign_eq_neg_one_iff_neg, ← Int.sign_eq_neg_one_iff_neg, he]
      rw [hx.sign, hy.sign]; simp only [q1]
    subst hst
    obtain ⟨q, hq⟩ : ∃ q, Int.sign (iv s ys) = q := ⟨_, rfl⟩
    rw [hq] at he
    have B0 : Below w.heap.size w w := Below.refl _ _
    cases s
    ·
      go_enter Try.func20, Try.ntmps20
      go_wp2_with fail
      refine ent2 w _ _ _ _ (Q := fun W => Code.wp Try.prog _ _ _ W) ?_
      intro x1 hb hs_x1 V0 V1
      replace hx := Ir.after hb hx
      replace hy := Ir.after hb hy
      replace B0 := step B0 hb
      clear hb hs_x1
      refine wp_region_noPanic ?_
      replace V0 : Va x1.drew _ _ _ := V0
      replace V1 : Va x1.drew _ _ _ := V1
      replace hx := hx.drw
      replace hy := hy.drw
      replace B0 := Below.drew B0
      refine wp_region_held_drew (S := (fun W => W.cell? ⟨w.heap.size, 0, none⟩ = some (.bool false) ∧ W.cell? ⟨w.heap.size, 1, none⟩ = some (.slice a la ca) ∧ W.cell? ⟨w.heap.size + 1, 0, none⟩ = some (.bool false) ∧ W.cell? ⟨w.heap.size + 1, 1, none⟩ = some (.slice b lb cb))) (by kernel_rfl) ⟨V0.c0, V0.c1, V1.c0, V1.c1⟩ (fun hHeld => ?_)
      obtain ⟨x2, hxd⟩ : ∃ xd, xd = x1.drew := ⟨_, rfl⟩
      rw [← hxd] at V0 V1 hx hy B0 hHeld ⊢
      clear hxd
      refine wpAnyH_take (i := 0) (v := ?_) rfl (by kernel_rfl) (by kernel_rfl) (by kernel_rfl) (fun _ _ _ h => h) (Or.inl ⟨by rfl, ?_⟩) hHeld ?_
      rotate_left
      · (intro W hSw; (try dsimp only at hSw); go_simp; all_goals (with_reducible rfl))
      simp only [List.getElem_toArray, List.getElem_cons_zero, Act.put, List.setIfInBounds_toArray, List.set_cons_zero, List.set_cons_succ]
      refine wpAnyH_take (i := 2) (v := ?_) rfl (by kernel_rfl) (by kernel_rfl) (by kernel_rfl) (fun _ _ _ h => h) (Or.inl ⟨by rfl, ?_⟩) hHeld ?_
      rotate_left
      · (intro W hSw; (try dsimp only at hSw); go_simp; all_goals (with_reducible rfl))
      simp only [List.getElem_toArray, List.getElem_cons_zero, List.getElem_cons_succ, Act.put, List.setIfInBounds_toArray, List.set_cons_zero, List.set_cons_succ]
      refine wpAnyH_ready (rs := [1]) (by kernel_rfl) (by simp) ?_
      refine AllReadyH.cons rfl (fun K hK => ?_) AllReadyH.nil
      simp only [List.getElem_toArray, List.getElem_cons_zero, List.getElem_cons_succ]
      go_simp
      refine (rsign_any false a la ca xs _ hx).mono ?_
      rintro e x3 ⟨rfl, hb⟩
      replace V0 := Va.after hb V0
      replace V1 := Va.after hb V1
      replace hx := Ir.after hb hx
      replace hy := Ir.after hb hy
      replace B0 := step B0 hb
      clear hb
      rw [he]
      try go_wp2_with fail
      refine hK.out _ _ ⟨V0.c0, V0.c1, V1.c0, V1.c1⟩ (fun hHeld => ?_)
      clear hK K
      refine wpAnyH_ready (rs := [3]) (by kernel_rfl) (by simp) ?_
      refine AllReadyH.cons rfl (fun K hK => ?_) AllReadyH.nil
      simp only [List.getElem_toArray, List.getElem_cons_zero, List.getElem_cons_succ]
      go_simp
      refine (rsign_any false b lb cb ys _ hy).mono ?_
      rintro e x4 ⟨rfl, hb⟩
      replace V0 := Va.after hb V0
      replace V1 := Va.after hb V1
      replace hx := Ir.after hb hx
      replace hy := Ir.after hb hy
      replace B0 := step B0 hb
      clear hb
      rw [hq]
      try go_wp2_with fail
      refine hK.out _ _ ⟨V0.c0, V0.c1, V1.c0, V1.c1⟩ (fun hHeld => ?_)
      clear hK K
      refine wpAnyH_take (i := 4) (v := ?_) rfl (by kernel_rfl) (by kernel_rfl) (by kernel_rfl) (fun _ _ _ h => h) (Or.inl ⟨by rfl, ?_⟩) hHeld ?_
      rotate_left
      · (intro W hSw; (try dsimp only at hSw); go_simp; all_goals (with_reducible rfl))
      simp only [List.getElem_toArray, List.getElem_cons_zero, List.getElem_cons_succ, Act.put, List.setIfInBounds_toArray, List.set_cons_zero, List.set_cons_succ]
      refine wpAnyH_take (i := 5) (v := ?_) rfl (by kernel_rfl) (by kernel_rfl) (by kernel_rfl) (fun _ _ _ h => h) (Or.inl ⟨by rfl, ?_⟩) hHeld ?_
      rotate_left
      · (intro W hSw; (try dsimp only at hSw); go_simp; all_goals (with_reducible rfl))
      simp only [List.getElem_toArray, List.getElem_cons_zero, List.getElem_cons_succ, Act.put, List.setIfInBounds_toArray, List.set_cons_zero, List.set_cons_succ]
      refine wpAnyH_done (by kernel_rfl) ?_ _
      refine NoPanic.normal ?_
      clear hHeld
      have c_V0 := V0.c0
      have d_V0 := V0.c1
      have f_V0 := V0.frozen 0
      have g_V0 := V0.frozen 1
      have l_V0 := V0.lt
      have m_V0 := Nat.le_of_lt l_V0
      have c_V1 := V1.c0
      have d_V1 := V1.c1
      have f_V1 := V1.frozen 0
      have g_V1 := V1.frozen 1
      have l_V1 := V1.lt
      have m_V1 := Nat.le_of_lt l_V1
      go_wp2_with fail
      refine (rcompare_any a b la ca lb cb xs ys x4 hx.1 hy.1 hx.2.2.2.1 hy.2.2.2.1 (by omega) (by omega) hx.2.2.1 hy.2.2.1).mono ?_
      rintro e x5 ⟨rfl, hb⟩
      replace V0 := Va.after hb V0
      replace V1 := Va.after hb V1
      replace hx := Ir.after hb hx
      replace hy := Ir.after hb hy
      replace B0 := step B0 hb
      clear hb
      clear c_V0 d_V0 f_V0 g_V0 l_V0 m_V0 c_V1 d_V1 f_V1 g_V1 l_V1 m_V1
      have c_V0 := V0.c0
      have d_V0 := V0.c1
      have f_V0 := V0.frozen 0
      have g_V0 := V0.frozen 1
      have l_V0 := V0.lt
      have m_V0 := Nat.le_of_lt l_V0
      have c_V1 := V1.c0
      have d_V1 := V1.c1
      have f_V1 := V1.frozen 0
      have g_V1 := V1.frozen 1
      have l_V1 := V1.lt
      have m_V1 := Nat.le_of_lt l_V1
      go_wp2_with fail
      go_ret
      exact ⟨by rw [iv_f, iv_f]; rfl, B0⟩
    ·
      go_enter Try.func20, Try.ntmps20
      go_wp2_with fail
      refine ent2 w _ _ _ _ (Q := fun W => Code.wp Try.prog _ _ _ W) ?_
      intro x1 hb hs_x1 V0 V1
      replace hx := Ir.after hb hx
      replace hy := Ir.after hb hy
      replace B0 := step B0 hb
      clear hb hs_x1
      refine wp_region_noPanic ?_
      replace V0 : Va x1.drew _ _ _ := V0
      replace V1 : Va x1.drew _ _ _ := V1
      replace hx := hx.drw
      replace hy := hy.drw
      replace B0 := Below.drew B0
      refine wp_region_held_drew (S := (fun W => W.cell? ⟨w.heap.size, 0, none⟩ = some (.bool true) ∧ W.cell? ⟨w.heap.size, 1, none⟩ = some (.slice a la ca) ∧ W.cell? ⟨w.heap.size + 1, 0, none⟩ = some (.bool true) ∧ W.cell? ⟨w.heap.size + 1, 1, none⟩ = some (.slice b lb cb))) (by kernel_rfl) ⟨V0.c0, V0.c1, V1.c0, V1.c1⟩ (fun hHeld => ?_)
      obtain ⟨x2, hxd⟩ : ∃ xd, xd = x1.drew := ⟨_, rfl⟩
      rw [← hxd] at V0 V1 hx hy B0 hHeld ⊢
      clear hxd
      refine wpAnyH_take (i := 0) (v := ?_) rfl (by kernel_rfl) (by kernel_rfl) (by kernel_rfl) (fun _ _ _ h => h) (Or.inl ⟨by rfl, ?_⟩) hHeld ?_
      rotate_left
      · (intro W hSw; (try dsimp only at hSw); go_simp; all_goals (with_reducible rfl))
      simp only [List.getElem_toArray, List.getElem_cons_zero, Act.put, List.setIfInBounds_toArray, List.set_cons_zero, List.set_cons_succ]
      refine wpAnyH_take (i := 2) (v := ?_) rfl (by kernel_rfl) (by kernel_rfl) (by kernel_rfl) (fun _ _ _ h => h) (Or.inl ⟨by rfl, ?_⟩) hHeld ?_
      rotate_left
      · (intro W hSw; (try dsimp only at hSw); go_simp; all_goals (with_reducible rfl))
      simp only [List.getElem_toArray, List.getElem_cons_zero, List.getElem_cons_succ, Act.put, List.setIfInBounds_toArray, List.set_cons_zero, List.set_cons_succ]
      refine wpAnyH_ready (rs := [1]) (by kernel_rfl) (by simp) ?_
      refine AllReadyH.cons rfl (fun K hK => ?_) AllReadyH.nil
      simp only [List.getElem_toArray, List.getElem_cons_zero, List.getElem_cons_succ]
      go_simp
      refine (rsign_any true a la ca xs _ hx).mono ?_
      rintro e x3 ⟨rfl, hb⟩
      replace V0 := Va.after hb V0
      replace V1 := Va.after hb V1
      replace hx := Ir.after hb hx
      replace hy := Ir.after hb hy
      replace B0 := step B0 hb
      clear hb
      rw [he]
      try go_wp2_with fail
      refine hK.out _ _ ⟨V0.c0, V0.c1, V1.c0, V1.c1⟩ (fun hHeld => ?_)
      clear hK K
      refine wpAnyH_ready (rs := [3]) (by kernel_rfl) (by simp) ?_
      refine AllReadyH.cons rfl (fun K hK => ?_) AllReadyH.nil
      simp only [List.getElem_toArray, List.getElem_cons_zero, List.getElem_cons_succ]
      go_simp
      refine (rsign_any true b lb cb ys _ hy).mono ?_
      rintro e x4 ⟨rfl, hb⟩
      replace V0 := Va.after hb V0
      replace V1 := Va.after hb V1
      replace hx := Ir.after hb hx
      replace hy := Ir.after hb hy
      replace B0 := step B0 hb
      clear hb
      rw [hq]
      try go_wp2_with fail
      refine hK.out _ _ ⟨V0.c0, V0.c1, V1.c0, V1.c1⟩ (fun hHeld => ?_)
      clear hK K
      refine wpAnyH_take (i := 4) (v := ?_) rfl (by kernel_rfl) (by kernel_rfl) (by kernel_rfl) (fun _ _ _ h => h) (Or.inl ⟨by rfl, ?_⟩) hHeld ?_
      rotate_left
      · (intro W hSw; (try dsimp only at hSw); go_simp; all_goals (with_reducible rfl))
      simp only [List.getElem_toArray, List.getElem_cons_zero, List.getElem_cons_succ, Act.put, List.setIfInBounds_toArray, List.set_cons_zero, List.set_cons_succ]
      refine wpAnyH_take (i := 5) (v := ?_) rfl (by kernel_rfl) (by kernel_rfl) (by kernel_rfl) (fun _ _ _ h => h) (Or.inl ⟨by rfl, ?_⟩) hHeld ?_
      rotate_left
      · (intro W hSw; (try dsimp only at hSw); go_simp; all_goals (with_reducible rfl))
      simp only [List.getElem_toArray, List.getElem_cons_zero, List.getElem_cons_succ, Act.put, List.setIfInBounds_toArray, List.set_cons_zero, List.set_cons_succ]
      refine wpAnyH_done (by kernel_rfl) ?_ _
      refine NoPanic.normal ?_
      clear hHeld
      have c_V0 := V0.c0
      have d_V0 := V0.c1
      have f_V0 := V0.frozen 0
      have g_V0 := V0.frozen 1
      have l_V0 := V0.lt
      have m_V0 := Nat.le_of_lt l_V0
      have c_V1 := V1.c0
      have d_V1 := V1.c1
      have f_V1 := V1.frozen 0
      have g_V1 := V1.frozen 1
      have l_V1 := V1.lt
      have m_V1 := Nat.le_of_lt l_V1
      go_wp2_with fail
      refine (rcompare_any b a lb cb la ca ys xs x4 hy.1 hx.1 hy.2.2.2.1 hx.2.2.2.1 (by omega) (by omega) hy.2.2.1 hx.2.2.1).mono ?_
      rintro e x5 ⟨rfl, hb⟩
      replace V0 := Va.after hb V0
      replace V1 := Va.after hb V1
      replace hx := Ir.after hb hx
      replace hy := Ir.after hb hy
      replace B0 := step B0 hb
      clear hb
      clear c_V0 d_V0 f_V0 g_V0 l_V0 m_V0 c_V1 d_V1 f_V1 g_V1 l_V1 m_V1
      have c_V0 := V0.c0
      have d_V0 := V0.c1
      have f_V0 := V0.frozen 0
      have g_V0 := V0.frozen 1
      have l_V0 := V0.lt
      have m_V0 := Nat.le_of_lt l_V0
      have c_V1 := V1.c0
      have d_V1 := V1.c1
      have f_V1 := V1.frozen 0
      have g_V1 := V1.frozen 1
      have l_V1 := V1.lt
      have m_V1 := Nat.le_of_lt l_V1
      go_wp2_with fail
      go_ret
      exact ⟨by rw [iv_t, iv_t, cmp3_neg]; rfl, B0⟩
  ·
    rw [cmp3_sign he]
    obtain ⟨p, hp⟩ : ∃ p, Int.sign (iv s xs) = p := ⟨_, rfl⟩
    obtain ⟨q, hq⟩ : ∃ q, Int.sign (iv t ys) = q := ⟨_, rfl⟩
    rw [hp, hq] at he ⊢
    have hne : (p != q) = true := by simpa using he
    obtain ⟨v, hv'⟩ : ∃ v : Int, (if p < q then -1 else 1) = v := ⟨_, rfl⟩
    rw [hv']
    have hv : Hid ((if p < q then (-1 : Int) else 1) = v) := hv'
    clear hv'
    have B0 : Below w.heap.size w w := Below.refl _ _
    go_enter Try.func20, Try.ntmps20
    go_wp2_with fail
    refine ent2 w _ _ _ _ (Q := fun W => Code.wp Try.prog _ _ _ W) ?_
    intro x1 hb hs_x1 V0 V1
    replace hx := Ir.after hb hx
    replace hy := Ir.after hb hy
    replace B0 := step B0 hb
    clear hb hs_x1
    refine wp_region_noPanic ?_
    replace V0 : Va x1.drew _ _ _ := V0
    replace V1 : Va x1.drew _ _ _ := V1
    replace hx := hx.drw
    replace hy := hy.drw
    replace B0 := Below.drew B0
    refine wp_region_held_drew (S := (fun W => W.cell? ⟨w.heap.size, 0, none⟩ = some (.bool s) ∧ W.cell? ⟨w.heap.size, 1, none⟩ = some (.slice a la ca) ∧ W.cell? ⟨w.heap.size + 1, 0, none⟩ = some (.bool t) ∧ W.cell? ⟨w.heap.size + 1, 1, none⟩ = some (.slice b lb cb))) (by kernel_rfl) ⟨V0.c0, V0.c1, V1.c0, V1.c1⟩ (fun hHeld => ?_)
    obtain ⟨x2, hxd⟩ : ∃ xd, xd = x1.drew := ⟨_, rfl⟩
    rw [← hxd] at V0 V1 hx hy B0 hHeld ⊢
    clear hxd
    refine wpAnyH_take (i := 0) (v := ?_) rfl (by kernel_rfl) (by kernel_rfl) (by kernel_rfl) (fun _ _ _ h => h) (Or.inl ⟨by rfl, ?_⟩) hHeld ?_
    rotate_left
    · (intro W hSw; (try dsimp only at hSw); go_simp; all_goals (with_reducible rfl))
    simp only [List.getElem_toArray, List.getElem_cons_zero, Act.put, List.setIfInBounds_toArray, List.set_cons_zero, List.set_cons_succ]
    refine wpAnyH_take (i := 2) (v := ?_) rfl (by kernel_rfl) (by kernel_rfl) (by kernel_rfl) (fun _ _ _ h => h) (Or.inl ⟨by rfl, ?_⟩) hHeld ?_
    rotate_left
    · (intro W hSw; (try dsimp only at hSw); go_simp; all_goals (with_reducible rfl))
    simp only [List.getElem_toArray, List.getElem_cons_zero, List.getElem_cons_succ, Act.put, List.setIfInBounds_toArray, List.set_cons_zero, List.set_cons_succ]
    refine wpAnyH_ready (rs := [1]) (by kernel_rfl) (by simp) ?_
    refine AllReadyH.cons rfl (fun K hK => ?_) AllReadyH.nil
    simp only [List.getElem_toArray, List.getElem_cons_zero, List.getElem_cons_succ]
    go_simp
    refine (rsign_any s a la ca xs _ hx).mono ?_
    rintro e x3 ⟨rfl, hb⟩
    replace V0 := Va.after hb V0
    replace V1 := Va.after hb V1
    replace hx := Ir.after hb hx
    replace hy := Ir.after hb hy
    replace B0 := step B0 hb
    clear hb
    rw [hp]
    try go_wp2_with fail
    refine hK.out _ _ ⟨V0.c0, V0.c1, V1.c0, V1.c1⟩ (fun hHeld => ?_)
    clear hK K
    refine wpAnyH_ready (rs := [3]) (by kernel_rfl) (by simp) ?_
    refine AllReadyH.cons rfl (fun K hK => ?_) AllReadyH.nil
    simp only [List.getElem_toArray, List.getElem_cons_zero, List.getElem_cons_succ]
    go_simp
    refine (rsign_any t b lb cb ys _ hy).mono ?_
    rintro e x4 ⟨rfl, hb⟩
    replace V0 := Va.after hb V0
    replace V1 := Va.after hb V1
    replace hx := Ir.after hb hx
    replace hy := Ir.after hb hy
    replace B0 := step B0 hb
    clear hb
    rw [hq]
    try go_wp2_with fail
    refine hK.out _ _ ⟨V0.c0, V0.c1, V1.c0, V1.c1⟩ (fun hHeld => ?_)
    clear hK K
    refine wpAnyH_take (i := 4) (v := ?_) rfl (by kernel_rfl) (by kernel_rfl) (by kernel_rfl) (fun _ _ _ h => h) (Or.inl ⟨by rfl, ?_⟩) hHeld ?_
    rotate_left
    · (intro W hSw; (try dsimp only at hSw); go_simp; all_goals (with_reducible rfl))
    simp only [List.getElem_toArray, List.getElem_cons_zero, List.getElem_cons_succ, Act.put, List.setIfInBounds_toArray, List.set_cons_zero, List.set_cons_succ]
    refine wpAnyH_take (i := 5) (v := ?_) rfl (by kernel_rfl) (by kernel_rfl) (by kernel_rfl) (fun _ _ _ h => h) (Or.inl ⟨by rfl, ?_⟩) hHeld ?_
    rotate_left
    · (intro W hSw; (try dsimp only at hSw); go_simp; all_goals (with_reducible rfl))
    simp only [List.getElem_toArray, List.getElem_cons_zero, List.getElem_cons_succ, Act.put, List.setIfInBounds_toArray, List.set_cons_zero, List.set_cons_succ]
    refine wpAnyH_done (by kernel_rfl) ?_ _
    refine NoPanic.normal ?_
    clear hHeld
    go_wp2_with fail
    refine wp_region_noPanic ?_
    replace V0 : Va x4.drew _ _ _ := V0
    replace V1 : Va x4.drew _ _ _ := V1
    replace hx := hx.drw
    replace hy := hy.drw
    replace B0 := Below.drew B0
    refine wp_region_held_drew (S := (fun W => W.cell? ⟨w.heap.size, 0, none⟩ = some (.bool s) ∧ W.cell? ⟨w.heap.size, 1, none⟩ = some (.slice a la ca) ∧ W.cell? ⟨w.heap.size + 1, 0, none⟩ = some (.bool t) ∧ W.cell? ⟨w.heap.size + 1, 1, none⟩ = some (.slice b lb cb))) (by kernel_rfl) ⟨V0.c0, V0.c1, V1.c0, V1.c1⟩ (fun hHeld => ?_)
    obtain ⟨x5, hxd⟩ : ∃ xd, xd = x4.drew := ⟨_, rfl⟩
    rw [← hxd] at V0 V1 hx hy B0 hHeld ⊢
    clear hxd
    refine wpAnyH_take (i := 0) (v := ?_) rfl (by kernel_rfl) (by kernel_rfl) (by kernel_rfl) (fun _ _ _ h => h) (Or.inl ⟨by rfl, ?_⟩) hHeld ?_
    rotate_left
    · (intro W hSw; (try dsimp only at hSw); go_simp; all_goals (with_reducible rfl))
    simp only [List.getElem_toArray, List.getElem_cons_zero, Act.put, List.setIfInBounds_toArray, List.set_cons_zero, List.set_cons_succ]
    refine wpAnyH_take (i := 2) (v := ?_) rfl (by kernel_rfl) (by kernel_rfl) (by kernel_rfl) (fun _ _ _ h => h) (Or.inl ⟨by rfl, ?_⟩) hHeld ?_
    rotate_left
    · (intro W hSw; (try dsimp only at hSw); go_simp; all_goals (with_reducible rfl))
    simp only [List.getElem_toArray, List.getElem_cons_zero, List.getElem_cons_succ, Act.put, List.setIfInBounds_toArray, List.set_cons_zero, List.set_cons_succ]
    refine wpAnyH_ready (rs := [1]) (by kernel_rfl) (by simp) ?_
    refine AllReadyH.cons rfl (fun K hK => ?_) AllReadyH.nil
    simp only [List.getElem_toArray, List.getElem_cons_zero, List.getElem_cons_succ]
    go_simp
    refine (rsign_any s a la ca xs _ hx).mono ?_
    rintro e x6 ⟨rfl, hb⟩
    replace V0 := Va.after hb V0
    replace V1 := Va.after hb V1
    replace hx := Ir.after hb hx
    replace hy := Ir.after hb hy
    replace B0 := step B0 hb
    clear hb
    rw [hp]
    try go_wp2_with fail
    refine hK.out _ _ ⟨V0.c0, V0.c1, V1.c0, V1.c1⟩ (fun hHeld => ?_)
    clear hK K
    refine wpAnyH_ready (rs := [3]) (by kernel_rfl) (by simp) ?_
    refine AllReadyH.cons rfl (fun K hK => ?_) AllReadyH.nil
    simp only [List.getElem_toArray, List.getElem_cons_zero, List.getElem_cons_succ]
    go_simp
    refine (rsign_any t b lb cb ys _ hy).mono ?_
    rintro e x7 ⟨rfl, hb⟩
    replace V0 := Va.after hb V0
    replace V1 := Va.after hb V1
    replace hx := Ir.after hb hx
    replace hy := Ir.after hb hy
    replace B0 := step B0 hb
    clear hb
    rw [hq]
    try go_wp2_with fail
    refine hK.out _ _ ⟨V0.c0, V0.c1, V1.c0, V1.c1⟩ (fun hHeld => ?_)
    clear hK K
    refine wpAnyH_take (i := 4) (v := ?_) rfl (by kernel_rfl) (by kernel_rfl) (by kernel_rfl) (fun _ _ _ h => h) (Or.inl ⟨by rfl, ?_⟩) hHeld ?_
    rotate_left
    · (intro W hSw; (try dsimp only at hSw); go_simp; all_goals (with_reducible rfl))
    simp only [List.getElem_toArray, List.getElem_cons_zero, List.getElem_cons_succ, Act.put, List.setIfInBounds_toArray, List.set_cons_zero, List.set_cons_succ]
    refine wpAnyH_done (by kernel_rfl) ?_ _
    refine NoPanic.normal ?_
    clear hHeld
    by_cases hpq : p < q
    · go_wp2_with fail
      go_ret
      exact ⟨by rw [← hv.out, if_pos hpq]; rfl, B0⟩
    · go_wp2_with fail
      go_ret
      exact ⟨by rw [← hv.out, if_neg (by omega)]; rfl, B0⟩

set_option maxHeartbeats 4000000 in
set_option maxRecDepth 20000 in
theorem radd4_any (s t : Bool) (a b : Option Addr) (la ca lb cb : Nat) (xs ys : List Int) (w : World) (hx : Ir w s a la ca xs) (hy : Ir w t b lb cb ys) (hl1 : la ≤ 1000000) (hl2 : lb ≤ 1000000) :
    Calls Try.prog 25 #[.agg #[.bool s, .slice a la ca], .agg #[.bool t, .slice b lb cb]] w fun e w' => ∃ s' a' l' c' zs, e = .returned (.agg #[.bool s', .slice a' l' c']) ∧ Ir w' s' a' l' c' zs ∧ iv s' zs = iv s xs + iv t ys ∧ l' ≤ 2 * la + 2 * lb + 1 ∧ Below w.heap.size w w' := by
  have B0 : Below w.heap.size w w := Below.refl _ _
  by_cases hst : s = t
  ·
    subst hst
    have hst' : (s == s) = true := by simp
    go_enter Try.func25, Try.ntmps25
    go_wp2_with fail
    refine ent3 w _ _ _ _ _ _ (Q := fun W => Code.wp Try.prog _ _ _ W) ?_
    intro x1 hb hs_x1 V0 V1 V2
    replace hx := Ir.after hb hx
    replace hy := Ir.after hb hy
    replace B0 := step B0 hb
    clear hb hs_x1
    refine wp_region_noPanic ?_
    replace V0 : Va x1.drew _ _ _ := V0
    replace V1 : Va x1.drew _ _ _ := V1
    replace V2 : Va x1.drew _ _ _ := V2
    replace hx := hx.drw
    replace hy := hy.drw
    replace B0 := Below.drew B0
    refine wp_region_held_drew (S := (fun W => W.cell? ⟨w.heap.size, 0, none⟩ = some (.bool s) ∧ W.cell? ⟨w.heap.size, 1, none⟩ = some (.slice a la ca) ∧ W.cell? ⟨w.heap.size + 1, 0, none⟩ = some (.bool s) ∧ W.cell? ⟨w.heap.size + 1, 1, none⟩ = some (.slice b lb cb))) (by kernel_rfl) ⟨V0.c0, V0.c1, V1.c0, V1.c1⟩ (fun hHeld => ?_)
    obtain ⟨x2, hxd⟩ : ∃ xd, xd = x1.drew := ⟨_, rfl⟩
    rw [← hxd] at V0 V1 V2 hx hy B0 hHeld ⊢
    clear hxd
    refine wpAnyH_take (i := 0) (v := ?_) rfl (by kernel_rfl) (by kernel_rfl) (by kernel_rfl) (fun _ _ _ h => h) (Or.inl ⟨by rfl, ?_⟩) hHeld ?_
    rotate_left
    · (intro W hSw; (try dsimp only at hSw); go_simp; all_goals (with_reducible rfl))
    simp only [List.getElem_toArray, List.getElem_cons_zero, Act.put, List.setIfInBounds_toArray, List.set_cons_zero, List.set_cons_succ]
    refine wpAnyH_take (i := 1) (v := ?_) rfl (by kernel_rfl) (by kernel_rfl) (by kernel_rfl) (fun _ _ _ h => h) (Or.inl ⟨by rfl, ?_⟩) hHeld ?_
    rotate_left
    · (intro W hSw; (try dsimp only at hSw); go_simp; all_goals (with_reducible rfl))
    simp only [List.getElem_toArray, List.getElem_cons_zero, List.getElem_cons_succ, Act.put, List.setIfInBounds_toArray, List.set_cons_zero, List.set_cons_succ]
    refine wpAnyH_take (i := 2) (v := ?_) rfl (by kernel_rfl) (by kernel_rfl) (by kernel_rfl) (fun _ _ _ h => h) (Or.inl ⟨by rfl, ?_⟩) hHeld ?_
    rotate_left
    · (intro W hSw; (try dsimp only at hSw); go_simp; all_goals (with_reducible rfl))
    simp only [List.getElem_toArray, List.getElem_cons_zero, List.getElem_cons_succ, Act.put, List.setIfInBounds_toArray, List.set_cons_zero, List.set_cons_succ]
    refine wpAnyH_take (i := 3) (v := ?_) rfl (by kernel_rfl) (by kernel_rfl) (by kernel_rfl) (fun _ _ _ h => h) (Or.inl ⟨by rfl, ?_⟩) hHeld ?_
    rotate_left
    · (intro W hSw; (try dsimp only at hSw); go_simp; all_goals (with_reducible rfl))
    simp only [List.getElem_toArray, List.getElem_cons_zero, List.getElem_cons_succ, Act.put, List.setIfInBounds_toArray, List.set_cons_zero, List.set_cons_succ]
    refine wpAnyH_take (i := 4) (v := ?_) rfl (by kernel_rfl) (by kernel_rfl) (by kernel_rfl) (fun _ _ _ h => h) (Or.inl ⟨by rfl, ?_⟩) hHeld ?_
    rotate_left
    · (intro W hSw; (try dsimp only at hSw); go_simp; all_goals (with_reducible rfl))
    simp only [List.getElem_toArray, List.getElem_cons_zero, List.getElem_cons_succ, Act.put, List.setIfInBounds_toArray, List.set_cons_zero, List.set_cons_succ]
    refine wpAnyH_take (i := 5) (v := ?_) rfl (by kernel_rfl) (by kernel_rfl) (by kernel_rfl) (fun _ _ _ h => h) (Or.inl ⟨by rfl, ?_⟩) hHeld ?_
    rotate_left
    · (intro W hSw; (try dsimp only at hSw); go_simp; all_goals (with_reducible rfl))
    simp only [List.getElem_toArray, List.getElem_cons_zero, List.getElem_cons_succ, Act.put, List.setIfInBounds_toArray, List.set_cons_zero, List.set_cons_succ]
    refine wpAnyH_ready (rs := [6]) (by kernel_rfl) (by simp) ?_
    refine AllReadyH.cons rfl (fun K hK => ?_) AllReadyH.nil
    simp only [List.getElem_toArray, List.getElem_cons_zero, List.getElem_cons_succ]
    go_simp
    refine (radd_any a b la ca lb cb xs ys _ hx.1 hy.1 (by omega) (by omega)).mono ?_
    rintro e x3 ⟨a1, m1, c1, z1, rfl, hmc, hmb, hs1, hu1, hn1, hb⟩
    replace V0 := Va.after hb V0
    replace V1 := Va.after hb V1
    replace V2 := Va.after hb V2
    replace hx := Ir.after hb hx
    replace hy := Ir.after hb hy
    replace B0 := step B0 hb
    clear hb
    try go_wp2_with fail
    refine hK.out _ _ ⟨V0.c0, V0.c1, V1.c0, V1.c1⟩ (fun hHeld => ?_)
    clear hK K
    refine wpAnyH_ready (rs := [7]) (by kernel_rfl) (by simp) ?_
    refine AllReadyH.cons rfl (fun K hK => ?_) AllReadyH.nil
    simp only [List.getElem_toArray, List.getElem_cons_zero, List.getElem_cons_succ]
    go_simp
    refine (rnew_any s a1 m1 c1 z1 _ hs1 hmc (by omega)).mono ?_
    rintro e x4 ⟨s', a', l', c', zs, rfl, h', n', e', hl', hb⟩
    replace V0 := Va.after hb V0
    replace V1 := Va.after hb V1
    replace V2 := Va.after hb V2
    replace hs1 := hs1.below hb (Nat.le_refl _)
    replace hx := Ir.after hb hx
    replace hy := Ir.after hb hy
    replace B0 := step B0 hb
    clear hb
    try go_wp2_with fail
    refine hK.out _ _ ⟨V0.c0, V0.c1, V1.c0, V1.c1⟩ (fun hHeld => ?_)
    clear hK K
    clear hs1
    have c_V2 := V2.c0
    have d_V2 := V2.c1
    have f_V2 := V2.frozen 0
    have g_V2 := V2.frozen 1
    have l_V2 := V2.lt
    have m_V2 := Nat.le_of_lt l_V2
    refine wpAnyH_ready (rs := [8]) (by kernel_rfl) (by simp) ?_
    refine AllReadyH.cons rfl (fun K hK => ?_) AllReadyH.nil
    simp only [List.getElem_toArray, List.getElem_cons_zero, List.getElem_cons_succ]
    go_simp
    clear c_V2 d_V2 f_V2 g_V2 l_V2 m_V2
    refine st2 V2 (.bool s') (.slice a' l' c') (Q := fun W => K _ W) ?_
    intro x5 V' oth far
    replace V0 := oth _ _ _ (by first | omega | assumption) V0
    replace V1 := oth _ _ _ (by first | omega | assumption) V1
    replace hx := hx.far V2 (noInt2 _ _ _ _) far.1
    replace hy := hy.far V2 (noInt2 _ _ _ _) far.1
    replace h' := h'.far V2 (noInt2 _ _ _ _) far.1
    replace B0 := far.2 _ _ (by first | omega | (simp; omega)) B0
    replace V2 := V'
    clear oth far
    refine hK.out _ _ ⟨V0.c0, V0.c1, V1.c0, V1.c1⟩ (fun hHeld => ?_)
    clear hK K
    refine wpAnyH_done (by kernel_rfl) ?_ _
    refine NoPanic.normal ?_
    clear hHeld
    go_wp2_with fail
    refine bodyPost_ret (results_i rfl rfl V2) rfl ?_
    exact ⟨s', a', l', c', zs, rfl, h', by rw [e']; exact iv_same hn1, by omega, B0⟩
  ·
    have htn : t = !s := by cases s <;> cases t <;> simp_all
    subst htn
    clear hst
    have hst' : (s == !s) = false := by cases s <;> rfl
    by_cases hle : num ys ≤ num xs
    ·
      have hc : 0 ≤ cmp3 (num xs) (num ys) := by unfold cmp3; grind
      obtain ⟨q, hq⟩ : ∃ q, cmp3 (num xs) (num ys) = q := ⟨_, rfl⟩
      rw [hq] at hc
      go_enter Try.func25, Try.ntmps25
      go_wp2_with fail
      refine ent3 w _ _ _ _ _ _ (Q := fun W => Calls Try.prog _ _ W _) ?_
      intro x1 hb hs_x1 V0 V1 V2
      replace hx := Ir.after hb hx
      replace hy := Ir.after hb hy
      replace B0 := step B0 hb
      clear hb hs_x1
      refine (rcompare_any a b la ca lb cb xs ys x1 hx.1 hy.1 hx.2.2.2.1 hy.2.2.2.1 (by omega) (by omega) hx.2.2.1 hy.2.2.1).mono ?_
      rintro e x2 ⟨rfl, hb⟩
      replace V0 := Va.after hb V0
      replace V1 := Va.after hb V1
      replace V2 := Va.after hb V2
      replace hx := Ir.after hb hx
      replace hy := Ir.after hb hy
      replace B0 := step B0 hb
      clear hb
      rw [hq]
      have c_V0 := V0.c0
      have d_V0 := V0.c1
      have f_V0 := V0.frozen 0
      have g_V0 := V0.frozen 1
      have l_V0 := V0.lt
      have m_V0 := Nat.le_of_lt l_V0
      have c_V1 := V1.c0
      have d_V1 := V1.c1
      have f_V1 := V1.frozen 0
      have g_V1 := V1.frozen 1
      have l_V1 := V1.lt
      have m_V1 := Nat.le_of_lt l_V1
      have c_V2 := V2.c0
      have d_V2 := V2.c1
      have f_V2 := V2.frozen 0
      have g_V2 := V2.frozen 1
      have l_V2 := V2.lt
      have m_V2 := Nat.le_of_lt l_V2
      go_wp2_with fail
      clear c_V0 d_V0 f_V0 g_V0 l_V0 m_V0 c_V1 d_V1 f_V1 g_V1 l_V1 m_V1 c_V2 d_V2 f_V2 g_V2 l_V2 m_V2
      refine wp_region_noPanic ?_
      replace V0 : Va x2.drew _ _ _ := V0
      replace V1 : Va x2.drew _ _ _ := V1
      replace V2 : Va x2.drew _ _ _ := V2
      replace hx := hx.drw
      replace hy := hy.drw
      replace B0 := Below.drew B0
      refine wp_region_held_drew (S := (fun W => W.cell? ⟨w.heap.size, 0, none⟩ = some (.bool s) ∧ W.cell? ⟨w.heap.size, 1, none⟩ = some (.slice a la ca) ∧ W.cell? ⟨w.heap.size + 1, 0, none⟩ = some (.bool (!s)) ∧ W.cell? ⟨w.heap.size + 1, 1, none⟩ = some (.slice b lb cb))) (by kernel_rfl) ⟨V0.c0, V0.c1, V1.c0, V1.c1⟩ (fun hHeld => ?_)
      obtain ⟨x3, hxd⟩ : ∃ xd, xd = x2.drew := ⟨_, rfl⟩
      rw [← hxd] at V0 V1 V2 hx hy B0 hHeld ⊢
      clear hxd
      refine wpAnyH_take (i := 0) (v := ?_) rfl (by kernel_rfl) (by kernel_rfl) (by kernel_rfl) (fun _ _ _ h => h) (Or.inl ⟨by rfl, ?_⟩) hHeld ?_
      rotate_left
      · (intro W hSw; (try dsimp only at hSw); go_simp; all_goals (with_reducible rfl))
      simp only [List.getElem_toArray, List.getElem_cons_zero, Act.put, List.setIfInBounds_toArray, List.set_cons_zero, List.set_cons_succ]
      refine wpAnyH_take (i := 1) (v := ?_) rfl (by kernel_rfl) (by kernel_rfl) (by kernel_rfl) (fun _ _ _ h => h) (Or.inl ⟨by rfl, ?_⟩) hHeld ?_
      rotate_left
      · (intro W hSw; (try dsimp only at hSw); go_simp; all_goals (with_reducible rfl))
      simp only [List.getElem_toArray, List.getElem_cons_zero, List.getElem_cons_succ, Act.put, List.setIfInBounds_toArray, List.set_cons_zero, List.set_cons_succ]
      refine wpAnyH_take (i := 2) (v := ?_) rfl (by kernel_rfl) (by kernel_rfl) (by kernel_rfl) (fun _ _ _ h => h) (Or.inl ⟨by rfl, ?_⟩) hHeld ?_
      rotate_left
      · (intro W hSw; (try dsimp only at hSw); go_simp; all_goals (with_reducible rfl))
      simp only [List.getElem_toArray, List.getElem_cons_zero, List.getElem_cons_succ, Act.put, List.setIfInBounds_toArray, List.set_cons_zero, List.set_cons_succ]
      refine wpAnyH_take (i := 3) (v := ?_) rfl (by kernel_rfl) (by kernel_rfl) (by kernel_rfl) (fun _ _ _ h => h) (Or.inl ⟨by rfl, ?_⟩) hHeld ?_
      rotate_left
      · (intro W hSw; (try dsimp only at hSw); go_simp; all_goals (with_reducible rfl))
      simp only [List.getElem_toArray, List.getElem_cons_zero, List.getElem_cons_succ, Act.put, List.setIfInBounds_toArray, List.set_cons_zero, List.set_cons_succ]
      refine wpAnyH_take (i := 4) (v := ?_) rfl (by kernel_rfl) (by kernel_rfl) (by kernel_rfl) (fun _ _ _ h => h) (Or.inl ⟨by rfl, ?_⟩) hHeld ?_
      rotate_left
      · (intro W hSw; (try dsimp only at hSw); go_simp; all_goals (with_reducible rfl))
      simp only [List.getElem_toArray, List.getElem_cons_zero, List.getElem_cons_succ, Act.put, List.setIfInBounds_toArray, List.set_cons_zero, List.set_cons_succ]
      refine wpAnyH_take (i := 5) (v := ?_) rfl (by kernel_rfl) (by kernel_rfl) (by kernel_rfl) (fun _ _ _ h => h) (Or.inl ⟨by rfl, ?_⟩) hHeld ?_
      rotate_left
      · (intro W hSw; (try dsimp only at hSw); go_simp; all_goals (with_reducible rfl))
      simp only [List.getElem_toArray, List.getElem_cons_zero, List.getElem_cons_succ, Act.put, List.setIfInBounds_toArray, List.set_cons_zero, List.set_cons_succ]
      refine wpAnyH_ready (rs := [6]) (by kernel_rfl) (by simp) ?_
      refine AllReadyH.cons rfl (fun K hK => ?_) AllReadyH.nil
      simp only [List.getElem_toArray, List.getElem_cons_zero, List.getElem_cons_succ]
      go_simp
      refine (rsub_any a b la ca lb cb xs ys _ hx.1 hy.1 (by omega) (by omega) hle).mono ?_
      rintro e x4 ⟨a1, m1, c1, z1, rfl, hmc, hmb, hs1, hu1, hn1, hb⟩
      replace V0 := Va.after hb V0
      replace V1 := Va.after hb V1
      replace V2 := Va.after hb V2
      replace hx := Ir.after hb hx
      replace hy := Ir.after hb hy
      replace B0 := step B0 hb
      clear hb
      try go_wp2_with fail
      refine hK.out _ _ ⟨V0.c0, V0.c1, V1.c0, V1.c1⟩ (fun hHeld => ?_)
      clear hK K
      refine wpAnyH_ready (rs := [7]) (by kernel_rfl) (by simp) ?_
      refine AllReadyH.cons rfl (fun K hK => ?_) AllReadyH.nil
      simp only [List.getElem_toArray, List.getElem_cons_zero, List.getElem_cons_succ]
      go_simp
      refine (rnew_any s a1 m1 c1 z1 _ hs1 hmc (by omega)).mono ?_
      rintro e x5 ⟨s', a', l', c', zs, rfl, h', n', e', hl', hb⟩
      replace V0 := Va.after hb V0
      replace V1 := Va.after hb V1
      replace V2 := Va.after hb V2
      replace hs1 := hs1.below hb (Nat.le_refl _)
      replace hx := Ir.after hb hx
      replace hy := Ir.after hb hy
      replace B0 := step B0 hb
      clear hb
      try go_wp2_with fail
      refine hK.out _ _ ⟨V0.c0, V0.c1, V1.c0, V1.c1⟩ (fun hHeld => ?_)
      clear hK K
      clear hs1
      have c_V2 := V2.c0
      have d_V2 := V2.c1
      have f_V2 := V2.frozen 0
      have g_V2 := V2.frozen 1
      have l_V2 := V2.lt
      have m_V2 := Nat.le_of_lt l_V2
      refine wpAnyH_ready (rs := [8]) (by kernel_rfl) (by simp) ?_
      refine AllReadyH.cons rfl (fun K hK => ?_) AllReadyH.nil
      simp only [List.getElem_toArray, List.getElem_cons_zero, List.getElem_cons_succ]
      go_simp
      clear c_V2 d_V2 f_V2 g_V2 l_V2 m_V2
      refine st2 V2 (.bool s') (.slice a' l' c') (Q := fun W => K _ W) ?_
      intro x6 V' oth far
      replace V0 := oth _ _ _ (by first | omega | assumption) V0
      replace V1 := oth _ _ _ (by first | omega | assumption) V1
      replace hx := hx.far V2 (noInt2 _ _ _ _) far.1
      replace hy := hy.far V2 (noInt2 _ _ _ _) far.1
      replace h' := h'.far V2 (noInt2 _ _ _ _) far.1
      replace B0 := far.2 _ _ (by first | omega | (simp; omega)) B0
      replace V2 := V'
      clear oth far
      refine hK.out _ _ ⟨V0.c0, V0.c1, V1.c0, V1.c1⟩ (fun hHeld => ?_)
      clear hK K
      refine wpAnyH_done (by kernel_rfl) ?_ _
      refine NoPanic.normal ?_
      clear hHeld
      go_wp2_with fail
      refine bodyPost_ret (results_i rfl rfl V2) rfl ?_
      exact ⟨s', a', l', c', zs, rfl, h', by rw [e']; exact iv_not hn1, by omega, B0⟩
    ·
      have hq : cmp3 (num xs) (num ys) = -1 := cmp3_lt (by omega)
      go_enter Try.func25, Try.ntmps25
      go_wp2_with fail
      refine ent3 w _ _ _ _ _ _ (Q := fun W => Calls Try.prog _ _ W _) ?_
      intro x1 hb hs_x1 V0 V1 V2
      replace hx := Ir.after hb hx
      replace hy := Ir.after hb hy
      replace B0 := step B0 hb
      clear hb hs_x1
      refine (rcompare_any a b la ca lb cb xs ys x1 hx.1 hy.1 hx.2.2.2.1 hy.2.2.2.1 (by omega) (by omega) hx.2.2.1 hy.2.2.1).mono ?_
      rintro e x2 ⟨rfl, hb⟩
      replace V0 := Va.after hb V0
      replace V1 := Va.after hb V1
      replace V2 := Va.after hb V2
      replace hx := Ir.after hb hx
      replace hy := Ir.after hb hy
      replace B0 := step B0 hb
      clear hb
      rw [hq]
      have c_V0 := V0.c0
      have d_V0 := V0.c1
      have f_V0 := V0.frozen 0
      have g_V0 := V0.frozen 1
      have l_V0 := V0.lt
      have m_V0 := Nat.le_of_lt l_V0
      have c_V1 := V1.c0
      have d_V1 := V1.c1
      have f_V1 := V1.frozen 0
      have g_V1 := V1.frozen 1
      have l_V1 := V1.lt
      have m_V1 := Nat.le_of_lt l_V1
      have c_V2 := V2.c0
      have d_V2 := V2.c1
      have f_V2 := V2.frozen 0
      have g_V2 := V2.frozen 1
      have l_V2 := V2.lt
      have m_V2 := Nat.le_of_lt l_V2
      go_wp2_with fail
      clear c_V0 d_V0 f_V0 g_V0 l_V0 m_V0 c_V1 d_V1 f_V1 g_V1 l_V1 m_V1 c_V2 d_V2 f_V2 g_V2 l_V2 m_V2
      refine wp_region_noPanic ?_
      replace V0 : Va x2.drew _ _ _ := V0
      replace V1 : Va x2.drew _ _ _ := V1
      replace V2 : Va x2.drew _ _ _ := V2
      replace hx := hx.drw
      replace hy := hy.drw
      replace B0 := Below.drew B0
      refine wp_region_held_drew (S := (fun W => W.cell? ⟨w.heap.size, 0, none⟩ = some (.bool s) ∧ W.cell? ⟨w.heap.size, 1, none⟩ = some (.slice a la ca) ∧ W.cell? ⟨w.heap.size + 1, 0, none⟩ = some (.bool (!s)) ∧ W.cell? ⟨w.heap.size + 1, 1, none⟩ = some (.slice b lb cb))) (by kernel_rfl) ⟨V0.c0, V0.c1, V1.c0, V1.c1⟩ (fun hHeld => ?_)
      obtain ⟨x3, hxd⟩ : ∃ xd, xd = x2.drew := ⟨_, rfl⟩
      rw [← hxd] at V0 V1 V2 hx hy B0 hHeld ⊢
      clear hxd
      refine wpAnyH_take (i := 0) (v := ?_) rfl (by kernel_rfl) (by kernel_rfl) (by kernel_rfl) (fun _ _ _ h => h) (Or.inl ⟨by rfl, ?_⟩) hHeld ?_
      rotate_left
      · (intro W hSw; (try dsimp only at hSw); go_simp; all_goals (with_reducible rfl))
      simp only [List.getElem_toArray, List.getElem_cons_zero, Act.put, List.setIfInBounds_toArray, List.set_cons_zero, List.set_cons_succ]
      refine wpAnyH_take (i := 1) (v := ?_) rfl (by kernel_rfl) (by kernel_rfl) (by kernel_rfl) (fun _ _ _ h => h) (Or.inl ⟨by rfl, ?_⟩) hHeld ?_
      rotate_left
      · (intro W hSw; (try dsimp only at hSw); go_simp; all_goals (with_reducible rfl))
      simp only [List.getElem_toArray, List.getElem_cons_zero, List.getElem_cons_succ, Act.put, List.setIfInBounds_toArray, List.set_cons_zero, List.set_cons_succ]
      refine wpAnyH_take (i := 2) (v := ?_) rfl (by kernel_rfl) (by kernel_rfl) (by kernel_rfl) (fun _ _ _ h => h) (Or.inl ⟨by rfl, ?_⟩) hHeld ?_
      rotate_left
      · (intro W hSw; (try dsimp only at hSw); go_simp; all_goals (with_reducible rfl))
      simp only [List.getElem_toArray, List.getElem_cons_zero, List.getElem_cons_succ, Act.put, List.setIfInBounds_toArray, List.set_cons_zero, List.set_cons_succ]
      refine wpAnyH_take (i := 3) (v := ?_) rfl (by kernel_rfl) (by kernel_rfl) (by kernel_rfl) (fun _ _ _ h => h) (Or.inl ⟨by rfl, ?_⟩) hHeld ?_
      rotate_left
      · (intro W hSw; (try dsimp only at hSw); go_simp; all_goals (with_reducible rfl))
      simp only [List.getElem_toArray, List.getElem_cons_zero, List.getElem_cons_succ, Act.put, List.setIfInBounds_toArray, List.set_cons_zero, List.set_cons_succ]
      refine wpAnyH_take (i := 4) (v := ?_) rfl (by kernel_rfl) (by kernel_rfl) (by kernel_rfl) (fun _ _ _ h => h) (Or.inl ⟨by rfl, ?_⟩) hHeld ?_
      rotate_left
      · (intro W hSw; (try dsimp only at hSw); go_simp; all_goals (with_reducible rfl))
      simp only [List.getElem_toArray, List.getElem_cons_zero, List.getElem_cons_succ, Act.put, List.setIfInBounds_toArray, List.set_cons_zero, List.set_cons_succ]
      refine wpAnyH_take (i := 5) (v := ?_) rfl (by kernel_rfl) (by kernel_rfl) (by kernel_rfl) (fun _ _ _ h => h) (Or.inl ⟨by rfl, ?_⟩) hHeld ?_
      rotate_left
      · (intro W hSw; (try dsimp only at hSw); go_simp; all_goals (with_reducible rfl))
      simp only [List.getElem_toArray, List.getElem_cons_zero, List.getElem_cons_succ, Act.put, List.setIfInBounds_toArray, List.set_cons_zero, List.set_cons_succ]
      refine wpAnyH_ready (rs := [6]) (by kernel_rfl) (by simp) ?_
      refine AllReadyH.cons rfl (fun K hK => ?_) AllReadyH.nil
      simp only [List.getElem_toArray, List.getElem_cons_zero, List.getElem_cons_succ]
      go_simp
      refine (rsub_any b a lb cb la ca ys xs _ hy.1 hx.1 (by omega) (by omega) (by omega)).mono ?_
      rintro e x4 ⟨a1, m1, c1, z1, rfl, hmc, hmb, hs1, hu1, hn1, hb⟩
      replace V0 := Va.after hb V0
      replace V1 := Va.after hb V1
      replace V2 := Va.after hb V2
      replace hx := Ir.after hb hx
      replace hy := Ir.after hb hy
      replace B0 := step B0 hb
      clear hb
      try go_wp2_with fail
      refine hK.out _ _ ⟨V0.c0, V0.c1, V1.c0, V1.c1⟩ (fun hHeld => ?_)
      clear hK K
      refine wpAnyH_ready (rs := [7]) (by kernel_rfl) (by simp) ?_
      refine AllReadyH.cons rfl (fun K hK => ?_) AllReadyH.nil
      simp only [List.getElem_toArray, List.getElem_cons_zero, List.getElem_cons_succ]
      go_simp
      refine (rnew_any (!s) a1 m1 c1 z1 _ hs1 hmc (by omega)).mono ?_
      rintro e x5 ⟨s', a', l', c', zs, rfl, h', n', e', hl', hb⟩
      replace V0 := Va.after hb V0
      replace V1 := Va.after hb V1
      replace V2 := Va.after hb V2
      replace hs1 := hs1.below hb (Nat.le_refl _)
      replace hx := Ir.after hb hx
      replace hy := Ir.after hb hy
      replace B0 := step B0 hb
      clear hb
      try go_wp2_with fail
      refine hK.out _ _ ⟨V0.c0, V0.c1, V1.c0, V1.c1⟩ (fun hHeld => ?_)
      clear hK K
      clear hs1
      have c_V2 := V2.c0
      have d_V2 := V2.c1
      have f_V2 := V2.frozen 0
      have g_V2 := V2.frozen 1
      have l_V2 := V2.lt
      have m_V2 := Nat.le_of_lt l_V2
      refine wpAnyH_ready (rs := [8]) (by kernel_rfl) (by simp) ?_
      refine AllReadyH.cons rfl (fun K hK => ?_) AllReadyH.nil
      simp only [List.getElem_toArray, List.getElem_cons_zero, List.getElem_cons_succ]
      go_simp
      clear c_V2 d_V2 f_V2 g_V2 l_V2 m_V2
      refine st2 V2 (.bool s') (.slice a' l' c') (Q := fun W => K _ W) ?_
      intro x6 V' oth far
      replace V0 := oth _ _ _ (by first | omega | assumption) V0
      replace V1 := oth _ _ _ (by first | omega | assumption) V1
      replace hx := hx.far V2 (noInt2 _ _ _ _) far.1
      replace hy := hy.far V2 (noInt2 _ _ _ _) far.1
      replace h' := h'.far V2 (noInt2 _ _ _ _) far.1
      replace B0 := far.2 _ _ (by first | omega | (simp; omega)) B0
      replace V2 := V'
      clear oth far
      refine hK.out _ _ ⟨V0.c0, V0.c1, V1.c0, V1.c1⟩ (fun hHeld => ?_)
      clear hK K
      refine wpAnyH_done (by kernel_rfl) ?_ _
      refine NoPanic.normal ?_
      clear hHeld
      go_wp2_with fail
      refine bodyPost_ret (results_i rfl rfl V2) rfl ?_
      exact ⟨s', a', l', c', zs, rfl, h', by rw [e', iv_not hn1, Bool.not_not, Int.add_comm], by omega, B0⟩

set_option maxHeartbeats 4000000 in
theorem rmul4_any (s t : Bool) (a b : Option Addr) (la ca lb cb : Nat) (xs ys : List Int) (w : World) (hx : Ir w s a la ca xs) (hy : Ir w t b lb cb ys) (hl1 : la ≤ 1000000) (hl2 : lb ≤ 1000000) :
    Calls Try.prog 27 #[.agg #[.bool s, .slice a la ca], .agg #[.bool t, .slice b lb cb]] w fun e w' => ∃ s' a' l' c' zs, e = .returned (.agg #[.bool s', .slice a' l' c']) ∧ Ir w' s' a' l' c' zs ∧ iv s' zs = iv s xs * iv t ys ∧ l' ≤ 2 * la + 2 * lb + 1 ∧ Below w.heap.size w w' := by
  have B0 : Below w.heap.size w w := Below.refl _ _
  go_enter Try.func27, Try.ntmps27
  go_wp2_with fail
  refine ent3 w _ _ _ _ _ _ (Q := fun W => Code.wp Try.prog _ _ _ W) ?_
  intro x1 hb hs_x1 V0 V1 V2
  replace hx := Ir.after hb hx
  replace hy := Ir.after hb hy
  replace B0 := step B0 hb
  clear hb hs_x1
  refine wp_region_noPanic ?_
  replace V0 : Va x1.drew _ _ _ := V0
  replace V1 : Va x1.drew _ _ _ := V1
  replace V2 : Va x1.drew _ _ _ := V2
  replace hx := hx.drw
  replace hy := hy.drw
  replace B0 := Below.drew B0
  refine wp_region_held_drew (S := (fun W => W.cell? ⟨w.heap.size, 0, none⟩ = some (.bool s) ∧ W.cell? ⟨w.heap.size, 1, none⟩ = some (.slice a la ca) ∧ W.cell? ⟨w.heap.size + 1, 0, none⟩ = some (.bool t) ∧ W.cell? ⟨w.heap.size + 1, 1, none⟩ = some (.slice b lb cb))) (by kernel_rfl) ⟨V0.c0, V0.c1, V1.c0, V1.c1⟩ (fun hHeld => ?_)
  obtain ⟨x2, hxd⟩ : ∃ xd, xd = x1.drew := ⟨_, rfl⟩
  rw [← hxd] at V0 V1 V2 hx hy B0 hHeld ⊢
  clear hxd
  refine wpAnyH_take (i := 0) (v := ?_) rfl (by kernel_rfl) (by kernel_rfl) (by kernel_rfl) (fun _ _ _ h => h) (Or.inl ⟨by rfl, ?_⟩) hHeld ?_
  rotate_left
  · (intro W hSw; (try dsimp only at hSw); go_simp; all_goals (with_reducible rfl))
  simp only [List.getElem_toArray, List.getElem_cons_zero, Act.put, List.setIfInBounds_toArray, List.set_cons_zero, List.set_cons_succ]
  refine wpAnyH_take (i := 1) (v := ?_) rfl (by kernel_rfl) (by kernel_rfl) (by kernel_rfl) (fun _ _ _ h => h) (Or.inl ⟨by rfl, ?_⟩) hHeld ?_
  rotate_left
  · (intro W hSw; (try dsimp only at hSw); go_simp; all_goals (with_reducible rfl))
  simp only [List.getElem_toArray, List.getElem_cons_zero, List.getElem_cons_succ, Act.put, List.setIfInBounds_toArray, List.set_cons_zero, List.set_cons_succ]
  refine wpAnyH_take (i := 2) (v := ?_) rfl (by kernel_rfl) (by kernel_rfl) (by kernel_rfl) (fun _ _ _ h => h) (Or.inl ⟨by rfl, ?_⟩) hHeld ?_
  rotate_left
  · (intro W hSw; (try dsimp only at hSw); go_simp; all_goals (with_reducible rfl))
  simp only [List.getElem_toArray, List.getElem_cons_zero, List.getElem_cons_succ, Act.put, List.setIfInBounds_toArray, List.set_cons_zero, List.set_cons_succ]
  refine wpAnyH_take (i := 3) (v := ?_) rfl (by kernel_rfl) (by kernel_rfl) (by kernel_rfl) (fun _ _ _ h => h) (Or.inl ⟨by rfl, ?_⟩) hHeld ?_
  rotate_left
  · (intro W hSw; (try dsimp only at hSw); go_simp; all_goals (with_reducible rfl))
  simp only [List.getElem_toArray, List.getElem_cons_zero, List.getElem_cons_succ, Act.put, List.setIfInBounds_toArray, List.set_cons_zero, List.set_cons_succ]
  refine wpAnyH_take (i := 4) (v := ?_) rfl (by kernel_rfl) (by kernel_rfl) (by kernel_rfl) (fun _ _ _ h => h) (Or.inl ⟨by rfl, ?_⟩) hHeld ?_
  rotate_left
  · (intro W hSw; (try dsimp only at hSw); go_simp; all_goals (with_reducible rfl))
  simp only [List.getElem_toArray, List.getElem_cons_zero, List.getElem_cons_succ, Act.put, List.setIfInBounds_toArray, List.set_cons_zero, List.set_cons_succ]
  refine wpAnyH_take (i := 5) (v := ?_) rfl (by kernel_rfl) (by kernel_rfl) (by kernel_rfl) (fun _ _ _ h => h) (Or.inl ⟨by rfl, ?_⟩) hHeld ?_
  rotate_left
  · (intro W hSw; (try dsimp only at hSw); go_simp; all_goals (with_reducible rfl))
  simp only [List.getElem_toArray, List.getElem_cons_zero, List.getElem_cons_succ, Act.put, List.setIfInBounds_toArray, List.set_cons_zero, List.set_cons_succ]
  refine wpAnyH_take (i := 6) (v := ?_) rfl (by kernel_rfl) (by kernel_rfl) (by kernel_rfl) (fun _ _ _ h => h) (Or.inl ⟨by rfl, ?_⟩) hHeld ?_
  rotate_left
  · (intro W hSw; (try dsimp only at hSw); go_simp; all_goals (with_reducible rfl))
  simp only [List.getElem_toArray, List.getElem_cons_zero, List.getElem_cons_succ, Act.put, List.setIfInBounds_toArray, List.set_cons_zero, List.set_cons_succ]
  refine wpAnyH_take (i := 7) (v := ?_) rfl (by kernel_rfl) (by kernel_rfl) (by kernel_rfl) (fun _ _ _ h => h) (Or.inl ⟨by rfl, ?_⟩) hHeld ?_
  rotate_left
  · (intro W hSw; (try dsimp only at hSw); go_simp; all_goals (with_reducible rfl))
  simp only [List.getElem_toArray, List.getElem_cons_zero, List.getElem_cons_succ, Act.put, List.setIfInBounds_toArray, List.set_cons_zero, List.set_cons_succ]
  refine wpAnyH_take (i := 8) (v := ?_) rfl (by kernel_rfl) (by kernel_rfl) (by kernel_rfl) (fun _ _ _ h => h) (Or.inl ⟨by rfl, ?_⟩) hHeld ?_
  rotate_left
  · (intro W hSw; (try dsimp only at hSw); go_simp; all_goals (with_reducible rfl))
  simp only [List.getElem_toArray, List.getElem_cons_zero, List.getElem_cons_succ, Act.put, List.setIfInBounds_toArray, List.set_cons_zero, List.set_cons_succ]
  refine wpAnyH_ready (rs := [9]) (by kernel_rfl) (by simp) ?_
  refine AllReadyH.cons rfl (fun K hK => ?_) AllReadyH.nil
  simp only [List.getElem_toArray, List.getElem_cons_zero, List.getElem_cons_succ]
  go_simp
  refine (rmul_any a b la ca lb cb xs ys _ hx.1 hy.1 (by omega) (by omega)).mono ?_
  rintro e x3 ⟨a1, m1, c1, z1, rfl, hmc, hmb, hs1, hu1, hn1, hb⟩
  replace V0 := Va.after hb V0
  replace V1 := Va.after hb V1
  replace V2 := Va.after hb V2
  replace hx := Ir.after hb hx
  replace hy := Ir.after hb hy
  replace B0 := step B0 hb
  clear hb
  try go_wp2_with fail
  refine hK.out _ _ ⟨V0.c0, V0.c1, V1.c0, V1.c1⟩ (fun hHeld => ?_)
  clear hK K
  refine wpAnyH_ready (rs := [10]) (by kernel_rfl) (by simp) ?_
  refine AllReadyH.cons rfl (fun K hK => ?_) AllReadyH.nil
  simp only [List.getElem_toArray, List.getElem_cons_zero, List.getElem_cons_succ]
  go_simp
  refine (rnew_any _ a1 m1 c1 z1 _ hs1 hmc (by omega)).mono ?_
  rintro e x4 ⟨s', a', l', c', zs, rfl, h', n', e', hl', hb⟩
  replace V0 := Va.after hb V0
  replace V1 := Va.after hb V1
  replace V2 := Va.after hb V2
  replace hs1 := hs1.below hb (Nat.le_refl _)
  replace hx := Ir.after hb hx
  replace hy := Ir.after hb hy
  replace B0 := step B0 hb
  clear hb
  try go_wp2_with fail
  refine hK.out _ _ ⟨V0.c0, V0.c1, V1.c0, V1.c1⟩ (fun hHeld => ?_)
  clear hK K
  clear hs1
  have c_V2 := V2.c0
  have d_V2 := V2.c1
  have f_V2 := V2.frozen 0
  have g_V2 := V2.frozen 1
  have l_V2 := V2.lt
  have m_V2 := Nat.le_of_lt l_V2
  refine wpAnyH_ready (rs := [11]) (by kernel_rfl) (by simp) ?_
  refine AllReadyH.cons rfl (fun K hK => ?_) AllReadyH.nil
  simp only [List.getElem_toArray, List.getElem_cons_zero, List.getElem_cons_succ]
  go_simp
  clear c_V2 d_V2 f_V2 g_V2 l_V2 m_V2
  refine st2 V2 (.bool s') (.slice a' l' c') (Q := fun W => K _ W) ?_
  intro x5 V' oth far
  replace V0 := oth _ _ _ (by first | omega | assumption) V0
  replace V1 := oth _ _ _ (by first | omega | assumption) V1
  replace hx := hx.far V2 (noInt2 _ _ _ _) far.1
  replace hy := hy.far V2 (noInt2 _ _ _ _) far.1
  replace h' := h'.far V2 (noInt2 _ _ _ _) far.1
  replace B0 := far.2 _ _ (by first | omega | (simp; omega)) B0
  replace V2 := V'
  clear oth far
  refine hK.out _ _ ⟨V0.c0, V0.c1, V1.c0, V1.c1⟩ (fun hHeld => ?_)
  clear hK K
  refine wpAnyH_done (by kernel_rfl) ?_ _
  refine NoPanic.normal ?_
  clear hHeld
  go_wp2_with fail
  refine bodyPost_ret (results_i rfl rfl V2) rfl ?_
  exact ⟨s', a', l', c', zs, rfl, h', by rw [e']; exact iv_mul hn1, by omega, B0⟩

set_option maxHeartbeats 4000000 in
theorem rsub4_any (s t : Bool) (a b : Option Addr) (la ca lb cb : Nat) (xs ys : List Int) (w : World) (hx : Ir w s a la ca xs) (hy : Ir w t b lb cb ys) (hl1 : la ≤ 1000000) (hl2 : lb ≤ 1000000) :
    Calls Try.prog 26 #[.agg #[.bool s, .slice a la ca], .agg #[.bool t, .slice b lb cb]] w fun e w' => ∃ s' a' l' c' zs, e = .returned (.agg #[.bool s', .slice a' l' c']) ∧ Ir w' s' a' l' c' zs ∧ iv s' zs = iv s xs - iv t ys ∧ l' ≤ 2 * la + 2 * lb + 1 ∧ Below w.heap.size w w' := by
  have B0 : Below w.heap.size w w := Below.refl _ _
  go_enter Try.func26, Try.ntmps26
  go_wp2_with fail
  refine ent3 w _ _ _ _ _ _ (Q := fun W => Code.wp Try.prog _ _ _ W) ?_
  intro x1 hb hs_x1 V0 V1 V2
  replace hx := Ir.after hb hx
  replace hy := Ir.after hb hy
  replace B0 := step B0 hb
  clear hb hs_x1
  refine wp_region_noPanic ?_
  replace V0 : Va x1.drew _ _ _ := V0
  replace V1 : Va x1.drew _ _ _ := V1
  replace V2 : Va x1.drew _ _ _ := V2
  replace hx := hx.drw
  replace hy := hy.drw
  replace B0 := Below.drew B0
  refine wp_region_held_drew (S := (fun W => W.cell? ⟨w.heap.size, 0, none⟩ = some (.bool s) ∧ W.cell? ⟨w.heap.size, 1, none⟩ = some (.slice a la ca) ∧ W.cell? ⟨w.heap.size + 1, 0, none⟩ = some (.bool t) ∧ W.cell? ⟨w.heap.size + 1, 1, none⟩ = some (.slice b lb cb))) (by kernel_rfl) ⟨V0.c0, V0.c1, V1.c0, V1.c1⟩ (fun hHeld => ?_)
  obtain ⟨x2, hxd⟩ : ∃ xd, xd = x1.drew := ⟨_, rfl⟩
  rw [← hxd] at V0 V1 V2 hx hy B0 hHeld ⊢
  clear hxd
  refine wpAnyH_take (i := 0) (v := ?_) rfl (by kernel_rfl) (by kernel_rfl) (by kernel_rfl) (fun _ _ _ h => h) (Or.inl ⟨by rfl, ?_⟩) hHeld ?_
  rotate_left
  · (intro W hSw; (try dsimp only at hSw); go_simp; all_goals (with_reducible rfl))
  simp only [List.getElem_toArray, List.getElem_cons_zero, Act.put, List.setIfInBounds_toArray, List.set_cons_zero, List.set_cons_succ]
  refine wpAnyH_take (i := 1) (v := ?_) rfl (by kernel_rfl) (by kernel_rfl) (by kernel_rfl) (fun _ _ _ h => h) (Or.inl ⟨by rfl, ?_⟩) hHeld ?_
  rotate_left
  · (intro W hSw; (try dsimp only at hSw); go_simp; all_goals (with_reducible rfl))
  simp only [List.getElem_toArray, List.getElem_cons_zero, List.getElem_cons_succ, Act.put, List.setIfInBounds_toArray, List.set_cons_zero, List.set_cons_succ]
  refine wpAnyH_ready (rs := [2]) (by kernel_rfl) (by simp) ?_
  refine AllReadyH.cons rfl (fun K hK => ?_) AllReadyH.nil
  simp only [List.getElem_toArray, List.getElem_cons_zero, List.getElem_cons_succ]
  go_simp
  refine (rneg_any t b lb cb ys _ hy hl2).mono ?_
  rintro e x3 ⟨t1, b1, m1, k1, y1, rfl, hy1, ey, hm1, hb⟩
  replace V0 := Va.after hb V0
  replace V1 := Va.after hb V1
  replace V2 := Va.after hb V2
  replace hx := Ir.after hb hx
  replace hy := Ir.after hb hy
  replace B0 := step B0 hb
  clear hb
  try go_wp2_with fail
  refine hK.out _ _ ⟨V0.c0, V0.c1, V1.c0, V1.c1⟩ (fun hHeld => ?_)
  clear hK K
  refine wpAnyH_ready (rs := [3]) (by kernel_rfl) (by simp) ?_
  refine AllReadyH.cons rfl (fun K hK => ?_) AllReadyH.nil
  simp only [List.getElem_toArray, List.getElem_cons_zero, List.getElem_cons_succ]
  go_simp
  refine (radd4_any s t1 a b1 la ca m1 k1 xs y1 _ hx hy1 hl1 (by omega)).mono ?_
  rintro e x4 ⟨s', a', l', c', zs, rfl, h', e', hl', hb⟩
  replace V0 := Va.after hb V0
  replace V1 := Va.after hb V1
  replace V2 := Va.after hb V2
  replace hx := Ir.after hb hx
  replace hy := Ir.after hb hy
  replace hy1 := Ir.after hb hy1
  replace B0 := step B0 hb
  clear hb
  try go_wp2_with fail
  refine hK.out _ _ ⟨V0.c0, V0.c1, V1.c0, V1.c1⟩ (fun hHeld => ?_)
  clear hK K
  have c_V2 := V2.c0
  have d_V2 := V2.c1
  have f_V2 := V2.frozen 0
  have g_V2 := V2.frozen 1
  have l_V2 := V2.lt
  have m_V2 := Nat.le_of_lt l_V2
  refine wpAnyH_ready (rs := [4]) (by kernel_rfl) (by simp) ?_
  refine AllReadyH.cons rfl (fun K hK => ?_) AllReadyH.nil
  simp only [List.getElem_toArray, List.getElem_cons_zero, List.getElem_cons_succ]
  go_simp
  clear c_V2 d_V2 f_V2 g_V2 l_V2 m_V2
  refine st2 V2 (.bool s') (.slice a' l' c') (Q := fun W => K _ W) ?_
  intro x5 V' oth far
  replace V0 := oth _ _ _ (by first | omega | assumption) V0
  replace V1 := oth _ _ _ (by first | omega | assumption) V1
  replace hx := hx.far V2 (noInt2 _ _ _ _) far.1
  replace hy := hy.far V2 (noInt2 _ _ _ _) far.1
  replace hy1 := hy1.far V2 (noInt2 _ _ _ _) far.1
  replace h' := h'.far V2 (noInt2 _ _ _ _) far.1
  replace B0 := far.2 _ _ (by first | omega | (simp; omega)) B0
  replace V2 := V'
  clear oth far
  refine hK.out _ _ ⟨V0.c0, V0.c1, V1.c0, V1.c1⟩ (fun hHeld => ?_)
  clear hK K
  refine wpAnyH_done (by kernel_rfl) ?_ _
  refine NoPanic.normal ?_
  clear hHeld
  go_wp2_with fail
  refine bodyPost_ret (results_i rfl rfl V2) rfl ?_
  exact ⟨s', a', l', c', zs, rfl, h', by rw [e', ey, ← Int.sub_eq_add_neg], by omega, B0⟩

theorem rlong4_any (s : Bool) (a : Option Addr) (l c : Nat) (zs : List Int) (w : World) (h : Ir w s a l c zs) (hl : l ≤ 40000000000000) :
    Calls Try.prog 47 #[.agg #[.bool s, .slice a l c]] w fun e w' => e = .returned (.bool (decide (4096 < (usedN zs : Int)))) ∧ Below w.heap.size w w' := by
  have B0 : Below w.heap.size w w := Below.refl _ _
  go_enter Try.func47, Try.ntmps47
  go_wp2_with fail
  refine ent1 w _ _ (Q := fun W => Calls Try.prog _ _ W _) ?_
  intro x1 hb hs_x1 V0
  replace h := Ir.after hb h
  replace B0 := step B0 hb
  clear hb hs_x1
  refine (rlong_any a l c zs x1 h.1 hl).mono ?_
  rintro e w' ⟨rfl, rfl⟩
  go_wp2_with fail
  go_ret
  exact ⟨rfl, B0⟩

/-- What an answer and its error say of the number X. -/
def Ag (X er : Int) (s : Bool) (a : Option Addr) (l c : Nat) (zs : List Int) : Prop := (er = 0 ∧ iv s zs = X ∧ (X.natAbs : Int) < pw 4096) ∨ (er = 3 ∧ s = false ∧ a = none ∧ l = 0 ∧ c = 0 ∧ zs = [] ∧ pw 4096 ≤ (X.natAbs : Int))
theorem agrees4_any (X er : Int) (s t : Bool) (a b : Option Addr) (l c m k : Nat) (zs ds : List Int) (w : World) (h : It w s a l c zs) (g : Ir w t b m k ds) (hA : Hid (Ag X er s a l c zs)) (he : iv t ds = X) (hm : m ≤ 40000000000000) :
    Calls Try.prog 24 #[.agg #[.bool s, .slice a l c], .int .i64 er, .agg #[.bool t, .slice b m k]] w fun e w' => e = .returned (.bool true) ∧ Below w.heap.size w w' := by
  have B0 : Below w.heap.size w w := Below.refl _ _
  rcases hA.out with ⟨rfl, hx, hlt⟩ | ⟨rfl, rfl, rfl, rfl, rfl, rfl, hge⟩
  ·
    have hu : decide (4096 < (usedN ds : Int)) = false := by
      have h1 := used_of_lt g.1.2.1 (n := 4096) (by rw [g.abs, he]; exact hlt)
      simp; omega
    have hei : iv t ds = iv s zs := he.trans hx.symm
    clear hlt hA he hx
    go_enter Try.func24, Try.ntmps24
    go_wp2_with fail
    refine ent2 w _ _ _ _ (Q := fun W => Calls Try.prog _ _ W _) ?_
    intro x1 hb hs_x1 V0 V1
    replace h := It.after hb h
    replace g := Ir.after hb g
    replace B0 := step B0 hb
    clear hb hs_x1
    refine (rlong4_any t b m k ds x1 g hm).mono ?_
    rintro e x2 ⟨rfl, hb⟩
    replace V0 := Va.after hb V0
    replace V1 := Va.after hb V1
    replace h := It.after hb h
    replace g := Ir.after hb g
    replace B0 := step B0 hb
    clear hb
    rw [hu]
    have c_V0 := V0.c0
    have d_V0 := V0.c1
    have f_V0 := V0.frozen 0
    have g_V0 := V0.frozen 1
    have l_V0 := V0.lt
    have m_V0 := Nat.le_of_lt l_V0
    have c_V1 := V1.c0
    have d_V1 := V1.c1
    have f_V1 := V1.frozen 0
    have g_V1 := V1.frozen 1
    have l_V1 := V1.lt
    have m_V1 := Nat.le_of_lt l_V1
    go_wp2_with fail
    refine (is4_ok s t a b l c m k zs ds x2 h g hei).mono ?_
    rintro e x3 ⟨rfl, hb⟩
    replace V0 := Va.after hb V0
    replace V1 := Va.after hb V1
    replace h := It.after hb h
    replace g := Ir.after hb g
    replace B0 := step B0 hb
    clear hb
    clear c_V0 d_V0 f_V0 g_V0 l_V0 m_V0 c_V1 d_V1 f_V1 g_V1 l_V1 m_V1
    have c_V0 := V0.c0
    have d_V0 := V0.c1
    have f_V0 := V0.frozen 0
    have g_V0 := V0.frozen 1
    have l_V0 := V0.lt
    have m_V0 := Nat.le_of_lt l_V0
    have c_V1 := V1.c0
    have d_V1 := V1.c1
    have f_V1 := V1.frozen 0
    have g_V1 := V1.frozen 1
    have l_V1 := V1.lt
    have m_V1 := Nat.le_of_lt l_V1
    go_wp2_with fail
    go_ret
    exact ⟨rfl, B0⟩
  ·
    have hu : decide (4096 < (usedN ds : Int)) = true := by
      rcases Nat.lt_or_ge 4096 (usedN ds) with h1 | h1
      · simp; omega
      · exfalso
        have h2 := lt_of_used g.1.2.1 h1
        rw [g.abs, he] at h2
        generalize pw 4096 = P at *
        omega
    clear hge hA he h
    go_enter Try.func24, Try.ntmps24
    go_wp2_with fail
    refine ent2 w _ _ _ _ (Q := fun W => Calls Try.prog _ _ W _) ?_
    intro x1 hb hs_x1 V0 V1
    replace g := Ir.after hb g
    replace B0 := step B0 hb
    clear hb hs_x1
    refine (rlong4_any t b m k ds x1 g hm).mono ?_
    rintro e x2 ⟨rfl, hb⟩
    replace V0 := Va.after hb V0
    replace V1 := Va.after hb V1
    replace g := Ir.after hb g
    replace B0 := step B0 hb
    clear hb
    rw [hu]
    have c_V0 := V0.c0
    have d_V0 := V0.c1
    have f_V0 := V0.frozen 0
    have g_V0 := V0.frozen 1
    have l_V0 := V0.lt
    have m_V0 := Nat.le_of_lt l_V0
    have c_V1 := V1.c0
    have d_V1 := V1.c1
    have f_V1 := V1.frozen 0
    have g_V1 := V1.frozen 1
    have l_V1 := V1.lt
    have m_V1 := Nat.le_of_lt l_V1
    go_wp2_with fail
    refine (is4_ok false false none none 0 0 0 0 [] [] x2 (It.nil _) (Ir.nil _) rfl).mono ?_
    rintro e x3 ⟨rfl, hb⟩
    replace V0 := Va.after hb V0
    replace V1 := Va.after hb V1
    replace g := Ir.after hb g
    replace B0 := step B0 hb
    clear hb
    clear c_V0 d_V0 f_V0 g_V0 l_V0 m_V0 c_V1 d_V1 f_V1 g_V1 l_V1 m_V1
    have c_V0 := V0.c0
    have d_V0 := V0.c1
    have f_V0 := V0.frozen 0
    have g_V0 := V0.frozen 1
    have l_V0 := V0.lt
    have m_V0 := Nat.le_of_lt l_V0
    have c_V1 := V1.c0
    have d_V1 := V1.c1
    have f_V1 := V1.frozen 0
    have g_V1 := V1.frozen 1
    have l_V1 := V1.lt
    have m_V1 := Nat.le_of_lt l_V1
    go_wp2_with fail
    go_ret
    exact ⟨rfl, B0⟩

theorem wadd_any (s t : Bool) (a b : Option Addr) (la ca lb cb : Nat) (xs ys : List Int) (w : World) (hx : It w s a la ca xs) (hy : It w t b lb cb ys) :
    Calls Try.prog 21 #[.agg #[.bool s, .slice a la ca], .agg #[.bool t, .slice b lb cb]] w fun e w' => ∃ er s' a' l' c' zs, e = .returned (.tuple #[.agg #[.bool s', .slice a' l' c'], .int .i64 er]) ∧ It w' s' a' l' c' zs ∧ Hid (Ag (iv s xs + iv t ys) er s' a' l' c' zs) ∧ Below w.heap.size w w' := by
  by_cases h : ((iv s xs + iv t ys).natAbs : Int) < pw 4096
  · refine (wadd_ok s t a b la ca lb cb xs ys w hx hy h).mono ?_
    rintro e w' ⟨s', a', l', c', zs, rfl, h', e', hb⟩
    exact ⟨0, s', a', l', c', zs, rfl, h', Or.inl ⟨rfl, e', h⟩, hb⟩
  · refine (wadd_long s t a b la ca lb cb xs ys w hx hy (Int.not_lt.1 h)).mono ?_
    rintro e w' ⟨rfl, hb⟩
    exact ⟨3, false, none, 0, 0, [], rfl, It.nil _, Or.inr ⟨rfl, rfl, rfl, rfl, rfl, rfl, Int.not_lt.1 h⟩, hb⟩

theorem wsub_any (s t : Bool) (a b : Option Addr) (la ca lb cb : Nat) (xs ys : List Int) (w : World) (hx : It w s a la ca xs) (hy : It w t b lb cb ys) :
    Calls Try.prog 22 #[.agg #[.bool s, .slice a la ca], .agg #[.bool t, .slice b lb cb]] w fun e w' => ∃ er s' a' l' c' zs, e = .returned (.tuple #[.agg #[.bool s', .slice a' l' c'], .int .i64 er]) ∧ It w' s' a' l' c' zs ∧ Hid (Ag (iv s xs - iv t ys) er s' a' l' c' zs) ∧ Below w.heap.size w w' := by
  by_cases h : ((iv s xs - iv t ys).natAbs : Int) < pw 4096
  · refine (wsub_ok s t a b la ca lb cb xs ys w hx hy h).mono ?_
    rintro e w' ⟨s', a', l', c', zs, rfl, h', e', hb⟩
    exact ⟨0, s', a', l', c', zs, rfl, h', Or.inl ⟨rfl, e', h⟩, hb⟩
  · refine (wsub_long s t a b la ca lb cb xs ys w hx hy (Int.not_lt.1 h)).mono ?_
    rintro e w' ⟨rfl, hb⟩
    exact ⟨3, false, none, 0, 0, [], rfl, It.nil _, Or.inr ⟨rfl, rfl, rfl, rfl, rfl, rfl, Int.not_lt.1 h⟩, hb⟩

theorem wmul_any (s t : Bool) (a b : Option Addr) (la ca lb cb : Nat) (xs ys : List Int) (w : World) (hx : It w s a la ca xs) (hy : It w t b lb cb ys) :
    Calls Try.prog 23 #[.agg #[.bool s, .slice a la ca], .agg #[.bool t, .slice b lb cb]] w fun e w' => ∃ er s' a' l' c' zs, e = .returned (.tuple #[.agg #[.bool s', .slice a' l' c'], .int .i64 er]) ∧ It w' s' a' l' c' zs ∧ Hid (Ag (iv s xs * iv t ys) er s' a' l' c' zs) ∧ Below w.heap.size w w' := by
  by_cases h : ((iv s xs * iv t ys).natAbs : Int) < pw 4096
  · refine (wmul_ok s t a b la ca lb cb xs ys w hx hy h).mono ?_
    rintro e w' ⟨s', a', l', c', zs, rfl, h', e', hb⟩
    exact ⟨0, s', a', l', c', zs, rfl, h', Or.inl ⟨rfl, e', h⟩, hb⟩
  · refine (wmul_long s t a b la ca lb cb xs ys w hx hy (Int.not_lt.1 h)).mono ?_
    rintro e w' ⟨rfl, hb⟩
    exact ⟨3, false, none, 0, 0, [], rfl, It.nil _, Or.inr ⟨rfl, rfl, rfl, rfl, rfl, rfl, Int.not_lt.1 h⟩, hb⟩
end Go.Proofs.Ytkfpblonjinfmaa
namespace Go.Proofs.Ytkfpblonjinfmaa
open Go.RowKit Go.Shelf

/-- Block g alone of the old ones may have turned. -/
structure Near (g : Nat) (w w' : World) : Prop where
  bel : Below g w w'
  oth : ∀ k, k < w.heap.size → k ≠ g → w'.heap[k]? = w.heap[k]?
theorem Near.refl (g : Nat) (w : World) : Near g w w := ⟨Below.refl _ _, fun _ _ _ => rfl⟩
theorem Near.trans {g : Nat} {a b c : World} (h : Near g a b) (k : Near g b c) : Near g a c :=
  ⟨h.bel.trans k.bel, fun i hi hg => (k.oth i (Nat.lt_of_lt_of_le hi h.bel.size) hg).trans (h.oth i hi hg)⟩
theorem Near.of {g : Nat} {w w' : World} (b : Below w.heap.size w w') (hg : g ≤ w.heap.size) : Near g w w' := ⟨b.mono hg, fun k hk _ => b.block k hk⟩
theorem Near.set {g : Nat} {a w : World} (h : Near g a w) (i : Nat) (v : Value) : Near g a (w.setCell ⟨g, i, none⟩ v) :=
  ⟨h.bel.setCell (p := ⟨g, i, none⟩) (Nat.le_refl _) v, fun k hk hg => (Below.heap_setCell _ _ _ _ hg).trans (h.oth k hk hg)⟩
theorem Near.drewN {g : Nat} {a w : World} (h : Near g a w) (n : Nat) : Near g a (w.drewN n) := ⟨below_drewN h.bel n, h.oth⟩
theorem Own.near {g b : Nat} {w w' : World} {cs : List Int} (h : Own w b cs) (o : Near g w w') (hne : b ≠ g) : Own w' b cs := by
  have hlt : b < w.heap.size := by
    unfold Own at h
    rcases Nat.lt_or_ge b w.heap.size with h' | h'
    · exact h'
    · rw [Array.getElem?_eq_none h'] at h; cases h
  unfold Own at *
  rw [o.oth b hlt hne]; exact h
theorem Sx.near {g : Nat} {w w' : World} {a : Option Addr} {len : Nat} {zs : List Int} (h : Sx g w a len zs) (o : Near g w w') : Sx g w' a len zs := by
  have hlt := fun h0 p hp => h.1.lt h0 (p := p) hp
  obtain ⟨⟨h1, h2, h3⟩, h4⟩ := h
  refine ⟨⟨h1, h2, fun h0 => ?_⟩, h4⟩
  obtain ⟨b, off, rfl, hc⟩ := h3 h0
  refine ⟨b, off, rfl, fun i hi => ?_⟩
  rw [← hc i hi]
  exact World.cell?_of_block (w := w) (o.oth b (hlt h0 _ rfl) (h4 h0 _ rfl))

namespace H
/-- A number that is short enough: its lower digits, and a piece above. -/
theorem num_seg {us : List Int} (hL : Limbs us) {a n : Nat} (hlen : a + n + 1 ≤ us.length) (hN : num us < pw (a + n + 1)) : num us = num (us.take a) + num ((us.drop a).take (n + 1)) * pw a := by
  have e1 := num_take_drop us a (by omega)
  have e2 := num_take_drop (us.drop a) (n + 1) (by rw [List.length_drop]; omega)
  have h0 := num_nonneg (hL.take a)
  have h1 := num_nonneg ((hL.drop a).take (n + 1))
  have h2 := num_nonneg ((hL.drop a).drop (n + 1))
  have hp := pw_pos a
  have hq := pw_pos (n + 1)
  have e3 : pw (a + n + 1) = pw (n + 1) * pw a := by rw [show a + n + 1 = n + 1 + a by omega, pw_add]
  rcases Int.lt_or_le 0 (num ((us.drop a).drop (n + 1))) with h | h
  · exfalso
    have h3 : 1 * pw (n + 1) ≤ num ((us.drop a).drop (n + 1)) * pw (n + 1) := Int.mul_le_mul_of_nonneg_right (by omega) (Int.le_of_lt hq)
    have h4 : (num ((us.drop a).take (n + 1)) + num ((us.drop a).drop (n + 1)) * pw (n + 1)) * pw a ≥ pw (n + 1) * pw a := Int.mul_le_mul_of_nonneg_right (by omega) (Int.le_of_lt hp)
    rw [← e2] at h4
    omega
  · have h5 : num ((us.drop a).drop (n + 1)) = 0 := by omega
    rw [h5, Int.zero_mul, Int.add_zero] at e2
    rw [e1, e2]
end H
/-- What holds behind so many places that were taken off. -/
def LsInv (us ps ds : List Int) (a i : Nat) (c : Int) : Prop :=
  ds.length = us.length ∧ H.Limbs ds ∧ (∀ j, a + i ≤ j → ds.getD j 0 = us.getD j 0) ∧ H.num ds - c * H.pw (a + i) = H.num us - H.num (ps.take i) * H.pw a ∧ 0 ≤ c ∧ c ≤ 1
theorem ls_start {us ps : List Int} {a : Nat} (h : H.Limbs us) : LsInv us ps us a 0 0 := ⟨rfl, h, fun _ _ => rfl, by simp [H.num], by omega, by omega⟩
theorem ls_ring {N N0 T v x p c c' po pi : Int} (hd : v - 4294967296 * c' = x - p - c) (i4 : N - c * (po * pi) = N0 - T * po) : N + (v - x) * (po * pi) - c' * (4294967296 * (po * pi)) = N0 - (T + p * pi) * po := by grind
theorem ls_step {us ps ds : List Int} {a i : Nat} {c : Int} (hp : H.Limbs ps) (I : LsInv us ps ds a i c) (h : a + i < us.length) :
    LsInv us ps (ds.set (a + i) ((4294967296 + us.getD (a + i) 0 - ps.getD i 0 - c) % 4294967296)) a (i + 1) (1 - (4294967296 + us.getD (a + i) 0 - ps.getD i 0 - c) / 4294967296) := by
  obtain ⟨i1, i2, i3, i4, i5, i6⟩ := I
  have b1 := i2.getD (a + i); have b2 := hp.getD i
  rw [i3 (a + i) (Nat.le_refl _)] at b1
  refine ⟨by rw [List.length_set]; exact i1, i2.set _ ⟨by omega, by omega⟩, fun j hj => ?_, ?_, by omega, by omega⟩
  · rw [List.getD_eq_getElem?_getD, List.getElem?_set_ne (by omega), ← List.getD_eq_getElem?_getD]; exact i3 j (by omega)
  · rw [H.num_set _ _ _ (by omega), i3 (a + i) (Nat.le_refl _), H.num_take_succ, show a + (i + 1) = a + i + 1 by omega, H.pw]
    have e : H.pw (a + i) = H.pw a * H.pw i := H.pw_add a i
    rw [e] at i4 ⊢
    exact ls_ring (by omega) i4
theorem ls_end {us ps ds : List Int} {a n : Nat} {c : Int} (hL : H.Limbs us) (hN : H.num us < H.pw (a + n + 1)) (hps : ps.length = n + 1) (I : LsInv us ps ds a (n + 1) c) (hle : H.num ps * H.pw a ≤ H.num us) : H.num ds = H.num us - H.num ps * H.pw a := by
  obtain ⟨i1, i2, i3, i4, i5, i6⟩ := I
  rw [List.take_of_length_le (by omega), show a + (n + 1) = a + n + 1 by omega] at i4
  have : c = 0 ∨ c = 1 := by omega
  rcases this with rfl | rfl
  · simpa using i4
  · exfalso
    -- the digits above are as they were, and were noughts
    have hz : ∀ j, a + n + 1 ≤ j → ds.getD j 0 = 0 := by
      intro j hj
      rw [i3 j (by omega)]
      rcases Nat.lt_or_ge j (usedN us) with h | h
      · exfalso
        have h1 := H.num_ge_used hL (show 0 < usedN us by omega)
        have h2 := H.pw_mono (show a + n + 1 ≤ usedN us - 1 by omega)
        omega
      · exact usedN_beyond us j h
    have hu : usedN ds ≤ a + n + 1 := by
      rcases Nat.lt_or_ge (a + n + 1) (usedN ds) with h | h
      · have := usedN_top ds (by omega)
        exact absurd (hz _ (by omega)) this
      · exact h
    have h3 := H.num_lt_used i2
    have h4 := H.pw_mono hu
    rw [Int.one_mul] at i4
    omega
/-- The highest digit in which a row and the piece above it differ decides. -/
theorem seg_beyond {us ps : List Int} {a n : Nat} (hps : ps.length = n + 1) (j : Nat) (hj : n + 1 ≤ j) : ps.getD j 0 = ((us.drop a).take (n + 1)).getD j 0 := by
  rw [List.getD_eq_getElem?_getD, List.getElem?_eq_none (by omega), List.getD_eq_getElem?_getD, List.getElem?_eq_none (by rw [List.length_take]; omega)]
theorem seg_lt {us ps : List Int} {a n k : Nat} (hL : H.Limbs us) (hp : H.Limbs ps) (hps : ps.length = n + 1) (hk : k < n + 1) (h : ∀ j, k < j → j < n + 1 → ps.getD j 0 = us.getD (a + j) 0) (hlt : ps.getD k 0 < us.getD (a + k) 0) : H.num ps < H.num ((us.drop a).take (n + 1)) := by
  refine H.num_lt_at (t := k) hp ((hL.drop a).take _) (fun j hj => ?_) (by rw [getD_seg _ _ _ _ hk]; exact hlt)
  rcases Nat.lt_or_ge j (n + 1) with h' | h'
  · rw [getD_seg _ _ _ _ h']; exact h j hj h'
  · exact seg_beyond hps j h'
theorem seg_gt {us ps : List Int} {a n k : Nat} (hL : H.Limbs us) (hp : H.Limbs ps) (hps : ps.length = n + 1) (hk : k < n + 1) (h : ∀ j, k < j → j < n + 1 → ps.getD j 0 = us.getD (a + j) 0) (hlt : us.getD (a + k) 0 < ps.getD k 0) : H.num ((us.drop a).take (n + 1)) < H.num ps := by
  refine H.num_lt_at (t := k) ((hL.drop a).take _) hp (fun j hj => ?_) (by rw [getD_seg _ _ _ _ hk]; exact hlt)
  rcases Nat.lt_or_ge j (n + 1) with h' | h'
  · rw [getD_seg _ _ _ _ h']; exact (h j hj h').symm
  · exact (seg_beyond hps j h').symm
theorem seg_eq {us ps : List Int} {a n : Nat} (hps : ps.length = n + 1) (h : ∀ j, j < n + 1 → ps.getD j 0 = us.getD (a + j) 0) : H.num ps = H.num ((us.drop a).take (n + 1)) := by
  refine H.num_eq_of fun j => ?_
  rcases Nat.lt_or_ge j (n + 1) with h' | h'
  · rw [getD_seg _ _ _ _ h']; exact h j h'
  · exact seg_beyond hps j h'
theorem seg_le {us : List Int} {a n : Nat} {T : Int} (hL : H.Limbs us) (hlen : a + n + 1 ≤ us.length) (hN : H.num us < H.pw (a + n + 1)) (h : T ≤ H.num ((us.drop a).take (n + 1))) : T * H.pw a ≤ H.num us := by
  have e := H.num_seg hL hlen hN
  have h0 := H.num_nonneg (hL.take a)
  have h1 : T * H.pw a ≤ H.num ((us.drop a).take (n + 1)) * H.pw a := Int.mul_le_mul_of_nonneg_right h (Int.le_of_lt (H.pw_pos a))
  omega
theorem seg_above {us : List Int} {a n : Nat} {T : Int} (hL : H.Limbs us) (hlen : a + n + 1 ≤ us.length) (hN : H.num us < H.pw (a + n + 1)) (h : H.num ((us.drop a).take (n + 1)) < T) : H.num us < T * H.pw a := by
  have e := H.num_seg hL hlen hN
  have h0 := H.num_lt (hL.take a)
  rw [List.length_take, Nat.min_eq_left (by omega)] at h0
  have h1 : (H.num ((us.drop a).take (n + 1)) + 1) * H.pw a ≤ T * H.pw a := Int.mul_le_mul_of_nonneg_right (by omega) (Int.le_of_lt (H.pw_pos a))
  rw [Int.add_mul, Int.one_mul] at h1
  omega
theorem mul_digit {vs : List Int} {q : Int} {n : Nat} (hv : H.Limbs vs) (hl : vs.length = n) (hq : 0 ≤ q ∧ q < 4294967296) : H.num vs * q < H.pw (n + 1) := by
  have h0 := H.num_nonneg hv
  have h1 := H.num_lt hv
  rw [hl] at h1
  have hp := H.pw_pos n
  have h2 : H.num vs * q ≤ (H.pw n - 1) * 4294967295 := Int.mul_le_mul (by omega) (by omega) hq.1 (by omega)
  rw [H.pw]
  have e : (H.pw n - 1) * 4294967295 = H.pw n * 4294967295 - 4294967295 := by rw [Int.sub_mul, Int.one_mul]
  rw [e] at h2
  omega
end Go.Proofs.Ytkfpblonjinfmaa
namespace Go.Proofs.Ytkfpblonjinfmaa
open Go.RowKit Go.Shelf

theorem Own.far {w : World} {g b : Nat} {cs : List Int} (h : Own w b cs) (hne : b ≠ g) (i : Nat) (v : Value) : Own (w.setCell ⟨g, i, none⟩ v) b cs := by
  unfold Own at *
  rw [Below.heap_setCell _ _ _ _ hne]; exact h

set_option maxHeartbeats 2000000 in
theorem less_no (g m cu a : Nat) (us : List Int) (va : Option Addr) (n cv : Nat) (vs : List Int) (q : Int) (w : World) (ho : Own w g us) (hL : H.Limbs us) (hm : us.length = m) (hv : Sx g w va n vs) (hvL : H.Limbs vs) (hq : 0 ≤ q ∧ q < 4294967296) (hlen : a + n + 1 ≤ m) (hb : m ≤ 8000000000000) (hN : H.num us < H.pw (a + n + 1)) (hcase : H.num us < H.num vs * q * H.pw a) :
    Calls Try.prog 83 #[.slice (some ⟨g, 0, none⟩) m cu, .int .i64 a, .slice va n cv, .int .u64 q] w fun e w' => e = .returned (.bool false) ∧ Own w' g us ∧ Below w.heap.size w w' := by
  have hg : g < w.heap.size := by
    unfold Own at ho
    rcases Nat.lt_or_ge g w.heap.size with h' | h'
    · exact h'
    · rw [Array.getElem?_eq_none h'] at ho; cases ho
  have hvl := hv.1.1
  have TT := rdtimes_any va n cv vs q (n + 1) w hv.1 hvL (by omega) hq (by omega) (mul_digit hvL hvl hq)
  rw [show ((n + 1 : Nat) : Int) = (n : Int) + 1 by omega] at TT
  have HO : Hid (Own w g us) := ho
  have HN : Hid (H.num us < H.pw (a + n + 1)) := hN
  have HKS : Hid (H.num us < H.num vs * q * H.pw a) := hcase
  have HM : Hid (us.length = m) := hm
  have HVS : Hid (Sx g w va n vs) := hv
  have hlen2 : (a : Int) + n < m := by omega
  clear ho hN hcase hm hv
  go_enter Try.func83, Try.ntmps83
  go_wp2_with fail
  refine TT.mono ?_
  rintro e w1 ⟨ps, rfl, hop, hpL, hpl, hpn, b1⟩
  clear TT
  have HO1 : Hid (Own w1 g us) := (b1.block g hg).trans HO.out
  have HOP : Hid (Own w1 w.heap.size ps) := hop
  have HPN : Hid (H.num ps = H.num vs * q) := hpn
  have HPL : Hid (ps.length = n + 1) := hpl
  have hgp : g ≠ w.heap.size := by omega
  clear hpn hpl hop
  go_wp2_with fail
  go_loopw [10] (fun i wr => ∃ t : Nat, t ≤ n + 1 ∧ i = .int .i64 ((t : Int) - 1) ∧ Hid (∀ j, t ≤ j → j < n + 1 → ps.getD j 0 = us.getD (a + j) 0) ∧ ∃ d, wr = w1.drewN d) (fun i _ => (intOf i + 1).toNat)
  case atStart => exact ⟨n + 1, Nat.le_refl _, by rw [show (((n + 1 : Nat) : Int) - 1) = (n : Int) by omega], fun j h1 h2 => absurd h1 (by omega), 0, rfl⟩
  case round =>
    obtain ⟨t, ht, rfl, hI, d, rfl⟩ := hrel
    by_cases h0 : t = 0
    · subst h0
      have hseq := seg_eq (us := us) (a := a) HPL.out (fun j hj => hI.out j (by omega) hj)
      exfalso
      have h1 := seg_le hL (by rw [HM.out]; exact hlen) HN.out (Int.le_of_eq hseq)
      rw [HPN.out] at h1
      have h2 := HKS.out
      omega
    · obtain ⟨k, rfl⟩ : ∃ k, t = k + 1 := ⟨t - 1, by omega⟩
      have hcp := HOP.out.cell k (by rw [HPL.out]; omega)
      have hcx := HO1.out.cell (a + k) (by rw [HM.out]; omega)
      have m0 : IntKind.i64.wrap ((a : Int) + k) = a + k := by rw [IntKind.wrap_i64]; omega
      have m4 : ((a : Int) + k).toNat = a + k := by omega
      have m5 : (a : Int) + k < m := by omega
      have m6 : (k : Int) < n + 1 := by omega
      obtain ⟨p, hp⟩ : ∃ p, ps.getD k 0 = p := ⟨_, rfl⟩
      obtain ⟨x, hx⟩ : ∃ x, us.getD (a + k) 0 = x := ⟨_, rfl⟩
      rw [hp] at hcp
      rw [hx] at hcx
      have HP : Hid (ps.getD k 0 = p) := hp
      have HX : Hid (us.getD (a + k) 0 = x) := hx
      have HJ : Hid (∀ j, k < j → j < n + 1 → ps.getD j 0 = us.getD (a + j) 0) := fun j h1 h2 => hI.out j (by omega) h2
      rw [show (((k + 1 : Nat) : Int) - 1) = (k : Int) by omega]
      clear hp hx hI h0
      by_cases hlt : p < x
      · have hsl := seg_lt hL hpL HPL.out (show k < n + 1 by omega) HJ.out (by rw [HP.out, HX.out]; exact hlt)
        exfalso
        have h1 := seg_le hL (by rw [HM.out]; exact hlen) HN.out (Int.le_of_lt hsl)
        rw [HPN.out] at h1
        have h2 := HKS.out
        omega
      · by_cases hgt : x < p
        · have hsg := seg_gt hL hpL HPL.out (show k < n + 1 by omega) HJ.out (by rw [HP.out, HX.out]; exact hgt)
          clear hsg
          go_wp2_with fail
          go_quiet (fail)
          go_wp2_with fail
          go_quiet (fail)
          go_wp2_with fail
          go_ret
          exact ⟨rfl, HO1.out, below_drewN (below_drewN (below_drewN b1 _) _) _⟩
        · have HXY : Hid (p = x) := (by omega : p = x)
          go_wp2_with fail
          go_quiet (fail)
          go_wp2_with fail
          go_quiet (fail)
          go_wp2_with fail
          go_roundw
          case rel =>
            refine ⟨k, by omega, rfl, ?_, _, rfl⟩
            intro j h1 h2
            by_cases hj : j = k
            · rw [hj, HP.out, HX.out, HXY.out]
            · exact HJ.out j (by omega) h2
          case measure => simp [intOf]

set_option maxHeartbeats 2000000 in
theorem less_yes (g m cu a : Nat) (us : List Int) (va : Option Addr) (n cv : Nat) (vs : List Int) (q : Int) (w : World) (ho : Own w g us) (hL : H.Limbs us) (hm : us.length = m) (hv : Sx g w va n vs) (hvL : H.Limbs vs) (hq : 0 ≤ q ∧ q < 4294967296) (hlen : a + n + 1 ≤ m) (hb : m ≤ 8000000000000) (hN : H.num us < H.pw (a + n + 1)) (hcase : H.num vs * q * H.pw a ≤ H.num us) :
    Calls Try.prog 83 #[.slice (some ⟨g, 0, none⟩) m cu, .int .i64 a, .slice va n cv, .int .u64 q] w fun e w' => e = .returned (.bool true) ∧ ∃ ds, Own w' g ds ∧ H.Limbs ds ∧ ds.length = m ∧ H.num ds = H.num us - H.num vs * q * H.pw a ∧ Near g w w' := by
  have hg : g < w.heap.size := by
    unfold Own at ho
    rcases Nat.lt_or_ge g w.heap.size with h' | h'
    · exact h'
    · rw [Array.getElem?_eq_none h'] at ho; cases ho
  have hvl := hv.1.1
  have TT := rdtimes_any va n cv vs q (n + 1) w hv.1 hvL (by omega) hq (by omega) (mul_digit hvL hvl hq)
  rw [show ((n + 1 : Nat) : Int) = (n : Int) + 1 by omega] at TT
  have HO : Hid (Own w g us) := ho
  have HN : Hid (H.num us < H.pw (a + n + 1)) := hN
  have HKS : Hid (H.num vs * q * H.pw a ≤ H.num us) := hcase
  have HM : Hid (us.length = m) := hm
  have HVS : Hid (Sx g w va n vs) := hv
  have hlen2 : (a : Int) + n < m := by omega
  clear ho hN hcase hm hv
  go_enter Try.func83, Try.ntmps83
  go_wp2_with fail
  refine TT.mono ?_
  rintro e w1 ⟨ps, rfl, hop, hpL, hpl, hpn, b1⟩
  clear TT
  have HO1 : Hid (Own w1 g us) := (b1.block g hg).trans HO.out
  have HOP : Hid (Own w1 w.heap.size ps) := hop
  have HPN : Hid (H.num ps = H.num vs * q) := hpn
  have HPL : Hid (ps.length = n + 1) := hpl
  have hgp : g ≠ w.heap.size := by omega
  clear hpn hpl hop
  go_wp2_with fail
  go_loopw [10] (fun i wr => ∃ t : Nat, t ≤ n + 1 ∧ i = .int .i64 ((t : Int) - 1) ∧ Hid (∀ j, t ≤ j → j < n + 1 → ps.getD j 0 = us.getD (a + j) 0) ∧ ∃ d, wr = w1.drewN d) (fun i _ => (intOf i + 1).toNat)
  case atStart => exact ⟨n + 1, Nat.le_refl _, by rw [show (((n + 1 : Nat) : Int) - 1) = (n : Int) by omega], fun j h1 h2 => absurd h1 (by omega), 0, rfl⟩
  case round =>
    obtain ⟨t, ht, rfl, hI, d, rfl⟩ := hrel
    by_cases h0 : t = 0
    · subst h0
      have hseq := seg_eq (us := us) (a := a) HPL.out (fun j hj => hI.out j (by omega) hj)
      have HO2 : Hid (Own (w1.drewN d) g us) := HO1.out
      have HOP2 : Hid (Own (w1.drewN d) w.heap.size ps) := HOP.out
      have HNR : Hid (Near g w (w1.drewN d)) := (Near.of b1 (Nat.le_of_lt hg)).drewN d
      have HLE : Hid (H.num ps * H.pw a ≤ H.num us) := seg_le hL (by rw [HM.out]; exact hlen) HN.out (Int.le_of_eq hseq)
      clear hseq hI
      go_wp2_with fail
      generalize World.drewN w1 d = w2 at *
      go_loopw [11, 12] (fun cc ii wr => ∃ (i : Nat) (c : Int) (ds : List Int), ii = .int .i64 i ∧ cc = .int .u64 c ∧ i ≤ n + 1 ∧ Hid (LsInv us ps ds a i c) ∧ Hid (Own wr g ds) ∧ Hid (Own wr w.heap.size ps) ∧ Hid (Near g w wr)) (fun _ ii _ => n + 1 - (intOf ii).toNat)
      case atStart => exact ⟨0, 0, us, rfl, rfl, by omega, ls_start hL, HO2, HOP2, HNR⟩
      case round =>
        clear HO2 HOP2 HNR
        obtain ⟨i, c, ds, rfl, rfl, hi, hI, hO, hP, hR⟩ := hrel
        by_cases hin : i ≤ n
        · have hstep := ls_step hpL hI.out (by rw [HM.out]; omega)
          have hcx := hO.out.cell (a + i) (by rw [hI.out.1, HM.out]; omega)
          have hfx := hO.out.frozen (a + i)
          have hcp := hP.out.cell i (by rw [HPL.out]; omega)
          rw [hI.out.2.2.1 (a + i) (Nat.le_refl _)] at hcx
          have bx := hL.getD (a + i)
          have bp := hpL.getD i
          have hc0 := hI.out.2.2.2.2.1
          have hc1 := hI.out.2.2.2.2.2
          have n0 : IntKind.i64.wrap ((a : Int) + i) = a + i := by rw [IntKind.wrap_i64]; omega
          have n4 : ((a : Int) + i).toNat = a + i := by omega
          have n5 : (a : Int) + i < m := by omega
          have n6 : (i : Int) < n + 1 := by omega
          obtain ⟨y, hy⟩ : ∃ y, us.getD (a + i) 0 = y := ⟨_, rfl⟩
          obtain ⟨r, hr⟩ : ∃ r, ps.getD i 0 = r := ⟨_, rfl⟩
          rw [hy] at hcx bx hstep
          rw [hr] at hcp bp hstep
          obtain ⟨y1, y2⟩ := bx
          obtain ⟨r1, r2⟩ := bp
          obtain ⟨s, hs⟩ : ∃ s, 4294967296 + y - r - c = s := ⟨_, rfl⟩
          rw [hs] at hstep
          have s1 : 0 ≤ s := by omega
          have s2 : s < 8589934592 := by omega
          have ew1 : IntKind.u64.wrap (4294967296 + y) = 4294967296 + y := by rw [IntKind.wrap_u64]; omega
          have ew2 : IntKind.u64.wrap (4294967296 + y - r) = 4294967296 + y - r := by rw [IntKind.wrap_u64]; omega
          have ew3 : IntKind.u64.wrap (4294967296 + y - r - c) = s := by rw [hs, IntKind.wrap_u64]; omega
          have HS : Hid (LsInv us ps (ds.set (a + i) (s % 4294967296)) a (i + 1) (1 - s / 4294967296)) := hstep
          have HHS : Hid (4294967296 + y - r - c = s) := hs
          clear hstep hy hr hs
          go_wp2_with fail
          go_quiet (fail)
          clear ew1 ew2 ew3
          go_wp2_with fail
          go_roundw
          case rel => exact ⟨i + 1, _, _, by go_num, rfl, by omega, HS, Own.set (w := wr.drewN nq) hO.out (a + i) _, Own.far (w := wr.drewN nq) hP.out hgp.symm (a + i) _, Near.set (hR.out.drewN nq) (a + i) _⟩
          case measure => simp [intOf]; omega
        · obtain rfl : i = n + 1 := by omega
          have HE : Hid (H.num ds = H.num us - H.num vs * q * H.pw a) := by
            have := ls_end hL HN.out HPL.out hI.out HLE.out
            rw [HPN.out] at this; exact this
          obtain ⟨i1, i2, -⟩ := hI.out
          have HI1 : Hid (ds.length = us.length) := i1
          have q1 : ¬ (((n + 1 : Nat) : Int)) ≤ n := by omega
          clear i1
          go_wp2_with fail
          go_ret
          exact ⟨rfl, ds, hO.out, i2, by rw [HI1.out, HM.out], HE.out, hR.out⟩
    · obtain ⟨k, rfl⟩ : ∃ k, t = k + 1 := ⟨t - 1, by omega⟩
      have hcp := HOP.out.cell k (by rw [HPL.out]; omega)
      have hcx := HO1.out.cell (a + k) (by rw [HM.out]; omega)
      have m0 : IntKind.i64.wrap ((a : Int) + k) = a + k := by rw [IntKind.wrap_i64]; omega
      have m4 : ((a : Int) + k).toNat = a + k := by omega
      have m5 : (a : Int) + k < m := by omega
      have m6 : (k : Int) < n + 1 := by omega
      obtain ⟨p, hp⟩ : ∃ p, ps.getD k 0 = p := ⟨_, rfl⟩
      obtain ⟨x, hx⟩ : ∃ x, us.getD (a + k) 0 = x := ⟨_, rfl⟩
      rw [hp] at hcp
      rw [hx] at hcx
      have HP : Hid (ps.getD k 0 = p) := hp
      have HX : Hid (us.getD (a + k) 0 = x) := hx
      have HJ : Hid (∀ j, k < j → j < n + 1 → ps.getD j 0 = us.getD (a + j) 0) := fun j h1 h2 => hI.out j (by omega) h2
      rw [show (((k + 1 : Nat) : Int) - 1) = (k : Int) by omega]
      clear hp hx hI h0
      by_cases hlt : p < x
      · have hsl := seg_lt hL hpL HPL.out (show k < n + 1 by omega) HJ.out (by rw [HP.out, HX.out]; exact hlt)
        go_wp2_with fail
        go_quiet (fail)
        have HO2 : Hid (Own ((w1.drewN d).drewN nq) g us) := HO1.out
        have HOP2 : Hid (Own ((w1.drewN d).drewN nq) w.heap.size ps) := HOP.out
        have HNR : Hid (Near g w ((w1.drewN d).drewN nq)) := ((Near.of b1 (Nat.le_of_lt hg)).drewN d).drewN nq
        have HLE : Hid (H.num ps * H.pw a ≤ H.num us) := seg_le hL (by rw [HM.out]; exact hlen) HN.out (Int.le_of_lt hsl)
        clear hsl HJ HP HX hcp hcx m0 m4 m5 m6
        go_wp2_with fail
        generalize World.drewN (World.drewN w1 d) nq = w2 at *
        go_loopw [11, 12] (fun cc ii wr => ∃ (i : Nat) (c : Int) (ds : List Int), ii = .int .i64 i ∧ cc = .int .u64 c ∧ i ≤ n + 1 ∧ Hid (LsInv us ps ds a i c) ∧ Hid (Own wr g ds) ∧ Hid (Own wr w.heap.size ps) ∧ Hid (Near g w wr)) (fun _ ii _ => n + 1 - (intOf ii).toNat)
        case atStart => exact ⟨0, 0, us, rfl, rfl, by omega, ls_start hL, HO2, HOP2, HNR⟩
        case round =>
          clear HO2 HOP2 HNR
          obtain ⟨i, c, ds, rfl, rfl, hi, hI, hO, hP, hR⟩ := hrel
          by_cases hin : i ≤ n
          · have hstep := ls_step hpL hI.out (by rw [HM.out]; omega)
            have hcx := hO.out.cell (a + i) (by rw [hI.out.1, HM.out]; omega)
            have hfx := hO.out.frozen (a + i)
            have hcp := hP.out.cell i (by rw [HPL.out]; omega)
            rw [hI.out.2.2.1 (a + i) (Nat.le_refl _)] at hcx
            have bx := hL.getD (a + i)
            have bp := hpL.getD i
            have hc0 := hI.out.2.2.2.2.1
            have hc1 := hI.out.2.2.2.2.2
            have n0 : IntKind.i64.wrap ((a : Int) + i) = a + i := by rw [IntKind.wrap_i64]; omega
            have n4 : ((a : Int) + i).toNat = a + i := by omega
            have n5 : (a : Int) + i < m := by omega
            have n6 : (i : Int) < n + 1 := by omega
            obtain ⟨y, hy⟩ : ∃ y, us.getD (a + i) 0 = y := ⟨_, rfl⟩
            obtain ⟨r, hr⟩ : ∃ r, ps.getD i 0 = r := ⟨_, rfl⟩
            rw [hy] at hcx bx hstep
            rw [hr] at hcp bp hstep
            obtain ⟨y1, y2⟩ := bx
            obtain ⟨r1, r2⟩ := bp
            obtain ⟨s, hs⟩ : ∃ s, 4294967296 + y - r - c = s := ⟨_, rfl⟩
            rw [hs] at hstep
            have s1 : 0 ≤ s := by omega
            have s2 : s < 8589934592 := by omega
            have ew1 : IntKind.u64.wrap (4294967296 + y) = 4294967296 + y := by rw [IntKind.wrap_u64]; omega
            have ew2 : IntKind.u64.wrap (4294967296 + y - r) = 4294967296 + y - r := by rw [IntKind.wrap_u64]; omega
            have ew3 : IntKind.u64.wrap (4294967296 + y - r - c) = s := by rw [hs, IntKind.wrap_u64]; omega
            have HS : Hid (LsInv us ps (ds.set (a + i) (s % 4294967296)) a (i + 1) (1 - s / 4294967296)) := hstep
            have HHS : Hid (4294967296 + y - r - c = s) := hs
            clear hstep hy hr hs
            go_wp2_with fail
            go_quiet (fail)
            clear ew1 ew2 ew3
            go_wp2_with fail
            go_roundw
            case rel => exact ⟨i + 1, _, _, by go_num, rfl, by omega, HS, Own.set (w := wr.drewN nq) hO.out (a + i) _, Own.far (w := wr.drewN nq) hP.out hgp.symm (a + i) _, Near.set (hR.out.drewN nq) (a + i) _⟩
            case measure => simp [intOf]; omega
          · obtain rfl : i = n + 1 := by omega
            have HE : Hid (H.num ds = H.num us - H.num vs * q * H.pw a) := by
              have := ls_end hL HN.out HPL.out hI.out HLE.out
              rw [HPN.out] at this; exact this
            obtain ⟨i1, i2, -⟩ := hI.out
            have HI1 : Hid (ds.length = us.length) := i1
            have q1 : ¬ (((n + 1 : Nat) : Int)) ≤ n := by omega
            clear i1
            go_wp2_with fail
            go_ret
            exact ⟨rfl, ds, hO.out, i2, by rw [HI1.out, HM.out], HE.out, hR.out⟩
      · by_cases hgt : x < p
        · have hsg := seg_gt hL hpL HPL.out (show k < n + 1 by omega) HJ.out (by rw [HP.out, HX.out]; exact hgt)
          exfalso
          have h1 := seg_above hL (by rw [HM.out]; exact hlen) HN.out hsg
          rw [HPN.out] at h1
          have h2 := HKS.out
          omega
        · have HXY : Hid (p = x) := (by omega : p = x)
          go_wp2_with fail
          go_quiet (fail)
          go_wp2_with fail
          go_quiet (fail)
          go_wp2_with fail
          go_roundw
          case rel =>
            refine ⟨k, by omega, rfl, ?_, _, rfl⟩
            intro j h1 h2
            by_cases hj : j = k
            · rw [hj, HP.out, HX.out, HXY.out]
            · exact HJ.out j (by omega) h2
          case measure => simp [intOf]
end Go.Proofs.Ytkfpblonjinfmaa
namespace Go.Proofs.Ytkfpblonjinfmaa
open Go.RowKit Go.Shelf

/-- The factor by which both are made greater. -/
theorem scale_facts {y s : Int} (h0 : 0 < y) (h1 : y < 4294967296) (hs : s = 4294967296 / (y + 1)) : 1 ≤ s ∧ s < 4294967296 ∧ s * (y + 1) ≤ 4294967296 := by
  have hm := Int.mul_ediv_add_emod 4294967296 (y + 1)
  have hr := Int.emod_nonneg 4294967296 (show y + 1 ≠ 0 by omega)
  have hl := Int.emod_lt_of_pos 4294967296 (show 0 < y + 1 by omega)
  rw [← hs] at hm
  have e : (y + 1) * s = s * (y + 1) := Int.mul_comm _ _
  have h2 : 1 ≤ s := by
    rcases Int.lt_or_le s 1 with h | h
    · have : s * (y + 1) ≤ 0 * (y + 1) := Int.mul_le_mul_of_nonneg_right (by omega) (by omega)
      omega
    · exact h
  have h3 : s * 2 ≤ s * (y + 1) := Int.mul_le_mul_of_nonneg_left (by omega) (by omega)
  exact ⟨h2, by omega, by omega⟩
theorem Htop (ys : List Int) (n : Nat) (h : ys.length = n + 1) : H.num ys = H.num (ys.take n) + ys.getD n 0 * H.pw n := by
  have := H.num_take_succ ys n
  rwa [List.take_of_length_le (by omega)] at this
theorem Htake_lt {cs : List Int} (h : H.Limbs cs) (n : Nat) : H.num (cs.take n) < H.pw n := by
  have h1 := H.num_lt (h.take n)
  have h2 := H.pw_mono (show (cs.take n).length ≤ n from List.length_take_le _ _)
  omega
theorem scaled_fits {ys : List Int} {n : Nat} {s : Int} (hy : H.Limbs ys) (hl : ys.length = n + 1) (hs0 : 1 ≤ s) (hs : s * (ys.getD n 0 + 1) ≤ 4294967296) : H.num ys * s < H.pw (n + 1) := by
  have e := Htop ys n hl
  have h1 := Htake_lt hy n
  have hp := H.pw_pos n
  have h2 : H.num ys < (ys.getD n 0 + 1) * H.pw n := by rw [Int.add_mul, Int.one_mul]; omega
  have h3 : H.num ys * s < (ys.getD n 0 + 1) * H.pw n * s := Int.mul_lt_mul_of_pos_right h2 (by omega)
  have h4 : (ys.getD n 0 + 1) * H.pw n * s = s * (ys.getD n 0 + 1) * H.pw n := by grind
  have h5 : s * (ys.getD n 0 + 1) * H.pw n ≤ 4294967296 * H.pw n := Int.mul_le_mul_of_nonneg_right hs (Int.le_of_lt hp)
  rw [H.pw]; omega
/-- What holds ahead of the place t - 1. -/
def LgInv (X V : Int) (us os : List Int) (l k t : Nat) : Prop :=
  us.length = l ∧ H.Limbs us ∧ os.length = k ∧ H.Limbs os ∧ H.num us + H.num (os.drop t) * H.pw t * V = X ∧ H.num us < V * H.pw t
theorem lg_start {xs ys us vs : List Int} {la n k : Nat} {s : Int} (hx : H.Limbs xs) (hy : H.Limbs ys) (hxl : xs.length = la) (hyu : usedN ys = n) (hn : 0 < n) (hk : k = la - n + 1) (hnl : n ≤ la) (hs0 : 1 ≤ s)
    (hu : H.num us = H.num xs * s) (hv : H.num vs = H.num ys * s) (hul : us.length = la + 1) (huL : H.Limbs us) : LgInv (H.num xs * s) (H.num vs) us (List.replicate k 0) (la + 1) k k := by
  have e2 : (List.replicate k (0 : Int)).drop k = [] := List.drop_eq_nil_of_le (by simp)
  refine ⟨hul, huL, by simp, H.Limbs.zeros _, by rw [e2]; simp [H.num, hu], ?_⟩
  have h1 := H.num_lt hx
  rw [hxl] at h1
  have h2 := H.num_ge_used hy (by omega)
  rw [hyu] at h2
  have e3 : H.pw la = H.pw (n - 1) * H.pw k := by rw [← H.pw_add]; congr 1; omega
  have hp := H.pw_pos k
  have h3 : H.pw (n - 1) * H.pw k ≤ H.num ys * H.pw k := Int.mul_le_mul_of_nonneg_right h2 (Int.le_of_lt hp)
  have h4 : H.num xs * s < H.num ys * H.pw k * s := Int.mul_lt_mul_of_pos_right (by omega) (by omega)
  rw [hu, hv]
  have e4 : H.num ys * s * H.pw k = H.num ys * H.pw k * s := Int.mul_right_comm _ _ _
  omega
/-- The place's digit, and that it is not above the guess. -/
theorem lg_digit {N V P : Int} (hN : 0 ≤ N) (hV : 0 < V) (hP : 0 < P) (hlt : N < V * (4294967296 * P)) :
    ∃ Q : Int, 0 ≤ Q ∧ Q < 4294967296 ∧ V * Q * P ≤ N ∧ N < V * (Q + 1) * P ∧ (∀ q : Int, V * q * P ≤ N → q ≤ Q) := by
  have hVP : 0 < V * P := Int.mul_pos hV hP
  have hm := Int.mul_ediv_add_emod N (V * P)
  have hr := Int.emod_nonneg N (show V * P ≠ 0 by omega)
  have hl := Int.emod_lt_of_pos N hVP
  have e1 : ∀ q : Int, V * q * P = V * P * q := fun q => by grind
  refine ⟨N / (V * P), Int.ediv_nonneg hN (Int.le_of_lt hVP), ?_, ?_, ?_, ?_⟩
  · apply Int.ediv_lt_of_lt_mul hVP
    have : 4294967296 * (V * P) = V * (4294967296 * P) := by grind
    omega
  · rw [e1]; omega
  · rw [e1, Int.mul_add, Int.mul_one]; omega
  · intro q hq
    rw [e1] at hq
    apply Int.le_ediv_of_mul_le hVP
    rw [Int.mul_comm]; exact hq
theorem lg_guess {us vs : List Int} {k n : Nat} {Q : Int} (hL : H.Limbs us) (hv : H.Limbs vs) (hvl : vs.length = n + 1) (hlen : k + n + 2 ≤ us.length) (hN : H.num us < H.pw (k + (n + 1) + 1)) (hQ0 : 0 ≤ Q) (hQ : H.num vs * Q * H.pw k ≤ H.num us) (htop : 0 < vs.getD n 0) :
    Q ≤ (us.getD (k + (n + 1)) 0 * 4294967296 + us.getD (k + (n + 1) - 1) 0) / vs.getD n 0 := by
  have e := H.num_seg (us := us) (a := k + n) (n := 1) hL (by omega) (by rw [show k + n + 1 + 1 = k + (n + 1) + 1 by omega]; exact hN)
  have h0 := Htake_lt hL (k + n)
  have e2 : H.num ((us.drop (k + n)).take (1 + 1)) = us.getD (k + (n + 1)) 0 * 4294967296 + us.getD (k + (n + 1) - 1) 0 := by
    have e3 := H.num_take_succ (us.drop (k + n)) 1
    have e4 := H.num_take_succ (us.drop (k + n)) 0
    rw [e3, e4, getD_drop, getD_drop]
    simp only [List.take_zero, H.num, H.pw]
    rw [show k + n + 0 = k + (n + 1) - 1 by omega, show k + n + 1 = k + (n + 1) by omega]
    omega
  rw [e2] at e
  obtain ⟨T, hT⟩ : ∃ T, us.getD (k + (n + 1)) 0 * 4294967296 + us.getD (k + (n + 1) - 1) 0 = T := ⟨_, rfl⟩
  rw [hT] at e ⊢
  have e5 := Htop vs n hvl
  have h5 := H.num_nonneg (hv.take n)
  have hpk := H.pw_pos k
  have hpn := H.pw_pos n
  have h6 : vs.getD n 0 * H.pw n * (Q * H.pw k) ≤ H.num vs * (Q * H.pw k) := Int.mul_le_mul_of_nonneg_right (by omega) (Int.mul_nonneg hQ0 (Int.le_of_lt hpk))
  have e6 : vs.getD n 0 * H.pw n * (Q * H.pw k) = Q * vs.getD n 0 * H.pw (k + n) := by rw [H.pw_add]; grind
  have e7 : H.num vs * (Q * H.pw k) = H.num vs * Q * H.pw k := by grind
  have h7 : Q * vs.getD n 0 * H.pw (k + n) < (T + 1) * H.pw (k + n) := by rw [Int.add_mul, Int.one_mul]; omega
  have h8 := Int.lt_of_mul_lt_mul_right h7 (Int.le_of_lt (H.pw_pos (k + n)))
  apply Int.le_ediv_of_mul_le htop
  omega
theorem lg_step {X V : Int} {us ds os : List Int} {l m k : Nat} {Q : Int} (I : LgInv X V us os l m (k + 1)) (hk : k < m) (hdl : ds.length = l) (hdL : H.Limbs ds) (hd : H.num ds = H.num us - V * Q * H.pw k) (hQ : 0 ≤ Q ∧ Q < 4294967296) (hlt : H.num us < V * (Q + 1) * H.pw k) :
    LgInv X V ds (os.set k Q) l m k := by
  obtain ⟨i1, i2, i3, i4, i5, i6⟩ := I
  refine ⟨hdl, hdL, by rw [List.length_set]; exact i3, i4.set k hQ, ?_, ?_⟩
  · rw [Hnum_set_drop _ _ _ (by omega), hd, ← i5, H.pw]
    grind
  · have : V * (Q + 1) * H.pw k = V * Q * H.pw k + V * H.pw k := by grind
    omega
theorem lg_end {x y s q r : Int} (hs : 1 ≤ s) (h1 : r + q * 1 * (y * s) = x * s) (h2 : r < y * s * 1) (h0 : 0 ≤ r) : x = q * y + r / s ∧ r / s < y ∧ 0 ≤ r / s ∧ r % s = 0 := by
  have e : r = (x - q * y) * s := by grind
  have e2 : r / s = x - q * y := by rw [e, Int.mul_ediv_cancel _ (by omega)]
  rw [e2]
  refine ⟨by omega, ?_, ?_, by rw [e]; exact Int.mul_emod_left _ _⟩
  · rw [e, Int.mul_one] at h2; exact Int.lt_of_mul_lt_mul_right h2 (by omega)
  · rcases Int.lt_or_le (x - q * y) 0 with h | h
    · have : (x - q * y) * s < 0 := Int.mul_neg_of_neg_of_pos h (by omega)
      omega
    · exact h
end Go.Proofs.Ytkfpblonjinfmaa
namespace Go.Proofs.Ytkfpblonjinfmaa
open Go.RowKit Go.Shelf
set_option linter.unusedVariables false

theorem Own.aft {w w' : World} {b : Nat} {cs : List Int} (h : Own w b cs) (hb : Below w.heap.size w w') : Own w' b cs := by
  have hlt : b < w.heap.size := by
    unfold Own at h
    rcases Nat.lt_or_ge b w.heap.size with h' | h'
    · exact h'
    · rw [Array.getElem?_eq_none h'] at h; cases h
  unfold Own at *
  rw [hb.block b hlt]; exact h
theorem Own.blt {w : World} {b : Nat} {cs : List Int} (h : Own w b cs) : b < w.heap.size := by
  unfold Own at h
  rcases Nat.lt_or_ge b w.heap.size with h' | h'
  · exact h'
  · rw [Array.getElem?_eq_none h'] at h; cases h
theorem Own.sx {w : World} {b g n : Nat} {cs : List Int} (h : Own w b cs) (hL : H.Limbs cs) (hl : cs.length = n) (hne : b ≠ g) : Sx g w (some ⟨b, 0, none⟩) n cs :=
  ⟨by rw [← hl]; exact h.sl hL.up, fun _ p hp => by cases hp; exact hne⟩

set_option maxHeartbeats 4000000 in
theorem rlongd_any (a b : Option Addr) (la ca n cb : Nat) (xs ys : List Int) (w : World) (ha : Sl w a la xs) (hb : Sl w b (n + 1) ys) (hx : H.Limbs xs) (hy : H.Limbs ys) (uy : usedN ys = n + 1) (hnl : n + 1 ≤ la) (h1 : la ≤ 4000000000000) :
    Calls Try.prog 67 #[.slice a la ca, .slice b (n + 1) cb] w fun e w' =>
      ∃ a1 m1 c1 qs a2 m2 c2 rs, e = .returned (.tuple #[.slice a1 m1 c1, .slice a2 m2 c2]) ∧ Sl w' a1 m1 qs ∧ H.Limbs qs ∧ m1 ≤ la ∧ Sl w' a2 m2 rs ∧ H.Limbs rs ∧ m2 ≤ la + 1 ∧ H.num xs = H.num qs * H.num ys + H.num rs ∧ 0 ≤ H.num rs ∧ H.num rs < H.num ys ∧ Below w.heap.size w w' := by
  have hza := ha.1; have hzb := hb.1
  have hyt := hy.getD n
  have hyt0 : ys.getD n 0 ≠ 0 := by have := usedN_top ys (by omega); rwa [uy, Nat.add_sub_cancel] at this
  obtain ⟨bb, ob, rfl, hcb⟩ := hb.2.2 (by omega)
  have hcy := hcb n (by omega)
  obtain ⟨y, hyy⟩ : ∃ y, ys.getD n 0 = y := ⟨_, rfl⟩
  rw [hyy] at hcy hyt hyt0
  obtain ⟨yt1, yt2⟩ := hyt
  have y0 : 0 < y := by omega
  obtain ⟨s, hs⟩ : ∃ s, 4294967296 / (y + 1) = s := ⟨_, rfl⟩
  obtain ⟨s1, s2, s3⟩ := scale_facts y0 yt2 hs.symm
  have gy : (y + 1 == 0) = false := by simp; omega
  have TX := rdtimes_any a la ca xs s (la + 1) w ha hx (by omega) ⟨by omega, s2⟩ (by omega) (mul_digit hx hza ⟨by omega, s2⟩)
  rw [show ((la + 1 : Nat) : Int) = (la : Int) + 1 by omega] at TX
  have HTY : Hid (∀ W, Below w.heap.size w W → Calls Try.prog 82 #[.slice (some ⟨bb, ob, none⟩) (n + 1) cb, .int .u64 s, .int .i64 ((n : Int) + 1)] W fun e w' => ∃ ds, e = .returned (.slice (some ⟨W.heap.size, 0, none⟩) (n + 1) (n + 1)) ∧ Own w' W.heap.size ds ∧ H.Limbs ds ∧ ds.length = n + 1 ∧ H.num ds = H.num ys * s ∧ Below W.heap.size W w') := by
    intro W B
    have T := rdtimes_any (some ⟨bb, ob, none⟩) (n + 1) cb ys s (n + 1) W (hb.below B (Nat.le_refl _)) hy (by omega) ⟨by omega, s2⟩ (Nat.le_refl _) (scaled_fits hy hzb s1 (by rw [hyy]; exact s3))
    rw [show ((n + 1 : Nat) : Int) = (n : Int) + 1 by omega] at T
    exact T
  have hmk := make_row (la - (n + 1) + 1) (by omega)
  have ek : ((la - (n + 1) + 1 : Nat) : Int) = (la : Int) - (n + 1) + 1 := by omega
  rw [ek] at hmk
  have HYN : Hid (H.pw n ≤ H.num ys) := by
    have := H.num_ge_used hy (by omega)
    rwa [uy, Nat.add_sub_cancel] at this
  have HST : Hid (∀ us vs, H.num us = H.num xs * s → H.num vs = H.num ys * s → us.length = la + 1 → H.Limbs us → LgInv (H.num xs * s) (H.num vs) us (List.replicate (la - (n + 1) + 1) 0) (la + 1) (la - (n + 1) + 1) (la - (n + 1) + 1)) :=
    fun us vs e1 e2 e3 e4 => lg_start hx hy hza uy (by omega) rfl hnl s1 e1 e2 e3 e4
  obtain ⟨K, hK⟩ : ∃ K, la - (n + 1) + 1 = K := ⟨_, rfl⟩
  have eK : (la : Int) - (n + 1) + 1 = K := by omega
  have eK2 : (la : Int) - (n + 1) = (K : Int) - 1 := by omega
  have hKla : K ≤ la := by omega
  have hKn : K + n = la := by omega
  rw [hK] at hmk HST
  rw [eK] at hmk
  have EYY : Hid (ys.getD n 0 = y) := hyy
  have nn : ((n : Int) + 1 - 1).toNat = n := by omega
  clear hK ek ha hb hcb hyy
  go_enter Try.func67, Try.ntmps67
  go_wp2_with fail
  refine TX.mono ?_
  rintro e w1 ⟨us0, rfl, hou, huL, hul, hun, b1⟩
  clear TX
  go_wp2_with fail
  refine (HTY.out w1 b1).mono ?_
  rintro e w2 ⟨vs, rfl, hov, hvL, hvl, hvn, b2⟩
  have LT1 := hou.blt
  have LT2 := hov.blt
  replace hou := hou.aft b2
  go_wp2_with fail
  clear hmk
  refine ent1 w2 _ _ (Q := fun W => Code.wp Try.prog _ _ _ W) ?_
  intro w3 b3 hs3 V3
  have O3 : Own w3 w2.heap.size (List.replicate K 0) := V3
  replace hou := hou.aft b3
  replace hov := hov.aft b3
  have HI0 : Hid (LgInv (H.num xs * s) (H.num vs) us0 (List.replicate K 0) (la + 1) K K) := HST.out us0 vs hun hvn hul huL
  have hV0 : H.pw n ≤ H.num vs := by
    rw [hvn]
    have h5 := HYN.out
    have h6 := H.pw_pos n
    have : H.num ys * 1 ≤ H.num ys * s := Int.mul_le_mul_of_nonneg_left s1 (by omega)
    omega
  have hvt : 0 < vs.getD n 0 := by
    have e1 := Htop vs n hvl
    have e2 := Htake_lt hvL n
    have e3 := hvL.getD n
    rcases Int.lt_or_le 0 (vs.getD n 0) with h | h
    · exact h
    · have : vs.getD n 0 = 0 := by omega
      rw [this] at e1; omega
  have HV0 : Hid (0 < H.num vs) := by show _ < _; have := H.pw_pos n; omega
  have HVP : Hid (H.num vs < H.pw (n + 1)) := by have := H.num_lt hvL; rwa [hvl] at this
  have HVN : Hid (H.num vs = H.num ys * s) := hvn
  have HVL : Hid (vs.length = n + 1) := hvl
  have hvb := hvL.getD n
  have BW : Hid (Below w.heap.size w w3) := step (step b1 b2) b3
  have HOU : Hid (Own w3 w.heap.size us0) := hou
  have HOV : Hid (Own w3 w1.heap.size vs) := hov
  have HOO : Hid (Own w3 w2.heap.size (List.replicate K 0)) := O3
  have ne1 : w1.heap.size ≠ w.heap.size := by omega
  have ne2 : w2.heap.size ≠ w.heap.size := by omega
  clear b1 b2 b3 hs3 V3 hou hov O3 hun hul huL hvn hvl hV0 HST HTY HYN
  go_loopw [10] (fun i wr => ∃ (t : Nat) (us os : List Int), i = .int .i64 ((t : Int) - 1) ∧ t ≤ K ∧ Hid (LgInv (H.num xs * s) (H.num vs) us os (la + 1) K t) ∧ Hid (Own wr w.heap.size us) ∧ Hid (Own wr w1.heap.size vs) ∧ Hid (Own wr w2.heap.size os) ∧ Hid (Below w.heap.size w wr)) (fun i _ => (intOf i + 1).toNat)
  case atStart => exact ⟨K, us0, _, rfl, Nat.le_refl _, HI0, HOU, HOV, HOO, BW⟩
  case round =>
    clear HI0 HOU HOV HOO BW
    obtain ⟨t, us, os, rfl, ht, hI, hU, hVV, hOO, hBW⟩ := hrel
    by_cases h0 : t = 0
    · subst h0
      obtain ⟨i1, i2, i3, i4, i5, i6⟩ := hI.out
      have hN0 := H.num_nonneg i2
      rw [HVN.out, List.drop_zero] at i5
      rw [HVN.out] at i6
      simp only [H.pw] at i5 i6
      obtain ⟨r1, r2, r3, r4⟩ := lg_end s1 i5 i6 hN0
      have hsu := hU.out.sl i2.up
      rw [i1] at hsu
      have hso := hOO.out.sl i4.up
      rw [i3] at hso
      have hu1 := usedN_le us
      have hu2 := usedN_le os
      have hu3 : usedN us ≤ la + 1 := by omega
      have hu4 : usedN os ≤ K := by omega
      have HR : Hid (H.num xs = H.num os * H.num ys + H.num us / s ∧ H.num us / s < H.num ys ∧ 0 ≤ H.num us / s) := ⟨r1, r2, r3⟩
      clear i1 i3 i5 i6 hN0 r1 r2 r3 r4 hI
      go_wp2_with fail
      refine (cutr_any (some ⟨w.heap.size, 0, none⟩) (la + 1) (la + 1) us _ hsu (by omega) (Nat.le_refl _)).mono ?_
      rintro e w5 ⟨rfl, hw⟩
      rw [hw]
      clear hw
      go_wp2_with fail
      refine (rshort_any (some ⟨w.heap.size, 0, none⟩) (usedN us) (la + 1) (us.take (usedN us)) s _ (hsu.take hu3) (i2.take _) (by omega) (by omega) s2).mono ?_
      rintro e w6 ⟨a6, m6, c6, d6, r6, rfl, k6, l6, t6, L6, u6, n6, p6, q6, b6⟩
      replace hso := hso.below b6 (Nat.le_refl _)
      have N6 : Hid (H.num d6 = H.num us / s) := by
        show _ = _
        rw [H.num_take_used us (Nat.le_refl _)] at n6
        rw [n6, Int.add_comm, Int.add_mul_ediv_right _ _ (by omega), Int.ediv_eq_zero_of_lt p6 q6, Int.zero_add]
      clear n6
      go_wp2_with fail
      refine (cutr_any (some ⟨w2.heap.size, 0, none⟩) K K os _ hso (by omega) (Nat.le_refl _)).mono ?_
      rintro e w7 ⟨rfl, hw⟩
      rw [hw]
      clear hw
      go_wp2_with fail
      go_ret2
      exact ⟨_, usedN os, K, os.take (usedN os), a6, m6, c6, d6, rfl, hso.take hu4, i4.take _, by omega, t6, L6, by omega, by rw [H.num_take_used os (Nat.le_refl _), N6.out]; exact HR.out.1, by rw [N6.out]; exact HR.out.2.2, by rw [N6.out]; exact HR.out.2.1, step hBW.out b6⟩
    · obtain ⟨k, rfl⟩ : ∃ k, t = k + 1 := ⟨t - 1, by omega⟩
      rw [show (((k + 1 : Nat) : Int) - 1) = (k : Int) by omega]
      have hI' := hI.out
      obtain ⟨i1, i2, i3, i4, i5, i6⟩ := hI'
      have hN0 := H.num_nonneg i2
      have hNP : H.num us < H.pw (k + (n + 1) + 1) := by
        have h5 := HVP.out
        have h6 := H.pw_pos (k + 1)
        have h7 : H.num vs * H.pw (k + 1) ≤ H.pw (n + 1) * H.pw (k + 1) := Int.mul_le_mul_of_nonneg_right (by omega) (by omega)
        rw [← H.pw_add, show n + 1 + (k + 1) = k + (n + 1) + 1 by omega] at h7
        omega
      obtain ⟨Q, Q0, Q1, Q2, Q3, Q4⟩ := lg_digit hN0 HV0.out (H.pw_pos k) (by rw [H.pw] at i6; exact i6)
      have hG := lg_guess i2 hvL HVL.out (show k + n + 2 ≤ us.length by omega) hNP Q0 Q2 hvt
      rw [show k + (n + 1) - 1 = k + n by omega] at hG
      have hc1 := hU.out.cell (k + (n + 1)) (by rw [i1]; omega)
      have hc0 := hU.out.cell (k + n) (by rw [i1]; omega)
      have bx1 := i2.getD (k + (n + 1))
      have bx0 := i2.getD (k + n)
      have hcv := hVV.out.cell n (by rw [HVL.out]; omega)
      obtain ⟨x1, hx1⟩ : ∃ x, us.getD (k + (n + 1)) 0 = x := ⟨_, rfl⟩
      obtain ⟨x0, hx0⟩ : ∃ x, us.getD (k + n) 0 = x := ⟨_, rfl⟩
      obtain ⟨vt, hvt'⟩ : ∃ v, vs.getD n 0 = v := ⟨_, rfl⟩
      rw [hx1] at hc1 bx1 hG
      rw [hx0] at hc0 bx0 hG
      rw [hvt'] at hcv hG
      have vt0 : 0 < vt := by rw [← hvt']; exact hvt
      have vt1 : vt < 4294967296 := by rw [← hvt']; exact hvb.2
      obtain ⟨T, hT⟩ : ∃ T, x1 * 4294967296 + x0 = T := ⟨_, rfl⟩
      rw [hT] at hG
      obtain ⟨f1, f2⟩ := bx1
      obtain ⟨f3, f4⟩ := bx0
      have T0 : 0 ≤ T := by omega
      have T1 : T < 18446744073709551616 := by omega
      have m0 : IntKind.i64.wrap ((k : Int) + (n + 1)) = k + (n + 1) := by rw [IntKind.wrap_i64]; omega
      have m1 : IntKind.i64.wrap ((k : Int) + (n + 1) - 1) = k + n := by rw [IntKind.wrap_i64]; omega
      have m1' : IntKind.i64.wrap ((k : Int) + n) = k + n := by rw [IntKind.wrap_i64]; omega
      have m2 : ((k : Int) + (n + 1)).toNat = k + (n + 1) := by omega
      have m3 : ((k : Int) + n).toNat = k + n := by omega
      have m4 : (k : Int) + (n + 1) < la + 1 := by omega
      have m5 : (k : Int) + n < la + 1 := by omega
      have m6 : 0 ≤ (k : Int) + n := by omega
      have w1' : IntKind.u64.wrap (x1 * 4294967296) = x1 * 4294967296 := by rw [IntKind.wrap_u64]; omega
      have w2' : IntKind.u64.wrap (x1 * 4294967296 + x0) = T := by rw [hT, IntKind.wrap_u64]; omega
      have gv : (vt == 0) = false := by simp; omega
      have HIV : Hid (LgInv (H.num xs * s) (H.num vs) us os (la + 1) K (k + 1)) := hI
      have HNP : Hid (H.num us < H.pw (k + (n + 1) + 1)) := hNP
      have HQ : Hid (H.num vs * Q * H.pw k ≤ H.num us ∧ H.num us < H.num vs * (Q + 1) * H.pw k ∧ (∀ q : Int, H.num vs * q * H.pw k ≤ H.num us → q ≤ Q)) := ⟨Q2, Q3, Q4⟩
      have HQ1 : Hid (0 ≤ Q ∧ Q < 4294967296) := ⟨Q0, Q1⟩
      have d0 : 0 ≤ T / vt := Int.ediv_nonneg T0 (by omega)
      have d1 : T / vt < 18446744073709551616 := by
        have := Int.ediv_le_self vt T0
        omega
      obtain ⟨D, hD⟩ : ∃ D, T / vt = D := ⟨_, rfl⟩
      rw [hD] at hG d0 d1
      obtain ⟨q0, hq0⟩ : ∃ q, min D 4294967295 = q := ⟨_, rfl⟩
      have HQ0 : Hid (Q ≤ q0 ∧ q0 < 4294967296) := by show _ ∧ _; omega
      have HU1 : Hid (us.length = la + 1) := i1
      have HOS : Hid (os.length = K) := i3
      clear i1 i3 i5 i6 hN0 hNP Q2 Q3 Q4 hx1 hx0 hI h0 Q0 Q1 hG
      go_wp2_with fail
      go_quiet (fail)
      clear w1' w2'
      have HU2 : Hid (Own (wr.drewN nq) w.heap.size us) := hU
      have HV2 : Hid (Own (wr.drewN nq) w1.heap.size vs) := hVV
      have HO2 : Hid (Own (wr.drewN nq) w2.heap.size os) := hOO
      have HB2 : Hid (Below w.heap.size w (wr.drewN nq)) := below_drewN hBW.out nq
      clear hU hVV hOO hBW hc1 hc0
      go_wp2_with fail
      generalize wr.drewN nq = w4 at *
      clear hcv hT hD
      go_loopw [12] (fun qq wx => ∃ q : Int, qq = .int .u64 q ∧ Hid (Q ≤ q ∧ q < 4294967296) ∧ Hid (Own wx w.heap.size us) ∧ Hid (Own wx w1.heap.size vs) ∧ Hid (Own wx w2.heap.size os) ∧ Hid (Below w.heap.size w wx)) (fun qq _ => (intOf qq).toNat)
      case atStart => exact ⟨q0, rfl, HQ0, HU2, HV2, HO2, HB2⟩
      case round =>
        clear HU2 HV2 HO2 HB2 HQ0 hq0
        obtain ⟨q, rfl, hqq, hU3, hV3, hO3, hB3⟩ := hrel
        have qq1 := hqq.out.1
        have qq2 := hqq.out.2
        have Q00 := HQ1.out.1
        by_cases hle : H.num vs * q * H.pw k ≤ H.num us
        · have hqe : q ≤ Q := HQ.out.2.2 q hle
          obtain rfl : q = Q := by omega
          have LY := less_yes w.heap.size (la + 1) (la + 1) k us (some ⟨w1.heap.size, 0, none⟩) (n + 1) (n + 1) vs q wr hU3.out i2 HU1.out (hV3.out.sx hvL HVL.out ne1) hvL ⟨by omega, by omega⟩ (by omega) (by omega) HNP.out hle
          have HLY : Hid (Calls Try.prog _ _ _ _) := LY
          clear hle LY hqe
          go_wp2_with fail
          refine HLY.out.mono ?_
          rintro e w5 ⟨rfl, ds, hD5, hdL, hdl, hdn, nr⟩
          have O5 := Own.near hO3.out nr ne2
          have V5 := Own.near hV3.out nr ne1
          have hco := O5.cell k (by rw [HOS.out]; omega)
          have hfo := O5.frozen k
          have HSTEP : Hid (LgInv (H.num xs * s) (H.num vs) ds (os.set k q) (la + 1) K k) := lg_step HIV.out (by omega) hdl hdL hdn ⟨by omega, by omega⟩ HQ.out.2.1
          have kK : (k : Int) < K := by omega
          have hB5 : Below w.heap.size w w5 := hB3.out.trans nr.bel
          have HD5 : Hid (Own w5 w.heap.size ds) := hD5
          clear hdl hdn nr HLY hU3 hV3 hO3 hB3 hD5
          go_wp2_with fail
          go_roundw
          case rel => exact ⟨k, ds, os.set k q, rfl, by omega, HSTEP, Own.far HD5.out ne2.symm k _, Own.far V5 (show w1.heap.size ≠ w2.heap.size by omega) k _, Own.set O5 k _, hB5.setCell (p := ⟨w2.heap.size, k, none⟩) (show w.heap.size ≤ w2.heap.size by omega) _⟩
          case measure => simp [intOf]
        · have hne : q ≠ Q := by
            rintro rfl
            exact hle HQ.out.1
          have LN := less_no w.heap.size (la + 1) (la + 1) k us (some ⟨w1.heap.size, 0, none⟩) (n + 1) (n + 1) vs q wr hU3.out i2 HU1.out (hV3.out.sx hvL HVL.out ne1) hvL ⟨by omega, by omega⟩ (by omega) (by omega) HNP.out (Int.not_le.1 hle)
          have HLN : Hid (Calls Try.prog _ _ _ _) := LN
          clear hle LN
          go_wp2_with fail
          refine HLN.out.mono ?_
          rintro e w5 ⟨rfl, hD5, b5⟩
          have V5 := hV3.out.aft b5
          have O5 := hO3.out.aft b5
          have B5 := step hB3.out b5
          have HQ5 : Hid (Q ≤ q - 1 ∧ q - 1 < 4294967296) := by show _ ∧ _; omega
          clear HLN hU3 hV3 hO3 hB3
          go_wp2_with fail
          go_roundw
          case rel => exact ⟨q - 1, rfl, HQ5, hD5, V5, O5, B5⟩
          case measure => simp [intOf]; omega
end Go.Proofs.Ytkfpblonjinfmaa
namespace Go.Proofs.Ytkfpblonjinfmaa
open Go.RowKit Go.Shelf
set_option linter.unusedVariables false

/-- A small number: one limb, or none. -/
theorem rsmall_any (x : Int) (hx : Word x) (w : World) :
    Calls Try.prog 39 #[.int .u64 x] w fun e w' => LRes w w' e x 1 := by
  go_enter Try.func39, Try.ntmps39
  go_wp2_with fail
  refine ent1 w _ _ (Q := fun W => Calls Try.prog _ _ W _) ?_
  intro w0 B0 hs V0
  have s := sl_one w x hx
  have s1 : Sl w0 (some ⟨w.heap.size, 0, none⟩) 1 [x] := by
    refine ⟨rfl, s.2.1, fun _ => ⟨w.heap.size, 0, rfl, fun i hi => ?_⟩⟩
    obtain rfl : i = 0 := by omega
    exact V0.cell
  refine (rtrim_any (some ⟨w.heap.size, 0, none⟩) 1 1 [x] w0 s1 (fun h => by cases h) (by omega) (Nat.le_refl _)).mono ?_
  rintro e w2 ⟨a2, c2, rfl, s2, hc2, b2⟩
  have hu := usedN_le [x]
  simp at hu
  go_wp2_with fail
  go_ret
  exact ⟨a2, usedN [x], c2, [x].take (usedN [x]), rfl, hc2, hu, s2, usedN_take [x] (Nat.le_refl _), by rw [num_take_used [x] (Nat.le_refl _)]; simp [num], step B0 b2⟩

set_option maxHeartbeats 2000000 in
theorem rdivmod_any (a0 a1 : Option Addr) (l0 k0 l1 k1 : Nat) (z0 z1 : List Int) (w : World) (ha0 : Sl w a0 l0 z0) (hb0 : Sl w a1 l1 z1) (e0 : a0 = none → l0 = 0 ∧ k0 = 0) (c0 : l0 ≤ k0) (h1 : l0 ≤ 1000000000000) (h2 : l1 ≤ 1000000000000) (hz : num z1 ≠ 0) :
    Calls Try.prog 51 #[.slice a0 l0 k0, .slice a1 l1 k1] w fun e w' =>
      ∃ a1 m1 c1 qs a2 m2 c2 rs, e = .returned (.tuple #[.slice a1 m1 c1, .slice a2 m2 c2]) ∧ Sl w' a1 m1 qs ∧ usedN qs = m1 ∧ m1 ≤ c1 ∧ Sl w' a2 m2 rs ∧ usedN rs = m2 ∧ m2 ≤ c2 ∧ num z0 = num qs * num z1 + num rs ∧ 0 ≤ num rs ∧ num rs < num z1 ∧ m1 ≤ 2 * l0 ∧ m2 ≤ 2 * l0 + 1 ∧ Below w.heap.size w w' := by
  have HS0 : Hid (Sl w a0 l0 z0) := ha0
  go_enter Try.func51, Try.ntmps51
  go_wp2_with fail
  refine (digits_any a0 l0 k0 z0 w ha0 (by omega)).mono ?_
  rintro e wa ⟨a, la, ca, xs, rfl, -, hla, ha, hx, ux, nx, ba⟩
  go_wp2_with fail
  refine (digits_any a1 l1 k1 z1 wa (hb0.below ba (Nat.le_refl _)) (by omega)).mono ?_
  rintro e wb ⟨b, lb, cb, ys, rfl, -, hlb, hb, hy, uy, ny, bb⟩
  replace ha := ha.below bb (Nat.le_refl _)
  have HB : Hid (Below w.heap.size w wb) := step ba bb
  have HNX : Hid (H.num xs = num z0) := nx
  have HNY : Hid (H.num ys = num z1) := ny
  have hza := ha.1; have hzb := hb.1
  have hlb0 : lb ≠ 0 := by
    intro h
    have := (H.num_eq_zero hy).2 (by omega)
    rw [ny] at this; exact hz this
  have HUX : Hid (usedN xs = la) := ux
  have HUY : Hid (usedN ys = lb) := uy
  clear ba bb ha0 hb0 nx ny ux uy hz
  by_cases hlt : la < lb
  · have HLT : Hid (num z0 < num z1) := by
      show _ < _
      rw [← HNX.out, ← HNY.out]
      exact H.num_lt_len hx hy (by rw [HUX.out, HUY.out]; exact hlt)
    have hlt' : (la : Int) < lb := by omega
    go_wp2_with fail
    refine (rtrim_any a0 l0 k0 z0 wb (HS0.out.below HB.out (Nat.le_refl _)) e0 (by omega) c0).mono ?_
    rintro e w5 ⟨a5, c5, rfl, s5, hc5, b5⟩
    have hu := usedN_le z0
    have hl0 := HS0.out.1
    have hp := num_nonneg HS0.out.2.1
    go_wp2_with fail
    go_ret2
    exact ⟨none, 0, 0, [], a5, usedN z0, c5, z0.take (usedN z0), rfl, ⟨rfl, Limbs.nil, fun h => absurd h (by decide)⟩, rfl, Nat.le_refl _, s5, usedN_take z0 (Nat.le_refl _), hc5, by rw [num_take_used z0 (Nat.le_refl _)]; simp [num], by rw [num_take_used z0 (Nat.le_refl _)]; exact hp, by rw [num_take_used z0 (Nat.le_refl _)]; exact HLT.out, by omega, by omega, step HB.out b5⟩
  · have hlt' : ¬ (la : Int) < lb := by omega
    by_cases h1' : lb = 1
    · subst h1'
      obtain ⟨bb, ob, rfl, hcb⟩ := hb.2.2 (by omega)
      have hcy := hcb 0 (by omega)
      rw [Nat.add_zero] at hcy
      have hyb := hy.getD 0
      have hyt0 : ys.getD 0 0 ≠ 0 := by have := usedN_top ys (by rw [HUY.out]; omega); rwa [HUY.out] at this
      have hyn : H.num ys = ys.getD 0 0 := by
        have := Htop ys 0 hzb
        simpa [H.num, H.pw] using this
      obtain ⟨y, hyy⟩ : ∃ y, ys.getD 0 0 = y := ⟨_, rfl⟩
      rw [hyy] at hcy hyb hyt0 hyn
      have HYN : Hid (H.num ys = y) := hyn
      clear hyn hyy hcb
      go_wp2_with fail
      refine (rshort_any a la ca xs y wb ha hx (by omega) (by omega) hyb.2).mono ?_
      rintro e w5 ⟨a5, m5, c5, d5, r, rfl, k5, l5, s5, L5, u5, n5, r0, r1, b5⟩
      have N5 : Hid (H.num xs = H.num d5 * y + r) := n5
      clear n5
      go_wp2_with fail
      refine (limbsr_any a5 m5 c5 d5 w5 s5 L5 (by omega)).mono ?_
      rintro e w6 ⟨a6, m6, c6, z6, rfl, k6, l6, s6, u6, n6, b6⟩
      go_wp2_with fail
      refine (rsmall_any r ⟨r0, by omega⟩ w6).mono ?_
      rintro e w7 ⟨a7, m7, c7, z7, rfl, k7, l7, s7, u7, n7, b7⟩
      replace s6 := s6.below b7 (Nat.le_refl _)
      go_wp2_with fail
      go_ret2
      exact ⟨a6, m6, c6, z6, a7, m7, c7, z7, rfl, s6, u6, k6, s7, u7, k7, by rw [← HNX.out, ← HNY.out, HYN.out, N5.out, n6, n7], by omega, by rw [← HNY.out, HYN.out, n7]; exact r1, by omega, by omega, step (step (step HB.out b5) b6) b7⟩
    · obtain ⟨n, rfl⟩ : ∃ n, lb = n + 1 := ⟨lb - 1, by omega⟩
      have g1 : ((n : Int) + 1 == 1) = false := by simp; omega
      have LG := rlongd_any a b la ca n cb xs ys wb ha hb hx hy HUY.out (by omega) (by omega)
      have HLG : Hid (Calls Try.prog _ _ _ _) := LG
      clear LG
      go_wp2_with fail
      refine HLG.out.mono ?_
      rintro e w5 ⟨a5, m5, c5, d5, a6, m6, c6, d6, rfl, s5, L5, l5, s6, L6, l6, n5, r0, r1, b5⟩
      clear HLG
      go_wp2_with fail
      refine (limbsr_any a5 m5 c5 d5 w5 s5 L5 (by omega)).mono ?_
      rintro e w7 ⟨a7, m7, c7, z7, rfl, k7, l7, s7, u7, n7, b7⟩
      replace s6 := s6.below b7 (Nat.le_refl _)
      go_wp2_with fail
      refine (limbsr_any a6 m6 c6 d6 w7 s6 L6 (by omega)).mono ?_
      rintro e w8 ⟨a8, m8, c8, z8, rfl, k8, l8, s8, u8, n8, b8⟩
      replace s7 := s7.below b8 (Nat.le_refl _)
      go_wp2_with fail
      go_ret2
      exact ⟨a7, m7, c7, z7, a8, m8, c8, z8, rfl, s7, u7, k7, s8, u8, k8, by rw [← HNX.out, ← HNY.out, n7, n8]; exact n5, by rw [n8]; exact r0, by rw [n8, ← HNY.out]; exact r1, by omega, by omega, step (step (step HB.out b5) b7) b8⟩
end Go.Proofs.Ytkfpblonjinfmaa
namespace Go.Proofs.Ytkfpblonjinfmaa
open Go.RowKit Go.Shelf
set_option linter.unusedVariables false

theorem results_ii {fn : Func} {i j b c : Nat} {x y u v : Value} {tmps : Array Value} {w : World} (h : fn.results = #[.cell i 29, .cell j 29]) (hi : tmps.getD i undef = .pointer (some ⟨b, 0, none⟩)) (hv : Va w b 29 #[x, y])
    (hj : tmps.getD j undef = .pointer (some ⟨c, 0, none⟩)) (hu : Va w c 29 #[u, v]) :
    (results fn tmps).run Try.prog w = .ok (.tuple #[.agg #[x, y], .agg #[u, v]]) w := by
  have c0 := hv.c0; have c1 := hv.c1; have d0 := hu.c0; have d1 := hu.c1
  rw [Array.getD_eq_getD_getElem?] at hi hj
  simp [results, h, hi, hj, c0, c1, d0, d1, go_sem]

theorem rsmall4_any (x : Int) (h1 : -9223372036854775808 ≤ x) (h2 : x ≤ 9223372036854775807) (w : World) :
    Calls Try.prog 14 #[.int .i64 x] w fun e w' => ∃ s' a' l' c' zs, e = .returned (.agg #[.bool s', .slice a' l' c']) ∧ Ir w' s' a' l' c' zs ∧ iv s' zs = x ∧ l' ≤ 5 ∧ Below w.heap.size w w' := by
  by_cases hx : x < 0
  ·
    have e1 : IntKind.i64.wrap (x + 1) = x + 1 := by rw [IntKind.wrap_i64]; omega
    have e2 : IntKind.i64.wrap (-(x + 1)) = -(x + 1) := by rw [IntKind.wrap_i64]; omega
    have e3 : IntKind.u64.wrap (-(x + 1)) = -(x + 1) := by rw [IntKind.wrap_u64]; omega
    have hx2 : ¬ 0 ≤ x := by omega
    have B0 : Below w.heap.size w w := Below.refl _ _
    go_enter Try.func14, Try.ntmps14
    go_wp2_with fail
    refine ent1 w _ _ (Q := fun W => Calls Try.prog _ _ W _) ?_
    intro x1 hb hs_x1 V2
    replace B0 := step B0 hb
    clear hb hs_x1
    refine (rsmall_any _ ⟨by omega, by omega⟩ x1).mono ?_
    rintro e x2 ⟨p1, q1, r1, y1, rfl, pc1, pb1, ps1, pu1, pn1, hb⟩
    replace V2 := Va.after hb V2
    replace B0 := step B0 hb
    clear hb
    have c_V2 := V2.c0
    have d_V2 := V2.c1
    have f_V2 := V2.frozen 0
    have g_V2 := V2.frozen 1
    have l_V2 := V2.lt
    have m_V2 := Nat.le_of_lt l_V2
    go_wp2_with fail
    refine (rsmall_any 1 ⟨by omega, by omega⟩ x2).mono ?_
    rintro e x3 ⟨p2, q2, r2, y2, rfl, pc2, pb2, ps2, pu2, pn2, hb⟩
    replace V2 := Va.after hb V2
    replace ps1 := ps1.below hb (Nat.le_refl _)
    replace B0 := step B0 hb
    clear hb
    clear c_V2 d_V2 f_V2 g_V2 l_V2 m_V2
    have c_V2 := V2.c0
    have d_V2 := V2.c1
    have f_V2 := V2.frozen 0
    have g_V2 := V2.frozen 1
    have l_V2 := V2.lt
    have m_V2 := Nat.le_of_lt l_V2
    go_wp2_with fail
    refine (radd_any p1 p2 q1 r1 q2 r2 y1 y2 x3 ps1 ps2 (by omega) (by omega)).mono ?_
    rintro e x4 ⟨a1, m1, c1, z1, rfl, hmc, hmb, hs1, hu1, hn1, hb⟩
    replace V2 := Va.after hb V2
    replace ps1 := ps1.below hb (Nat.le_refl _)
    replace ps2 := ps2.below hb (Nat.le_refl _)
    replace B0 := step B0 hb
    clear hb
    clear c_V2 d_V2 f_V2 g_V2 l_V2 m_V2
    have c_V2 := V2.c0
    have d_V2 := V2.c1
    have f_V2 := V2.frozen 0
    have g_V2 := V2.frozen 1
    have l_V2 := V2.lt
    have m_V2 := Nat.le_of_lt l_V2
    go_wp2_with fail
    refine (rnew_any true a1 m1 c1 z1 x4 hs1 hmc (by omega)).mono ?_
    rintro e x5 ⟨s', a', l', c', zs, rfl, h', n', e', hl', hb⟩
    replace V2 := Va.after hb V2
    replace ps1 := ps1.below hb (Nat.le_refl _)
    replace ps2 := ps2.below hb (Nat.le_refl _)
    replace hs1 := hs1.below hb (Nat.le_refl _)
    replace B0 := step B0 hb
    clear hb
    clear c_V2 d_V2 f_V2 g_V2 l_V2 m_V2
    have c_V2 := V2.c0
    have d_V2 := V2.c1
    have f_V2 := V2.frozen 0
    have g_V2 := V2.frozen 1
    have l_V2 := V2.lt
    have m_V2 := Nat.le_of_lt l_V2
    go_wp2_with fail
    refine bodyPost_ret (results_i rfl rfl (V2.set2 _ _)) rfl ?_
    refine ⟨s', a', l', c', zs, rfl, h'.far V2 (noInt2 _ _ _ _) (far2 _ _ _ _), ?_, by omega, below_2 B0 (by omega) _ _⟩
    rw [e', iv_t]
    omega
  ·
    have e1 : IntKind.u64.wrap x = x := by rw [IntKind.wrap_u64]; omega
    have hx2 : 0 ≤ x := by omega
    have B0 : Below w.heap.size w w := Below.refl _ _
    go_enter Try.func14, Try.ntmps14
    go_wp2_with fail
    refine ent1 w _ _ (Q := fun W => Calls Try.prog _ _ W _) ?_
    intro x1 hb hs_x1 V2
    replace B0 := step B0 hb
    clear hb hs_x1
    refine (rsmall_any _ ⟨by omega, by omega⟩ x1).mono ?_
    rintro e x2 ⟨a1, m1, c1, z1, rfl, hmc, hmb, hs1, hu1, hn1, hb⟩
    replace V2 := Va.after hb V2
    replace B0 := step B0 hb
    clear hb
    have c_V2 := V2.c0
    have d_V2 := V2.c1
    have f_V2 := V2.frozen 0
    have g_V2 := V2.frozen 1
    have l_V2 := V2.lt
    have m_V2 := Nat.le_of_lt l_V2
    go_wp2_with fail
    refine (rnew_any false a1 m1 c1 z1 x2 hs1 hmc (by omega)).mono ?_
    rintro e x3 ⟨s', a', l', c', zs, rfl, h', n', e', hl', hb⟩
    replace V2 := Va.after hb V2
    replace hs1 := hs1.below hb (Nat.le_refl _)
    replace B0 := step B0 hb
    clear hb
    clear c_V2 d_V2 f_V2 g_V2 l_V2 m_V2
    have c_V2 := V2.c0
    have d_V2 := V2.c1
    have f_V2 := V2.frozen 0
    have g_V2 := V2.frozen 1
    have l_V2 := V2.lt
    have m_V2 := Nat.le_of_lt l_V2
    go_wp2_with fail
    refine bodyPost_ret (results_i rfl rfl (V2.set2 _ _)) rfl ?_
    refine ⟨s', a', l', c', zs, rfl, h'.far V2 (noInt2 _ _ _ _) (far2 _ _ _ _), ?_, by omega, below_2 B0 (by omega) _ _⟩
    rw [e', iv_f]
    omega

/-- Quotient and rest: one pair alone. -/
theorem fl_one {x y q r q' r' : Int} (h : x = q * y + r ∧ ((0 ≤ r ∧ r < y) ∨ (y < r ∧ r ≤ 0))) (h' : x = q' * y + r' ∧ ((0 ≤ r' ∧ r' < y) ∨ (y < r' ∧ r' ≤ 0))) : q' = q ∧ r' = r := by
  obtain ⟨e, h⟩ := h
  obtain ⟨e', h'⟩ := h'
  have hq : q' = q := by
    have e2 : (q' - q) * y = r - r' := by rw [Int.sub_mul]; omega
    rcases Int.lt_trichotomy (q' - q) 0 with k | k | k
    · exfalso
      rcases h with ⟨h1, h2⟩ | ⟨h1, h2⟩
      · have := Int.mul_le_mul_of_nonneg_right (show q' - q ≤ -1 by omega) (show 0 ≤ y by omega); omega
      · have := Int.mul_le_mul_of_nonneg_right (show q' - q ≤ -1 by omega) (show 0 ≤ -y by omega); rw [Int.mul_neg] at this; omega
    · omega
    · exfalso
      rcases h with ⟨h1, h2⟩ | ⟨h1, h2⟩
      · have := Int.mul_le_mul_of_nonneg_right (show 1 ≤ q' - q by omega) (show 0 ≤ y by omega); omega
      · have := Int.mul_le_mul_of_nonneg_right (show 1 ≤ q' - q by omega) (show 0 ≤ -y by omega); rw [Int.mul_neg, Int.mul_neg] at this; omega
  subst hq
  exact ⟨rfl, by omega⟩
theorem rd_case {X Y Q R : Int} (e : X = Q * Y + R) (h : R.natAbs < Y.natAbs) :
    (X * Int.sign Y < Q * (Y.natAbs : Int) → ((0 ≤ X - (Q - 1) * Y ∧ X - (Q - 1) * Y < Y) ∨ (Y < X - (Q - 1) * Y ∧ X - (Q - 1) * Y ≤ 0))) ∧
    (¬ X * Int.sign Y < Q * (Y.natAbs : Int) → ((0 ≤ X - Q * Y ∧ X - Q * Y < Y) ∨ (Y < X - Q * Y ∧ X - Q * Y ≤ 0))) := by
  have e2 : (Q - 1) * Y = Q * Y - Y := by rw [Int.sub_mul, Int.one_mul]
  rcases Int.lt_trichotomy Y 0 with k | k | k
  · have e3 : (Y.natAbs : Int) = -Y := by omega
    rw [Int.sign_eq_neg_one_of_neg k, e3, Int.mul_neg, Int.mul_neg, Int.mul_one, e2]
    refine ⟨fun h' => ?_, fun h' => ?_⟩ <;> omega
  · omega
  · have e3 : (Y.natAbs : Int) = Y := by omega
    rw [Int.sign_eq_one_of_pos k, e3, Int.mul_one, e2]
    refine ⟨fun h' => ?_, fun h' => ?_⟩ <;> omega
set_option maxHeartbeats 8000000 in
set_option maxRecDepth 20000 in
theorem rdiv4_any (s t : Bool) (a b : Option Addr) (la ca lb cb : Nat) (xs ys : List Int) (w : World) (hx : Ir w s a la ca xs) (hy : Ir w t b lb cb ys) (hl1 : la ≤ 10000) (hl2 : lb ≤ 10000) (h0 : iv t ys ≠ 0) :
    Calls Try.prog 30 #[.agg #[.bool s, .slice a la ca], .agg #[.bool t, .slice b lb cb]] w fun e w' => ∃ sq aq lq kq zq sr ar lr kr zr, e = .returned (.tuple #[.agg #[.bool sq, .slice aq lq kq], .agg #[.bool sr, .slice ar lr kr]]) ∧ Ir w' sq aq lq kq zq ∧ Ir w' sr ar lr kr zr ∧
      Hid (iv s xs = iv sq zq * iv t ys + iv sr zr ∧ ((0 ≤ iv sr zr ∧ iv sr zr < iv t ys) ∨ (iv t ys < iv sr zr ∧ iv sr zr ≤ 0))) ∧ Below w.heap.size w w' := by
  have hn : num ys ≠ 0 := by rw [hy.abs]; omega
  have HY : Hid (num ys = ((iv t ys).natAbs : Int)) := hy.abs
  have B0 : Below w.heap.size w w := Below.refl _ _
  go_enter Try.func30, Try.ntmps30
  go_wp2_with fail
  refine ent4 w _ _ _ _ _ _ _ _ (Q := fun W => Calls Try.prog _ _ W _) ?_
  intro x1 hb hs_x1 V0 V1 V2 V3
  replace hx := Ir.after hb hx
  replace hy := Ir.after hb hy
  replace B0 := step B0 hb
  clear hb hs_x1
  refine (rdivmod_any a b la ca lb cb xs ys x1 hx.1 hy.1 hx.2.2.2.1 hx.2.2.1 (by omega) (by omega) hn).mono ?_
  rintro e x2 ⟨an, mn, cn, zn, ao, mo, co, zo, rfl, sn, un, cnn, so, uo, coo, d1, d2, d3, bn, bo, hb⟩
  replace V0 := Va.after hb V0
  replace V1 := Va.after hb V1
  replace V2 := Va.after hb V2
  replace V3 := Va.after hb V3
  replace hx := Ir.after hb hx
  replace hy := Ir.after hb hy
  replace B0 := step B0 hb
  clear hb
  clear so uo coo bo un
  have HD : Hid (iv s xs = iv (s != t) zn * iv t ys + iv s zo) := dm_id d1
  have HR : Hid ((iv s zo).natAbs < (iv t ys).natAbs) := by
    have q1 : ((iv s zo).natAbs : Int) = num zo := by cases s <;> simp only [iv_t, iv_f] <;> omega
    have q2 := HY.out
    show _ < _; omega
  clear d1 d2 d3
  have c_V0 := V0.c0
  have d_V0 := V0.c1
  have f_V0 := V0.frozen 0
  have g_V0 := V0.frozen 1
  have l_V0 := V0.lt
  have m_V0 := Nat.le_of_lt l_V0
  have c_V1 := V1.c0
  have d_V1 := V1.c1
  have f_V1 := V1.frozen 0
  have g_V1 := V1.frozen 1
  have l_V1 := V1.lt
  have m_V1 := Nat.le_of_lt l_V1
  have c_V2 := V2.c0
  have d_V2 := V2.c1
  have f_V2 := V2.frozen 0
  have g_V2 := V2.frozen 1
  have l_V2 := V2.lt
  have m_V2 := Nat.le_of_lt l_V2
  have c_V3 := V3.c0
  have d_V3 := V3.c1
  have f_V3 := V3.frozen 0
  have g_V3 := V3.frozen 1
  have l_V3 := V3.lt
  have m_V3 := Nat.le_of_lt l_V3
  go_wp2_with fail
  refine (rnew_any (s != t) an mn cn zn x2 sn cnn (by omega)).mono ?_
  rintro e x3 ⟨sq, aq, lq, kq, zq, rfl, hq, nq, eq', lq', hb⟩
  replace V0 := Va.after hb V0
  replace V1 := Va.after hb V1
  replace V2 := Va.after hb V2
  replace V3 := Va.after hb V3
  replace sn := sn.below hb (Nat.le_refl _)
  replace hx := Ir.after hb hx
  replace hy := Ir.after hb hy
  replace B0 := step B0 hb
  clear hb
  have lt_q0 := V3.lt
  have HEQ : Hid (iv sq zq = iv (s != t) zn) := eq'
  clear eq' nq
  clear c_V0 d_V0 f_V0 g_V0 l_V0 m_V0 c_V1 d_V1 f_V1 g_V1 l_V1 m_V1 c_V2 d_V2 f_V2 g_V2 l_V2 m_V2 c_V3 d_V3 f_V3 g_V3 l_V3 m_V3
  have c_V0 := V0.c0
  have d_V0 := V0.c1
  have f_V0 := V0.frozen 0
  have g_V0 := V0.frozen 1
  have l_V0 := V0.lt
  have m_V0 := Nat.le_of_lt l_V0
  have c_V1 := V1.c0
  have d_V1 := V1.c1
  have f_V1 := V1.frozen 0
  have g_V1 := V1.frozen 1
  have l_V1 := V1.lt
  have m_V1 := Nat.le_of_lt l_V1
  have c_V2 := V2.c0
  have d_V2 := V2.c1
  have f_V2 := V2.frozen 0
  have g_V2 := V2.frozen 1
  have l_V2 := V2.lt
  have m_V2 := Nat.le_of_lt l_V2
  have c_V3 := V3.c0
  have d_V3 := V3.c1
  have f_V3 := V3.frozen 0
  have g_V3 := V3.frozen 1
  have l_V3 := V3.lt
  have m_V3 := Nat.le_of_lt l_V3
  go_wp2_with fail
  clear sn
  refine ent1 x3 _ _ (Q := fun W => Code.wp Try.prog _ _ _ W) ?_
  intro x4 hb hs_x4 Vq
  replace V0 := Va.after hb V0
  replace V1 := Va.after hb V1
  replace V2 := Va.after hb V2
  replace V3 := Va.after hb V3
  replace hx := Ir.after hb hx
  replace hy := Ir.after hb hy
  replace hq := Ir.after hb hq
  replace B0 := step B0 hb
  clear hb hs_x4
  clear c_V0 d_V0 f_V0 g_V0 l_V0 m_V0 c_V1 d_V1 f_V1 g_V1 l_V1 m_V1 c_V2 d_V2 f_V2 g_V2 l_V2 m_V2 c_V3 d_V3 f_V3 g_V3 l_V3 m_V3
  refine wp_region_noPanic ?_
  replace V0 : Va x4.drew _ _ _ := V0
  replace V1 : Va x4.drew _ _ _ := V1
  replace V2 : Va x4.drew _ _ _ := V2
  replace V3 : Va x4.drew _ _ _ := V3
  replace Vq : Va x4.drew _ _ _ := Vq
  replace hx := hx.drw
  replace hy := hy.drw
  replace hq := hq.drw
  replace B0 := Below.drew B0
  refine wp_region_held_drew (S := (fun W => W.cell? ⟨w.heap.size, 0, none⟩ = some (.bool s) ∧ W.cell? ⟨w.heap.size, 1, none⟩ = some (.slice a la ca) ∧ W.cell? ⟨w.heap.size + 1, 0, none⟩ = some (.bool t) ∧ W.cell? ⟨w.heap.size + 1, 1, none⟩ = some (.slice b lb cb) ∧ W.cell? ⟨x3.heap.size, 0, none⟩ = some (.bool sq) ∧ W.cell? ⟨x3.heap.size, 1, none⟩ = some (.slice aq lq kq))) (by kernel_rfl) ⟨V0.c0, V0.c1, V1.c0, V1.c1, Vq.c0, Vq.c1⟩ (fun hHeld => ?_)
  obtain ⟨x5, hxd⟩ : ∃ xd, xd = x4.drew := ⟨_, rfl⟩
  rw [← hxd] at V0 V1 V2 V3 Vq hx hy hq B0 hHeld ⊢
  clear hxd
  refine wpAnyH_take (i := 0) (v := ?_) rfl (by kernel_rfl) (by kernel_rfl) (by kernel_rfl) (fun _ _ _ h => h) (Or.inl ⟨by rfl, ?_⟩) hHeld ?_
  rotate_left
  · (intro W hSw; (try dsimp only at hSw); go_simp; all_goals (with_reducible rfl))
  simp only [List.getElem_toArray, List.getElem_cons_zero, Act.put, List.setIfInBounds_toArray, List.set_cons_zero, List.set_cons_succ]
  refine wpAnyH_take (i := 1) (v := ?_) rfl (by kernel_rfl) (by kernel_rfl) (by kernel_rfl) (fun _ _ _ h => h) (Or.inl ⟨by rfl, ?_⟩) hHeld ?_
  rotate_left
  · (intro W hSw; (try dsimp only at hSw); go_simp; all_goals (with_reducible rfl))
  simp only [List.getElem_toArray, List.getElem_cons_zero, List.getElem_cons_succ, Act.put, List.setIfInBounds_toArray, List.set_cons_zero, List.set_cons_succ]
  refine wpAnyH_take (i := 2) (v := ?_) rfl (by kernel_rfl) (by kernel_rfl) (by kernel_rfl) (fun _ _ _ h => h) (Or.inl ⟨by rfl, ?_⟩) hHeld ?_
  rotate_left
  · (intro W hSw; (try dsimp only at hSw); go_simp; all_goals (with_reducible rfl))
  simp only [List.getElem_toArray, List.getElem_cons_zero, List.getElem_cons_succ, Act.put, List.setIfInBounds_toArray, List.set_cons_zero, List.set_cons_succ]
  refine wpAnyH_take (i := 5) (v := ?_) rfl (by kernel_rfl) (by kernel_rfl) (by kernel_rfl) (fun _ _ _ h => h) (Or.inl ⟨by rfl, ?_⟩) hHeld ?_
  rotate_left
  · (intro W hSw; (try dsimp only at hSw); go_simp; all_goals (with_reducible rfl))
  simp only [List.getElem_toArray, List.getElem_cons_zero, List.getElem_cons_succ, Act.put, List.setIfInBounds_toArray, List.set_cons_zero, List.set_cons_succ]
  refine wpAnyH_take (i := 6) (v := ?_) rfl (by kernel_rfl) (by kernel_rfl) (by kernel_rfl) (fun _ _ _ h => h) (Or.inl ⟨by rfl, ?_⟩) hHeld ?_
  rotate_left
  · (intro W hSw; (try dsimp only at hSw); go_simp; all_goals (with_reducible rfl))
  simp only [List.getElem_toArray, List.getElem_cons_zero, List.getElem_cons_succ, Act.put, List.setIfInBounds_toArray, List.set_cons_zero, List.set_cons_succ]
  refine wpAnyH_ready (rs := [3]) (by kernel_rfl) (by simp) ?_
  refine AllReadyH.cons rfl (fun K hK => ?_) AllReadyH.nil
  simp only [List.getElem_toArray, List.getElem_cons_zero, List.getElem_cons_succ]
  go_simp
  refine (rnew_any false b lb cb ys _ hy.1 hy.2.2.1 (by omega)).mono ?_
  rintro e x6 ⟨s5, a5, l5, k5, z5, rfl, h5, n5, e5, l5', hb⟩
  replace V0 := Va.after hb V0
  replace V1 := Va.after hb V1
  replace V2 := Va.after hb V2
  replace V3 := Va.after hb V3
  replace Vq := Va.after hb Vq
  replace hx := Ir.after hb hx
  replace hy := Ir.after hb hy
  replace hq := Ir.after hb hq
  replace B0 := step B0 hb
  clear hb
  try go_wp2_with fail
  refine hK.out _ _ ⟨V0.c0, V0.c1, V1.c0, V1.c1, Vq.c0, Vq.c1⟩ (fun hHeld => ?_)
  clear hK K
  refine wpAnyH_ready (rs := [4]) (by kernel_rfl) (by simp) ?_
  refine AllReadyH.cons rfl (fun K hK => ?_) AllReadyH.nil
  simp only [List.getElem_toArray, List.getElem_cons_zero, List.getElem_cons_succ]
  go_simp
  refine (rmul4_any sq s5 aq a5 lq kq l5 k5 zq z5 _ hq h5 (by omega) (by omega)).mono ?_
  rintro e x7 ⟨s6, a6, l6, k6, z6, rfl, h6, e6, l6', hb⟩
  replace V0 := Va.after hb V0
  replace V1 := Va.after hb V1
  replace V2 := Va.after hb V2
  replace V3 := Va.after hb V3
  replace Vq := Va.after hb Vq
  replace hx := Ir.after hb hx
  replace hy := Ir.after hb hy
  replace hq := Ir.after hb hq
  replace h5 := Ir.after hb h5
  replace B0 := step B0 hb
  clear hb
  try go_wp2_with fail
  refine hK.out _ _ ⟨V0.c0, V0.c1, V1.c0, V1.c1, Vq.c0, Vq.c1⟩ (fun hHeld => ?_)
  clear hK K
  refine wpAnyH_ready (rs := [7]) (by kernel_rfl) (by simp) ?_
  refine AllReadyH.cons rfl (fun K hK => ?_) AllReadyH.nil
  simp only [List.getElem_toArray, List.getElem_cons_zero, List.getElem_cons_succ]
  go_simp
  refine (rsign_any t b lb cb ys _ hy).mono ?_
  rintro e x8 ⟨rfl, hb⟩
  replace V0 := Va.after hb V0
  replace V1 := Va.after hb V1
  replace V2 := Va.after hb V2
  replace V3 := Va.after hb V3
  replace Vq := Va.after hb Vq
  replace hx := Ir.after hb hx
  replace hy := Ir.after hb hy
  replace hq := Ir.after hb hq
  replace h5 := Ir.after hb h5
  replace h6 := Ir.after hb h6
  replace B0 := step B0 hb
  clear hb
  have hsb : -1 ≤ Int.sign (iv t ys) ∧ Int.sign (iv t ys) ≤ 1 := by
    rcases Int.lt_trichotomy (iv t ys) 0 with q | q | q
    · rw [Int.sign_eq_neg_one_of_neg q]; decide
    · rw [q]; decide
    · rw [Int.sign_eq_one_of_pos q]; decide
  obtain ⟨sg, hsg'⟩ : ∃ sg, Int.sign (iv t ys) = sg := ⟨_, rfl⟩
  rw [hsg'] at hsb ⊢
  have hsg : Hid (Int.sign (iv t ys) = sg) := hsg'
  clear hsg'
  try go_wp2_with fail
  refine hK.out _ _ ⟨V0.c0, V0.c1, V1.c0, V1.c1, Vq.c0, Vq.c1⟩ (fun hHeld => ?_)
  clear hK K
  refine wpAnyH_ready (rs := [8]) (by kernel_rfl) (by simp) ?_
  refine AllReadyH.cons rfl (fun K hK => ?_) AllReadyH.nil
  simp only [List.getElem_toArray, List.getElem_cons_zero, List.getElem_cons_succ]
  go_simp
  refine (rsmall4_any sg (by omega) (by omega) _).mono ?_
  rintro e x9 ⟨s7, a7, l7, k7, z7, rfl, h7, e7, l7', hb⟩
  replace V0 := Va.after hb V0
  replace V1 := Va.after hb V1
  replace V2 := Va.after hb V2
  replace V3 := Va.after hb V3
  replace Vq := Va.after hb Vq
  replace hx := Ir.after hb hx
  replace hy := Ir.after hb hy
  replace hq := Ir.after hb hq
  replace h5 := Ir.after hb h5
  replace h6 := Ir.after hb h6
  replace B0 := step B0 hb
  clear hb
  try go_wp2_with fail
  refine hK.out _ _ ⟨V0.c0, V0.c1, V1.c0, V1.c1, Vq.c0, Vq.c1⟩ (fun hHeld => ?_)
  clear hK K
  refine wpAnyH_ready (rs := [9]) (by kernel_rfl) (by simp) ?_
  refine AllReadyH.cons rfl (fun K hK => ?_) AllReadyH.nil
  simp only [List.getElem_toArray, List.getElem_cons_zero, List.getElem_cons_succ]
  go_simp
  refine (rmul4_any s s7 a a7 la ca l7 k7 xs z7 _ hx h7 (by omega) (by omega)).mono ?_
  rintro e x10 ⟨s8, a8, l8, k8, z8, rfl, h8, e8, l8', hb⟩
  replace V0 := Va.after hb V0
  replace V1 := Va.after hb V1
  replace V2 := Va.after hb V2
  replace V3 := Va.after hb V3
  replace Vq := Va.after hb Vq
  replace hx := Ir.after hb hx
  replace hy := Ir.after hb hy
  replace hq := Ir.after hb hq
  replace h5 := Ir.after hb h5
  replace h6 := Ir.after hb h6
  replace h7 := Ir.after hb h7
  replace B0 := step B0 hb
  clear hb
  try go_wp2_with fail
  refine hK.out _ _ ⟨V0.c0, V0.c1, V1.c0, V1.c1, Vq.c0, Vq.c1⟩ (fun hHeld => ?_)
  clear hK K
  refine wpAnyH_ready (rs := [10]) (by kernel_rfl) (by simp) ?_
  refine AllReadyH.cons rfl (fun K hK => ?_) AllReadyH.nil
  simp only [List.getElem_toArray, List.getElem_cons_zero, List.getElem_cons_succ]
  go_simp
  refine (rcmp_any s6 s8 a6 a8 l6 k6 l8 k8 z6 z8 _ h6 h8 (by omega) (by omega)).mono ?_
  rintro e x11 ⟨rfl, hb⟩
  replace V0 := Va.after hb V0
  replace V1 := Va.after hb V1
  replace V2 := Va.after hb V2
  replace V3 := Va.after hb V3
  replace Vq := Va.after hb Vq
  replace hx := Ir.after hb hx
  replace hy := Ir.after hb hy
  replace hq := Ir.after hb hq
  replace h5 := Ir.after hb h5
  replace h6 := Ir.after hb h6
  replace h7 := Ir.after hb h7
  replace h8 := Ir.after hb h8
  replace B0 := step B0 hb
  clear hb
  have HC : Hid (0 < cmp3 (iv s6 z6) (iv s8 z8) ↔ iv s xs * Int.sign (iv t ys) < iv (s != t) zn * ((iv t ys).natAbs : Int)) := by
    have q1 : iv s6 z6 = iv (s != t) zn * ((iv t ys).natAbs : Int) := by rw [e6, HEQ.out, e5, iv_f, HY.out]
    have q2 : iv s8 z8 = iv s xs * Int.sign (iv t ys) := by rw [e8, e7, hsg.out]
    show _ ↔ _
    rw [q1, q2]; unfold cmp3; grind
  obtain ⟨cm, hcm⟩ : ∃ cm, cmp3 (iv s6 z6) (iv s8 z8) = cm := ⟨_, rfl⟩
  rw [hcm] at HC ⊢
  clear hcm e5 e6 e7 e8
  try go_wp2_with fail
  refine hK.out _ _ ⟨V0.c0, V0.c1, V1.c0, V1.c1, Vq.c0, Vq.c1⟩ (fun hHeld => ?_)
  clear hK K
  refine wpAnyH_take (i := 11) (v := ?_) rfl (by kernel_rfl) (by kernel_rfl) (by kernel_rfl) (fun _ _ _ h => h) (Or.inl ⟨by rfl, ?_⟩) hHeld ?_
  rotate_left
  · (intro W hSw; (try dsimp only at hSw); go_simp; all_goals (with_reducible rfl))
  simp only [List.getElem_toArray, List.getElem_cons_zero, List.getElem_cons_succ, Act.put, List.setIfInBounds_toArray, List.set_cons_zero, List.set_cons_succ]
  refine wpAnyH_done (by kernel_rfl) ?_ _
  refine NoPanic.normal ?_
  clear hHeld
  clear h5 h6 h7 h8
  have HK := rd_case HD.out HR.out
  have HK2 : Hid _ := HK
  clear HK
  by_cases hc : 0 < cm
  ·
    have HM : Hid _ := HK2.out.1 (HC.out.1 hc)
    clear HK2 HC
    go_wp2_with fail
    refine wp_region_noPanic ?_
    replace V0 : Va x11.drew _ _ _ := V0
    replace V1 : Va x11.drew _ _ _ := V1
    replace V2 : Va x11.drew _ _ _ := V2
    replace V3 : Va x11.drew _ _ _ := V3
    replace Vq : Va x11.drew _ _ _ := Vq
    replace hx := hx.drw
    replace hy := hy.drw
    replace hq := hq.drw
    replace B0 := Below.drew B0
    refine wp_region_held_drew (S := (fun W => True)) (by kernel_rfl) trivial (fun hHeld => ?_)
    obtain ⟨x12, hxd⟩ : ∃ xd, xd = x11.drew := ⟨_, rfl⟩
    rw [← hxd] at V0 V1 V2 V3 Vq hx hy hq B0 ⊢
    clear hxd
    refine wpAnyH_ready (rs := [0, 1]) (by kernel_rfl) (by simp) ?_
    refine AllReadyH.cons rfl (fun K hK => ?_) (AllReadyH.cons rfl (fun K hK => ?_) AllReadyH.nil)
    ·
      have c_Vq := Vq.c0
      have d_Vq := Vq.c1
      have f_Vq := Vq.frozen 0
      have g_Vq := Vq.frozen 1
      have l_Vq := Vq.lt
      have m_Vq := Nat.le_of_lt l_Vq
      simp only [List.getElem_toArray, List.getElem_cons_zero]
      go_simp
      clear c_Vq d_Vq f_Vq g_Vq l_Vq m_Vq
      refine hK.out _ _ trivial (fun hHeld => ?_)
      clear hK K
      refine wpAnyH_ready (rs := [1]) (by kernel_rfl) (by simp) ?_
      refine AllReadyH.cons rfl (fun K hK => ?_) AllReadyH.nil
      ·
        simp only [List.getElem_toArray, List.getElem_cons_zero, List.getElem_cons_succ]
        go_simp
        refine (rsmall4_any 1 (by omega) (by omega) _).mono ?_
        rintro e x13 ⟨s1, a1, l1, k1, o1, rfl, h1, e1, l1', hb⟩
        replace V0 := Va.after hb V0
        replace V1 := Va.after hb V1
        replace V2 := Va.after hb V2
        replace V3 := Va.after hb V3
        replace Vq := Va.after hb Vq
        replace hx := Ir.after hb hx
        replace hy := Ir.after hb hy
        replace hq := Ir.after hb hq
        replace B0 := step B0 hb
        clear hb
        try go_wp2_with fail
        refine hK.out _ _ trivial (fun hHeld => ?_)
        clear hK K
        refine wpAnyH_ready (rs := [2]) (by kernel_rfl) (by simp) ?_
        refine AllReadyH.cons rfl (fun K hK => ?_) AllReadyH.nil
        ·
          simp only [List.getElem_toArray, List.getElem_cons_zero, List.getElem_cons_succ]
          go_simp
          refine (rsub4_any sq s1 aq a1 lq kq l1 k1 zq o1 _ hq h1 (by omega) (by omega)).mono ?_
          rintro e x14 ⟨s2, a2, l2, k2, y2, rfl, h2, e2, l2', hb⟩
          replace V0 := Va.after hb V0
          replace V1 := Va.after hb V1
          replace V2 := Va.after hb V2
          replace V3 := Va.after hb V3
          replace Vq := Va.after hb Vq
          replace hx := Ir.after hb hx
          replace hy := Ir.after hb hy
          replace hq := Ir.after hb hq
          replace h1 := Ir.after hb h1
          replace B0 := step B0 hb
          clear hb
          try go_wp2_with fail
          refine hK.out _ _ trivial (fun hHeld => ?_)
          clear hK K
          have c_Vq := Vq.c0
          have d_Vq := Vq.c1
          have f_Vq := Vq.frozen 0
          have g_Vq := Vq.frozen 1
          have l_Vq := Vq.lt
          have m_Vq := Nat.le_of_lt l_Vq
          refine wpAnyH_ready (rs := [3]) (by kernel_rfl) (by simp) ?_
          refine AllReadyH.cons rfl (fun K hK => ?_) AllReadyH.nil
          simp only [List.getElem_toArray, List.getElem_cons_zero, List.getElem_cons_succ]
          go_simp
          clear c_Vq d_Vq f_Vq g_Vq l_Vq m_Vq
          refine st2 Vq (.bool s2) (.slice a2 l2 k2) (Q := fun W => K _ W) ?_
          intro x15 V' oth far
          replace V0 := oth _ _ _ (by first | omega | assumption) V0
          replace V1 := oth _ _ _ (by first | omega | assumption) V1
          replace V2 := oth _ _ _ (by first | omega | assumption) V2
          replace V3 := oth _ _ _ (by first | omega | assumption) V3
          replace hx := hx.far Vq (noInt2 _ _ _ _) far.1
          replace hy := hy.far Vq (noInt2 _ _ _ _) far.1
          replace hq := hq.far Vq (noInt2 _ _ _ _) far.1
          replace h1 := h1.far Vq (noInt2 _ _ _ _) far.1
          replace h2 := h2.far Vq (noInt2 _ _ _ _) far.1
          replace B0 := far.2 _ _ (by first | omega | (simp; omega)) B0
          replace Vq := V'
          clear oth far
          refine hK.out _ _ trivial (fun hHeld => ?_)
          clear hK K
          refine wpAnyH_done (by kernel_rfl) ?_ _
          refine NoPanic.normal ?_
          clear hHeld
          go_wp2_with fail
          have hQ := h2
          refine wp_region_noPanic ?_
          replace V0 : Va x15.drew _ _ _ := V0
          replace V1 : Va x15.drew _ _ _ := V1
          replace V2 : Va x15.drew _ _ _ := V2
          replace V3 : Va x15.drew _ _ _ := V3
          replace Vq : Va x15.drew _ _ _ := Vq
          replace hx := hx.drw
          replace hy := hy.drw
          replace hq := hq.drw
          replace h1 := h1.drw
          replace h2 := h2.drw
          replace hQ := hQ.drw
          replace B0 := Below.drew B0
          refine wp_region_held_drew (S := (fun W => W.cell? ⟨w.heap.size, 0, none⟩ = some (.bool s) ∧ W.cell? ⟨w.heap.size, 1, none⟩ = some (.slice a la ca) ∧ W.cell? ⟨w.heap.size + 1, 0, none⟩ = some (.bool t) ∧ W.cell? ⟨w.heap.size + 1, 1, none⟩ = some (.slice b lb cb) ∧ W.cell? ⟨x3.heap.size, 0, none⟩ = some (.bool s2) ∧ W.cell? ⟨x3.heap.size, 1, none⟩ = some (.slice a2 l2 k2))) (by kernel_rfl) ⟨V0.c0, V0.c1, V1.c0, V1.c1, Vq.c0, Vq.c1⟩ (fun hHeld => ?_)
          obtain ⟨x16, hxd⟩ : ∃ xd, xd = x15.drew := ⟨_, rfl⟩
          rw [← hxd] at V0 V1 V2 V3 Vq hx hy hq h1 h2 hQ B0 hHeld ⊢
          clear hxd
          refine wpAnyH_take (i := 0) (v := ?_) rfl (by kernel_rfl) (by kernel_rfl) (by kernel_rfl) (fun _ _ _ h => h) (Or.inl ⟨by rfl, ?_⟩) hHeld ?_
          rotate_left
          · (intro W hSw; (try dsimp only at hSw); go_simp; all_goals (with_reducible rfl))
          simp only [List.getElem_toArray, List.getElem_cons_zero, Act.put, List.setIfInBounds_toArray, List.set_cons_zero, List.set_cons_succ]
          refine wpAnyH_take (i := 1) (v := ?_) rfl (by kernel_rfl) (by kernel_rfl) (by kernel_rfl) (fun _ _ _ h => h) (Or.inl ⟨by rfl, ?_⟩) hHeld ?_
          rotate_left
          · (intro W hSw; (try dsimp only at hSw); go_simp; all_goals (with_reducible rfl))
          simp only [List.getElem_toArray, List.getElem_cons_zero, List.getElem_cons_succ, Act.put, List.setIfInBounds_toArray, List.set_cons_zero, List.set_cons_succ]
          refine wpAnyH_take (i := 2) (v := ?_) rfl (by kernel_rfl) (by kernel_rfl) (by kernel_rfl) (fun _ _ _ h => h) (Or.inl ⟨by rfl, ?_⟩) hHeld ?_
          rotate_left
          · (intro W hSw; (try dsimp only at hSw); go_simp; all_goals (with_reducible rfl))
          simp only [List.getElem_toArray, List.getElem_cons_zero, List.getElem_cons_succ, Act.put, List.setIfInBounds_toArray, List.set_cons_zero, List.set_cons_succ]
          refine wpAnyH_take (i := 3) (v := ?_) rfl (by kernel_rfl) (by kernel_rfl) (by kernel_rfl) (fun _ _ _ h => h) (Or.inl ⟨by rfl, ?_⟩) hHeld ?_
          rotate_left
          · (intro W hSw; (try dsimp only at hSw); go_simp; all_goals (with_reducible rfl))
          simp only [List.getElem_toArray, List.getElem_cons_zero, List.getElem_cons_succ, Act.put, List.setIfInBounds_toArray, List.set_cons_zero, List.set_cons_succ]
          refine wpAnyH_ready (rs := [4]) (by kernel_rfl) (by simp) ?_
          refine AllReadyH.cons rfl (fun K hK => ?_) AllReadyH.nil
          simp only [List.getElem_toArray, List.getElem_cons_zero, List.getElem_cons_succ]
          go_simp
          refine (rmul4_any s2 t a2 b l2 k2 lb cb y2 ys _ hQ hy (by omega) (by omega)).mono ?_
          rintro e x17 ⟨s9, a9, l9, k9, z9, rfl, h9, e9, l9', hb⟩
          replace V0 := Va.after hb V0
          replace V1 := Va.after hb V1
          replace V2 := Va.after hb V2
          replace V3 := Va.after hb V3
          replace Vq := Va.after hb Vq
          replace hx := Ir.after hb hx
          replace hy := Ir.after hb hy
          replace hq := Ir.after hb hq
          replace h1 := Ir.after hb h1
          replace h2 := Ir.after hb h2
          replace hQ := Ir.after hb hQ
          replace B0 := step B0 hb
          clear hb
          try go_wp2_with fail
          refine hK.out _ _ ⟨V0.c0, V0.c1, V1.c0, V1.c1, Vq.c0, Vq.c1⟩ (fun hHeld => ?_)
          clear hK K
          refine wpAnyH_ready (rs := [5]) (by kernel_rfl) (by simp) ?_
          refine AllReadyH.cons rfl (fun K hK => ?_) AllReadyH.nil
          simp only [List.getElem_toArray, List.getElem_cons_zero, List.getElem_cons_succ]
          go_simp
          refine (rsub4_any s s9 a a9 la ca l9 k9 xs z9 _ hx h9 (by omega) (by omega)).mono ?_
          rintro e x18 ⟨sr, ar, lr, kr, zr, rfl, hr, er, lr', hb⟩
          replace V0 := Va.after hb V0
          replace V1 := Va.after hb V1
          replace V2 := Va.after hb V2
          replace V3 := Va.after hb V3
          replace Vq := Va.after hb Vq
          replace hx := Ir.after hb hx
          replace hy := Ir.after hb hy
          replace hq := Ir.after hb hq
          replace h1 := Ir.after hb h1
          replace h2 := Ir.after hb h2
          replace hQ := Ir.after hb hQ
          replace h9 := Ir.after hb h9
          replace B0 := step B0 hb
          clear hb
          try go_wp2_with fail
          refine hK.out _ _ ⟨V0.c0, V0.c1, V1.c0, V1.c1, Vq.c0, Vq.c1⟩ (fun hHeld => ?_)
          clear hK K
          have c_V2 := V2.c0
          have d_V2 := V2.c1
          have f_V2 := V2.frozen 0
          have g_V2 := V2.frozen 1
          have l_V2 := V2.lt
          have m_V2 := Nat.le_of_lt l_V2
          refine wpAnyH_ready (rs := [6]) (by kernel_rfl) (by simp) ?_
          refine AllReadyH.cons rfl (fun K hK => ?_) AllReadyH.nil
          simp only [List.getElem_toArray, List.getElem_cons_zero, List.getElem_cons_succ]
          go_simp
          clear c_V2 d_V2 f_V2 g_V2 l_V2 m_V2
          refine st2 V2 (.bool s2) (.slice a2 l2 k2) (Q := fun W => K _ W) ?_
          intro x19 V' oth far
          replace V0 := oth _ _ _ (by first | omega | assumption) V0
          replace V1 := oth _ _ _ (by first | omega | assumption) V1
          replace V3 := oth _ _ _ (by first | omega | assumption) V3
          replace Vq := oth _ _ _ (by first | omega | assumption) Vq
          replace hx := hx.far V2 (noInt2 _ _ _ _) far.1
          replace hy := hy.far V2 (noInt2 _ _ _ _) far.1
          replace hq := hq.far V2 (noInt2 _ _ _ _) far.1
          replace h1 := h1.far V2 (noInt2 _ _ _ _) far.1
          replace h2 := h2.far V2 (noInt2 _ _ _ _) far.1
          replace hQ := hQ.far V2 (noInt2 _ _ _ _) far.1
          replace h9 := h9.far V2 (noInt2 _ _ _ _) far.1
          replace hr := hr.far V2 (noInt2 _ _ _ _) far.1
          replace B0 := far.2 _ _ (by first | omega | (simp; omega)) B0
          replace V2 := V'
          clear oth far
          refine hK.out _ _ ⟨V0.c0, V0.c1, V1.c0, V1.c1, Vq.c0, Vq.c1⟩ (fun hHeld => ?_)
          clear hK K
          have c_V3 := V3.c0
          have d_V3 := V3.c1
          have f_V3 := V3.frozen 0
          have g_V3 := V3.frozen 1
          have l_V3 := V3.lt
          have m_V3 := Nat.le_of_lt l_V3
          refine wpAnyH_ready (rs := [7]) (by kernel_rfl) (by simp) ?_
          refine AllReadyH.cons rfl (fun K hK => ?_) AllReadyH.nil
          simp only [List.getElem_toArray, List.getElem_cons_zero, List.getElem_cons_succ]
          go_simp
          clear c_V3 d_V3 f_V3 g_V3 l_V3 m_V3
          refine st2 V3 (.bool sr) (.slice ar lr kr) (Q := fun W => K _ W) ?_
          intro x20 V' oth far
          replace V0 := oth _ _ _ (by first | omega | assumption) V0
          replace V1 := oth _ _ _ (by first | omega | assumption) V1
          replace V2 := oth _ _ _ (by first | omega | assumption) V2
          replace Vq := oth _ _ _ (by first | omega | assumption) Vq
          replace hx := hx.far V3 (noInt2 _ _ _ _) far.1
          replace hy := hy.far V3 (noInt2 _ _ _ _) far.1
          replace hq := hq.far V3 (noInt2 _ _ _ _) far.1
          replace h1 := h1.far V3 (noInt2 _ _ _ _) far.1
          replace h2 := h2.far V3 (noInt2 _ _ _ _) far.1
          replace hQ := hQ.far V3 (noInt2 _ _ _ _) far.1
          replace h9 := h9.far V3 (noInt2 _ _ _ _) far.1
          replace hr := hr.far V3 (noInt2 _ _ _ _) far.1
          replace B0 := far.2 _ _ (by first | omega | (simp; omega)) B0
          replace V3 := V'
          clear oth far
          refine hK.out _ _ ⟨V0.c0, V0.c1, V1.c0, V1.c1, Vq.c0, Vq.c1⟩ (fun hHeld => ?_)
          clear hK K
          refine wpAnyH_done (by kernel_rfl) ?_ _
          refine NoPanic.normal ?_
          clear hHeld
          go_wp2_with fail
          refine bodyPost_ret (results_ii rfl rfl V2 rfl V3) rfl ?_
          refine ⟨_, _, _, _, _, _, _, _, _, _, rfl, h2, hr, ?_, B0⟩
          show _ ∧ _
          have q1 : iv s2 y2 = iv (s != t) zn - 1 := by rw [e2, e1, HEQ.out]
          have q2 : iv sr zr = iv s xs - (iv (s != t) zn - 1) * iv t ys := by rw [er, e9, q1]
          rw [q1, q2]
          exact ⟨by omega, HM.out⟩
    ·
      simp only [List.getElem_toArray, List.getElem_cons_zero, List.getElem_cons_succ]
      go_simp
      refine (rsmall4_any 1 (by omega) (by omega) _).mono ?_
      rintro e x13 ⟨s1, a1, l1, k1, o1, rfl, h1, e1, l1', hb⟩
      replace V0 := Va.after hb V0
      replace V1 := Va.after hb V1
      replace V2 := Va.after hb V2
      replace V3 := Va.after hb V3
      replace Vq := Va.after hb Vq
      replace hx := Ir.after hb hx
      replace hy := Ir.after hb hy
      replace hq := Ir.after hb hq
      replace B0 := step B0 hb
      clear hb
      try go_wp2_with fail
      refine hK.out _ _ trivial (fun hHeld => ?_)
      clear hK K
      refine wpAnyH_ready (rs := [0]) (by kernel_rfl) (by simp) ?_
      refine AllReadyH.cons rfl (fun K hK => ?_) AllReadyH.nil
      ·
        have c_Vq := Vq.c0
        have d_Vq := Vq.c1
        have f_Vq := Vq.frozen 0
        have g_Vq := Vq.frozen 1
        have l_Vq := Vq.lt
        have m_Vq := Nat.le_of_lt l_Vq
        simp only [List.getElem_toArray, List.getElem_cons_zero]
        go_simp
        clear c_Vq d_Vq f_Vq g_Vq l_Vq m_Vq
        refine hK.out _ _ trivial (fun hHeld => ?_)
        clear hK K
        refine wpAnyH_ready (rs := [2]) (by kernel_rfl) (by simp) ?_
        refine AllReadyH.cons rfl (fun K hK => ?_) AllReadyH.nil
        ·
          simp only [List.getElem_toArray, List.getElem_cons_zero, List.getElem_cons_succ]
          go_simp
          refine (rsub4_any sq s1 aq a1 lq kq l1 k1 zq o1 _ hq h1 (by omega) (by omega)).mono ?_
          rintro e x14 ⟨s2, a2, l2, k2, y2, rfl, h2, e2, l2', hb⟩
          replace V0 := Va.after hb V0
          replace V1 := Va.after hb V1
          replace V2 := Va.after hb V2
          replace V3 := Va.after hb V3
          replace Vq := Va.after hb Vq
          replace hx := Ir.after hb hx
          replace hy := Ir.after hb hy
          replace hq := Ir.after hb hq
          replace h1 := Ir.after hb h1
          replace B0 := step B0 hb
          clear hb
          try go_wp2_with fail
          refine hK.out _ _ trivial (fun hHeld => ?_)
          clear hK K
          have c_Vq := Vq.c0
          have d_Vq := Vq.c1
          have f_Vq := Vq.frozen 0
          have g_Vq := Vq.frozen 1
          have l_Vq := Vq.lt
          have m_Vq := Nat.le_of_lt l_Vq
          refine wpAnyH_ready (rs := [3]) (by kernel_rfl) (by simp) ?_
          refine AllReadyH.cons rfl (fun K hK => ?_) AllReadyH.nil
          simp only [List.getElem_toArray, List.getElem_cons_zero, List.getElem_cons_succ]
          go_simp
          clear c_Vq d_Vq f_Vq g_Vq l_Vq m_Vq
          refine st2 Vq (.bool s2) (.slice a2 l2 k2) (Q := fun W => K _ W) ?_
          intro x15 V' oth far
          replace V0 := oth _ _ _ (by first | omega | assumption) V0
          replace V1 := oth _ _ _ (by first | omega | assumption) V1
          replace V2 := oth _ _ _ (by first | omega | assumption) V2
          replace V3 := oth _ _ _ (by first | omega | assumption) V3
          replace hx := hx.far Vq (noInt2 _ _ _ _) far.1
          replace hy := hy.far Vq (noInt2 _ _ _ _) far.1
          replace hq := hq.far Vq (noInt2 _ _ _ _) far.1
          replace h1 := h1.far Vq (noInt2 _ _ _ _) far.1
          replace h2 := h2.far Vq (noInt2 _ _ _ _) far.1
          replace B0 := far.2 _ _ (by first | omega | (simp; omega)) B0
          replace Vq := V'
          clear oth far
          refine hK.out _ _ trivial (fun hHeld => ?_)
          clear hK K
          refine wpAnyH_done (by kernel_rfl) ?_ _
          refine NoPanic.normal ?_
          clear hHeld
          go_wp2_with fail
          have hQ := h2
          refine wp_region_noPanic ?_
          replace V0 : Va x15.drew _ _ _ := V0
          replace V1 : Va x15.drew _ _ _ := V1
          replace V2 : Va x15.drew _ _ _ := V2
          replace V3 : Va x15.drew _ _ _ := V3
          replace Vq : Va x15.drew _ _ _ := Vq
          replace hx := hx.drw
          replace hy := hy.drw
          replace hq := hq.drw
          replace h1 := h1.drw
          replace h2 := h2.drw
          replace hQ := hQ.drw
          replace B0 := Below.drew B0
          refine wp_region_held_drew (S := (fun W => W.cell? ⟨w.heap.size, 0, none⟩ = some (.bool s) ∧ W.cell? ⟨w.heap.size, 1, none⟩ = some (.slice a la ca) ∧ W.cell? ⟨w.heap.size + 1, 0, none⟩ = some (.bool t) ∧ W.cell? ⟨w.heap.size + 1, 1, none⟩ = some (.slice b lb cb) ∧ W.cell? ⟨x3.heap.size, 0, none⟩ = some (.bool s2) ∧ W.cell? ⟨x3.heap.size, 1, none⟩ = some (.slice a2 l2 k2))) (by kernel_rfl) ⟨V0.c0, V0.c1, V1.c0, V1.c1, Vq.c0, Vq.c1⟩ (fun hHeld => ?_)
          obtain ⟨x16, hxd⟩ : ∃ xd, xd = x15.drew := ⟨_, rfl⟩
          rw [← hxd] at V0 V1 V2 V3 Vq hx hy hq h1 h2 hQ B0 hHeld ⊢
          clear hxd
          refine wpAnyH_take (i := 0) (v := ?_) rfl (by kernel_rfl) (by kernel_rfl) (by kernel_rfl) (fun _ _ _ h => h) (Or.inl ⟨by rfl, ?_⟩) hHeld ?_
          rotate_left
          · (intro W hSw; (try dsimp only at hSw); go_simp; all_goals (with_reducible rfl))
          simp only [List.getElem_toArray, List.getElem_cons_zero, Act.put, List.setIfInBounds_toArray, List.set_cons_zero, List.set_cons_succ]
          refine wpAnyH_take (i := 1) (v := ?_) rfl (by kernel_rfl) (by kernel_rfl) (by kernel_rfl) (fun _ _ _ h => h) (Or.inl ⟨by rfl, ?_⟩) hHeld ?_
          rotate_left
          · (intro W hSw; (try dsimp only at hSw); go_simp; all_goals (with_reducible rfl))
          simp only [List.getElem_toArray, List.getElem_cons_zero, List.getElem_cons_succ, Act.put, List.setIfInBounds_toArray, List.set_cons_zero, List.set_cons_succ]
          refine wpAnyH_take (i := 2) (v := ?_) rfl (by kernel_rfl) (by kernel_rfl) (by kernel_rfl) (fun _ _ _ h => h) (Or.inl ⟨by rfl, ?_⟩) hHeld ?_
          rotate_left
          · (intro W hSw; (try dsimp only at hSw); go_simp; all_goals (with_reducible rfl))
          simp only [List.getElem_toArray, List.getElem_cons_zero, List.getElem_cons_succ, Act.put, List.setIfInBounds_toArray, List.set_cons_zero, List.set_cons_succ]
          refine wpAnyH_take (i := 3) (v := ?_) rfl (by kernel_rfl) (by kernel_rfl) (by kernel_rfl) (fun _ _ _ h => h) (Or.inl ⟨by rfl, ?_⟩) hHeld ?_
          rotate_left
          · (intro W hSw; (try dsimp only at hSw); go_simp; all_goals (with_reducible rfl))
          simp only [List.getElem_toArray, List.getElem_cons_zero, List.getElem_cons_succ, Act.put, List.setIfInBounds_toArray, List.set_cons_zero, List.set_cons_succ]
          refine wpAnyH_ready (rs := [4]) (by kernel_rfl) (by simp) ?_
          refine AllReadyH.cons rfl (fun K hK => ?_) AllReadyH.nil
          simp only [List.getElem_toArray, List.getElem_cons_zero, List.getElem_cons_succ]
          go_simp
          refine (rmul4_any s2 t a2 b l2 k2 lb cb y2 ys _ hQ hy (by omega) (by omega)).mono ?_
          rintro e x17 ⟨s9, a9, l9, k9, z9, rfl, h9, e9, l9', hb⟩
          replace V0 := Va.after hb V0
          replace V1 := Va.after hb V1
          replace V2 := Va.after hb V2
          replace V3 := Va.after hb V3
          replace Vq := Va.after hb Vq
          replace hx := Ir.after hb hx
          replace hy := Ir.after hb hy
          replace hq := Ir.after hb hq
          replace h1 := Ir.after hb h1
          replace h2 := Ir.after hb h2
          replace hQ := Ir.after hb hQ
          replace B0 := step B0 hb
          clear hb
          try go_wp2_with fail
          refine hK.out _ _ ⟨V0.c0, V0.c1, V1.c0, V1.c1, Vq.c0, Vq.c1⟩ (fun hHeld => ?_)
          clear hK K
          refine wpAnyH_ready (rs := [5]) (by kernel_rfl) (by simp) ?_
          refine AllReadyH.cons rfl (fun K hK => ?_) AllReadyH.nil
          simp only [List.getElem_toArray, List.getElem_cons_zero, List.getElem_cons_succ]
          go_simp
          refine (rsub4_any s s9 a a9 la ca l9 k9 xs z9 _ hx h9 (by omega) (by omega)).mono ?_
          rintro e x18 ⟨sr, ar, lr, kr, zr, rfl, hr, er, lr', hb⟩
          replace V0 := Va.after hb V0
          replace V1 := Va.after hb V1
          replace V2 := Va.after hb V2
          replace V3 := Va.after hb V3
          replace Vq := Va.after hb Vq
          replace hx := Ir.after hb hx
          replace hy := Ir.after hb hy
          replace hq := Ir.after hb hq
          replace h1 := Ir.after hb h1
          replace h2 := Ir.after hb h2
          replace hQ := Ir.after hb hQ
          replace h9 := Ir.after hb h9
          replace B0 := step B0 hb
          clear hb
          try go_wp2_with fail
          refine hK.out _ _ ⟨V0.c0, V0.c1, V1.c0, V1.c1, Vq.c0, Vq.c1⟩ (fun hHeld => ?_)
          clear hK K
          have c_V2 := V2.c0
          have d_V2 := V2.c1
          have f_V2 := V2.frozen 0
          have g_V2 := V2.frozen 1
          have l_V2 := V2.lt
          have m_V2 := Nat.le_of_lt l_V2
          refine wpAnyH_ready (rs := [6]) (by kernel_rfl) (by simp) ?_
          refine AllReadyH.cons rfl (fun K hK => ?_) AllReadyH.nil
          simp only [List.getElem_toArray, List.getElem_cons_zero, List.getElem_cons_succ]
          go_simp
          clear c_V2 d_V2 f_V2 g_V2 l_V2 m_V2
          refine st2 V2 (.bool s2) (.slice a2 l2 k2) (Q := fun W => K _ W) ?_
          intro x19 V' oth far
          replace V0 := oth _ _ _ (by first | omega | assumption) V0
          replace V1 := oth _ _ _ (by first | omega | assumption) V1
          replace V3 := oth _ _ _ (by first | omega | assumption) V3
          replace Vq := oth _ _ _ (by first | omega | assumption) Vq
          replace hx := hx.far V2 (noInt2 _ _ _ _) far.1
          replace hy := hy.far V2 (noInt2 _ _ _ _) far.1
          replace hq := hq.far V2 (noInt2 _ _ _ _) far.1
          replace h1 := h1.far V2 (noInt2 _ _ _ _) far.1
          replace h2 := h2.far V2 (noInt2 _ _ _ _) far.1
          replace hQ := hQ.far V2 (noInt2 _ _ _ _) far.1
          replace h9 := h9.far V2 (noInt2 _ _ _ _) far.1
          replace hr := hr.far V2 (noInt2 _ _ _ _) far.1
          replace B0 := far.2 _ _ (by first | omega | (simp; omega)) B0
          replace V2 := V'
          clear oth far
          refine hK.out _ _ ⟨V0.c0, V0.c1, V1.c0, V1.c1, Vq.c0, Vq.c1⟩ (fun hHeld => ?_)
          clear hK K
          have c_V3 := V3.c0
          have d_V3 := V3.c1
          have f_V3 := V3.frozen 0
          have g_V3 := V3.frozen 1
          have l_V3 := V3.lt
          have m_V3 := Nat.le_of_lt l_V3
          refine wpAnyH_ready (rs := [7]) (by kernel_rfl) (by simp) ?_
          refine AllReadyH.cons rfl (fun K hK => ?_) AllReadyH.nil
          simp only [List.getElem_toArray, List.getElem_cons_zero, List.getElem_cons_succ]
          go_simp
          clear c_V3 d_V3 f_V3 g_V3 l_V3 m_V3
          refine st2 V3 (.bool sr) (.slice ar lr kr) (Q := fun W => K _ W) ?_
          intro x20 V' oth far
          replace V0 := oth _ _ _ (by first | omega | assumption) V0
          replace V1 := oth _ _ _ (by first | omega | assumption) V1
          replace V2 := oth _ _ _ (by first | omega | assumption) V2
          replace Vq := oth _ _ _ (by first | omega | assumption) Vq
          replace hx := hx.far V3 (noInt2 _ _ _ _) far.1
          replace hy := hy.far V3 (noInt2 _ _ _ _) far.1
          replace hq := hq.far V3 (noInt2 _ _ _ _) far.1
          replace h1 := h1.far V3 (noInt2 _ _ _ _) far.1
          replace h2 := h2.far V3 (noInt2 _ _ _ _) far.1
          replace hQ := hQ.far V3 (noInt2 _ _ _ _) far.1
          replace h9 := h9.far V3 (noInt2 _ _ _ _) far.1
          replace hr := hr.far V3 (noInt2 _ _ _ _) far.1
          replace B0 := far.2 _ _ (by first | omega | (simp; omega)) B0
          replace V3 := V'
          clear oth far
          refine hK.out _ _ ⟨V0.c0, V0.c1, V1.c0, V1.c1, Vq.c0, Vq.c1⟩ (fun hHeld => ?_)
          clear hK K
          refine wpAnyH_done (by kernel_rfl) ?_ _
          refine NoPanic.normal ?_
          clear hHeld
          go_wp2_with fail
          refine bodyPost_ret (results_ii rfl rfl V2 rfl V3) rfl ?_
          refine ⟨_, _, _, _, _, _, _, _, _, _, rfl, h2, hr, ?_, B0⟩
          show _ ∧ _
          have q1 : iv s2 y2 = iv (s != t) zn - 1 := by rw [e2, e1, HEQ.out]
          have q2 : iv sr zr = iv s xs - (iv (s != t) zn - 1) * iv t ys := by rw [er, e9, q1]
          rw [q1, q2]
          exact ⟨by omega, HM.out⟩
  ·
    have HM : Hid _ := HK2.out.2 (fun h => hc (HC.out.2 h))
    clear HK2 HC
    go_wp2_with fail
    have hQ := hq
    refine wp_region_noPanic ?_
    replace V0 : Va x11.drew _ _ _ := V0
    replace V1 : Va x11.drew _ _ _ := V1
    replace V2 : Va x11.drew _ _ _ := V2
    replace V3 : Va x11.drew _ _ _ := V3
    replace Vq : Va x11.drew _ _ _ := Vq
    replace hx := hx.drw
    replace hy := hy.drw
    replace hq := hq.drw
    replace hQ := hQ.drw
    replace B0 := Below.drew B0
    refine wp_region_held_drew (S := (fun W => W.cell? ⟨w.heap.size, 0, none⟩ = some (.bool s) ∧ W.cell? ⟨w.heap.size, 1, none⟩ = some (.slice a la ca) ∧ W.cell? ⟨w.heap.size + 1, 0, none⟩ = some (.bool t) ∧ W.cell? ⟨w.heap.size + 1, 1, none⟩ = some (.slice b lb cb) ∧ W.cell? ⟨x3.heap.size, 0, none⟩ = some (.bool sq) ∧ W.cell? ⟨x3.heap.size, 1, none⟩ = some (.slice aq lq kq))) (by kernel_rfl) ⟨V0.c0, V0.c1, V1.c0, V1.c1, Vq.c0, Vq.c1⟩ (fun hHeld => ?_)
    obtain ⟨x12, hxd⟩ : ∃ xd, xd = x11.drew := ⟨_, rfl⟩
    rw [← hxd] at V0 V1 V2 V3 Vq hx hy hq hQ B0 hHeld ⊢
    clear hxd
    refine wpAnyH_take (i := 0) (v := ?_) rfl (by kernel_rfl) (by kernel_rfl) (by kernel_rfl) (fun _ _ _ h => h) (Or.inl ⟨by rfl, ?_⟩) hHeld ?_
    rotate_left
    · (intro W hSw; (try dsimp only at hSw); go_simp; all_goals (with_reducible rfl))
    simp only [List.getElem_toArray, List.getElem_cons_zero, Act.put, List.setIfInBounds_toArray, List.set_cons_zero, List.set_cons_succ]
    refine wpAnyH_take (i := 1) (v := ?_) rfl (by kernel_rfl) (by kernel_rfl) (by kernel_rfl) (fun _ _ _ h => h) (Or.inl ⟨by rfl, ?_⟩) hHeld ?_
    rotate_left
    · (intro W hSw; (try dsimp only at hSw); go_simp; all_goals (with_reducible rfl))
    simp only [List.getElem_toArray, List.getElem_cons_zero, List.getElem_cons_succ, Act.put, List.setIfInBounds_toArray, List.set_cons_zero, List.set_cons_succ]
    refine wpAnyH_take (i := 2) (v := ?_) rfl (by kernel_rfl) (by kernel_rfl) (by kernel_rfl) (fun _ _ _ h => h) (Or.inl ⟨by rfl, ?_⟩) hHeld ?_
    rotate_left
    · (intro W hSw; (try dsimp only at hSw); go_simp; all_goals (with_reducible rfl))
    simp only [List.getElem_toArray, List.getElem_cons_zero, List.getElem_cons_succ, Act.put, List.setIfInBounds_toArray, List.set_cons_zero, List.set_cons_succ]
    refine wpAnyH_take (i := 3) (v := ?_) rfl (by kernel_rfl) (by kernel_rfl) (by kernel_rfl) (fun _ _ _ h => h) (Or.inl ⟨by rfl, ?_⟩) hHeld ?_
    rotate_left
    · (intro W hSw; (try dsimp only at hSw); go_simp; all_goals (with_reducible rfl))
    simp only [List.getElem_toArray, List.getElem_cons_zero, List.getElem_cons_succ, Act.put, List.setIfInBounds_toArray, List.set_cons_zero, List.set_cons_succ]
    refine wpAnyH_ready (rs := [4]) (by kernel_rfl) (by simp) ?_
    refine AllReadyH.cons rfl (fun K hK => ?_) AllReadyH.nil
    simp only [List.getElem_toArray, List.getElem_cons_zero, List.getElem_cons_succ]
    go_simp
    refine (rmul4_any sq t aq b lq kq lb cb zq ys _ hQ hy (by omega) (by omega)).mono ?_
    rintro e x13 ⟨s9, a9, l9, k9, z9, rfl, h9, e9, l9', hb⟩
    replace V0 := Va.after hb V0
    replace V1 := Va.after hb V1
    replace V2 := Va.after hb V2
    replace V3 := Va.after hb V3
    replace Vq := Va.after hb Vq
    replace hx := Ir.after hb hx
    replace hy := Ir.after hb hy
    replace hq := Ir.after hb hq
    replace hQ := Ir.after hb hQ
    replace B0 := step B0 hb
    clear hb
    try go_wp2_with fail
    refine hK.out _ _ ⟨V0.c0, V0.c1, V1.c0, V1.c1, Vq.c0, Vq.c1⟩ (fun hHeld => ?_)
    clear hK K
    refine wpAnyH_ready (rs := [5]) (by kernel_rfl) (by simp) ?_
    refine AllReadyH.cons rfl (fun K hK => ?_) AllReadyH.nil
    simp only [List.getElem_toArray, List.getElem_cons_zero, List.getElem_cons_succ]
    go_simp
    refine (rsub4_any s s9 a a9 la ca l9 k9 xs z9 _ hx h9 (by omega) (by omega)).mono ?_
    rintro e x14 ⟨sr, ar, lr, kr, zr, rfl, hr, er, lr', hb⟩
    replace V0 := Va.after hb V0
    replace V1 := Va.after hb V1
    replace V2 := Va.after hb V2
    replace V3 := Va.after hb V3
    replace Vq := Va.after hb Vq
    replace hx := Ir.after hb hx
    replace hy := Ir.after hb hy
    replace hq := Ir.after hb hq
    replace hQ := Ir.after hb hQ
    replace h9 := Ir.after hb h9
    replace B0 := step B0 hb
    clear hb
    try go_wp2_with fail
    refine hK.out _ _ ⟨V0.c0, V0.c1, V1.c0, V1.c1, Vq.c0, Vq.c1⟩ (fun hHeld => ?_)
    clear hK K
    have c_V2 := V2.c0
    have d_V2 := V2.c1
    have f_V2 := V2.frozen 0
    have g_V2 := V2.frozen 1
    have l_V2 := V2.lt
    have m_V2 := Nat.le_of_lt l_V2
    refine wpAnyH_ready (rs := [6]) (by kernel_rfl) (by simp) ?_
    refine AllReadyH.cons rfl (fun K hK => ?_) AllReadyH.nil
    simp only [List.getElem_toArray, List.getElem_cons_zero, List.getElem_cons_succ]
    go_simp
    clear c_V2 d_V2 f_V2 g_V2 l_V2 m_V2
    refine st2 V2 (.bool sq) (.slice aq lq kq) (Q := fun W => K _ W) ?_
    intro x15 V' oth far
    replace V0 := oth _ _ _ (by first | omega | assumption) V0
    replace V1 := oth _ _ _ (by first | omega | assumption) V1
    replace V3 := oth _ _ _ (by first | omega | assumption) V3
    replace Vq := oth _ _ _ (by first | omega | assumption) Vq
    replace hx := hx.far V2 (noInt2 _ _ _ _) far.1
    replace hy := hy.far V2 (noInt2 _ _ _ _) far.1
    replace hq := hq.far V2 (noInt2 _ _ _ _) far.1
    replace hQ := hQ.far V2 (noInt2 _ _ _ _) far.1
    replace h9 := h9.far V2 (noInt2 _ _ _ _) far.1
    replace hr := hr.far V2 (noInt2 _ _ _ _) far.1
    replace B0 := far.2 _ _ (by first | omega | (simp; omega)) B0
    replace V2 := V'
    clear oth far
    refine hK.out _ _ ⟨V0.c0, V0.c1, V1.c0, V1.c1, Vq.c0, Vq.c1⟩ (fun hHeld => ?_)
    clear hK K
    have c_V3 := V3.c0
    have d_V3 := V3.c1
    have f_V3 := V3.frozen 0
    have g_V3 := V3.frozen 1
    have l_V3 := V3.lt
    have m_V3 := Nat.le_of_lt l_V3
    refine wpAnyH_ready (rs := [7]) (by kernel_rfl) (by simp) ?_
    refine AllReadyH.cons rfl (fun K hK => ?_) AllReadyH.nil
    simp only [List.getElem_toArray, List.getElem_cons_zero, List.getElem_cons_succ]
    go_simp
    clear c_V3 d_V3 f_V3 g_V3 l_V3 m_V3
    refine st2 V3 (.bool sr) (.slice ar lr kr) (Q := fun W => K _ W) ?_
    intro x16 V' oth far
    replace V0 := oth _ _ _ (by first | omega | assumption) V0
    replace V1 := oth _ _ _ (by first | omega | assumption) V1
    replace V2 := oth _ _ _ (by first | omega | assumption) V2
    replace Vq := oth _ _ _ (by first | omega | assumption) Vq
    replace hx := hx.far V3 (noInt2 _ _ _ _) far.1
    replace hy := hy.far V3 (noInt2 _ _ _ _) far.1
    replace hq := hq.far V3 (noInt2 _ _ _ _) far.1
    replace hQ := hQ.far V3 (noInt2 _ _ _ _) far.1
    replace h9 := h9.far V3 (noInt2 _ _ _ _) far.1
    replace hr := hr.far V3 (noInt2 _ _ _ _) far.1
    replace B0 := far.2 _ _ (by first | omega | (simp; omega)) B0
    replace V3 := V'
    clear oth far
    refine hK.out _ _ ⟨V0.c0, V0.c1, V1.c0, V1.c1, Vq.c0, Vq.c1⟩ (fun hHeld => ?_)
    clear hK K
    refine wpAnyH_done (by kernel_rfl) ?_ _
    refine NoPanic.normal ?_
    clear hHeld
    go_wp2_with fail
    refine bodyPost_ret (results_ii rfl rfl V2 rfl V3) rfl ?_
    refine ⟨_, _, _, _, _, _, _, _, _, _, rfl, hq, hr, ?_, B0⟩
    show _ ∧ _
    have q2 : iv sr zr = iv s xs - iv (s != t) zn * iv t ys := by rw [er, e9, HEQ.out]
    rw [HEQ.out, q2]
    exact ⟨by omega, HM.out⟩
end Go.Proofs.Ytkfpblonjinfmaa
namespace Go.Proofs.Ytkfpblonjinfmaa
open Go.RowKit Go.Shelf
set_option linter.unusedVariables false

theorem sign_no {y : Int} (h : y ≠ 0) : (Int.sign y == 0) = false := by
  rcases Int.lt_trichotomy y 0 with h' | h' | h'
  · rw [Int.sign_eq_neg_one_of_neg h']; rfl
  · exact absurd h' h
  · rw [Int.sign_eq_one_of_pos h']; rfl
set_option maxHeartbeats 16000000 in
set_option maxRecDepth 20000 in
theorem divs4_walk (s0 : Bool) (a0 : Option Addr) (len0 cap0 : Nat) (z0 : List Int) (s1 : Bool) (a1 : Option Addr) (len1 cap1 : Nat) (z1 : List Int) (w : World) (h0 : Sl w a0 len0 z0) (c0 : len0 ≤ cap0) (e0 : a0 = none → len0 = 0 ∧ cap0 = 0) (h1 : Sl w a1 len1 z1) (c1 : len1 ≤ cap1) (e1 : a1 = none → len1 = 0 ∧ cap1 = 0) :
    Calls Try.prog 5 #[.agg #[.bool s0, .slice a0 len0 cap0], .agg #[.bool s1, .slice a1 len1 cap1]] w fun e w' => e = .returned (.bool true) ∧ Below w.heap.size w w' := by
  have B0 : Below w.heap.size w w := Below.refl _ _
  go_enter Try.func5, Try.ntmps5
  go_wp2_with fail
  refine ent2 w _ _ _ _ (Q := fun W => Calls Try.prog _ _ W _) ?_
  intro x1 hb hs_x1 V0 V1
  replace h0 := h0.below hb (Nat.le_refl _)
  replace h1 := h1.below hb (Nat.le_refl _)
  replace B0 := step B0 hb
  clear hb hs_x1
  refine (oflaw4 s0 a0 len0 cap0 z0 x1 h0 e0 c0).mono ?_
  rintro e x2 ⟨sx, ax, lx, kx, zx, au, ku, rfl, hx, hu, ex, hb⟩
  replace V0 := Va.after hb V0
  replace V1 := Va.after hb V1
  replace h0 := h0.below hb (Nat.le_refl _)
  replace h1 := h1.below hb (Nat.le_refl _)
  replace B0 := step B0 hb
  clear hb
  clear ex
  have lx4 : lx ≤ 4096 := hx.1.2.2.2
  have c_V0 := V0.c0
  have d_V0 := V0.c1
  have f_V0 := V0.frozen 0
  have g_V0 := V0.frozen 1
  have l_V0 := V0.lt
  have m_V0 := Nat.le_of_lt l_V0
  have c_V1 := V1.c0
  have d_V1 := V1.c1
  have f_V1 := V1.frozen 0
  have g_V1 := V1.frozen 1
  have l_V1 := V1.lt
  have m_V1 := Nat.le_of_lt l_V1
  go_wp2_with fail
  refine ent2 x2 _ _ _ _ (Q := fun W => Calls Try.prog _ _ W _) ?_
  intro x3 hb hs_x3 Vx Vu
  replace V0 := Va.after hb V0
  replace V1 := Va.after hb V1
  replace hx := It.after hb hx
  replace h0 := h0.below hb (Nat.le_refl _)
  replace h1 := h1.below hb (Nat.le_refl _)
  replace hu := Ir.after hb hu
  replace B0 := step B0 hb
  clear hb hs_x3
  refine (oflaw4 s1 a1 len1 cap1 z1 x3 h1 e1 c1).mono ?_
  rintro e x4 ⟨sy, ay, ly, ky, zy, av, kv, rfl, hy, hv, ey, hb⟩
  replace V0 := Va.after hb V0
  replace V1 := Va.after hb V1
  replace Vx := Va.after hb Vx
  replace Vu := Va.after hb Vu
  replace hx := It.after hb hx
  replace h0 := h0.below hb (Nat.le_refl _)
  replace h1 := h1.below hb (Nat.le_refl _)
  replace hu := Ir.after hb hu
  replace B0 := step B0 hb
  clear hb
  clear ey
  have ly4 : ly ≤ 4096 := hy.1.2.2.2
  clear c_V0 d_V0 f_V0 g_V0 l_V0 m_V0 c_V1 d_V1 f_V1 g_V1 l_V1 m_V1
  have c_V0 := V0.c0
  have d_V0 := V0.c1
  have f_V0 := V0.frozen 0
  have g_V0 := V0.frozen 1
  have l_V0 := V0.lt
  have m_V0 := Nat.le_of_lt l_V0
  have c_V1 := V1.c0
  have d_V1 := V1.c1
  have f_V1 := V1.frozen 0
  have g_V1 := V1.frozen 1
  have l_V1 := V1.lt
  have m_V1 := Nat.le_of_lt l_V1
  have c_Vx := Vx.c0
  have d_Vx := Vx.c1
  have f_Vx := Vx.frozen 0
  have g_Vx := Vx.frozen 1
  have l_Vx := Vx.lt
  have m_Vx := Nat.le_of_lt l_Vx
  have c_Vu := Vu.c0
  have d_Vu := Vu.c1
  have f_Vu := Vu.frozen 0
  have g_Vu := Vu.frozen 1
  have l_Vu := Vu.lt
  have m_Vu := Nat.le_of_lt l_Vu
  go_wp2_with fail
  refine ent2 x4 _ _ _ _ (Q := fun W => Calls Try.prog _ _ W _) ?_
  intro x5 hb hs_x5 Vy Vv
  replace V0 := Va.after hb V0
  replace V1 := Va.after hb V1
  replace Vx := Va.after hb Vx
  replace Vu := Va.after hb Vu
  replace hx := It.after hb hx
  replace hy := It.after hb hy
  replace h0 := h0.below hb (Nat.le_refl _)
  replace h1 := h1.below hb (Nat.le_refl _)
  replace hu := Ir.after hb hu
  replace hv := Ir.after hb hv
  replace B0 := step B0 hb
  clear hb hs_x5
  clear c_V0 d_V0 f_V0 g_V0 l_V0 m_V0 c_V1 d_V1 f_V1 g_V1 l_V1 m_V1 c_Vx d_Vx f_Vx g_Vx l_Vx m_Vx c_Vu d_Vu f_Vu g_Vu l_Vu m_Vu
  clear V0 V1 h0 h1
  clear e0 e1 c0 c1
  by_cases y0 : iv sy zy = 0
  ·
    refine (wdiv_nought sx sy ax ay lx kx ly ky zx zy x5 hx hy y0).mono ?_
    rintro e x6 ⟨rfl, hb⟩
    replace Vx := Va.after hb Vx
    replace Vu := Va.after hb Vu
    replace Vy := Va.after hb Vy
    replace Vv := Va.after hb Vv
    replace hx := It.after hb hx
    replace hy := It.after hb hy
    replace hu := Ir.after hb hu
    replace hv := Ir.after hb hv
    replace B0 := step B0 hb
    clear hb
    have c_Vx := Vx.c0
    have d_Vx := Vx.c1
    have f_Vx := Vx.frozen 0
    have g_Vx := Vx.frozen 1
    have l_Vx := Vx.lt
    have m_Vx := Nat.le_of_lt l_Vx
    have c_Vu := Vu.c0
    have d_Vu := Vu.c1
    have f_Vu := Vu.frozen 0
    have g_Vu := Vu.frozen 1
    have l_Vu := Vu.lt
    have m_Vu := Nat.le_of_lt l_Vu
    have c_Vy := Vy.c0
    have d_Vy := Vy.c1
    have f_Vy := Vy.frozen 0
    have g_Vy := Vy.frozen 1
    have l_Vy := Vy.lt
    have m_Vy := Nat.le_of_lt l_Vy
    have c_Vv := Vv.c0
    have d_Vv := Vv.c1
    have f_Vv := Vv.frozen 0
    have g_Vv := Vv.frozen 1
    have l_Vv := Vv.lt
    have m_Vv := Nat.le_of_lt l_Vv
    go_wp2_with fail
    refine ent2 x6 _ _ _ _ (Q := fun W => Calls Try.prog _ _ W _) ?_
    intro x7 hb hs_x7 Vq Vr
    replace Vx := Va.after hb Vx
    replace Vu := Va.after hb Vu
    replace Vy := Va.after hb Vy
    replace Vv := Va.after hb Vv
    replace hx := It.after hb hx
    replace hy := It.after hb hy
    replace hu := Ir.after hb hu
    replace hv := Ir.after hb hv
    replace B0 := step B0 hb
    clear hb hs_x7
    refine (rsign_any sy av ly kv zy x7 hv).mono ?_
    rintro e x8 ⟨rfl, hb⟩
    replace Vx := Va.after hb Vx
    replace Vu := Va.after hb Vu
    replace Vy := Va.after hb Vy
    replace Vv := Va.after hb Vv
    replace Vq := Va.after hb Vq
    replace Vr := Va.after hb Vr
    replace hx := It.after hb hx
    replace hy := It.after hb hy
    replace hu := Ir.after hb hu
    replace hv := Ir.after hb hv
    replace B0 := step B0 hb
    clear hb
    rw [y0, Int.sign_zero]
    clear c_Vx d_Vx f_Vx g_Vx l_Vx m_Vx c_Vu d_Vu f_Vu g_Vu l_Vu m_Vu c_Vy d_Vy f_Vy g_Vy l_Vy m_Vy c_Vv d_Vv f_Vv g_Vv l_Vv m_Vv
    have c_Vx := Vx.c0
    have d_Vx := Vx.c1
    have f_Vx := Vx.frozen 0
    have g_Vx := Vx.frozen 1
    have l_Vx := Vx.lt
    have m_Vx := Nat.le_of_lt l_Vx
    have c_Vu := Vu.c0
    have d_Vu := Vu.c1
    have f_Vu := Vu.frozen 0
    have g_Vu := Vu.frozen 1
    have l_Vu := Vu.lt
    have m_Vu := Nat.le_of_lt l_Vu
    have c_Vy := Vy.c0
    have d_Vy := Vy.c1
    have f_Vy := Vy.frozen 0
    have g_Vy := Vy.frozen 1
    have l_Vy := Vy.lt
    have m_Vy := Nat.le_of_lt l_Vy
    have c_Vv := Vv.c0
    have d_Vv := Vv.c1
    have f_Vv := Vv.frozen 0
    have g_Vv := Vv.frozen 1
    have l_Vv := Vv.lt
    have m_Vv := Nat.le_of_lt l_Vv
    have c_Vq := Vq.c0
    have d_Vq := Vq.c1
    have f_Vq := Vq.frozen 0
    have g_Vq := Vq.frozen 1
    have l_Vq := Vq.lt
    have m_Vq := Nat.le_of_lt l_Vq
    have c_Vr := Vr.c0
    have d_Vr := Vr.c1
    have f_Vr := Vr.frozen 0
    have g_Vr := Vr.frozen 1
    have l_Vr := Vr.lt
    have m_Vr := Nat.le_of_lt l_Vr
    go_wp2_with fail
    refine (wsign_any false none 0 0 [] x8 (It.nil _)).mono ?_
    rintro e x9 ⟨rfl, hb⟩
    replace Vx := Va.after hb Vx
    replace Vu := Va.after hb Vu
    replace Vy := Va.after hb Vy
    replace Vv := Va.after hb Vv
    replace Vq := Va.after hb Vq
    replace Vr := Va.after hb Vr
    replace hx := It.after hb hx
    replace hy := It.after hb hy
    replace hu := Ir.after hb hu
    replace hv := Ir.after hb hv
    replace B0 := step B0 hb
    clear hb
    rw [iv_nil, Int.sign_zero]
    clear c_Vx d_Vx f_Vx g_Vx l_Vx m_Vx c_Vu d_Vu f_Vu g_Vu l_Vu m_Vu c_Vy d_Vy f_Vy g_Vy l_Vy m_Vy c_Vv d_Vv f_Vv g_Vv l_Vv m_Vv c_Vq d_Vq f_Vq g_Vq l_Vq m_Vq c_Vr d_Vr f_Vr g_Vr l_Vr m_Vr
    have c_Vx := Vx.c0
    have d_Vx := Vx.c1
    have f_Vx := Vx.frozen 0
    have g_Vx := Vx.frozen 1
    have l_Vx := Vx.lt
    have m_Vx := Nat.le_of_lt l_Vx
    have c_Vu := Vu.c0
    have d_Vu := Vu.c1
    have f_Vu := Vu.frozen 0
    have g_Vu := Vu.frozen 1
    have l_Vu := Vu.lt
    have m_Vu := Nat.le_of_lt l_Vu
    have c_Vy := Vy.c0
    have d_Vy := Vy.c1
    have f_Vy := Vy.frozen 0
    have g_Vy := Vy.frozen 1
    have l_Vy := Vy.lt
    have m_Vy := Nat.le_of_lt l_Vy
    have c_Vv := Vv.c0
    have d_Vv := Vv.c1
    have f_Vv := Vv.frozen 0
    have g_Vv := Vv.frozen 1
    have l_Vv := Vv.lt
    have m_Vv := Nat.le_of_lt l_Vv
    have c_Vq := Vq.c0
    have d_Vq := Vq.c1
    have f_Vq := Vq.frozen 0
    have g_Vq := Vq.frozen 1
    have l_Vq := Vq.lt
    have m_Vq := Nat.le_of_lt l_Vq
    have c_Vr := Vr.c0
    have d_Vr := Vr.c1
    have f_Vr := Vr.frozen 0
    have g_Vr := Vr.frozen 1
    have l_Vr := Vr.lt
    have m_Vr := Nat.le_of_lt l_Vr
    go_wp2_with fail
    refine (wsign_any false none 0 0 [] x9 (It.nil _)).mono ?_
    rintro e x10 ⟨rfl, hb⟩
    replace Vx := Va.after hb Vx
    replace Vu := Va.after hb Vu
    replace Vy := Va.after hb Vy
    replace Vv := Va.after hb Vv
    replace Vq := Va.after hb Vq
    replace Vr := Va.after hb Vr
    replace hx := It.after hb hx
    replace hy := It.after hb hy
    replace hu := Ir.after hb hu
    replace hv := Ir.after hb hv
    replace B0 := step B0 hb
    clear hb
    rw [iv_nil, Int.sign_zero]
    clear c_Vx d_Vx f_Vx g_Vx l_Vx m_Vx c_Vu d_Vu f_Vu g_Vu l_Vu m_Vu c_Vy d_Vy f_Vy g_Vy l_Vy m_Vy c_Vv d_Vv f_Vv g_Vv l_Vv m_Vv c_Vq d_Vq f_Vq g_Vq l_Vq m_Vq c_Vr d_Vr f_Vr g_Vr l_Vr m_Vr
    have c_Vx := Vx.c0
    have d_Vx := Vx.c1
    have f_Vx := Vx.frozen 0
    have g_Vx := Vx.frozen 1
    have l_Vx := Vx.lt
    have m_Vx := Nat.le_of_lt l_Vx
    have c_Vu := Vu.c0
    have d_Vu := Vu.c1
    have f_Vu := Vu.frozen 0
    have g_Vu := Vu.frozen 1
    have l_Vu := Vu.lt
    have m_Vu := Nat.le_of_lt l_Vu
    have c_Vy := Vy.c0
    have d_Vy := Vy.c1
    have f_Vy := Vy.frozen 0
    have g_Vy := Vy.frozen 1
    have l_Vy := Vy.lt
    have m_Vy := Nat.le_of_lt l_Vy
    have c_Vv := Vv.c0
    have d_Vv := Vv.c1
    have f_Vv := Vv.frozen 0
    have g_Vv := Vv.frozen 1
    have l_Vv := Vv.lt
    have m_Vv := Nat.le_of_lt l_Vv
    have c_Vq := Vq.c0
    have d_Vq := Vq.c1
    have f_Vq := Vq.frozen 0
    have g_Vq := Vq.frozen 1
    have l_Vq := Vq.lt
    have m_Vq := Nat.le_of_lt l_Vq
    have c_Vr := Vr.c0
    have d_Vr := Vr.c1
    have f_Vr := Vr.frozen 0
    have g_Vr := Vr.frozen 1
    have l_Vr := Vr.lt
    have m_Vr := Nat.le_of_lt l_Vr
    go_wp2_with fail
    go_ret
    exact ⟨rfl, B0⟩
  ·
    refine (wdiv_ok sx sy ax ay lx kx ly ky zx zy x5 hx hy y0).mono ?_
    rintro e x6 ⟨sq, aq, lq, kq, zq, sr, ar, lr, kr, zr, rfl, hq, hr, d1, d2, hb⟩
    replace Vx := Va.after hb Vx
    replace Vu := Va.after hb Vu
    replace Vy := Va.after hb Vy
    replace Vv := Va.after hb Vv
    replace hx := It.after hb hx
    replace hy := It.after hb hy
    replace hu := Ir.after hb hu
    replace hv := Ir.after hb hv
    replace B0 := step B0 hb
    clear hb
    have HD : Hid (iv sx zx = iv sq zq * iv sy zy + iv sr zr ∧ ((0 ≤ iv sr zr ∧ iv sr zr < iv sy zy) ∨ (iv sy zy < iv sr zr ∧ iv sr zr ≤ 0))) := ⟨d1, d2⟩
    clear d1 d2
    have c_Vx := Vx.c0
    have d_Vx := Vx.c1
    have f_Vx := Vx.frozen 0
    have g_Vx := Vx.frozen 1
    have l_Vx := Vx.lt
    have m_Vx := Nat.le_of_lt l_Vx
    have c_Vu := Vu.c0
    have d_Vu := Vu.c1
    have f_Vu := Vu.frozen 0
    have g_Vu := Vu.frozen 1
    have l_Vu := Vu.lt
    have m_Vu := Nat.le_of_lt l_Vu
    have c_Vy := Vy.c0
    have d_Vy := Vy.c1
    have f_Vy := Vy.frozen 0
    have g_Vy := Vy.frozen 1
    have l_Vy := Vy.lt
    have m_Vy := Nat.le_of_lt l_Vy
    have c_Vv := Vv.c0
    have d_Vv := Vv.c1
    have f_Vv := Vv.frozen 0
    have g_Vv := Vv.frozen 1
    have l_Vv := Vv.lt
    have m_Vv := Nat.le_of_lt l_Vv
    go_wp2_with fail
    refine ent2 x6 _ _ _ _ (Q := fun W => Calls Try.prog _ _ W _) ?_
    intro x7 hb hs_x7 Vq Vr
    replace Vx := Va.after hb Vx
    replace Vu := Va.after hb Vu
    replace Vy := Va.after hb Vy
    replace Vv := Va.after hb Vv
    replace hx := It.after hb hx
    replace hy := It.after hb hy
    replace hq := It.after hb hq
    replace hr := It.after hb hr
    replace hu := Ir.after hb hu
    replace hv := Ir.after hb hv
    replace B0 := step B0 hb
    clear hb hs_x7
    refine (rsign_any sy av ly kv zy x7 hv).mono ?_
    rintro e x8 ⟨rfl, hb⟩
    replace Vx := Va.after hb Vx
    replace Vu := Va.after hb Vu
    replace Vy := Va.after hb Vy
    replace Vv := Va.after hb Vv
    replace Vq := Va.after hb Vq
    replace Vr := Va.after hb Vr
    replace hx := It.after hb hx
    replace hy := It.after hb hy
    replace hq := It.after hb hq
    replace hr := It.after hb hr
    replace hu := Ir.after hb hu
    replace hv := Ir.after hb hv
    replace B0 := step B0 hb
    clear hb
    have sgn := sign_no y0
    obtain ⟨sg, hsg⟩ : ∃ sg, Int.sign (iv sy zy) = sg := ⟨_, rfl⟩
    rw [hsg] at sgn ⊢
    clear c_Vx d_Vx f_Vx g_Vx l_Vx m_Vx c_Vu d_Vu f_Vu g_Vu l_Vu m_Vu c_Vy d_Vy f_Vy g_Vy l_Vy m_Vy c_Vv d_Vv f_Vv g_Vv l_Vv m_Vv
    have c_Vx := Vx.c0
    have d_Vx := Vx.c1
    have f_Vx := Vx.frozen 0
    have g_Vx := Vx.frozen 1
    have l_Vx := Vx.lt
    have m_Vx := Nat.le_of_lt l_Vx
    have c_Vu := Vu.c0
    have d_Vu := Vu.c1
    have f_Vu := Vu.frozen 0
    have g_Vu := Vu.frozen 1
    have l_Vu := Vu.lt
    have m_Vu := Nat.le_of_lt l_Vu
    have c_Vy := Vy.c0
    have d_Vy := Vy.c1
    have f_Vy := Vy.frozen 0
    have g_Vy := Vy.frozen 1
    have l_Vy := Vy.lt
    have m_Vy := Nat.le_of_lt l_Vy
    have c_Vv := Vv.c0
    have d_Vv := Vv.c1
    have f_Vv := Vv.frozen 0
    have g_Vv := Vv.frozen 1
    have l_Vv := Vv.lt
    have m_Vv := Nat.le_of_lt l_Vv
    have c_Vq := Vq.c0
    have d_Vq := Vq.c1
    have f_Vq := Vq.frozen 0
    have g_Vq := Vq.frozen 1
    have l_Vq := Vq.lt
    have m_Vq := Nat.le_of_lt l_Vq
    have c_Vr := Vr.c0
    have d_Vr := Vr.c1
    have f_Vr := Vr.frozen 0
    have g_Vr := Vr.frozen 1
    have l_Vr := Vr.lt
    have m_Vr := Nat.le_of_lt l_Vr
    go_wp2_with fail
    refine (rdiv4_any sx sy au av lx ku ly kv zx zy x8 hu hv (by omega) (by omega) y0).mono ?_
    rintro e x9 ⟨tq, bq, mq, nq, eq', tr, br, mr, nr, er', rfl, iq, ir, hd, hb⟩
    replace Vx := Va.after hb Vx
    replace Vu := Va.after hb Vu
    replace Vy := Va.after hb Vy
    replace Vv := Va.after hb Vv
    replace Vq := Va.after hb Vq
    replace Vr := Va.after hb Vr
    replace hx := It.after hb hx
    replace hy := It.after hb hy
    replace hq := It.after hb hq
    replace hr := It.after hb hr
    replace hu := Ir.after hb hu
    replace hv := Ir.after hb hv
    replace B0 := step B0 hb
    clear hb
    obtain ⟨q1, q2⟩ := fl_one HD.out hd.out
    clear hd HD
    clear c_Vx d_Vx f_Vx g_Vx l_Vx m_Vx c_Vu d_Vu f_Vu g_Vu l_Vu m_Vu c_Vy d_Vy f_Vy g_Vy l_Vy m_Vy c_Vv d_Vv f_Vv g_Vv l_Vv m_Vv c_Vq d_Vq f_Vq g_Vq l_Vq m_Vq c_Vr d_Vr f_Vr g_Vr l_Vr m_Vr
    have c_Vx := Vx.c0
    have d_Vx := Vx.c1
    have f_Vx := Vx.frozen 0
    have g_Vx := Vx.frozen 1
    have l_Vx := Vx.lt
    have m_Vx := Nat.le_of_lt l_Vx
    have c_Vu := Vu.c0
    have d_Vu := Vu.c1
    have f_Vu := Vu.frozen 0
    have g_Vu := Vu.frozen 1
    have l_Vu := Vu.lt
    have m_Vu := Nat.le_of_lt l_Vu
    have c_Vy := Vy.c0
    have d_Vy := Vy.c1
    have f_Vy := Vy.frozen 0
    have g_Vy := Vy.frozen 1
    have l_Vy := Vy.lt
    have m_Vy := Nat.le_of_lt l_Vy
    have c_Vv := Vv.c0
    have d_Vv := Vv.c1
    have f_Vv := Vv.frozen 0
    have g_Vv := Vv.frozen 1
    have l_Vv := Vv.lt
    have m_Vv := Nat.le_of_lt l_Vv
    have c_Vq := Vq.c0
    have d_Vq := Vq.c1
    have f_Vq := Vq.frozen 0
    have g_Vq := Vq.frozen 1
    have l_Vq := Vq.lt
    have m_Vq := Nat.le_of_lt l_Vq
    have c_Vr := Vr.c0
    have d_Vr := Vr.c1
    have f_Vr := Vr.frozen 0
    have g_Vr := Vr.frozen 1
    have l_Vr := Vr.lt
    have m_Vr := Nat.le_of_lt l_Vr
    go_wp2_with fail
    refine ent2 x9 _ _ _ _ (Q := fun W => Calls Try.prog _ _ W _) ?_
    intro x10 hb hs_x10 Vn Vm
    replace Vx := Va.after hb Vx
    replace Vu := Va.after hb Vu
    replace Vy := Va.after hb Vy
    replace Vv := Va.after hb Vv
    replace Vq := Va.after hb Vq
    replace Vr := Va.after hb Vr
    replace hx := It.after hb hx
    replace hy := It.after hb hy
    replace hq := It.after hb hq
    replace hr := It.after hb hr
    replace hu := Ir.after hb hu
    replace hv := Ir.after hb hv
    replace iq := Ir.after hb iq
    replace ir := Ir.after hb ir
    replace B0 := step B0 hb
    clear hb hs_x10
    refine (is4_ok sq tq aq bq lq kq mq nq zq eq' x10 hq iq q1).mono ?_
    rintro e x11 ⟨rfl, hb⟩
    replace Vx := Va.after hb Vx
    replace Vu := Va.after hb Vu
    replace Vy := Va.after hb Vy
    replace Vv := Va.after hb Vv
    replace Vq := Va.after hb Vq
    replace Vr := Va.after hb Vr
    replace Vn := Va.after hb Vn
    replace Vm := Va.after hb Vm
    replace hx := It.after hb hx
    replace hy := It.after hb hy
    replace hq := It.after hb hq
    replace hr := It.after hb hr
    replace hu := Ir.after hb hu
    replace hv := Ir.after hb hv
    replace iq := Ir.after hb iq
    replace ir := Ir.after hb ir
    replace B0 := step B0 hb
    clear hb
    clear c_Vx d_Vx f_Vx g_Vx l_Vx m_Vx c_Vu d_Vu f_Vu g_Vu l_Vu m_Vu c_Vy d_Vy f_Vy g_Vy l_Vy m_Vy c_Vv d_Vv f_Vv g_Vv l_Vv m_Vv c_Vq d_Vq f_Vq g_Vq l_Vq m_Vq c_Vr d_Vr f_Vr g_Vr l_Vr m_Vr
    have c_Vx := Vx.c0
    have d_Vx := Vx.c1
    have f_Vx := Vx.frozen 0
    have g_Vx := Vx.frozen 1
    have l_Vx := Vx.lt
    have m_Vx := Nat.le_of_lt l_Vx
    have c_Vu := Vu.c0
    have d_Vu := Vu.c1
    have f_Vu := Vu.frozen 0
    have g_Vu := Vu.frozen 1
    have l_Vu := Vu.lt
    have m_Vu := Nat.le_of_lt l_Vu
    have c_Vy := Vy.c0
    have d_Vy := Vy.c1
    have f_Vy := Vy.frozen 0
    have g_Vy := Vy.frozen 1
    have l_Vy := Vy.lt
    have m_Vy := Nat.le_of_lt l_Vy
    have c_Vv := Vv.c0
    have d_Vv := Vv.c1
    have f_Vv := Vv.frozen 0
    have g_Vv := Vv.frozen 1
    have l_Vv := Vv.lt
    have m_Vv := Nat.le_of_lt l_Vv
    have c_Vq := Vq.c0
    have d_Vq := Vq.c1
    have f_Vq := Vq.frozen 0
    have g_Vq := Vq.frozen 1
    have l_Vq := Vq.lt
    have m_Vq := Nat.le_of_lt l_Vq
    have c_Vr := Vr.c0
    have d_Vr := Vr.c1
    have f_Vr := Vr.frozen 0
    have g_Vr := Vr.frozen 1
    have l_Vr := Vr.lt
    have m_Vr := Nat.le_of_lt l_Vr
    have c_Vn := Vn.c0
    have d_Vn := Vn.c1
    have f_Vn := Vn.frozen 0
    have g_Vn := Vn.frozen 1
    have l_Vn := Vn.lt
    have m_Vn := Nat.le_of_lt l_Vn
    have c_Vm := Vm.c0
    have d_Vm := Vm.c1
    have f_Vm := Vm.frozen 0
    have g_Vm := Vm.frozen 1
    have l_Vm := Vm.lt
    have m_Vm := Nat.le_of_lt l_Vm
    go_wp2_with fail
    refine (is4_ok sr tr ar br lr kr mr nr zr er' x11 hr ir q2).mono ?_
    rintro e x12 ⟨rfl, hb⟩
    replace Vx := Va.after hb Vx
    replace Vu := Va.after hb Vu
    replace Vy := Va.after hb Vy
    replace Vv := Va.after hb Vv
    replace Vq := Va.after hb Vq
    replace Vr := Va.after hb Vr
    replace Vn := Va.after hb Vn
    replace Vm := Va.after hb Vm
    replace hx := It.after hb hx
    replace hy := It.after hb hy
    replace hq := It.after hb hq
    replace hr := It.after hb hr
    replace hu := Ir.after hb hu
    replace hv := Ir.after hb hv
    replace iq := Ir.after hb iq
    replace ir := Ir.after hb ir
    replace B0 := step B0 hb
    clear hb
    clear c_Vx d_Vx f_Vx g_Vx l_Vx m_Vx c_Vu d_Vu f_Vu g_Vu l_Vu m_Vu c_Vy d_Vy f_Vy g_Vy l_Vy m_Vy c_Vv d_Vv f_Vv g_Vv l_Vv m_Vv c_Vq d_Vq f_Vq g_Vq l_Vq m_Vq c_Vr d_Vr f_Vr g_Vr l_Vr m_Vr c_Vn d_Vn f_Vn g_Vn l_Vn m_Vn c_Vm d_Vm f_Vm g_Vm l_Vm m_Vm
    have c_Vx := Vx.c0
    have d_Vx := Vx.c1
    have f_Vx := Vx.frozen 0
    have g_Vx := Vx.frozen 1
    have l_Vx := Vx.lt
    have m_Vx := Nat.le_of_lt l_Vx
    have c_Vu := Vu.c0
    have d_Vu := Vu.c1
    have f_Vu := Vu.frozen 0
    have g_Vu := Vu.frozen 1
    have l_Vu := Vu.lt
    have m_Vu := Nat.le_of_lt l_Vu
    have c_Vy := Vy.c0
    have d_Vy := Vy.c1
    have f_Vy := Vy.frozen 0
    have g_Vy := Vy.frozen 1
    have l_Vy := Vy.lt
    have m_Vy := Nat.le_of_lt l_Vy
    have c_Vv := Vv.c0
    have d_Vv := Vv.c1
    have f_Vv := Vv.frozen 0
    have g_Vv := Vv.frozen 1
    have l_Vv := Vv.lt
    have m_Vv := Nat.le_of_lt l_Vv
    have c_Vq := Vq.c0
    have d_Vq := Vq.c1
    have f_Vq := Vq.frozen 0
    have g_Vq := Vq.frozen 1
    have l_Vq := Vq.lt
    have m_Vq := Nat.le_of_lt l_Vq
    have c_Vr := Vr.c0
    have d_Vr := Vr.c1
    have f_Vr := Vr.frozen 0
    have g_Vr := Vr.frozen 1
    have l_Vr := Vr.lt
    have m_Vr := Nat.le_of_lt l_Vr
    have c_Vn := Vn.c0
    have d_Vn := Vn.c1
    have f_Vn := Vn.frozen 0
    have g_Vn := Vn.frozen 1
    have l_Vn := Vn.lt
    have m_Vn := Nat.le_of_lt l_Vn
    have c_Vm := Vm.c0
    have d_Vm := Vm.c1
    have f_Vm := Vm.frozen 0
    have g_Vm := Vm.frozen 1
    have l_Vm := Vm.lt
    have m_Vm := Nat.le_of_lt l_Vm
    go_wp2_with fail
    go_ret
    exact ⟨rfl, B0⟩
end Go.Proofs.Ytkfpblonjinfmaa
namespace Go.Proofs.Ytkfpblonjinfmaa.wholeDivs
open Go.ChangeShapes Go.WideShapes Go.ChangeAt Go.RowKit
set_option linter.unusedVariables false

theorem own : ownKnob Try.prog.godebug = none := by kernel_rfl
theorem laidOut : laidOutB Try.prog = true := by kernel_rfl
theorem bytes8 : Try.prog.bytesOf 64 = 8 := by kernel_rfl

set_option maxRecDepth 100000 in
theorem contract (H : Type) (enc : TypeId × Value → H) (W : World) (base : Nat) (args : Array Value) (ds gs : List (DataW H)) (before : List MemPlace)
    (hval : ∀ (j : Nat) t v, Try.f5.params[j]? = some t → args[j]? = some v → Value.okWide Try.prog W .any base t v)
    (hW : DataW.Whole enc Try.prog Try.f5.params.toList Rows.wholeDivsSpec.vars false W args.toList ds gs before) (hsz : (DataW.weightsEach Try.prog (Try.f5.params.toList ++ Rows.wholeDivsSpec.plain.varTypes Try.prog) (ds ++ gs)).all (· ≤ reachBytes) = true) :
    Calls Try.prog 5 args W fun e W' => ∃ v, e = .returned v ∧ Rows.wholeDivsSpec.post enc Try.prog Try.f5 false true false false W args v W' := by
  have hW' := hW
  obtain ⟨p, q, hA0, hV, rfl, hfz, hnd⟩ := hW
  have hA : DataW.TrodAll enc Try.prog W 0 (fun _ => true) true Try.f5.params.toList args.toList ds p := hA0
  rw [Try.params5] at hA hval hsz
  obtain ⟨v0, vs0, d0, ds0, p0, q0, hargs, rfl, rfl, h0, r0⟩ := trodAll_cons hA
  obtain ⟨v1, vs1, d1, ds1, p1, q1, rfl, rfl, rfl, h1, r1⟩ := trodAll_cons r0
  obtain ⟨rfl, rfl, rfl⟩ := trodAll_nil r1
  obtain rfl : args = #[v0, v1] := by cases args; simp_all
  obtain ⟨rfl, rfl⟩ := trodVars_none hV
  have k0 := h0
  have lt0 : ∀ x ∈ p0, x.block < W.heap.size := by obtain ⟨m, hm⟩ := k0; exact DataW.trod_lt m _ _ _ hm
  obtain ⟨u0, x0, y00, y01, m0, rfl, rfl, rfl, hy00, hy01⟩ := Go.Joins.open_agg2 Try.underlying24 (by kernel_rfl) (by kernel_rfl) (hval 0 24 v0 rfl rfl) h0
  obtain ⟨n0, hn0, -⟩ := DataW.trod_bool Try.underlying4 hy00
  obtain rfl : u0 = .bool n0 := by simpa using hn0
  obtain ⟨a0, len0, cap0, z0, hv0, s0, c0, e0⟩ : ∃ a len cap zs, x0 = .slice a len cap ∧ Sl W a len zs ∧ len ≤ cap ∧ (a = Option.none → len = 0 ∧ cap = 0) := by
    rcases open_ints Try.underlying22 Try.underlying64 (by kernel_rfl) hy01 with ⟨hcs, _⟩ | ⟨x, l, c, zs, hcs, _, hl, hm, hz, hx, hcell, hwz⟩
    · exact ⟨Option.none, 0, 0, [], by simpa using hcs, ⟨rfl, Limbs.nil, fun h => absurd h (by decide)⟩, Nat.le_refl _, fun _ => ⟨rfl, rfl⟩⟩
    · have hz' : zs.length = c := by simpa using hz
      refine ⟨some x, l, c, zs.take l, by simpa using hcs, ⟨by rw [List.length_take]; omega, fun z hz2 => word_of_wf (hwz z (List.mem_of_mem_take hz2)), fun h => ?_⟩, hl, fun h => by cases h⟩
      obtain ⟨bb, off, rfl, hc⟩ := ints_at hcell (by omega)
      refine ⟨bb, off, rfl, fun j hj => ?_⟩
      rw [hc j (by omega), List.getD_eq_getElem?_getD, List.getD_eq_getElem?_getD, List.getElem?_take_of_lt hj]
  subst hv0
  clear hn0
  have k1 := h1
  have lt1 : ∀ x ∈ p1, x.block < W.heap.size := by obtain ⟨m, hm⟩ := k1; exact DataW.trod_lt m _ _ _ hm
  obtain ⟨u1, x1, y10, y11, m1, rfl, rfl, rfl, hy10, hy11⟩ := Go.Joins.open_agg2 Try.underlying24 (by kernel_rfl) (by kernel_rfl) (hval 1 24 v1 rfl rfl) h1
  obtain ⟨n1, hn1, -⟩ := DataW.trod_bool Try.underlying4 hy10
  obtain rfl : u1 = .bool n1 := by simpa using hn1
  obtain ⟨a1, len1, cap1, z1, hv1, s1, c1, e1⟩ : ∃ a len cap zs, x1 = .slice a len cap ∧ Sl W a len zs ∧ len ≤ cap ∧ (a = Option.none → len = 0 ∧ cap = 0) := by
    rcases open_ints Try.underlying22 Try.underlying64 (by kernel_rfl) hy11 with ⟨hcs, _⟩ | ⟨x, l, c, zs, hcs, _, hl, hm, hz, hx, hcell, hwz⟩
    · exact ⟨Option.none, 0, 0, [], by simpa using hcs, ⟨rfl, Limbs.nil, fun h => absurd h (by decide)⟩, Nat.le_refl _, fun _ => ⟨rfl, rfl⟩⟩
    · have hz' : zs.length = c := by simpa using hz
      refine ⟨some x, l, c, zs.take l, by simpa using hcs, ⟨by rw [List.length_take]; omega, fun z hz2 => word_of_wf (hwz z (List.mem_of_mem_take hz2)), fun h => ?_⟩, hl, fun h => by cases h⟩
      obtain ⟨bb, off, rfl, hc⟩ := ints_at hcell (by omega)
      refine ⟨bb, off, rfl, fun j hj => ?_⟩
      rw [hc j (by omega), List.getD_eq_getElem?_getD, List.getD_eq_getElem?_getD, List.getElem?_take_of_lt hj]
  subst hv1
  clear hn1
  clear hA0
  refine (divs4_walk n0 a0 len0 cap0 z0 n1 a1 len1 cap1 z1 W s0 c0 e0 s1 c1 e1).mono fun e W' ⟨he, bel⟩ => ?_
  subst he
  exact ⟨_, rfl, _, _, _, [], _, [], hW', trodAll_mk1 (shut_bool Try.underlying4 _), (trodAll_cons_mk (Below.trod laidOut (by kernel_rfl) (of_decide_eq_true (by kernel_rfl)) k0 bel lt0) (trodAll_cons_mk (Below.trod laidOut (by kernel_rfl) (of_decide_eq_true (by kernel_rfl)) k1 bel lt1) trodAll_mk0)), rfl, bel.frame _, fun h => by cases h⟩

set_option maxRecDepth 100000 in
theorem lifted (os : Os) (started : os.Started) (H : Type) (enc : TypeId × Value → H) :
    ReturnsInHanded {} Try.checked os 5 .any (Rows.wholeDivsSpec.pre6 enc Try.prog Try.f5 Rows.wholeDivsRow.domain false) (Rows.wholeDivsSpec.post enc Try.prog Try.f5 false true false false) := by
  refine returnsInHanded_of_change_sized (C := Try.checked) own started (by kernel_rfl) Try.func5
    (ChangeSpec.witness6 (enc := enc) (C := Try.checked) false ⟨#[], #[.agg #[.bool false, .slice none 0 0], .agg #[.bool false, .slice none 0 0]], []⟩ 8 (by kernel_rfl) (by kernel_rfl) (by kernel_rfl) (by kernel_rfl)) ?_
  intro W base args ds gs before hval0 hW _ hsz0 _
  exact contract H enc W base args ds gs before hval0 hW hsz0

theorem over : Rows.wholeDivsRow.holds Try.pinned (OpenSpec.ofChange Rows.wholeDivsSpec) :=
  OpenClaim.holds_of_wide 5 Try.f5 rfl rfl rfl rfl rfl rfl rfl ⟨rfl, rfl, rfl, rfl, rfl⟩ rfl rfl rfl rfl rfl (by kernel_rfl) Try.func5 (by kernel_rfl)
    (of_decide_eq_true (by kernel_rfl)) (by unfold Func.isWrapper; first | (rw [if_pos (by decide +kernel)]; kernel_rfl) | (rw [if_neg (by decide +kernel)]; exact ⟨rfl, rfl⟩))
    (fun os started H enc _ => lifted os started H enc)
end Go.Proofs.Ytkfpblonjinfmaa.wholeDivs
namespace Go.Proofs.Ytkfpblonjinfmaa
theorem wholeDivs_holds : Rows.WholeDivsSaid := wholeDivs.over
#print axioms wholeDivs_holds
end Go.Proofs.Ytkfpblonjinfmaa
