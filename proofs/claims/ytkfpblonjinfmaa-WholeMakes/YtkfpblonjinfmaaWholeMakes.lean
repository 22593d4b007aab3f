/-
  For every whole number as plain data and every int64 WholeMakes answers true, and leaves its arguments as they were; no condition.
-/
import Derived.Test.YtkfpblonjinfmaaLaw3
import Derived.Test.YtkfpblonjinfmaaWh4
import Derived.Test.YtkfpblonjinfmaaNRef3
import Derived.Test.YtkfpblonjinfmaaNRef4
import Derived.Test.YtkfpblonjinfmaaNRef6
import Derived.Test.YtkfpblonjinfmaaVals2
import Derived.Test.YtkfpblonjinfmaaRows
import Derived.ProofKit
import Derived.OpenShut
import Derived.ShutString
import Derived.ChangeOld
import Derived.SizedLaws
import Derived.Lib.SmallJoins
namespace Go.Proofs.Ytkfpblonjinfmaa
open Go.RowKit Go.Shelf

set_option maxHeartbeats 400000 in
theorem rtrim_n (a : Option Addr) (len cap : Nat) (zs : List Int) (w : World) (h : Sl w a len zs) (hl : len ≤ 17592186044416) (hcap : len ≤ cap) :
    Calls Try.prog 42 #[.slice a len cap] w fun e w' => ∃ a' c', e = .returned (.slice a' (usedN zs) c') ∧ Sl w' a' (usedN zs) (zs.take (usedN zs)) ∧ usedN zs ≤ c' ∧ (a' = none → usedN zs = 0 ∧ c' = 0) ∧ Below w.heap.size w w' := by
  have HSL : Hid (Sl w a len zs) := h
  obtain ⟨hz, hL, hc⟩ := h
  by_cases h0 : len = 0
  · subst h0
    have e0 : usedN zs = 0 := by have := usedN_le zs; omega
    rw [e0]
    cases a with
    | none =>
      go_enter Try.func42, Try.ntmps42
      go_wp2_with fail
      refine wp_loop_rounds 1 ?_
      rw [rounds_succ]
      go_wp2_with fail
      go_ret
      exact ⟨none, 0, rfl, ⟨rfl, Limbs.nil, fun h => absurd h (by decide)⟩, Nat.le_refl _, fun _ => ⟨trivial, rfl⟩, Below.refl _ _⟩
    | some ad =>
      have hsl : Sl w (some ad) 0 [] := ⟨rfl, Limbs.nil, fun h => absurd h (by decide)⟩
      go_enter Try.func42, Try.ntmps42
      go_wp2_with fail
      refine wp_loop_rounds 1 ?_
      rw [rounds_succ]
      go_wp2_with (at_builtin; refine wpList_app_some rfl (.tmp 19) (.tmp 22) rfl w.heap.size _ [] rfl (Gr.nil _ _) ad 0 cap [] rfl hsl (by simp) (Nat.le_refl _) ?_; intro v1 w1 hG hb)
      go_ret
      obtain ⟨a1, c1, gm, e1, hc1, hs1, -, hn1, -⟩ := Gr.parts (by simpa using hG.out) Limbs.nil
      exact ⟨a1, c1, congrArg _ e1, hs1, hc1, fun h => ⟨trivial, (hn1 h).2⟩, hb⟩
  · obtain ⟨b, off, rfl, hcell⟩ := hc (by omega)
    go_enter Try.func42, Try.ntmps42
    go_wp2_with fail
    go_loop [3] (fun i => ∃ k : Nat, k ≤ len ∧ i = .int .i64 k ∧ Hid (∀ j, k ≤ j → j < len → zs.getD j 0 = 0)) (fun i => (intOf i).toNat)
    case atStart => exact ⟨len, Nat.le_refl _, rfl, fun j h1 h2 => absurd h1 (by omega)⟩
    case round =>
      obtain ⟨k, hk, rfl, hI⟩ := hrel
      by_cases hlt : 0 < k
      · have hcx := hcell (k - 1) (by omega)
        have ex : ((k : Int) - 1).toNat = k - 1 := by omega
        obtain ⟨x, hx⟩ : ∃ x, zs.getD (k - 1) 0 = x := ⟨_, rfl⟩
        rw [hx] at hcx
        have HX : Hid (zs.getD (k - 1) 0 = x) := hx
        clear hx
        by_cases hx0 : x = 0
        · have g1 : (x == 0) = true := by simp [hx0]
          have HX0 : Hid (x = 0) := hx0
          clear hx0
          go_wp2_with fail
          go_round
          case rel =>
            refine ⟨k - 1, by omega, by rw [show ((k - 1 : Nat) : Int) = (k : Int) - 1 by omega], ?_⟩
            intro j h1 h2
            by_cases hj : j = k - 1
            · rw [hj, HX.out, HX0.out]
            · exact hI.out j (by omega) h2
          case measure => simp [intOf]; omega
        · have g1 : (x == 0) = false := by simp [hx0]
          have hu : usedN zs = k := usedN_eq (by omega) (fun i h1 h2 => hI.out i h1 (by omega)) (.inr (by rw [HX.out]; exact hx0))
          have HU : Hid (usedN zs = k) := hu
          clear hu hx0
          have hsl := HSL.out.take (m := k) (by omega)
          go_wp2_with (at_builtin; refine wpList_app_some rfl (.tmp 19) (.tmp 22) rfl w.heap.size _ [] rfl (Gr.nil _ _) ⟨b, off, none⟩ k cap (zs.take k) rfl hsl (by simp <;> omega) (Nat.le_refl _) ?_; intro v1 w1 hG hb)
          go_ret
          obtain ⟨a1, c1, gm, e1, hc1, hs1, -, hn1, -⟩ := Gr.parts (by simpa using hG.out) (hL.take k)
          rw [List.length_take, Nat.min_eq_left (by omega)] at e1 hc1 hs1 hn1
          exact ⟨a1, c1, by rw [HU.out]; exact congrArg _ e1, by rw [HU.out]; exact hs1, by rw [HU.out]; exact hc1, by rw [HU.out]; exact hn1, hb⟩
      · obtain rfl : k = 0 := by omega
        have hu : usedN zs = 0 := usedN_eq (by omega) (fun i h1 h2 => hI.out i (by omega) (by omega)) (.inl rfl)
        have HU : Hid (usedN zs = 0) := hu
        clear hu
        have hsl := HSL.out.take (m := 0) (by omega)
        go_wp2_with (at_builtin; refine wpList_app_some rfl (.tmp 19) (.tmp 22) rfl w.heap.size _ [] rfl (Gr.nil _ _) ⟨b, off, none⟩ 0 cap (zs.take 0) rfl hsl (by simp <;> omega) (Nat.le_refl _) ?_; intro v1 w1 hG hb)
        go_ret
        obtain ⟨a1, c1, gm, e1, hc1, hs1, -, hn1, -⟩ := Gr.parts (by simpa using hG.out) (hL.take 0)
        rw [List.length_take, Nat.min_eq_left (by omega)] at e1 hc1 hs1 hn1
        exact ⟨a1, c1, by rw [HU.out]; exact congrArg _ e1, by rw [HU.out]; exact hs1, by rw [HU.out]; exact hc1, by rw [HU.out]; exact hn1, hb⟩

end Go.Proofs.Ytkfpblonjinfmaa
namespace Go.Proofs.Ytkfpblonjinfmaa
open Go.RowKit Go.Shelf
set_option linter.unusedVariables false

theorem copyl_any (a : Option Addr) (la ca : Nat) (zs : List Int) (w : World) (h : Sl w a la zs) (hn : a = none → la = 0 ∧ ca = 0) (hl : la ≤ 17592186044416) :
    Calls Try.prog 34 #[.slice a la ca] w fun e w' => ∃ a' c', e = .returned (.slice a' la c') ∧ Sl w' a' la zs ∧ la ≤ c' ∧ (a' = none → la = 0 ∧ c' = 0) ∧ Below w.heap.size w w' := by
  have hL := h.2.1
  have hz := h.1
  cases a with
  | none =>
    obtain ⟨rfl, rfl⟩ := hn rfl
    have hz : zs = [] := List.eq_nil_of_length_eq_zero h.1
    subst hz
    go_enter Try.func34, Try.ntmps34
    go_wp2_with fail
    go_ret
    exact ⟨_, _, rfl, h, fun _ => rfl, Below.refl _ _⟩
  | some ad =>
    have HSL : Hid (Sl w (some ad) la zs) := h
    have HLL : Hid (Limbs zs ∧ zs.length = la) := ⟨hL, hz⟩
    clear h hn hL hz
    go_enter Try.func34, Try.ntmps34
    go_wp2_with (at_builtin; refine wpList_app_some rfl (.tmp 4) (.tmp 5) rfl w.heap.size _ [] rfl (Gr.nil _ _) ad la ca zs rfl HSL.out (by simpa using hl) (Nat.le_refl _) ?_; intro v1 w1 hG hb)
    go_ret
    obtain ⟨a1, c1, gm, e1, h1, h2, -, h3, -⟩ := Gr.parts (by simpa using hG.out) HLL.out.1
    rw [HLL.out.2] at e1 h1 h2 h3
    subst e1
    exact ⟨a1, c1, rfl, h2, h1, h3, hb⟩

theorem results_i {fn : Func} {i b : Nat} {x y : Value} {tmps : Array Value} {w : World} (h : fn.results = #[.cell i 29]) (hi : tmps.getD i undef = .pointer (some ⟨b, 0, none⟩)) (hv : Va w b 29 #[x, y]) :
    (results fn tmps).run Try.prog w = .ok (.agg #[x, y]) w := by
  have c := hv.c0; have d := hv.c1
  rw [Array.getD_eq_getD_getElem?] at hi
  simp [results, h, hi, c, d, go_sem]
theorem results_wit {fn : Func} {i j k b c : Nat} {x y u v : Value} {tmps : Array Value} {w : World} (h : fn.results = #[.cell i 28, .cell j 29, .tmp k]) (hi : tmps.getD i undef = .pointer (some ⟨b, 0, none⟩)) (hv : Va w b 28 #[x, y])
    (hj : tmps.getD j undef = .pointer (some ⟨c, 0, none⟩)) (hu : Va w c 29 #[u, v]) :
    (results fn tmps).run Try.prog w = .ok (.tuple #[.agg #[x, y], .agg #[u, v], tmps.getD k undef]) w := by
  have c0 := hv.c0; have c1 := hv.c1; have d0 := hu.c0; have d1 := hu.c1
  rw [Array.getD_eq_getD_getElem?] at hi hj
  simp [results, h, hi, hj, c0, c1, d0, d1, go_sem]

/-- A number of the document's: trimmed, of any length; 0 has no sign. -/
def Ir (w : World) (s : Bool) (a : Option Addr) (l c : Nat) (zs : List Int) : Prop := Sl w a l zs ∧ usedN zs = l ∧ l ≤ c ∧ (a = none → l = 0 ∧ c = 0) ∧ (s = true → num zs ≠ 0)
theorem Ir.after {w w' : World} (hb : Below w.heap.size w w') {s : Bool} {a : Option Addr} {l c : Nat} {zs : List Int} (h : Ir w s a l c zs) : Ir w' s a l c zs := ⟨h.1.below hb (Nat.le_refl _), h.2⟩
theorem Ir.drw {w : World} {s : Bool} {a : Option Addr} {l c : Nat} {zs : List Int} (h : Ir w s a l c zs) : Ir w.drew s a l c zs := h
theorem Ir.far {w : World} {s : Bool} {a : Option Addr} {l c : Nat} {zs : List Int} (h : Ir w s a l c zs) {b : Nat} {t : TypeId} {cs : Array Value} (V : Va w b t cs) (hn : NoInt cs) {w' : World} (k : ∀ c, c ≠ b → w'.heap[c]? = w.heap[c]?) : Ir w' s a l c zs := ⟨h.1.far V hn k, h.2⟩
theorem Ir.nonneg {w : World} {s : Bool} {a : Option Addr} {l c : Nat} {zs : List Int} (h : Ir w s a l c zs) : 0 ≤ num zs := num_nonneg h.1.2.1
theorem Nt.same {w w' : World} {a b : Option Addr} {l c m : Nat} {zs ds : List Int} (h : Nt w a l c zs) (s : Sl w' b m ds) (u : usedN ds = m) (e : num ds = num zs) : m = l ∧ ds = zs := by
  obtain ⟨e1, e2⟩ := one_list s.2.1 h.limbs s.1 u e
  have hz := h.1.1
  rw [h.2.1] at e1 e2
  rw [List.take_of_length_le (by omega)] at e2
  exact ⟨e1, e2⟩

set_option maxHeartbeats 1000000 in
theorem rnew_any (s : Bool) (a : Option Addr) (l c : Nat) (zs : List Int) (w : World) (h : Sl w a l zs) (hc : l ≤ c) (hl : l ≤ 17592186044416) :
    Calls Try.prog 17 #[.bool s, .slice a l c] w fun e w' => ∃ s' a' l' c' zs', e = .returned (.agg #[.bool s', .slice a' l' c']) ∧ Ir w' s' a' l' c' zs' ∧ num zs' = num zs ∧ iv s' zs' = iv s zs ∧ l' ≤ l ∧ Below w.heap.size w w' := by
  have hu := usedN_le zs
  have hz := h.1
  have hL := h.2.1
  have hne := num_eq_zero hL
  have eu := usedN_take zs (Nat.le_refl (usedN zs))
  have en := num_take_used zs (Nat.le_refl (usedN zs))
  have B0 : Below w.heap.size w w := Below.refl _ _
  go_enter Try.func17, Try.ntmps17
  go_wp2_with fail
  refine ent1 w _ _ (Q := fun W => Calls Try.prog _ _ W _) ?_
  intro x1 hb hs_x1 V0
  replace h := h.below hb (Nat.le_refl _)
  replace B0 := step B0 hb
  clear hb hs_x1
  refine (rtrim_n a l c zs x1 h hl hc).mono ?_
  rintro e x2 ⟨a', c', rfl, hs, hc', hn', hb⟩
  replace V0 := Va.after hb V0
  replace h := h.below hb (Nat.le_refl _)
  replace B0 := step B0 hb
  clear hb
  obtain ⟨u, hU⟩ : ∃ u, usedN zs = u := ⟨_, rfl⟩
  obtain ⟨ds, hD⟩ : ∃ ds, zs.take u = ds := ⟨_, rfl⟩
  rw [hU] at hs hc' hn' eu en hne ⊢
  rw [hD] at hs eu en
  have HZ : Hid (num ds = num zs) := en
  have HE : Hid (num zs = 0 ↔ u = 0) := hne
  have HU : Hid (usedN ds = u) := eu
  have HLE : Hid (u ≤ l) := by show _ ≤ _; omega
  clear en hne eu hD hU hu hz hL h hc hl
  cases s
  ·
    have c_V0 := V0.c0
    have d_V0 := V0.c1
    have f_V0 := V0.frozen 0
    have g_V0 := V0.frozen 1
    have l_V0 := V0.lt
    have m_V0 := Nat.le_of_lt l_V0
    go_wp2_with fail
    refine bodyPost_ret (results_i rfl rfl (V0.set2 _ _)) rfl ?_
    exact ⟨false, a', _, c', ds, rfl, ⟨hs.far V0 (noInt2 _ _ _ _) (far2 _ _ _ _), HU.out, hc', hn', fun e => by cases e⟩, HZ.out, by rw [iv_f, iv_f, HZ.out], HLE.out, below_2 B0 (by omega) _ _⟩
  ·
    by_cases h0 : 0 < u
    ·
      have h1 : (0 : Int) < u := by omega
      have c_V0 := V0.c0
      have d_V0 := V0.c1
      have f_V0 := V0.frozen 0
      have g_V0 := V0.frozen 1
      have l_V0 := V0.lt
      have m_V0 := Nat.le_of_lt l_V0
      go_wp2_with fail
      refine bodyPost_ret (results_i rfl rfl (V0.set2 _ _)) rfl ?_
      have hne : num ds ≠ 0 := by rw [HZ.out]; intro e; have := HE.out.1 e; omega
      exact ⟨true, a', _, c', ds, rfl, ⟨hs.far V0 (noInt2 _ _ _ _) (far2 _ _ _ _), HU.out, hc', hn', fun _ => hne⟩, HZ.out, by rw [iv_t, iv_t, HZ.out], HLE.out, below_2 B0 (by omega) _ _⟩
    ·
      obtain rfl : u = 0 := by omega
      have c_V0 := V0.c0
      have d_V0 := V0.c1
      have f_V0 := V0.frozen 0
      have g_V0 := V0.frozen 1
      have l_V0 := V0.lt
      have m_V0 := Nat.le_of_lt l_V0
      go_wp2_with fail
      refine bodyPost_ret (results_i rfl rfl (V0.set2 _ _)) rfl ?_
      have hne : num ds = 0 := by rw [HZ.out]; exact HE.out.2 trivial
      exact ⟨false, a', _, c', ds, rfl, ⟨hs.far V0 (noInt2 _ _ _ _) (far2 _ _ _ _), HU.out, Nat.zero_le _, (fun e => ⟨rfl, (hn' e).2⟩), fun e => by cases e⟩, HZ.out, by have := HZ.out; rw [iv_t, iv_f]; omega, Nat.zero_le _, below_2 B0 (by omega) _ _⟩

/-- A number of plain data: the program's, and the document's; of more than 4096 limbs the first ones. -/
theorem of_core (s : Bool) (a : Option Addr) (l l0 c : Nat) (zs : List Int) (w : World) (h : Sl w a l0 zs) (hn : a = none → l = 0 ∧ c = 0) (h0 : l0 ≤ l) (hc : l ≤ c) (hl0 : (l ≤ 4096 ∧ l0 = l) ∨ (4096 < l ∧ l0 = 4096)) :
    Calls Try.prog 7 #[.agg #[.bool s, .slice a l c]] w fun e w' => ∃ s' a' l' c' zs' a2 c2, e = .returned (.tuple #[.agg #[.bool s', .slice a' l' c'], .agg #[.bool s', .slice a2 l' c2], .bool true]) ∧ It w' s' a' l' c' zs' ∧ Ir w' s' a2 l' c2 zs' ∧ iv s' zs' = iv s zs ∧ Below w.heap.size w w' := by
  have hn0 : a = none → l0 = 0 ∧ c = 0 := fun e => ⟨by have := (hn e).1; omega, (hn e).2⟩
  have hu : usedN zs ≤ 4096 := by have := usedN_le zs; have := h.1; omega
  have B0 : Below w.heap.size w w := Below.refl _ _
  rcases hl0 with ⟨hl1, hl2⟩ | ⟨hl1, hl2⟩
  ·
    subst hl2
    have hl3 : ¬ (4096 : Int) < l0 := by omega
    go_enter Try.func7, Try.ntmps7
    go_wp2_with fail
    refine ent3 w _ _ _ _ _ _ (Q := fun W => Calls Try.prog _ _ W _) ?_
    intro x1 hb hs_x1 V0 V1 V2
    replace h := h.below hb (Nat.le_refl _)
    replace B0 := step B0 hb
    clear hb hs_x1
    refine (copyl_any a l0 c zs x1 h hn0 (by omega)).mono ?_
    rintro e x2 ⟨a1, c1, rfl, h1, hc1, hn1, hb⟩
    replace V0 := Va.after hb V0
    replace V1 := Va.after hb V1
    replace V2 := Va.after hb V2
    replace h := h.below hb (Nat.le_refl _)
    replace B0 := step B0 hb
    clear hb
    have c_V0 := V0.c0
    have d_V0 := V0.c1
    have f_V0 := V0.frozen 0
    have g_V0 := V0.frozen 1
    have l_V0 := V0.lt
    have m_V0 := Nat.le_of_lt l_V0
    have c_V1 := V1.c0
    have d_V1 := V1.c1
    have f_V1 := V1.frozen 0
    have g_V1 := V1.frozen 1
    have l_V1 := V1.lt
    have m_V1 := Nat.le_of_lt l_V1
    have c_V2 := V2.c0
    have d_V2 := V2.c1
    have f_V2 := V2.frozen 0
    have g_V2 := V2.frozen 1
    have l_V2 := V2.lt
    have m_V2 := Nat.le_of_lt l_V2
    go_wp2_with fail
    refine (of_ok a1 l0 c1 zs x2 h1 (by omega) hc1 hu).mono ?_
    rintro e x3 ⟨g2, l2, k2, z2, rfl, hg2, h2, n2, hb⟩
    replace V0 := Va.after hb V0
    replace V1 := Va.after hb V1
    replace V2 := Va.after hb V2
    replace h := h.below hb (Nat.le_refl _)
    replace h1 := h1.below hb (Nat.le_refl _)
    replace B0 := step B0 hb
    clear hb
    clear c_V0 d_V0 f_V0 g_V0 l_V0 m_V0 c_V1 d_V1 f_V1 g_V1 l_V1 m_V1 c_V2 d_V2 f_V2 g_V2 l_V2 m_V2
    have c_V0 := V0.c0
    have d_V0 := V0.c1
    have f_V0 := V0.frozen 0
    have g_V0 := V0.frozen 1
    have l_V0 := V0.lt
    have m_V0 := Nat.le_of_lt l_V0
    have c_V1 := V1.c0
    have d_V1 := V1.c1
    have f_V1 := V1.frozen 0
    have g_V1 := V1.frozen 1
    have l_V1 := V1.lt
    have m_V1 := Nat.le_of_lt l_V1
    have c_V2 := V2.c0
    have d_V2 := V2.c1
    have f_V2 := V2.frozen 0
    have g_V2 := V2.frozen 1
    have l_V2 := V2.lt
    have m_V2 := Nat.le_of_lt l_V2
    go_wp2_with fail
    clear h1
    clear hg2
    have lt3 := V2.lt
    refine ent1 x3 _ _ (Q := fun W => Code.wp Try.prog _ _ _ W) ?_
    intro x4 hb hs_x4 V3
    replace V0 := Va.after hb V0
    replace V1 := Va.after hb V1
    replace V2 := Va.after hb V2
    replace h2 := Nt.after hb h2
    replace h := h.below hb (Nat.le_refl _)
    replace B0 := step B0 hb
    clear hb hs_x4
    clear c_V0 d_V0 f_V0 g_V0 l_V0 m_V0 c_V1 d_V1 f_V1 g_V1 l_V1 m_V1 c_V2 d_V2 f_V2 g_V2 l_V2 m_V2
    refine wp_region_noPanic ?_
    replace V0 : Va x4.drew _ _ _ := V0
    replace V1 : Va x4.drew _ _ _ := V1
    replace V2 : Va x4.drew _ _ _ := V2
    replace V3 : Va x4.drew _ _ _ := V3
    replace h2 : Nt x4.drew _ _ _ _ := h2
    replace h : Sl x4.drew _ _ _ := h
    replace B0 := Below.drew B0
    refine wp_region_held_drew (S := (fun W => W.cell? ⟨w.heap.size, 0, none⟩ = some (.bool s) ∧ W.cell? ⟨w.heap.size, 1, none⟩ = some (.slice a l0 c) ∧ W.cell? ⟨x3.heap.size, 0, none⟩ = some (.slice (some ⟨g2, 0, none⟩) l2 k2))) (by kernel_rfl) ⟨V0.c0, V0.c1, V3.cell⟩ (fun hHeld => ?_)
    obtain ⟨x5, hxd⟩ : ∃ xd, xd = x4.drew := ⟨_, rfl⟩
    rw [← hxd] at V0 V1 V2 V3 h2 h B0 hHeld ⊢
    clear hxd
    refine wpAnyH_take (i := 0) (v := ?_) rfl (by kernel_rfl) (by kernel_rfl) (by kernel_rfl) (fun _ _ _ h => h) (Or.inl ⟨by rfl, ?_⟩) hHeld ?_
    rotate_left
    · (intro W hSw; (try dsimp only at hSw); go_simp; all_goals (with_reducible rfl))
    simp only [List.getElem_toArray, List.getElem_cons_zero, Act.put, List.setIfInBounds_toArray, List.set_cons_zero, List.set_cons_succ]
    refine wpAnyH_take (i := 1) (v := ?_) rfl (by kernel_rfl) (by kernel_rfl) (by kernel_rfl) (fun _ _ _ h => h) (Or.inl ⟨by rfl, ?_⟩) hHeld ?_
    rotate_left
    · (intro W hSw; (try dsimp only at hSw); go_simp; all_goals (with_reducible rfl))
    simp only [List.getElem_toArray, List.getElem_cons_zero, List.getElem_cons_succ, Act.put, List.setIfInBounds_toArray, List.set_cons_zero, List.set_cons_succ]
    refine wpAnyH_take (i := 2) (v := ?_) rfl (by kernel_rfl) (by kernel_rfl) (by kernel_rfl) (fun _ _ _ h => h) (Or.inl ⟨by rfl, ?_⟩) hHeld ?_
    rotate_left
    · (intro W hSw; (try dsimp only at hSw); go_simp; all_goals (with_reducible rfl))
    simp only [List.getElem_toArray, List.getElem_cons_zero, List.getElem_cons_succ, Act.put, List.setIfInBounds_toArray, List.set_cons_zero, List.set_cons_succ]
    refine wpAnyH_take (i := 4) (v := ?_) rfl (by kernel_rfl) (by kernel_rfl) (by kernel_rfl) (fun _ _ _ h => h) (Or.inl ⟨by rfl, ?_⟩) hHeld ?_
    rotate_left
    · (intro W hSw; (try dsimp only at hSw); go_simp; all_goals (with_reducible rfl))
    simp only [List.getElem_toArray, List.getElem_cons_zero, List.getElem_cons_succ, Act.put, List.setIfInBounds_toArray, List.set_cons_zero, List.set_cons_succ]
    refine wpAnyH_take (i := 5) (v := ?_) rfl (by kernel_rfl) (by kernel_rfl) (by kernel_rfl) (fun _ _ _ h => h) (Or.inl ⟨by rfl, ?_⟩) hHeld ?_
    rotate_left
    · (intro W hSw; (try dsimp only at hSw); go_simp; all_goals (with_reducible rfl))
    simp only [List.getElem_toArray, List.getElem_cons_zero, List.getElem_cons_succ, Act.put, List.setIfInBounds_toArray, List.set_cons_zero, List.set_cons_succ]
    refine wpAnyH_take (i := 6) (v := ?_) rfl (by kernel_rfl) (by kernel_rfl) (by kernel_rfl) (fun _ _ _ h => h) (Or.inl ⟨by rfl, ?_⟩) hHeld ?_
    rotate_left
    · (intro W hSw; (try dsimp only at hSw); go_simp; all_goals (with_reducible rfl))
    simp only [List.getElem_toArray, List.getElem_cons_zero, List.getElem_cons_succ, Act.put, List.setIfInBounds_toArray, List.set_cons_zero, List.set_cons_succ]
    refine wpAnyH_take (i := 8) (v := ?_) rfl (by kernel_rfl) (by kernel_rfl) (by kernel_rfl) (fun _ _ _ h => h) (Or.inl ⟨by rfl, ?_⟩) hHeld ?_
    rotate_left
    · (intro W hSw; (try dsimp only at hSw); go_simp; all_goals (with_reducible rfl))
    simp only [List.getElem_toArray, List.getElem_cons_zero, List.getElem_cons_succ, Act.put, List.setIfInBounds_toArray, List.set_cons_zero, List.set_cons_succ]
    refine wpAnyH_take (i := 9) (v := ?_) rfl (by kernel_rfl) (by kernel_rfl) (by kernel_rfl) (fun _ _ _ h => h) (Or.inl ⟨by rfl, ?_⟩) hHeld ?_
    rotate_left
    · (intro W hSw; (try dsimp only at hSw); go_simp; all_goals (with_reducible rfl))
    simp only [List.getElem_toArray, List.getElem_cons_zero, List.getElem_cons_succ, Act.put, List.setIfInBounds_toArray, List.set_cons_zero, List.set_cons_succ]
    refine wpAnyH_ready (rs := [3]) (by kernel_rfl) (by simp) ?_
    refine AllReadyH.cons rfl (fun K hK => ?_) AllReadyH.nil
    simp only [List.getElem_toArray, List.getElem_cons_zero, List.getElem_cons_succ]
    go_simp
    refine (wnew_any s _ l2 k2 z2 _ h2).mono ?_
    rintro e x6 ⟨s3, rfl, h3, e3, hb⟩
    replace V0 := Va.after hb V0
    replace V1 := Va.after hb V1
    replace V2 := Va.after hb V2
    replace V3 := Va.after hb V3
    replace h2 := Nt.after hb h2
    replace h := h.below hb (Nat.le_refl _)
    replace B0 := step B0 hb
    clear hb
    try go_wp2_with fail
    refine hK.out _ _ ⟨V0.c0, V0.c1, V3.cell⟩ (fun hHeld => ?_)
    clear hK K
    refine wpAnyH_ready (rs := [7]) (by kernel_rfl) (by simp) ?_
    refine AllReadyH.cons rfl (fun K hK => ?_) AllReadyH.nil
    simp only [List.getElem_toArray, List.getElem_cons_zero, List.getElem_cons_succ]
    go_simp
    refine (rnew_any s a l0 c zs _ h (by omega) (by omega)).mono ?_
    rintro e x7 ⟨s4, a4, l4, k4, z4, rfl, h4, n4, e4, hl4, hb⟩
    replace V0 := Va.after hb V0
    replace V1 := Va.after hb V1
    replace V2 := Va.after hb V2
    replace V3 := Va.after hb V3
    replace h2 := Nt.after hb h2
    replace h3 := It.after hb h3
    replace h := h.below hb (Nat.le_refl _)
    replace B0 := step B0 hb
    clear hb
    clear hl4
    obtain ⟨hl5, hz5⟩ := h3.1.same h4.1 h4.2.1 (n4.trans n2.symm)
    subst hl5 hz5
    have es : s4 = s3 := by
      have q1 := h3.sign
      have q2 : s4 = decide (iv s4 z4 < 0) := by
        have p0 := h4.nonneg
        cases s4
        · rw [iv_f]; symm; simpa using p0
        · have := h4.2.2.2.2 rfl
          rw [iv_t]; symm; simp; omega
      rw [q1, q2, e4, e3]
      cases s
      · rw [iv_f, iv_f, n2]
      · rw [iv_t, iv_t, n2]
    subst es
    try go_wp2_with fail
    refine hK.out _ _ ⟨V0.c0, V0.c1, V3.cell⟩ (fun hHeld => ?_)
    clear hK K
    clear h2
    have c_V1 := V1.c0
    have d_V1 := V1.c1
    have f_V1 := V1.frozen 0
    have g_V1 := V1.frozen 1
    have l_V1 := V1.lt
    have m_V1 := Nat.le_of_lt l_V1
    refine wpAnyH_ready (rs := [10]) (by kernel_rfl) (by simp) ?_
    refine AllReadyH.cons rfl (fun K hK => ?_) AllReadyH.nil
    simp only [List.getElem_toArray, List.getElem_cons_zero, List.getElem_cons_succ]
    go_simp
    clear c_V1 d_V1 f_V1 g_V1 l_V1 m_V1
    refine st2 V1 (.bool s4) (.slice (some ⟨g2, 0, none⟩) l4 k2) (Q := fun W => K _ W) ?_
    intro x8 V' oth far
    replace V0 := oth _ _ _ (by first | omega | assumption) V0
    replace V2 := oth _ _ _ (by first | omega | assumption) V2
    replace V3 := oth _ _ _ (by first | omega | assumption) V3
    replace h3 := h3.far V1 (noInt2 _ _ _ _) far.1
    replace h := h.far V1 (noInt2 _ _ _ _) far.1
    replace h4 := h4.far V1 (noInt2 _ _ _ _) far.1
    replace B0 := far.2 _ _ (by first | omega | (simp; omega)) B0
    replace V1 := V'
    clear oth far
    refine hK.out _ _ ⟨V0.c0, V0.c1, V3.cell⟩ (fun hHeld => ?_)
    clear hK K
    have c_V2 := V2.c0
    have d_V2 := V2.c1
    have f_V2 := V2.frozen 0
    have g_V2 := V2.frozen 1
    have l_V2 := V2.lt
    have m_V2 := Nat.le_of_lt l_V2
    refine wpAnyH_ready (rs := [11]) (by kernel_rfl) (by simp) ?_
    refine AllReadyH.cons rfl (fun K hK => ?_) AllReadyH.nil
    simp only [List.getElem_toArray, List.getElem_cons_zero, List.getElem_cons_succ]
    go_simp
    clear c_V2 d_V2 f_V2 g_V2 l_V2 m_V2
    refine st2 V2 (.bool s4) (.slice a4 l4 k4) (Q := fun W => K _ W) ?_
    intro x9 V' oth far
    replace V0 := oth _ _ _ (by first | omega | assumption) V0
    replace V1 := oth _ _ _ (by first | omega | assumption) V1
    replace V3 := oth _ _ _ (by first | omega | assumption) V3
    replace h3 := h3.far V2 (noInt2 _ _ _ _) far.1
    replace h := h.far V2 (noInt2 _ _ _ _) far.1
    replace h4 := h4.far V2 (noInt2 _ _ _ _) far.1
    replace B0 := far.2 _ _ (by first | omega | (simp; omega)) B0
    replace V2 := V'
    clear oth far
    refine hK.out _ _ ⟨V0.c0, V0.c1, V3.cell⟩ (fun hHeld => ?_)
    clear hK K
    refine wpAnyH_take (i := 12) (v := ?_) rfl (by kernel_rfl) (by kernel_rfl) (by kernel_rfl) (fun _ _ _ h => h) (Or.inl ⟨by rfl, ?_⟩) hHeld ?_
    rotate_left
    · (intro W hSw; (try dsimp only at hSw); go_simp; all_goals (with_reducible rfl))
    simp only [List.getElem_toArray, List.getElem_cons_zero, List.getElem_cons_succ, Act.put, List.setIfInBounds_toArray, List.set_cons_zero, List.set_cons_succ]
    refine wpAnyH_done (by kernel_rfl) ?_ _
    refine NoPanic.normal ?_
    clear hHeld
    go_wp2_with fail
    refine bodyPost_ret (results_wit rfl rfl V1 rfl V2) rfl ?_
    exact ⟨_, _, _, _, _, _, _, rfl, h3, h4, e4, B0⟩
  ·
    subst hl2
    have hl3 : (4096 : Int) < l := by omega
    have hl4 : 4096 ≤ c := by omega
    cases a with
    | none => (have := (hn rfl).1; omega)
    | some ad =>
      go_enter Try.func7, Try.ntmps7
      go_wp2_with fail
      refine ent3 w _ _ _ _ _ _ (Q := fun W => Calls Try.prog _ _ W _) ?_
      intro x1 hb hs_x1 V0 V1 V2
      replace h := h.below hb (Nat.le_refl _)
      replace B0 := step B0 hb
      clear hb hs_x1
      refine (copyl_any (some ad) 4096 c zs x1 h hn0 (by omega)).mono ?_
      rintro e x2 ⟨a1, c1, rfl, h1, hc1, hn1, hb⟩
      replace V0 := Va.after hb V0
      replace V1 := Va.after hb V1
      replace V2 := Va.after hb V2
      replace h := h.below hb (Nat.le_refl _)
      replace B0 := step B0 hb
      clear hb
      have c_V0 := V0.c0
      have d_V0 := V0.c1
      have f_V0 := V0.frozen 0
      have g_V0 := V0.frozen 1
      have l_V0 := V0.lt
      have m_V0 := Nat.le_of_lt l_V0
      have c_V1 := V1.c0
      have d_V1 := V1.c1
      have f_V1 := V1.frozen 0
      have g_V1 := V1.frozen 1
      have l_V1 := V1.lt
      have m_V1 := Nat.le_of_lt l_V1
      have c_V2 := V2.c0
      have d_V2 := V2.c1
      have f_V2 := V2.frozen 0
      have g_V2 := V2.frozen 1
      have l_V2 := V2.lt
      have m_V2 := Nat.le_of_lt l_V2
      go_wp2_with fail
      refine (of_ok a1 4096 c1 zs x2 h1 (by omega) hc1 hu).mono ?_
      rintro e x3 ⟨g2, l2, k2, z2, rfl, hg2, h2, n2, hb⟩
      replace V0 := Va.after hb V0
      replace V1 := Va.after hb V1
      replace V2 := Va.after hb V2
      replace h := h.below hb (Nat.le_refl _)
      replace h1 := h1.below hb (Nat.le_refl _)
      replace B0 := step B0 hb
      clear hb
      clear c_V0 d_V0 f_V0 g_V0 l_V0 m_V0 c_V1 d_V1 f_V1 g_V1 l_V1 m_V1 c_V2 d_V2 f_V2 g_V2 l_V2 m_V2
      have c_V0 := V0.c0
      have d_V0 := V0.c1
      have f_V0 := V0.frozen 0
      have g_V0 := V0.frozen 1
      have l_V0 := V0.lt
      have m_V0 := Nat.le_of_lt l_V0
      have c_V1 := V1.c0
      have d_V1 := V1.c1
      have f_V1 := V1.frozen 0
      have g_V1 := V1.frozen 1
      have l_V1 := V1.lt
      have m_V1 := Nat.le_of_lt l_V1
      have c_V2 := V2.c0
      have d_V2 := V2.c1
      have f_V2 := V2.frozen 0
      have g_V2 := V2.frozen 1
      have l_V2 := V2.lt
      have m_V2 := Nat.le_of_lt l_V2
      go_wp2_with fail
      clear h1
      clear hg2
      have lt3 := V2.lt
      refine ent1 x3 _ _ (Q := fun W => Code.wp Try.prog _ _ _ W) ?_
      intro x4 hb hs_x4 V3
      replace V0 := Va.after hb V0
      replace V1 := Va.after hb V1
      replace V2 := Va.after hb V2
      replace h2 := Nt.after hb h2
      replace h := h.below hb (Nat.le_refl _)
      replace B0 := step B0 hb
      clear hb hs_x4
      clear c_V0 d_V0 f_V0 g_V0 l_V0 m_V0 c_V1 d_V1 f_V1 g_V1 l_V1 m_V1 c_V2 d_V2 f_V2 g_V2 l_V2 m_V2
      refine wp_region_noPanic ?_
      replace V0 : Va x4.drew _ _ _ := V0
      replace V1 : Va x4.drew _ _ _ := V1
      replace V2 : Va x4.drew _ _ _ := V2
      replace V3 : Va x4.drew _ _ _ := V3
      replace h2 : Nt x4.drew _ _ _ _ := h2
      replace h : Sl x4.drew _ _ _ := h
      replace B0 := Below.drew B0
      refine wp_region_held_drew (S := (fun W => W.cell? ⟨w.heap.size, 0, none⟩ = some (.bool s) ∧ W.cell? ⟨w.heap.size, 1, none⟩ = some (.slice (some ad) l c) ∧ W.cell? ⟨x3.heap.size, 0, none⟩ = some (.slice (some ⟨g2, 0, none⟩) l2 k2))) (by kernel_rfl) ⟨V0.c0, V0.c1, V3.cell⟩ (fun hHeld => ?_)
      obtain ⟨x5, hxd⟩ : ∃ xd, xd = x4.drew := ⟨_, rfl⟩
      rw [← hxd] at V0 V1 V2 V3 h2 h B0 hHeld ⊢
      clear hxd
      refine wpAnyH_take (i := 0) (v := ?_) rfl (by kernel_rfl) (by kernel_rfl) (by kernel_rfl) (fun _ _ _ h => h) (Or.inl ⟨by rfl, ?_⟩) hHeld ?_
      rotate_left
      · (intro W hSw; (try dsimp only at hSw); go_simp; all_goals (with_reducible rfl))
      simp only [List.getElem_toArray, List.getElem_cons_zero, Act.put, List.setIfInBounds_toArray, List.set_cons_zero, List.set_cons_succ]
      refine wpAnyH_take (i := 1) (v := ?_) rfl (by kernel_rfl) (by kernel_rfl) (by kernel_rfl) (fun _ _ _ h => h) (Or.inl ⟨by rfl, ?_⟩) hHeld ?_
      rotate_left
      · (intro W hSw; (try dsimp only at hSw); go_simp; all_goals (with_reducible rfl))
      simp only [List.getElem_toArray, List.getElem_cons_zero, List.getElem_cons_succ, Act.put, List.setIfInBounds_toArray, List.set_cons_zero, List.set_cons_succ]
      refine wpAnyH_take (i := 2) (v := ?_) rfl (by kernel_rfl) (by kernel_rfl) (by kernel_rfl) (fun _ _ _ h => h) (Or.inl ⟨by rfl, ?_⟩) hHeld ?_
      rotate_left
      · (intro W hSw; (try dsimp only at hSw); go_simp; all_goals (with_reducible rfl))
      simp only [List.getElem_toArray, List.getElem_cons_zero, List.getElem_cons_succ, Act.put, List.setIfInBounds_toArray, List.set_cons_zero, List.set_cons_succ]
      refine wpAnyH_take (i := 4) (v := ?_) rfl (by kernel_rfl) (by kernel_rfl) (by kernel_rfl) (fun _ _ _ h => h) (Or.inl ⟨by rfl, ?_⟩) hHeld ?_
      rotate_left
      · (intro W hSw; (try dsimp only at hSw); go_simp; all_goals (with_reducible rfl))
      simp only [List.getElem_toArray, List.getElem_cons_zero, List.getElem_cons_succ, Act.put, List.setIfInBounds_toArray, List.set_cons_zero, List.set_cons_succ]
      refine wpAnyH_take (i := 5) (v := ?_) rfl (by kernel_rfl) (by kernel_rfl) (by kernel_rfl) (fun _ _ _ h => h) (Or.inl ⟨by rfl, ?_⟩) hHeld ?_
      rotate_left
      · (intro W hSw; (try dsimp only at hSw); go_simp; all_goals (with_reducible rfl))
      simp only [List.getElem_toArray, List.getElem_cons_zero, List.getElem_cons_succ, Act.put, List.setIfInBounds_toArray, List.set_cons_zero, List.set_cons_succ]
      refine wpAnyH_take (i := 6) (v := ?_) rfl (by kernel_rfl) (by kernel_rfl) (by kernel_rfl) (fun _ _ _ h => h) (Or.inl ⟨by rfl, ?_⟩) hHeld ?_
      rotate_left
      · (intro W hSw; (try dsimp only at hSw); go_simp; all_goals (with_reducible rfl))
      simp only [List.getElem_toArray, List.getElem_cons_zero, List.getElem_cons_succ, Act.put, List.setIfInBounds_toArray, List.set_cons_zero, List.set_cons_succ]
      refine wpAnyH_take (i := 8) (v := ?_) rfl (by kernel_rfl) (by kernel_rfl) (by kernel_rfl) (fun _ _ _ h => h) (Or.inl ⟨by rfl, ?_⟩) hHeld ?_
      rotate_left
      · (intro W hSw; (try dsimp only at hSw); go_simp; all_goals (with_reducible rfl))
      simp only [List.getElem_toArray, List.getElem_cons_zero, List.getElem_cons_succ, Act.put, List.setIfInBounds_toArray, List.set_cons_zero, List.set_cons_succ]
      refine wpAnyH_take (i := 9) (v := ?_) rfl (by kernel_rfl) (by kernel_rfl) (by kernel_rfl) (fun _ _ _ h => h) (Or.inl ⟨by rfl, ?_⟩) hHeld ?_
      rotate_left
      · (intro W hSw; (try dsimp only at hSw); go_simp; all_goals (with_reducible rfl))
      simp only [List.getElem_toArray, List.getElem_cons_zero, List.getElem_cons_succ, Act.put, List.setIfInBounds_toArray, List.set_cons_zero, List.set_cons_succ]
      refine wpAnyH_ready (rs := [3]) (by kernel_rfl) (by simp) ?_
      refine AllReadyH.cons rfl (fun K hK => ?_) AllReadyH.nil
      simp only [List.getElem_toArray, List.getElem_cons_zero, List.getElem_cons_succ]
      go_simp
      refine (wnew_any s _ l2 k2 z2 _ h2).mono ?_
      rintro e x6 ⟨s3, rfl, h3, e3, hb⟩
      replace V0 := Va.after hb V0
      replace V1 := Va.after hb V1
      replace V2 := Va.after hb V2
      replace V3 := Va.after hb V3
      replace h2 := Nt.after hb h2
      replace h := h.below hb (Nat.le_refl _)
      replace B0 := step B0 hb
      clear hb
      try go_wp2_with fail
      refine hK.out _ _ ⟨V0.c0, V0.c1, V3.cell⟩ (fun hHeld => ?_)
      clear hK K
      refine wpAnyH_ready (rs := [7]) (by kernel_rfl) (by simp) ?_
      refine AllReadyH.cons rfl (fun K hK => ?_) AllReadyH.nil
      simp only [List.getElem_toArray, List.getElem_cons_zero, List.getElem_cons_succ]
      go_simp
      refine (rnew_any s (some ad) 4096 c zs _ h (by omega) (by omega)).mono ?_
      rintro e x7 ⟨s4, a4, l4, k4, z4, rfl, h4, n4, e4, hl4, hb⟩
      replace V0 := Va.after hb V0
      replace V1 := Va.after hb V1
      replace V2 := Va.after hb V2
      replace V3 := Va.after hb V3
      replace h2 := Nt.after hb h2
      replace h3 := It.after hb h3
      replace h := h.below hb (Nat.le_refl _)
      replace B0 := step B0 hb
      clear hb
      clear hl4
      obtain ⟨hl5, hz5⟩ := h3.1.same h4.1 h4.2.1 (n4.trans n2.symm)
      subst hl5 hz5
      have es : s4 = s3 := by
        have q1 := h3.sign
        have q2 : s4 = decide (iv s4 z4 < 0) := by
          have p0 := h4.nonneg
          cases s4
          · rw [iv_f]; symm; simpa using p0
          · have := h4.2.2.2.2 rfl
            rw [iv_t]; symm; simp; omega
        rw [q1, q2, e4, e3]
        cases s
        · rw [iv_f, iv_f, n2]
        · rw [iv_t, iv_t, n2]
      subst es
      try go_wp2_with fail
      refine hK.out _ _ ⟨V0.c0, V0.c1, V3.cell⟩ (fun hHeld => ?_)
      clear hK K
      clear h2
      have c_V1 := V1.c0
      have d_V1 := V1.c1
      have f_V1 := V1.frozen 0
      have g_V1 := V1.frozen 1
      have l_V1 := V1.lt
      have m_V1 := Nat.le_of_lt l_V1
      refine wpAnyH_ready (rs := [10]) (by kernel_rfl) (by simp) ?_
      refine AllReadyH.cons rfl (fun K hK => ?_) AllReadyH.nil
      simp only [List.getElem_toArray, List.getElem_cons_zero, List.getElem_cons_succ]
      go_simp
      clear c_V1 d_V1 f_V1 g_V1 l_V1 m_V1
      refine st2 V1 (.bool s4) (.slice (some ⟨g2, 0, none⟩) l4 k2) (Q := fun W => K _ W) ?_
      intro x8 V' oth far
      replace V0 := oth _ _ _ (by first | omega | assumption) V0
      replace V2 := oth _ _ _ (by first | omega | assumption) V2
      replace V3 := oth _ _ _ (by first | omega | assumption) V3
      replace h3 := h3.far V1 (noInt2 _ _ _ _) far.1
      replace h := h.far V1 (noInt2 _ _ _ _) far.1
      replace h4 := h4.far V1 (noInt2 _ _ _ _) far.1
      replace B0 := far.2 _ _ (by first | omega | (simp; omega)) B0
      replace V1 := V'
      clear oth far
      refine hK.out _ _ ⟨V0.c0, V0.c1, V3.cell⟩ (fun hHeld => ?_)
      clear hK K
      have c_V2 := V2.c0
      have d_V2 := V2.c1
      have f_V2 := V2.frozen 0
      have g_V2 := V2.frozen 1
      have l_V2 := V2.lt
      have m_V2 := Nat.le_of_lt l_V2
      refine wpAnyH_ready (rs := [11]) (by kernel_rfl) (by simp) ?_
      refine AllReadyH.cons rfl (fun K hK => ?_) AllReadyH.nil
      simp only [List.getElem_toArray, List.getElem_cons_zero, List.getElem_cons_succ]
      go_simp
      clear c_V2 d_V2 f_V2 g_V2 l_V2 m_V2
      refine st2 V2 (.bool s4) (.slice a4 l4 k4) (Q := fun W => K _ W) ?_
      intro x9 V' oth far
      replace V0 := oth _ _ _ (by first | omega | assumption) V0
      replace V1 := oth _ _ _ (by first | omega | assumption) V1
      replace V3 := oth _ _ _ (by first | omega | assumption) V3
      replace h3 := h3.far V2 (noInt2 _ _ _ _) far.1
      replace h := h.far V2 (noInt2 _ _ _ _) far.1
      replace h4 := h4.far V2 (noInt2 _ _ _ _) far.1
      replace B0 := far.2 _ _ (by first | omega | (simp; omega)) B0
      replace V2 := V'
      clear oth far
      refine hK.out _ _ ⟨V0.c0, V0.c1, V3.cell⟩ (fun hHeld => ?_)
      clear hK K
      refine wpAnyH_take (i := 12) (v := ?_) rfl (by kernel_rfl) (by kernel_rfl) (by kernel_rfl) (fun _ _ _ h => h) (Or.inl ⟨by rfl, ?_⟩) hHeld ?_
      rotate_left
      · (intro W hSw; (try dsimp only at hSw); go_simp; all_goals (with_reducible rfl))
      simp only [List.getElem_toArray, List.getElem_cons_zero, List.getElem_cons_succ, Act.put, List.setIfInBounds_toArray, List.set_cons_zero, List.set_cons_succ]
      refine wpAnyH_done (by kernel_rfl) ?_ _
      refine NoPanic.normal ?_
      clear hHeld
      go_wp2_with fail
      refine bodyPost_ret (results_wit rfl rfl V1 rfl V2) rfl ?_
      exact ⟨_, _, _, _, _, _, _, rfl, h3, h4, e4, B0⟩

theorem oflaw4 (s : Bool) (a : Option Addr) (l c : Nat) (zs : List Int) (w : World) (h : Sl w a l zs) (hn : a = none → l = 0 ∧ c = 0) (hc : l ≤ c) :
    Calls Try.prog 7 #[.agg #[.bool s, .slice a l c]] w fun e w' => ∃ s' a' l' c' zs' a2 c2, e = .returned (.tuple #[.agg #[.bool s', .slice a' l' c'], .agg #[.bool s', .slice a2 l' c2], .bool true]) ∧ It w' s' a' l' c' zs' ∧ Ir w' s' a2 l' c2 zs' ∧ iv s' zs' = iv s (zs.take 4096) ∧ Below w.heap.size w w' := by
  by_cases hl : l ≤ 4096
  · rw [List.take_of_length_le (by have := h.1; omega)]
    exact of_core s a l l c zs w h hn (Nat.le_refl _) hc (Or.inl ⟨hl, rfl⟩)
  · exact of_core s a l 4096 c (zs.take 4096) w (h.take (by omega)) hn (by omega) hc (Or.inr ⟨by omega, rfl⟩)

theorem wsame_ok (s t : Bool) (a b : Option Addr) (la ca lb cb : Nat) (xs ys : List Int) (w : World) (hx : It w s a la ca xs) (hy : It w t b lb cb ys) (he : iv s xs = iv t ys) :
    Calls Try.prog 31 #[.agg #[.bool s, .slice a la ca], .agg #[.bool t, .slice b lb cb]] w fun e w' => e = .returned (.bool true) ∧ Below w.heap.size w w' := by
  have B0 : Below w.heap.size w w := Below.refl _ _
  go_enter Try.func31, Try.ntmps31
  go_wp2_with fail
  refine ent2 w _ _ _ _ (Q := fun W => Code.wp Try.prog _ _ _ W) ?_
  intro x1 hb hs_x1 V0 V1
  replace hx := It.after hb hx
  replace hy := It.after hb hy
  replace B0 := step B0 hb
  clear hb hs_x1
  refine wp_region_noPanic ?_
  replace V0 : Va x1.drew _ _ _ := V0
  replace V1 : Va x1.drew _ _ _ := V1
  replace hx : It x1.drew _ _ _ _ _ := hx
  replace hy : It x1.drew _ _ _ _ _ := hy
  replace B0 := Below.drew B0
  refine wp_region_held_drew (S := (fun W => W.cell? ⟨w.heap.size, 0, none⟩ = some (.bool s) ∧ W.cell? ⟨w.heap.size, 1, none⟩ = some (.slice a la ca) ∧ W.cell? ⟨w.heap.size + 1, 0, none⟩ = some (.bool t) ∧ W.cell? ⟨w.heap.size + 1, 1, none⟩ = some (.slice b lb cb))) (by kernel_rfl) ⟨V0.c0, V0.c1, V1.c0, V1.c1⟩ (fun hHeld => ?_)
  obtain ⟨x2, hxd⟩ : ∃ xd, xd = x1.drew := ⟨_, rfl⟩
  rw [← hxd] at V0 V1 hx hy B0 hHeld ⊢
  clear hxd
  refine wpAnyH_take (i := 0) (v := ?_) rfl (by kernel_rfl) (by kernel_rfl) (by kernel_rfl) (fun _ _ _ h => h) (Or.inl ⟨by rfl, ?_⟩) hHeld ?_
  rotate_left
  · (intro W hSw; (try dsimp only at hSw); go_simp; all_goals (with_reducible rfl))
  simp only [List.getElem_toArray, List.getElem_cons_zero, Act.put, List.setIfInBounds_toArray, List.set_cons_zero, List.set_cons_succ]
  refine wpAnyH_take (i := 1) (v := ?_) rfl (by kernel_rfl) (by kernel_rfl) (by kernel_rfl) (fun _ _ _ h => h) (Or.inl ⟨by rfl, ?_⟩) hHeld ?_
  rotate_left
  · (intro W hSw; (try dsimp only at hSw); go_simp; all_goals (with_reducible rfl))
  simp only [List.getElem_toArray, List.getElem_cons_zero, List.getElem_cons_succ, Act.put, List.setIfInBounds_toArray, List.set_cons_zero, List.set_cons_succ]
  refine wpAnyH_ready (rs := [2]) (by kernel_rfl) (by simp) ?_
  refine AllReadyH.cons rfl (fun K hK => ?_) AllReadyH.nil
  simp only [List.getElem_toArray, List.getElem_cons_zero, List.getElem_cons_succ]
  go_simp
  refine (wcompare_any s t a b la ca lb cb xs ys _ hx hy).mono ?_
  rintro e x3 ⟨rfl, hb⟩
  replace V0 := Va.after hb V0
  replace V1 := Va.after hb V1
  replace hx := It.after hb hx
  replace hy := It.after hb hy
  replace B0 := step B0 hb
  clear hb
  rw [cmp3_eq he]
  try go_wp2_with fail
  refine hK.out _ _ ⟨V0.c0, V0.c1, V1.c0, V1.c1⟩ (fun hHeld => ?_)
  clear hK K
  refine wpAnyH_take (i := 3) (v := ?_) rfl (by kernel_rfl) (by kernel_rfl) (by kernel_rfl) (fun _ _ _ h => h) (Or.inl ⟨by rfl, ?_⟩) hHeld ?_
  rotate_left
  · (intro W hSw; (try dsimp only at hSw); go_simp; all_goals (with_reducible rfl))
  simp only [List.getElem_toArray, List.getElem_cons_zero, List.getElem_cons_succ, Act.put, List.setIfInBounds_toArray, List.set_cons_zero, List.set_cons_succ]
  refine wpAnyH_take (i := 4) (v := ?_) rfl (by kernel_rfl) (by kernel_rfl) (by kernel_rfl) (fun _ _ _ h => h) (Or.inl ⟨by rfl, ?_⟩) hHeld ?_
  rotate_left
  · (intro W hSw; (try dsimp only at hSw); go_simp; all_goals (with_reducible rfl))
  simp only [List.getElem_toArray, List.getElem_cons_zero, List.getElem_cons_succ, Act.put, List.setIfInBounds_toArray, List.set_cons_zero, List.set_cons_succ]
  refine wpAnyH_take (i := 5) (v := ?_) rfl (by kernel_rfl) (by kernel_rfl) (by kernel_rfl) (fun _ _ _ h => h) (Or.inl ⟨by rfl, ?_⟩) hHeld ?_
  rotate_left
  · (intro W hSw; (try dsimp only at hSw); go_simp; all_goals (with_reducible rfl))
  simp only [List.getElem_toArray, List.getElem_cons_zero, List.getElem_cons_succ, Act.put, List.setIfInBounds_toArray, List.set_cons_zero, List.set_cons_succ]
  refine wpAnyH_take (i := 7) (v := ?_) rfl (by kernel_rfl) (by kernel_rfl) (by kernel_rfl) (fun _ _ _ h => h) (Or.inl ⟨by rfl, ?_⟩) hHeld ?_
  rotate_left
  · (intro W hSw; (try dsimp only at hSw); go_simp; all_goals (with_reducible rfl))
  simp only [List.getElem_toArray, List.getElem_cons_zero, List.getElem_cons_succ, Act.put, List.setIfInBounds_toArray, List.set_cons_zero, List.set_cons_succ]
  refine wpAnyH_ready (rs := [6]) (by kernel_rfl) (by simp) ?_
  refine AllReadyH.cons rfl (fun K hK => ?_) AllReadyH.nil
  simp only [List.getElem_toArray, List.getElem_cons_zero, List.getElem_cons_succ]
  go_simp
  refine (wsign_any s a la ca xs _ hx).mono ?_
  rintro e x4 ⟨rfl, hb⟩
  replace V0 := Va.after hb V0
  replace V1 := Va.after hb V1
  replace hx := It.after hb hx
  replace hy := It.after hb hy
  replace B0 := step B0 hb
  clear hb
  rw [he]
  obtain ⟨q, hq⟩ : ∃ q, Int.sign (iv t ys) = q := ⟨_, rfl⟩
  rw [hq]
  try go_wp2_with fail
  refine hK.out _ _ ⟨V0.c0, V0.c1, V1.c0, V1.c1⟩ (fun hHeld => ?_)
  clear hK K
  refine wpAnyH_ready (rs := [8]) (by kernel_rfl) (by simp) ?_
  refine AllReadyH.cons rfl (fun K hK => ?_) AllReadyH.nil
  simp only [List.getElem_toArray, List.getElem_cons_zero, List.getElem_cons_succ]
  go_simp
  refine (wsign_any t b lb cb ys _ hy).mono ?_
  rintro e x5 ⟨rfl, hb⟩
  replace V0 := Va.after hb V0
  replace V1 := Va.after hb V1
  replace hx := It.after hb hx
  replace hy := It.after hb hy
  replace B0 := step B0 hb
  clear hb
  rw [hq]
  try go_wp2_with fail
  refine hK.out _ _ ⟨V0.c0, V0.c1, V1.c0, V1.c1⟩ (fun hHeld => ?_)
  clear hK K
  refine wpAnyH_take (i := 9) (v := ?_) rfl (by kernel_rfl) (by kernel_rfl) (by kernel_rfl) (fun _ _ _ h => h) (Or.inl ⟨by rfl, ?_⟩) hHeld ?_
  rotate_left
  · (intro W hSw; (try dsimp only at hSw); go_simp; all_goals (with_reducible rfl))
  simp only [List.getElem_toArray, List.getElem_cons_zero, List.getElem_cons_succ, Act.put, List.setIfInBounds_toArray, List.set_cons_zero, List.set_cons_succ]
  refine wpAnyH_take (i := 10) (v := ?_) rfl (by kernel_rfl) (by kernel_rfl) (by kernel_rfl) (fun _ _ _ h => h) (Or.inl ⟨by rfl, ?_⟩) hHeld ?_
  rotate_left
  · (intro W hSw; (try dsimp only at hSw); go_simp; all_goals (with_reducible rfl))
  simp only [List.getElem_toArray, List.getElem_cons_zero, List.getElem_cons_succ, Act.put, List.setIfInBounds_toArray, List.set_cons_zero, List.set_cons_succ]
  refine wpAnyH_take (i := 11) (v := ?_) rfl (by kernel_rfl) (by kernel_rfl) (by kernel_rfl) (fun _ _ _ h => h) (Or.inl ⟨by rfl, ?_⟩) hHeld ?_
  rotate_left
  · (intro W hSw; (try dsimp only at hSw); go_simp; all_goals (with_reducible rfl))
  simp only [List.getElem_toArray, List.getElem_cons_zero, List.getElem_cons_succ, Act.put, List.setIfInBounds_toArray, List.set_cons_zero, List.set_cons_succ]
  refine wpAnyH_done (by kernel_rfl) ?_ _
  refine NoPanic.normal ?_
  clear hHeld
  go_wp2_with fail
  go_ret
  exact ⟨rfl, B0⟩
end Go.Proofs.Ytkfpblonjinfmaa
namespace Go.Proofs.Ytkfpblonjinfmaa
open Go.RowKit Go.Shelf
set_option linter.unusedVariables false

set_option maxHeartbeats 1000000 in
theorem samek_any (a b : Option Addr) (la ca cb : Nat) (xs : List Int) (w : World) (ha : Sl w a la xs) (hb : Sl w b la xs) (h1 : la ≤ 40000000000000) :
    Calls Try.prog 37 #[.slice a la ca, .slice b la cb] w fun e w' => e = .returned (.bool true) ∧ ∃ n, w' = w.drewN n := by
  have hza := ha.1
  have g1 : ((la : Int) != la) = false := by simp
  by_cases h0 : la = 0
  · subst h0
    clear ha hb
    go_enter Try.func37, Try.ntmps37
    go_wp2_with fail
    refine wp_loop_rounds 1 ?_
    rw [rounds_succ]
    go_wp2_with fail
    go_ret
    exact ⟨rfl, 0, rfl⟩
  · obtain ⟨ba, oa, rfl, hca⟩ := ha.2.2 (by omega)
    obtain ⟨bb, ob, rfl, hcb⟩ := hb.2.2 (by omega)
    clear ha hb
    go_enter Try.func37, Try.ntmps37
    go_wp2_with fail
    go_loopw [5] (fun i wr => ∃ k : Nat, k ≤ la ∧ i = .int .i64 k ∧ ∃ q, wr = w.drewN q) (fun i _ => la - (intOf i).toNat)
    case atStart => exact ⟨0, Nat.zero_le _, rfl, 0, rfl⟩
    case round =>
      obtain ⟨k, hk, rfl, q, rfl⟩ := hrel
      by_cases hlt : k < la
      · have hcx := hca k (by omega)
        have hcy := hcb k (by omega)
        obtain ⟨x, hx⟩ : ∃ x, xs.getD k 0 = x := ⟨_, rfl⟩
        rw [hx] at hcx hcy
        clear hx
        have g2 : (x != x) = false := by simp
        go_wp2_with fail
        go_quiet (fail)
        go_wp2_with fail
        go_roundw
        case rel => exact ⟨k + 1, by omega, by go_num, q + nq, rfl⟩
        case measure => simp [intOf]; omega
      · go_wp2_with fail
        go_ret
        exact ⟨rfl, q, rfl⟩


theorem samek_b (a b : Option Addr) (la ca cb : Nat) (xs : List Int) (w : World) (ha : Sl w a la xs) (hb : Sl w b la xs) (h1 : la ≤ 40000000000000) :
    Calls Try.prog 37 #[.slice a la ca, .slice b la cb] w fun e w' => e = .returned (.bool true) ∧ Below w.heap.size w w' := by
  refine (samek_any a b la ca cb xs w ha hb h1).mono ?_
  rintro e w' ⟨rfl, n, rfl⟩
  exact ⟨rfl, below_drewN (Below.refl _ _) n⟩
theorem own_aft {w w' : World} {g : Nat} {cs : List Int} (b : Below w.heap.size w w') (h : Own w g cs) : Own w' g cs := h.below b h.lt
theorem Ir.sign {w : World} {s : Bool} {a : Option Addr} {l c : Nat} {zs : List Int} (h : Ir w s a l c zs) : s = decide (iv s zs < 0) := by
  have h0 := h.nonneg
  cases s
  · rw [iv_f]; symm; simpa using h0
  · have := h.2.2.2.2 rfl
    rw [iv_t]; symm; simp; omega
theorem Ir.abs {w : World} {s : Bool} {a : Option Addr} {l c : Nat} {zs : List Int} (h : Ir w s a l c zs) : num zs = (iv s zs).natAbs := by
  have h0 := h.nonneg
  cases s
  · rw [iv_f]; omega
  · rw [iv_t]; omega
theorem Ir.zero {w : World} {s : Bool} {a : Option Addr} {l c : Nat} {zs : List Int} (h : Ir w s a l c zs) : ((l : Int) == 0) = decide (num zs = 0) := by
  have e := num_eq_zero h.1.2.1
  rw [h.2.1] at e
  rw [Bool.eq_iff_iff]; simp; omega
theorem Ir.nil (w : World) : Ir w false none 0 0 [] := ⟨⟨rfl, Limbs.nil, fun h => absurd h (by decide)⟩, rfl, Nat.le_refl _, fun _ => ⟨rfl, rfl⟩, fun h => by cases h⟩
theorem It.ir {w w' : World} {s t : Bool} {a b : Option Addr} {l c m k : Nat} {zs ds : List Int} (h : It w s a l c zs) (g : Ir w' t b m k ds) (e : iv t ds = iv s zs) : t = s ∧ m = l ∧ ds = zs := by
  have e1 := h.sign
  have e2 := g.sign
  rw [e] at e2
  obtain ⟨e3, e4⟩ := h.1.same g.1 g.2.1 (by rw [g.abs, h.abs, e])
  exact ⟨e2.trans e1.symm, e3, e4⟩

theorem rsign_any (s : Bool) (a : Option Addr) (l c : Nat) (zs : List Int) (w : World) (h : Ir w s a l c zs) :
    Calls Try.prog 29 #[.agg #[.bool s, .slice a l c]] w fun e w' => e = .returned (.int .i64 (Int.sign (iv s zs))) ∧ Below w.heap.size w w' := by
  have hz := h.zero
  have hp := h.nonneg
  cases s
  · have es : Int.sign (iv false zs) = if num zs = 0 then 0 else 1 := by
      rw [iv_f]
      by_cases e : num zs = 0
      · rw [if_pos e, e]; rfl
      · rw [if_neg e, Int.sign_eq_one_of_pos (by omega)]
    rw [es]
    clear es
    by_cases e : num zs = 0
    · rw [if_pos e]
      have ez : ((l : Int) == 0) = true := by rw [hz]; simpa using e
      clear hz hp e h
      go_enter Try.func29, Try.ntmps29
      go_wp2_with fail
      go_ret
      exact ⟨rfl, (Below.refl _ _).alloc (Nat.le_refl _) _⟩
    · rw [if_neg e]
      have ez : ((l : Int) == 0) = false := by rw [hz]; simpa using e
      clear hz hp e h
      go_enter Try.func29, Try.ntmps29
      go_wp2_with fail
      go_ret
      exact ⟨rfl, (Below.refl _ _).alloc (Nat.le_refl _) _⟩
  · have es : Int.sign (iv true zs) = -1 := by
      have := h.2.2.2.2 rfl
      rw [iv_t, Int.sign_eq_neg_one_of_neg (by omega)]
    rw [es]
    clear es hz hp h
    go_enter Try.func29, Try.ntmps29
    go_wp2_with fail
    go_ret
    exact ⟨rfl, (Below.refl _ _).alloc (Nat.le_refl _) _⟩

set_option maxHeartbeats 4000000 in
theorem is4_ok (s t : Bool) (a b : Option Addr) (l c m k : Nat) (zs ds : List Int) (w : World) (h : It w s a l c zs) (g : Ir w t b m k ds) (he : iv t ds = iv s zs) :
    Calls Try.prog 11 #[.agg #[.bool s, .slice a l c], .agg #[.bool t, .slice b m k]] w fun e w' => e = .returned (.bool true) ∧ Below w.heap.size w w' := by
  obtain ⟨rfl, rfl, rfl⟩ := h.ir g he
  have hl := h.1.2.2.2
  have hzl := h.1.1.1
  clear he
  have B0 : Below w.heap.size w w := Below.refl _ _
  go_enter Try.func11, Try.ntmps11
  go_wp2_with fail
  refine ent2 w _ _ _ _ (Q := fun W => Code.wp Try.prog _ _ _ W) ?_
  intro x1 hb hs_x1 V0 V1
  replace h := It.after hb h
  replace g := Ir.after hb g
  replace B0 := step B0 hb
  clear hb hs_x1
  refine wp_region_noPanic ?_
  replace V0 : Va x1.drew _ _ _ := V0
  replace V1 : Va x1.drew _ _ _ := V1
  replace h : It x1.drew _ _ _ _ _ := h
  replace g := g.drw
  replace B0 := Below.drew B0
  refine wp_region_held_drew (S := (fun W => W.cell? ⟨w.heap.size, 0, none⟩ = some (.bool t) ∧ W.cell? ⟨w.heap.size, 1, none⟩ = some (.slice a m c) ∧ W.cell? ⟨w.heap.size + 1, 0, none⟩ = some (.bool t) ∧ W.cell? ⟨w.heap.size + 1, 1, none⟩ = some (.slice b m k))) (by kernel_rfl) ⟨V0.c0, V0.c1, V1.c0, V1.c1⟩ (fun hHeld => ?_)
  obtain ⟨x2, hxd⟩ : ∃ xd, xd = x1.drew := ⟨_, rfl⟩
  rw [← hxd] at V0 V1 h g B0 hHeld ⊢
  clear hxd
  refine wpAnyH_take (i := 0) (v := ?_) rfl (by kernel_rfl) (by kernel_rfl) (by kernel_rfl) (fun _ _ _ h => h) (Or.inl ⟨by rfl, ?_⟩) hHeld ?_
  rotate_left
  · (intro W hSw; (try dsimp only at hSw); go_simp; all_goals (with_reducible rfl))
  simp only [List.getElem_toArray, List.getElem_cons_zero, Act.put, List.setIfInBounds_toArray, List.set_cons_zero, List.set_cons_succ]
  refine wpAnyH_take (i := 2) (v := ?_) rfl (by kernel_rfl) (by kernel_rfl) (by kernel_rfl) (fun _ _ _ h => h) (Or.inl ⟨by rfl, ?_⟩) hHeld ?_
  rotate_left
  · (intro W hSw; (try dsimp only at hSw); go_simp; all_goals (with_reducible rfl))
  simp only [List.getElem_toArray, List.getElem_cons_zero, List.getElem_cons_succ, Act.put, List.setIfInBounds_toArray, List.set_cons_zero, List.set_cons_succ]
  refine wpAnyH_ready (rs := [1]) (by kernel_rfl) (by simp) ?_
  refine AllReadyH.cons rfl (fun K hK => ?_) AllReadyH.nil
  simp only [List.getElem_toArray, List.getElem_cons_zero, List.getElem_cons_succ]
  go_simp
  refine (wsign_any t a m c ds _ h).mono ?_
  rintro e x3 ⟨rfl, hb⟩
  replace V0 := Va.after hb V0
  replace V1 := Va.after hb V1
  replace h := It.after hb h
  replace g := Ir.after hb g
  replace B0 := step B0 hb
  clear hb
  obtain ⟨q, hq⟩ : ∃ q, Int.sign (iv t ds) = q := ⟨_, rfl⟩
  rw [hq]
  try go_wp2_with fail
  refine hK.out _ _ ⟨V0.c0, V0.c1, V1.c0, V1.c1⟩ (fun hHeld => ?_)
  clear hK K
  refine wpAnyH_ready (rs := [3]) (by kernel_rfl) (by simp) ?_
  refine AllReadyH.cons rfl (fun K hK => ?_) AllReadyH.nil
  simp only [List.getElem_toArray, List.getElem_cons_zero, List.getElem_cons_succ]
  go_simp
  refine (rsign_any t b m k ds _ g).mono ?_
  rintro e x4 ⟨rfl, hb⟩
  replace V0 := Va.after hb V0
  replace V1 := Va.after hb V1
  replace h := It.after hb h
  replace g := Ir.after hb g
  replace B0 := step B0 hb
  clear hb
  rw [hq]
  try go_wp2_with fail
  refine hK.out _ _ ⟨V0.c0, V0.c1, V1.c0, V1.c1⟩ (fun hHeld => ?_)
  clear hK K
  refine wpAnyH_take (i := 4) (v := ?_) rfl (by kernel_rfl) (by kernel_rfl) (by kernel_rfl) (fun _ _ _ h => h) (Or.inl ⟨by rfl, ?_⟩) hHeld ?_
  rotate_left
  · (intro W hSw; (try dsimp only at hSw); go_simp; all_goals (with_reducible rfl))
  simp only [List.getElem_toArray, List.getElem_cons_zero, List.getElem_cons_succ, Act.put, List.setIfInBounds_toArray, List.set_cons_zero, List.set_cons_succ]
  refine wpAnyH_take (i := 5) (v := ?_) rfl (by kernel_rfl) (by kernel_rfl) (by kernel_rfl) (fun _ _ _ h => h) (Or.inl ⟨by rfl, ?_⟩) hHeld ?_
  rotate_left
  · (intro W hSw; (try dsimp only at hSw); go_simp; all_goals (with_reducible rfl))
  simp only [List.getElem_toArray, List.getElem_cons_zero, List.getElem_cons_succ, Act.put, List.setIfInBounds_toArray, List.set_cons_zero, List.set_cons_succ]
  refine wpAnyH_take (i := 6) (v := ?_) rfl (by kernel_rfl) (by kernel_rfl) (by kernel_rfl) (fun _ _ _ h => h) (Or.inl ⟨by rfl, ?_⟩) hHeld ?_
  rotate_left
  · (intro W hSw; (try dsimp only at hSw); go_simp; all_goals (with_reducible rfl))
  simp only [List.getElem_toArray, List.getElem_cons_zero, List.getElem_cons_succ, Act.put, List.setIfInBounds_toArray, List.set_cons_zero, List.set_cons_succ]
  refine wpAnyH_take (i := 9) (v := ?_) rfl (by kernel_rfl) (by kernel_rfl) (by kernel_rfl) (fun _ _ _ h => h) (Or.inl ⟨by rfl, ?_⟩) hHeld ?_
  rotate_left
  · (intro W hSw; (try dsimp only at hSw); go_simp; all_goals (with_reducible rfl))
  simp only [List.getElem_toArray, List.getElem_cons_zero, List.getElem_cons_succ, Act.put, List.setIfInBounds_toArray, List.set_cons_zero, List.set_cons_succ]
  refine wpAnyH_take (i := 10) (v := ?_) rfl (by kernel_rfl) (by kernel_rfl) (by kernel_rfl) (fun _ _ _ h => h) (Or.inl ⟨by rfl, ?_⟩) hHeld ?_
  rotate_left
  · (intro W hSw; (try dsimp only at hSw); go_simp; all_goals (with_reducible rfl))
  simp only [List.getElem_toArray, List.getElem_cons_zero, List.getElem_cons_succ, Act.put, List.setIfInBounds_toArray, List.set_cons_zero, List.set_cons_succ]
  refine wpAnyH_ready (rs := [7]) (by kernel_rfl) (by simp) ?_
  refine AllReadyH.cons rfl (fun K hK => ?_) AllReadyH.nil
  simp only [List.getElem_toArray, List.getElem_cons_zero, List.getElem_cons_succ]
  go_simp
  refine (wabs_any t a m c _).mono ?_
  rintro e x5 ⟨rfl, hb⟩
  replace V0 := Va.after hb V0
  replace V1 := Va.after hb V1
  replace h := It.after hb h
  replace g := Ir.after hb g
  replace B0 := step B0 hb
  clear hb
  try go_wp2_with fail
  refine hK.out _ _ ⟨V0.c0, V0.c1, V1.c0, V1.c1⟩ (fun hHeld => ?_)
  clear hK K
  refine wpAnyH_ready (rs := [8]) (by kernel_rfl) (by simp) ?_
  refine AllReadyH.cons rfl (fun K hK => ?_) AllReadyH.nil
  simp only [List.getElem_toArray, List.getElem_cons_zero, List.getElem_cons_succ]
  go_simp
  refine (limbs_any a m c ds _ h.1).mono ?_
  rintro e x6 ⟨g1, rfl, hg1, ho, hb⟩
  replace V0 := Va.after hb V0
  replace V1 := Va.after hb V1
  replace h := It.after hb h
  replace g := Ir.after hb g
  replace B0 := step B0 hb
  clear hb
  clear hg1
  try go_wp2_with fail
  refine hK.out _ _ ⟨V0.c0, V0.c1, V1.c0, V1.c1⟩ (fun hHeld => ?_)
  clear hK K
  refine wpAnyH_ready (rs := [11]) (by kernel_rfl) (by simp) ?_
  refine AllReadyH.cons rfl (fun K hK => ?_) AllReadyH.nil
  simp only [List.getElem_toArray, List.getElem_cons_zero, List.getElem_cons_succ]
  go_simp
  refine (samek_b (some ⟨g1, 0, none⟩) b m m k ds _ (by have s1 := ho.sl h.1.limbs; rw [hzl] at s1; exact s1) g.1 (by omega)).mono ?_
  rintro e x7 ⟨rfl, hb⟩
  replace V0 := Va.after hb V0
  replace V1 := Va.after hb V1
  replace h := It.after hb h
  replace ho := own_aft hb ho
  replace g := Ir.after hb g
  replace B0 := step B0 hb
  clear hb
  try go_wp2_with fail
  refine hK.out _ _ ⟨V0.c0, V0.c1, V1.c0, V1.c1⟩ (fun hHeld => ?_)
  clear hK K
  refine wpAnyH_take (i := 12) (v := ?_) rfl (by kernel_rfl) (by kernel_rfl) (by kernel_rfl) (fun _ _ _ h => h) (Or.inl ⟨by rfl, ?_⟩) hHeld ?_
  rotate_left
  · (intro W hSw; (try dsimp only at hSw); go_simp; all_goals (with_reducible rfl))
  simp only [List.getElem_toArray, List.getElem_cons_zero, List.getElem_cons_succ, Act.put, List.setIfInBounds_toArray, List.set_cons_zero, List.set_cons_succ]
  refine wpAnyH_take (i := 13) (v := ?_) rfl (by kernel_rfl) (by kernel_rfl) (by kernel_rfl) (fun _ _ _ h => h) (Or.inl ⟨by rfl, ?_⟩) hHeld ?_
  rotate_left
  · (intro W hSw; (try dsimp only at hSw); go_simp; all_goals (with_reducible rfl))
  simp only [List.getElem_toArray, List.getElem_cons_zero, List.getElem_cons_succ, Act.put, List.setIfInBounds_toArray, List.set_cons_zero, List.set_cons_succ]
  refine wpAnyH_done (by kernel_rfl) ?_ _
  refine NoPanic.normal ?_
  clear hHeld
  go_wp2_with fail
  go_ret
  exact ⟨rfl, B0⟩

theorem rneg_any (s : Bool) (a : Option Addr) (l c : Nat) (zs : List Int) (w : World) (h : Ir w s a l c zs) (hl : l ≤ 1000000) :
    Calls Try.prog 13 #[.agg #[.bool s, .slice a l c]] w fun e w' => ∃ s' a' l' c' zs', e = .returned (.agg #[.bool s', .slice a' l' c']) ∧ Ir w' s' a' l' c' zs' ∧ iv s' zs' = - iv s zs ∧ l' ≤ l ∧ Below w.heap.size w w' := by
  have B0 : Below w.heap.size w w := Below.refl _ _
  go_enter Try.func13, Try.ntmps13
  go_wp2_with fail
  refine ent2 w _ _ _ _ (Q := fun W => Calls Try.prog _ _ W _) ?_
  intro x1 hb hs_x1 V0 V1
  replace h := Ir.after hb h
  replace B0 := step B0 hb
  clear hb hs_x1
  refine (rnew_any (!s) a l c zs x1 h.1 h.2.2.1 (by omega)).mono ?_
  rintro e x2 ⟨s', a', l', c', zs', rfl, h', n', e', hl', hb⟩
  replace V0 := Va.after hb V0
  replace V1 := Va.after hb V1
  replace h := Ir.after hb h
  replace B0 := step B0 hb
  clear hb
  have c_V1 := V1.c0
  have d_V1 := V1.c1
  have f_V1 := V1.frozen 0
  have g_V1 := V1.frozen 1
  have l_V1 := V1.lt
  have m_V1 := Nat.le_of_lt l_V1
  go_wp2_with fail
  refine bodyPost_ret (results_i rfl rfl (V1.set2 _ _)) rfl ?_
  refine ⟨s', a', l', c', zs', rfl, h'.far V1 (noInt2 _ _ _ _) (far2 _ _ _ _), ?_, hl', below_2 B0 (by omega) _ _⟩
  rw [e']
  cases s
  · rfl
  · show num zs = - - num zs; omega

theorem cmp3_sign {x y : Int} (h : Int.sign x ≠ Int.sign y) : cmp3 x y = if Int.sign x < Int.sign y then -1 else 1 := by
  rcases Int.lt_trichotomy x 0 with hx | hx | hx <;> rcases Int.lt_trichotomy y 0 with hy | hy | hy
  all_goals (first | (rw [Int.sign_eq_neg_one_of_neg hx] at h ⊢) | (rw [Int.sign_eq_one_of_pos hx] at h ⊢) | (subst hx; rw [Int.sign_zero] at h ⊢))
  all_goals (first | (rw [Int.sign_eq_neg_one_of_neg hy] at h ⊢) | (rw [Int.sign_eq_one_of_pos hy] at h ⊢) | (subst hy; rw [Int.sign_zero] at h ⊢))
  all_goals (first | exact absurd rfl h | (rw [if_pos (by decide)]; exact cmp3_lt (by omega)) | (rw [if_neg (by decide)]; exact cmp3_gt (by omega)))
set_option maxHeartbeats 4000000 in
theorem rcmp_any (s t : Bool) (a b : Option Addr) (la ca lb cb : Nat) (xs ys : List Int) (w : World) (hx : Ir w s a la ca xs) (hy : Ir w t b lb cb ys) (hl1 : la ≤ 1000000) (hl2 : lb ≤ 1000000) :
    Calls Try.prog 20 #[.agg #[.bool s, .slice a la ca], .agg #[.bool t, .slice b lb cb]] w fun e w' => e = .returned (.int .i64 (cmp3 (iv s xs) (iv t ys))) ∧ Below w.heap.size w w' := by
  by_cases he : Int.sign (iv s xs) = Int.sign (iv t ys)
  ·
    have hst : s = t := by
      have q1 : (iv s xs < 0) ↔ (iv t ys < 0) := by rw [← Int.sign_eq_neg_one_iff_neg, ← Int.sign_eq_neg_one_iff_neg, he]
      rw [hx.sign, hy.sign]; simp only [q1]
    subst hst
    obtain ⟨q, hq⟩ : ∃ q, Int.sign (iv s ys) = q := ⟨_, rfl⟩
    rw [hq] at he
    have B0 : Below w.heap.size w w := Below.refl _ _
    cases s
    ·
      go_enter Try.func20, Try.ntmps20
      go_wp2_with fail
      refine ent2 w _ _ _ _ (Q := fun W => Code.wp Try.prog _ _ _ W) ?_
      intro x1 hb hs_x1 V0 V1
      replace hx := Ir.after hb hx
      replace hy := Ir.after hb hy
      replace B0 := step B0 hb
      clear hb hs_x1
      refine wp_region_noPanic ?_
      replace V0 : Va x1.drew _ _ _ := V0
      replace V1 : Va x1.drew _ _ _ := V1
      replace hx := hx.drw
      replace hy := hy.drw
      replace B0 := Below.drew B0
      refine wp_region_held_drew (S := (fun W => W.cell? ⟨w.heap.size, 0, none⟩ = some (.bool false) ∧ W.cell? ⟨w.heap.size, 1, none⟩ = some (.slice a la ca) ∧ W.cell? ⟨w.heap.size + 1, 0, none⟩ = some (.bool false) ∧ W.cell? ⟨w.heap.size + 1, 1, none⟩ = some (.slice b lb cb))) (by kernel_rfl) ⟨V0.c0, V0.c1, V1.c0, V1.c1⟩ (fun hHeld => ?_)
      obtain ⟨x2, hxd⟩ : ∃ xd, xd = x1.drew := ⟨_, rfl⟩
      rw [← hxd] at V0 V1 hx hy B0 hHeld ⊢
      clear hxd
      refine wpAnyH_take (i := 0) (v := ?_) rfl (by kernel_rfl) (by kernel_rfl) (by kernel_rfl) (fun _ _ _ h => h) (Or.inl ⟨by rfl, ?_⟩) hHeld ?_
      rotate_left
      · (intro W hSw; (try dsimp only at hSw); go_simp; all_goals (with_reducible rfl))
      simp only [List.getElem_toArray, List.getElem_cons_zero, Act.put, List.setIfInBounds_toArray, List.set_cons_zero, List.set_cons_succ]
      refine wpAnyH_take (i := 2) (v := ?_) rfl (by kernel_rfl) (by kernel_rfl) (by kernel_rfl) (fun _ _ _ h => h) (Or.inl ⟨by rfl, ?_⟩) hHeld ?_
      rotate_left
      · (intro W hSw; (try dsimp only at hSw); go_simp; all_goals (with_reducible rfl))
      simp only [List.getElem_toArray, List.getElem_cons_zero, List.getElem_cons_succ, Act.put, List.setIfInBounds_toArray, List.set_cons_zero, List.set_cons_succ]
      refine wpAnyH_ready (rs := [1]) (by kernel_rfl) (by simp) ?_
      refine AllReadyH.cons rfl (fun K hK => ?_) AllReadyH.nil
      simp only [List.getElem_toArray, List.getElem_cons_zero, List.getElem_cons_succ]
      go_simp
      refine (rsign_any false a la ca xs _ hx).mono ?_
      rintro e x3 ⟨rfl, hb⟩
      replace V0 := Va.after hb V0
      replace V1 := Va.after hb V1
      replace hx := Ir.after hb hx
      replace hy := Ir.after hb hy
      replace B0 := step B0 hb
      clear hb
      rw [he]
      try go_wp2_with fail
      refine hK.out _ _ ⟨V0.c0, V0.c1, V1.c0, V1.c1⟩ (fun hHeld => ?_)
      clear hK K
      refine wpAnyH_ready (rs := [3]) (by kernel_rfl) (by simp) ?_
      refine AllReadyH.cons rfl (fun K hK => ?_) AllReadyH.nil
      simp only [List.getElem_toArray, List.getElem_cons_zero, List.getElem_cons_succ]
      go_simp
      refine (rsign_any false b lb cb ys _ hy).mono ?_
      rintro e x4 ⟨rfl, hb⟩
      replace V0 := Va.after hb V0
      replace V1 := Va.after hb V1
      replace hx := Ir.after hb hx
      replace hy := Ir.after hb hy
      replace B0 := step B0 hb
      clear hb
      rw [hq]
      try go_wp2_with fail
      refine hK.out _ _ ⟨V0.c0, V0.c1, V1.c0, V1.c1⟩ (fun hHeld => ?_)
      clear hK K
      refine wpAnyH_take (i := 4) (v := ?_) rfl (by kernel_rfl) (by kernel_rfl) (by kernel_rfl) (fun _ _ _ h => h) (Or.inl ⟨by rfl, ?_⟩) hHeld ?_
      rotate_left
      · (intro W hSw; (try dsimp only at hSw); go_simp; all_goals (with_reducible rfl))
      simp only [List.getElem_toArray, List.getElem_cons_zero, List.getElem_cons_succ, Act.put, List.setIfInBounds_toArray, List.set_cons_zero, List.set_cons_succ]
      refine wpAnyH_take (i := 5) (v := ?_) rfl (by kernel_rfl) (by kernel_rfl) (by kernel_rfl) (fun _ _ _ h => h) (Or.inl ⟨by rfl, ?_⟩) hHeld ?_
      rotate_left
      · (intro W hSw; (try dsimp only at hSw); go_simp; all_goals (with_reducible rfl))
      simp only [List.getElem_toArray, List.getElem_cons_zero, List.getElem_cons_succ, Act.put, List.setIfInBounds_toArray, List.set_cons_zero, List.set_cons_succ]
      refine wpAnyH_done (by kernel_rfl) ?_ _
      refine NoPanic.normal ?_
      clear hHeld
      have c_V0 := V0.c0
      have d_V0 := V0.c1
      have f_V0 := V0.frozen 0
      have g_V0 := V0.frozen 1
      have l_V0 := V0.lt
      have m_V0 := Nat.le_of_lt l_V0
      have c_V1 := V1.c0
      have d_V1 := V1.c1
      have f_V1 := V1.frozen 0
      have g_V1 := V1.frozen 1
      have l_V1 := V1.lt
      have m_V1 := Nat.le_of_lt l_V1
      go_wp2_with fail
      refine (rcompare_any a b la ca lb cb xs ys x4 hx.1 hy.1 hx.2.2.2.1 hy.2.2.2.1 (by omega) (by omega) hx.2.2.1 hy.2.2.1).mono ?_
      rintro e x5 ⟨rfl, hb⟩
      replace V0 := Va.after hb V0
      replace V1 := Va.after hb V1
      replace hx := Ir.after hb hx
      replace hy := Ir.after hb hy
      replace B0 := step B0 hb
      clear hb
      clear c_V0 d_V0 f_V0 g_V0 l_V0 m_V0 c_V1 d_V1 f_V1 g_V1 l_V1 m_V1
      have c_V0 := V0.c0
      have d_V0 := V0.c1
      have f_V0 := V0.frozen 0
      have g_V0 := V0.frozen 1
      have l_V0 := V0.lt
      have m_V0 := Nat.le_of_lt l_V0
      have c_V1 := V1.c0
      have d_V1 := V1.c1
      have f_V1 := V1.frozen 0
      have g_V1 := V1.frozen 1
      have l_V1 := V1.lt
      have m_V1 := Nat.le_of_lt l_V1
      go_wp2_with fail
      go_ret
      exact ⟨by rw [iv_f, iv_f]; rfl, B0⟩
    ·
      go_enter Try.func20, Try.ntmps20
      go_wp2_with fail
      refine ent2 w _ _ _ _ (Q := fun W => Code.wp Try.prog _ _ _ W) ?_
      intro x1 hb hs_x1 V0 V1
      replace hx := Ir.after hb hx
      replace hy := Ir.after hb hy
      replace B0 := step B0 hb
      clear hb hs_x1
      refine wp_region_noPanic ?_
      replace V0 : Va x1.drew _ _ _ := V0
      replace V1 : Va x1.drew _ _ _ := V1
      replace hx := hx.drw
      replace hy := hy.drw
      replace B0 := Below.drew B0
      refine wp_region_held_drew (S := (fun W => W.cell? ⟨w.heap.size, 0, none⟩ = some (.bool true) ∧ W.cell? ⟨w.heap.size, 1, none⟩ = some (.slice a la ca) ∧ W.cell? ⟨w.heap.size + 1, 0, none⟩ = some (.bool true) ∧ W.cell? ⟨w.heap.size + 1, 1, none⟩ = some (.slice b lb cb))) (by kernel_rfl) ⟨V0.c0, V0.c1, V1.c0, V1.c1⟩ (fun hHeld => ?_)
      obtain ⟨x2, hxd⟩ : ∃ xd, xd = x1.drew := ⟨_, rfl⟩
      rw [← hxd] at V0 V1 hx hy B0 hHeld ⊢
      clear hxd
      refine wpAnyH_take (i := 0) (v := ?_) rfl (by kernel_rfl) (by kernel_rfl) (by kernel_rfl) (fun _ _ _ h => h) (Or.inl ⟨by rfl, ?_⟩) hHeld ?_
      rotate_left
      · (intro W hSw; (try dsimp only at hSw); go_simp; all_goals (with_reducible rfl))
      simp only [List.getElem_toArray, List.getElem_cons_zero, Act.put, List.setIfInBounds_toArray, List.set_cons_zero, List.set_cons_succ]
      refine wpAnyH_take (i := 2) (v := ?_) rfl (by kernel_rfl) (by kernel_rfl) (by kernel_rfl) (fun _ _ _ h => h) (Or.inl ⟨by rfl, ?_⟩) hHeld ?_
      rotate_left
      · (intro W hSw; (try dsimp only at hSw); go_simp; all_goals (with_reducible rfl))
      simp only [List.getElem_toArray, List.getElem_cons_zero, List.getElem_cons_succ, Act.put, List.setIfInBounds_toArray, List.set_cons_zero, List.set_cons_succ]
      refine wpAnyH_ready (rs := [1]) (by kernel_rfl) (by simp) ?_
      refine AllReadyH.cons rfl (fun K hK => ?_) AllReadyH.nil
      simp only [List.getElem_toArray, List.getElem_cons_zero, List.getElem_cons_succ]
      go_simp
      refine (rsign_any true a la ca xs _ hx).mono ?_
      rintro e x3 ⟨rfl, hb⟩
      replace V0 := Va.after hb V0
      replace V1 := Va.after hb V1
      replace hx := Ir.after hb hx
      replace hy := Ir.after hb hy
      replace B0 := step B0 hb
      clear hb
      rw [he]
      try go_wp2_with fail
      refine hK.out _ _ ⟨V0.c0, V0.c1, V1.c0, V1.c1⟩ (fun hHeld => ?_)
      clear hK K
      refine wpAnyH_ready (rs := [3]) (by kernel_rfl) (by simp) ?_
      refine AllReadyH.cons rfl (fun K hK => ?_) AllReadyH.nil
      simp only [List.getElem_toArray, List.getElem_cons_zero, List.getElem_cons_succ]
      go_simp
      refine (rsign_any true b lb cb ys _ hy).mono ?_
      rintro e x4 ⟨rfl, hb⟩
      replace V0 := Va.after hb V0
      replace V1 := Va.after hb V1
      replace hx := Ir.after hb hx
      replace hy := Ir.after hb hy
      replace B0 := step B0 hb
      clear hb
      rw [hq]
      try go_wp2_with fail
      refine hK.out _ _ ⟨V0.c0, V0.c1, V1.c0, V1.c1⟩ (fun hHeld => ?_)
      clear hK K
      refine wpAnyH_take (i := 4) (v := ?_) rfl (by kernel_rfl) (by kernel_rfl) (by kernel_rfl) (fun _ _ _ h => h) (Or.inl ⟨by rfl, ?_⟩) hHeld ?_
      rotate_left
      · (intro W hSw; (try dsimp only at hSw); go_simp; all_goals (with_reducible rfl))
      simp only [List.getElem_toArray, List.getElem_cons_zero, List.getElem_cons_succ, Act.put, List.setIfInBounds_toArray, List.set_cons_zero, List.set_cons_succ]
      refine wpAnyH_take (i := 5) (v := ?_) rfl (by kernel_rfl) (by kernel_rfl) (by kernel_rfl) (fun _ _ _ h => h) (Or.inl ⟨by rfl, ?_⟩) hHeld ?_
      rotate_left
      · (intro W hSw; (try dsimp only at hSw); go_simp; all_goals (with_reducible rfl))
      simp only [List.getElem_toArray, List.getElem_cons_zero, List.getElem_cons_succ, Act.put, List.setIfInBounds_toArray, List.set_cons_zero, List.set_cons_succ]
      refine wpAnyH_done (by kernel_rfl) ?_ _
      refine NoPanic.normal ?_
      clear hHeld
      have c_V0 := V0.c0
      have d_V0 := V0.c1
      have f_V0 := V0.frozen 0
      have g_V0 := V0.frozen 1
      have l_V0 := V0.lt
      have m_V0 := Nat.le_of_lt l_V0
      have c_V1 := V1.c0
      have d_V1 := V1.c1
      have f_V1 := V1.frozen 0
      have g_V1 := V1.frozen 1
      have l_V1 := V1.lt
      have m_V1 := Nat.le_of_lt l_V1
      go_wp2_with fail
      refine (rcompare_any b a lb cb la ca ys xs x4 hy.1 hx.1 hy.2.2.2.1 hx.2.2.2.1 (by omega) (by omega) hy.2.2.1 hx.2.2.1).mono ?_
      rintro e x5 ⟨rfl, hb⟩
      replace V0 := Va.after hb V0
      replace V1 := Va.after hb V1
      replace hx := Ir.after hb hx
      replace hy := Ir.after hb hy
      replace B0 := step B0 hb
      clear hb
      clear c_V0 d_V0 f_V0 g_V0 l_V0 m_V0 c_V1 d_V1 f_V1 g_V1 l_V1 m_V1
      have c_V0 := V0.c0
      have d_V0 := V0.c1
      have f_V0 := V0.frozen 0
      have g_V0 := V0.frozen 1
      have l_V0 := V0.lt
      have m_V0 := Nat.le_of_lt l_V0
      have c_V1 := V1.c0
      have d_V1 := V1.c1
      have f_V1 := V1.frozen 0
      have g_V1 := V1.frozen 1
      have l_V1 := V1.lt
      have m_V1 := Nat.le_of_lt l_V1
      go_wp2_with fail
      go_ret
      exact ⟨by rw [iv_t, iv_t, cmp3_neg]; rfl, B0⟩
  ·
    rw [cmp3_sign he]
    obtain ⟨p, hp⟩ : ∃ p, Int.sign (iv s xs) = p := ⟨_, rfl⟩
    obtain ⟨q, hq⟩ : ∃ q, Int.sign (iv t ys) = q := ⟨_, rfl⟩
    rw [hp, hq] at he ⊢
    have hne : (p != q) = true := by simpa using he
    obtain ⟨v, hv'⟩ : ∃ v : Int, (if p < q then -1 else 1) = v := ⟨_, rfl⟩
    rw [hv']
    have hv : Hid ((if p < q then (-1 : Int) else 1) = v) := hv'
    clear hv'
    have B0 : Below w.heap.size w w := Below.refl _ _
    go_enter Try.func20, Try.ntmps20
    go_wp2_with fail
    refine ent2 w _ _ _ _ (Q := fun W => Code.wp Try.prog _ _ _ W) ?_
    intro x1 hb hs_x1 V0 V1
    replace hx := Ir.after hb hx
    replace hy := Ir.after hb hy
    replace B0 := step B0 hb
    clear hb hs_x1
    refine wp_region_noPanic ?_
    replace V0 : Va x1.drew _ _ _ := V0
    replace V1 : Va x1.drew _ _ _ := V1
    replace hx := hx.drw
    replace hy := hy.drw
    replace B0 := Below.drew B0
    refine wp_region_held_drew (S := (fun W => W.cell? ⟨w.heap.size, 0, none⟩ = some (.bool s) ∧ W.cell? ⟨w.heap.size, 1, none⟩ = some (.slice a la ca) ∧ W.cell? ⟨w.heap.size + 1, 0, none⟩ = some (.bool t) ∧ W.cell? ⟨w.heap.size + 1, 1, none⟩ = some (.slice b lb cb))) (by kernel_rfl) ⟨V0.c0, V0.c1, V1.c0, V1.c1⟩ (fun hHeld => ?_)
    obtain ⟨x2, hxd⟩ : ∃ xd, xd = x1.drew := ⟨_, rfl⟩
    rw [← hxd] at V0 V1 hx hy B0 hHeld ⊢
    clear hxd
    refine wpAnyH_take (i := 0) (v := ?_) rfl (by kernel_rfl) (by kernel_rfl) (by kernel_rfl) (fun _ _ _ h => h) (Or.inl ⟨by rfl, ?_⟩) hHeld ?_
    rotate_left
    · (intro W hSw; (try dsimp only at hSw); go_simp; all_goals (with_reducible rfl))
    simp only [List.getElem_toArray, List.getElem_cons_zero, Act.put, List.setIfInBounds_toArray, List.set_cons_zero, List.set_cons_succ]
    refine wpAnyH_take (i := 2) (v := ?_) rfl (by kernel_rfl) (by kernel_rfl) (by kernel_rfl) (fun _ _ _ h => h) (Or.inl ⟨by rfl, ?_⟩) hHeld ?_
    rotate_left
    · (intro W hSw; (try dsimp only at hSw); go_simp; all_goals (with_reducible rfl))
    simp only [List.getElem_toArray, List.getElem_cons_zero, List.getElem_cons_succ, Act.put, List.setIfInBounds_toArray, List.set_cons_zero, List.set_cons_succ]
    refine wpAnyH_ready (rs := [1]) (by kernel_rfl) (by simp) ?_
    refine AllReadyH.cons rfl (fun K hK => ?_) AllReadyH.nil
    simp only [List.getElem_toArray, List.getElem_cons_zero, List.getElem_cons_succ]
    go_simp
    refine (rsign_any s a la ca xs _ hx).mono ?_
    rintro e x3 ⟨rfl, hb⟩
    replace V0 := Va.after hb V0
    replace V1 := Va.after hb V1
    replace hx := Ir.after hb hx
    replace hy := Ir.after hb hy
    replace B0 := step B0 hb
    clear hb
    rw [hp]
    try go_wp2_with fail
    refine hK.out _ _ ⟨V0.c0, V0.c1, V1.c0, V1.c1⟩ (fun hHeld => ?_)
    clear hK K
    refine wpAnyH_ready (rs := [3]) (by kernel_rfl) (by simp) ?_
    refine AllReadyH.cons rfl (fun K hK => ?_) AllReadyH.nil
    simp only [List.getElem_toArray, List.getElem_cons_zero, List.getElem_cons_succ]
    go_simp
    refine (rsign_any t b lb cb ys _ hy).mono ?_
    rintro e x4 ⟨rfl, hb⟩
    replace V0 := Va.after hb V0
    replace V1 := Va.after hb V1
    replace hx := Ir.after hb hx
    replace hy := Ir.after hb hy
    replace B0 := step B0 hb
    clear hb
    rw [hq]
    try go_wp2_with fail
    refine hK.out _ _ ⟨V0.c0, V0.c1, V1.c0, V1.c1⟩ (fun hHeld => ?_)
    clear hK K
    refine wpAnyH_take (i := 4) (v := ?_) rfl (by kernel_rfl) (by kernel_rfl) (by kernel_rfl) (fun _ _ _ h => h) (Or.inl ⟨by rfl, ?_⟩) hHeld ?_
    rotate_left
    · (intro W hSw; (try dsimp only at hSw); go_simp; all_goals (with_reducible rfl))
    simp only [List.getElem_toArray, List.getElem_cons_zero, List.getElem_cons_succ, Act.put, List.setIfInBounds_toArray, List.set_cons_zero, List.set_cons_succ]
    refine wpAnyH_take (i := 5) (v := ?_) rfl (by kernel_rfl) (by kernel_rfl) (by kernel_rfl) (fun _ _ _ h => h) (Or.inl ⟨by rfl, ?_⟩) hHeld ?_
    rotate_left
    · (intro W hSw; (try dsimp only at hSw); go_simp; all_goals (with_reducible rfl))
    simp only [List.getElem_toArray, List.getElem_cons_zero, List.getElem_cons_succ, Act.put, List.setIfInBounds_toArray, List.set_cons_zero, List.set_cons_succ]
    refine wpAnyH_done (by kernel_rfl) ?_ _
    refine NoPanic.normal ?_
    clear hHeld
    go_wp2_with fail
    refine wp_region_noPanic ?_
    replace V0 : Va x4.drew _ _ _ := V0
    replace V1 : Va x4.drew _ _ _ := V1
    replace hx := hx.drw
    replace hy := hy.drw
    replace B0 := Below.drew B0
    refine wp_region_held_drew (S := (fun W => W.cell? ⟨w.heap.size, 0, none⟩ = some (.bool s) ∧ W.cell? ⟨w.heap.size, 1, none⟩ = some (.slice a la ca) ∧ W.cell? ⟨w.heap.size + 1, 0, none⟩ = some (.bool t) ∧ W.cell? ⟨w.heap.size + 1, 1, none⟩ = some (.slice b lb cb))) (by kernel_rfl) ⟨V0.c0, V0.c1, V1.c0, V1.c1⟩ (fun hHeld => ?_)
    obtain ⟨x5, hxd⟩ : ∃ xd, xd = x4.drew := ⟨_, rfl⟩
    rw [← hxd] at V0 V1 hx hy B0 hHeld ⊢
    clear hxd
    refine wpAnyH_take (i := 0) (v := ?_) rfl (by kernel_rfl) (by kernel_rfl) (by kernel_rfl) (fun _ _ _ h => h) (Or.inl ⟨by rfl, ?_⟩) hHeld ?_
    rotate_left
    · (intro W hSw; (try dsimp only at hSw); go_simp; all_goals (with_reducible rfl))
    simp only [List.getElem_toArray, List.getElem_cons_zero, Act.put, List.setIfInBounds_toArray, List.set_cons_zero, List.set_cons_succ]
    refine wpAnyH_take (i := 2) (v := ?_) rfl (by kernel_rfl) (by kernel_rfl) (by kernel_rfl) (fun _ _ _ h => h) (Or.inl ⟨by rfl, ?_⟩) hHeld ?_
    rotate_left
    · (intro W hSw; (try dsimp only at hSw); go_simp; all_goals (with_reducible rfl))
    simp only [List.getElem_toArray, List.getElem_cons_zero, List.getElem_cons_succ, Act.put, List.setIfInBounds_toArray, List.set_cons_zero, List.set_cons_succ]
    refine wpAnyH_ready (rs := [1]) (by kernel_rfl) (by simp) ?_
    refine AllReadyH.cons rfl (fun K hK => ?_) AllReadyH.nil
    simp only [List.getElem_toArray, List.getElem_cons_zero, List.getElem_cons_succ]
    go_simp
    refine (rsign_any s a la ca xs _ hx).mono ?_
    rintro e x6 ⟨rfl, hb⟩
    replace V0 := Va.after hb V0
    replace V1 := Va.after hb V1
    replace hx := Ir.after hb hx
    replace hy := Ir.after hb hy
    replace B0 := step B0 hb
    clear hb
    rw [hp]
    try go_wp2_with fail
    refine hK.out _ _ ⟨V0.c0, V0.c1, V1.c0, V1.c1⟩ (fun hHeld => ?_)
    clear hK K
    refine wpAnyH_ready (rs := [3]) (by kernel_rfl) (by simp) ?_
    refine AllReadyH.cons rfl (fun K hK => ?_) AllReadyH.nil
    simp only [List.getElem_toArray, List.getElem_cons_zero, List.getElem_cons_succ]
    go_simp
    refine (rsign_any t b lb cb ys _ hy).mono ?_
    rintro e x7 ⟨rfl, hb⟩
    replace V0 := Va.after hb V0
    replace V1 := Va.after hb V1
    replace hx := Ir.after hb hx
    replace hy := Ir.after hb hy
    replace B0 := step B0 hb
    clear hb
    rw [hq]
    try go_wp2_with fail
    refine hK.out _ _ ⟨V0.c0, V0.c1, V1.c0, V1.c1⟩ (fun hHeld => ?_)
    clear hK K
    refine wpAnyH_take (i := 4) (v := ?_) rfl (by kernel_rfl) (by kernel_rfl) (by kernel_rfl) (fun _ _ _ h => h) (Or.inl ⟨by rfl, ?_⟩) hHeld ?_
    rotate_left
    · (intro W hSw; (try dsimp only at hSw); go_simp; all_goals (with_reducible rfl))
    simp only [List.getElem_toArray, List.getElem_cons_zero, List.getElem_cons_succ, Act.put, List.setIfInBounds_toArray, List.set_cons_zero, List.set_cons_succ]
    refine wpAnyH_done (by kernel_rfl) ?_ _
    refine NoPanic.normal ?_
    clear hHeld
    by_cases hpq : p < q
    · go_wp2_with fail
      go_ret
      exact ⟨by rw [← hv.out, if_pos hpq]; rfl, B0⟩
    · go_wp2_with fail
      go_ret
      exact ⟨by rw [← hv.out, if_neg (by omega)]; rfl, B0⟩

set_option maxHeartbeats 4000000 in
set_option maxRecDepth 20000 in
theorem radd4_any (s t : Bool) (a b : Option Addr) (la ca lb cb : Nat) (xs ys : List Int) (w : World) (hx : Ir w s a la ca xs) (hy : Ir w t b lb cb ys) (hl1 : la ≤ 1000000) (hl2 : lb ≤ 1000000) :
    Calls Try.prog 25 #[.agg #[.bool s, .slice a la ca], .agg #[.bool t, .slice b lb cb]] w fun e w' => ∃ s' a' l' c' zs, e = .returned (.agg #[.bool s', .slice a' l' c']) ∧ Ir w' s' a' l' c' zs ∧ iv s' zs = iv s xs + iv t ys ∧ l' ≤ 2 * la + 2 * lb + 1 ∧ Below w.heap.size w w' := by
  have B0 : Below w.heap.size w w := Below.refl _ _
  by_cases hst : s = t
  ·
    subst hst
    have hst' : (s == s) = true := by simp
    go_enter Try.func25, Try.ntmps25
    go_wp2_with fail
    refine ent3 w _ _ _ _ _ _ (Q := fun W => Code.wp Try.prog _ _ _ W) ?_
    intro x1 hb hs_x1 V0 V1 V2
    replace hx := Ir.after hb hx
    replace hy := Ir.after hb hy
    replace B0 := step B0 hb
    clear hb hs_x1
    refine wp_region_noPanic ?_
    replace V0 : Va x1.drew _ _ _ := V0
    replace V1 : Va x1.drew _ _ _ := V1
    replace V2 : Va x1.drew _ _ _ := V2
    replace hx := hx.drw
    replace hy := hy.drw
    replace B0 := Below.drew B0
    refine wp_region_held_drew (S := (fun W => W.cell? ⟨w.heap.size, 0, none⟩ = some (.bool s) ∧ W.cell? ⟨w.heap.size, 1, none⟩ = some (.slice a la ca) ∧ W.cell? ⟨w.heap.size + 1, 0, none⟩ = some (.bool s) ∧ W.cell? ⟨w.heap.size + 1, 1, none⟩ = some (.slice b lb cb))) (by kernel_rfl) ⟨V0.c0, V0.c1, V1.c0, V1.c1⟩ (fun hHeld => ?_)
    obtain ⟨x2, hxd⟩ : ∃ xd, xd = x1.drew := ⟨_, rfl⟩
    rw [← hxd] at V0 V1 V2 hx hy B0 hHeld ⊢
    clear hxd
    refine wpAnyH_take (i := 0) (v := ?_) rfl (by kernel_rfl) (by kernel_rfl) (by kernel_rfl) (fun _ _ _ h => h) (Or.inl ⟨by rfl, ?_⟩) hHeld ?_
    rotate_left
    · (intro W hSw; (try dsimp only at hSw); go_simp; all_goals (with_reducible rfl))
    simp only [List.getElem_toArray, List.getElem_cons_zero, Act.put, List.setIfInBounds_toArray, List.set_cons_zero, List.set_cons_succ]
    refine wpAnyH_take (i := 1) (v := ?_) rfl (by kernel_rfl) (by kernel_rfl) (by kernel_rfl) (fun _ _ _ h => h) (Or.inl ⟨by rfl, ?_⟩) hHeld ?_
    rotate_left
    · (intro W hSw; (try dsimp only at hSw); go_simp; all_goals (with_reducible rfl))
    simp only [List.getElem_toArray, List.getElem_cons_zero, List.getElem_cons_succ, Act.put, List.setIfInBounds_toArray, List.set_cons_zero, List.set_cons_succ]
    refine wpAnyH_take (i := 2) (v := ?_) rfl (by kernel_rfl) (by kernel_rfl) (by kernel_rfl) (fun _ _ _ h => h) (Or.inl ⟨by rfl, ?_⟩) hHeld ?_
    rotate_left
    · (intro W hSw; (try dsimp only at hSw); go_simp; all_goals (with_reducible rfl))
    simp only [List.getElem_toArray, List.getElem_cons_zero, List.getElem_cons_succ, Act.put, List.setIfInBounds_toArray, List.set_cons_zero, List.set_cons_succ]
    refine wpAnyH_take (i := 3) (v := ?_) rfl (by kernel_rfl) (by kernel_rfl) (by kernel_rfl) (fun _ _ _ h => h) (Or.inl ⟨by rfl, ?_⟩) hHeld ?_
    rotate_left
    · (intro W hSw; (try dsimp only at hSw); go_simp; all_goals (with_reducible rfl))
    simp only [List.getElem_toArray, List.getElem_cons_zero, List.getElem_cons_succ, Act.put, List.setIfInBounds_toArray, List.set_cons_zero, List.set_cons_succ]
    refine wpAnyH_take (i := 4) (v := ?_) rfl (by kernel_rfl) (by kernel_rfl) (by kernel_rfl) (fun _ _ _ h => h) (Or.inl ⟨by rfl, ?_⟩) hHeld ?_
    rotate_left
    · (intro W hSw; (try dsimp only at hSw); go_simp; all_goals (with_reducible rfl))
    simp only [List.getElem_toArray, List.getElem_cons_zero, List.getElem_cons_succ, Act.put, List.setIfInBounds_toArray, List.set_cons_zero, List.set_cons_succ]
    refine wpAnyH_take (i := 5) (v := ?_) rfl (by kernel_rfl) (by kernel_rfl) (by kernel_rfl) (fun _ _ _ h => h) (Or.inl ⟨by rfl, ?_⟩) hHeld ?_
    rotate_left
    · (intro W hSw; (try dsimp only at hSw); go_simp; all_goals (with_reducible rfl))
    simp only [List.getElem_toArray, List.getElem_cons_zero, List.getElem_cons_succ, Act.put, List.setIfInBounds_toArray, List.set_cons_zero, List.set_cons_succ]
    refine wpAnyH_ready (rs := [6]) (by kernel_rfl) (by simp) ?_
    refine AllReadyH.cons rfl (fun K hK => ?_) AllReadyH.nil
    simp only [List.getElem_toArray, List.getElem_cons_zero, List.getElem_cons_succ]
    go_simp
    refine (radd_any a b la ca lb cb xs ys _ hx.1 hy.1 (by omega) (by omega)).mono ?_
    rintro e x3 ⟨a1, m1, c1, z1, rfl, hmc, hmb, hs1, hu1, hn1, hb⟩
    replace V0 := Va.after hb V0
    replace V1 := Va.after hb V1
    replace V2 := Va.after hb V2
    replace hx := Ir.after hb hx
    replace hy := Ir.after hb hy
    replace B0 := step B0 hb
    clear hb
    try go_wp2_with fail
    refine hK.out _ _ ⟨V0.c0, V0.c1, V1.c0, V1.c1⟩ (fun hHeld => ?_)
    clear hK K
    refine wpAnyH_ready (rs := [7]) (by kernel_rfl) (by simp) ?_
    refine AllReadyH.cons rfl (fun K hK => ?_) AllReadyH.nil
    simp only [List.getElem_toArray, List.getElem_cons_zero, List.getElem_cons_succ]
    go_simp
    refine (rnew_any s a1 m1 c1 z1 _ hs1 hmc (by omega)).mono ?_
    rintro e x4 ⟨s', a', l', c', zs, rfl, h', n', e', hl', hb⟩
    replace V0 := Va.after hb V0
    replace V1 := Va.after hb V1
    replace V2 := Va.after hb V2
    replace hs1 := hs1.below hb (Nat.le_refl _)
    replace hx := Ir.after hb hx
    replace hy := Ir.after hb hy
    replace B0 := step B0 hb
    clear hb
    try go_wp2_with fail
    refine hK.out _ _ ⟨V0.c0, V0.c1, V1.c0, V1.c1⟩ (fun hHeld => ?_)
    clear hK K
    clear hs1
    have c_V2 := V2.c0
    have d_V2 := V2.c1
    have f_V2 := V2.frozen 0
    have g_V2 := V2.frozen 1
    have l_V2 := V2.lt
    have m_V2 := Nat.le_of_lt l_V2
    refine wpAnyH_ready (rs := [8]) (by kernel_rfl) (by simp) ?_
    refine AllReadyH.cons rfl (fun K hK => ?_) AllReadyH.nil
    simp only [List.getElem_toArray, List.getElem_cons_zero, List.getElem_cons_succ]
    go_simp
    clear c_V2 d_V2 f_V2 g_V2 l_V2 m_V2
    refine st2 V2 (.bool s') (.slice a' l' c') (Q := fun W => K _ W) ?_
    intro x5 V' oth far
    replace V0 := oth _ _ _ (by first | omega | assumption) V0
    replace V1 := oth _ _ _ (by first | omega | assumption) V1
    replace hx := hx.far V2 (noInt2 _ _ _ _) far.1
    replace hy := hy.far V2 (noInt2 _ _ _ _) far.1
    replace h' := h'.far V2 (noInt2 _ _ _ _) far.1
    replace B0 := far.2 _ _ (by first | omega | (simp; omega)) B0
    replace V2 := V'
    clear oth far
    refine hK.out _ _ ⟨V0.c0, V0.c1, V1.c0, V1.c1⟩ (fun hHeld => ?_)
    clear hK K
    refine wpAnyH_done (by kernel_rfl) ?_ _
    refine NoPanic.normal ?_
    clear hHeld
    go_wp2_with fail
    refine bodyPost_ret (results_i rfl rfl V2) rfl ?_
    exact ⟨s', a', l', c', zs, rfl, h', by rw [e']; exact iv_same hn1, by omega, B0⟩
  ·
    have htn : t = !s := by cases s <;> cases t <;> simp_all
    subst htn
    clear hst
    have hst' : (s == !s) = false := by cases s <;> rfl
    by_cases hle : num ys ≤ num xs
    ·
      have hc : 0 ≤ cmp3 (num xs) (num ys) := by unfold cmp3; grind
      obtain ⟨q, hq⟩ : ∃ q, cmp3 (num xs) (num ys) = q := ⟨_, rfl⟩
      rw [hq] at hc
      go_enter Try.func25, Try.ntmps25
      go_wp2_with fail
      refine ent3 w _ _ _ _ _ _ (Q := fun W => Calls Try.prog _ _ W _) ?_
      intro x1 hb hs_x1 V0 V1 V2
      replace hx := Ir.after hb hx
      replace hy := Ir.after hb hy
      replace B0 := step B0 hb
      clear hb hs_x1
      refine (rcompare_any a b la ca lb cb xs ys x1 hx.1 hy.1 hx.2.2.2.1 hy.2.2.2.1 (by omega) (by omega) hx.2.2.1 hy.2.2.1).mono ?_
      rintro e x2 ⟨rfl, hb⟩
      replace V0 := Va.after hb V0
      replace V1 := Va.after hb V1
      replace V2 := Va.after hb V2
      replace hx := Ir.after hb hx
      replace hy := Ir.after hb hy
      replace B0 := step B0 hb
      clear hb
      rw [hq]
      have c_V0 := V0.c0
      have d_V0 := V0.c1
      have f_V0 := V0.frozen 0
      have g_V0 := V0.frozen 1
      have l_V0 := V0.lt
      have m_V0 := Nat.le_of_lt l_V0
      have c_V1 := V1.c0
      have d_V1 := V1.c1
      have f_V1 := V1.frozen 0
      have g_V1 := V1.frozen 1
      have l_V1 := V1.lt
      have m_V1 := Nat.le_of_lt l_V1
      have c_V2 := V2.c0
      have d_V2 := V2.c1
      have f_V2 := V2.frozen 0
      have g_V2 := V2.frozen 1
      have l_V2 := V2.lt
      have m_V2 := Nat.le_of_lt l_V2
      go_wp2_with fail
      clear c_V0 d_V0 f_V0 g_V0 l_V0 m_V0 c_V1 d_V1 f_V1 g_V1 l_V1 m_V1 c_V2 d_V2 f_V2 g_V2 l_V2 m_V2
      refine wp_region_noPanic ?_
      replace V0 : Va x2.drew _ _ _ := V0
      replace V1 : Va x2.drew _ _ _ := V1
      replace V2 : Va x2.drew _ _ _ := V2
      replace hx := hx.drw
      replace hy := hy.drw
      replace B0 := Below.drew B0
      refine wp_region_held_drew (S := (fun W => W.cell? ⟨w.heap.size, 0, none⟩ = some (.bool s) ∧ W.cell? ⟨w.heap.size, 1, none⟩ = some (.slice a la ca) ∧ W.cell? ⟨w.heap.size + 1, 0, none⟩ = some (.bool (!s)) ∧ W.cell? ⟨w.heap.size + 1, 1, none⟩ = some (.slice b lb cb))) (by kernel_rfl) ⟨V0.c0, V0.c1, V1.c0, V1.c1⟩ (fun hHeld => ?_)
      obtain ⟨x3, hxd⟩ : ∃ xd, xd = x2.drew := ⟨_, rfl⟩
      rw [← hxd] at V0 V1 V2 hx hy B0 hHeld ⊢
      clear hxd
      refine wpAnyH_take (i := 0) (v := ?_) rfl (by kernel_rfl) (by kernel_rfl) (by kernel_rfl) (fun _ _ _ h => h) (Or.inl ⟨by rfl, ?_⟩) hHeld ?_
      rotate_left
      · (intro W hSw; (try dsimp only at hSw); go_simp; all_goals (with_reducible rfl))
      simp only [List.getElem_toArray, List.getElem_cons_zero, Act.put, List.setIfInBounds_toArray, List.set_cons_zero, List.set_cons_succ]
      refine wpAnyH_take (i := 1) (v := ?_) rfl (by kernel_rfl) (by kernel_rfl) (by kernel_rfl) (fun _ _ _ h => h) (Or.inl ⟨by rfl, ?_⟩) hHeld ?_
      rotate_left
      · (intro W hSw; (try dsimp only at hSw); go_simp; all_goals (with_reducible rfl))
      simp only [List.getElem_toArray, List.getElem_cons_zero, List.getElem_cons_succ, Act.put, List.setIfInBounds_toArray, List.set_cons_zero, List.set_cons_succ]
      refine wpAnyH_take (i := 2) (v := ?_) rfl (by kernel_rfl) (by kernel_rfl) (by kernel_rfl) (fun _ _ _ h => h) (Or.inl ⟨by rfl, ?_⟩) hHeld ?_
      rotate_left
      · (intro W hSw; (try dsimp only at hSw); go_simp; all_goals (with_reducible rfl))
      simp only [List.getElem_toArray, List.getElem_cons_zero, List.getElem_cons_succ, Act.put, List.setIfInBounds_toArray, List.set_cons_zero, List.set_cons_succ]
      refine wpAnyH_take (i := 3) (v := ?_) rfl (by kernel_rfl) (by kernel_rfl) (by kernel_rfl) (fun _ _ _ h => h) (Or.inl ⟨by rfl, ?_⟩) hHeld ?_
      rotate_left
      · (intro W hSw; (try dsimp only at hSw); go_simp; all_goals (with_reducible rfl))
      simp only [List.getElem_toArray, List.getElem_cons_zero, List.getElem_cons_succ, Act.put, List.setIfInBounds_toArray, List.set_cons_zero, List.set_cons_succ]
      refine wpAnyH_take (i := 4) (v := ?_) rfl (by kernel_rfl) (by kernel_rfl) (by kernel_rfl) (fun _ _ _ h => h) (Or.inl ⟨by rfl, ?_⟩) hHeld ?_
      rotate_left
      · (intro W hSw; (try dsimp only at hSw); go_simp; all_goals (with_reducible rfl))
      simp only [List.getElem_toArray, List.getElem_cons_zero, List.getElem_cons_succ, Act.put, List.setIfInBounds_toArray, List.set_cons_zero, List.set_cons_succ]
      refine wpAnyH_take (i := 5) (v := ?_) rfl (by kernel_rfl) (by kernel_rfl) (by kernel_rfl) (fun _ _ _ h => h) (Or.inl ⟨by rfl, ?_⟩) hHeld ?_
      rotate_left
      · (intro W hSw; (try dsimp only at hSw); go_simp; all_goals (with_reducible rfl))
      simp only [List.getElem_toArray, List.getElem_cons_zero, List.getElem_cons_succ, Act.put, List.setIfInBounds_toArray, List.set_cons_zero, List.set_cons_succ]
      refine wpAnyH_ready (rs := [6]) (by kernel_rfl) (by simp) ?_
      refine AllReadyH.cons rfl (fun K hK => ?_) AllReadyH.nil
      simp only [List.getElem_toArray, List.getElem_cons_zero, List.getElem_cons_succ]
      go_simp
      refine (rsub_any a b la ca lb cb xs ys _ hx.1 hy.1 (by omega) (by omega) hle).mono ?_
      rintro e x4 ⟨a1, m1, c1, z1, rfl, hmc, hmb, hs1, hu1, hn1, hb⟩
      replace V0 := Va.after hb V0
      replace V1 := Va.after hb V1
      replace V2 := Va.after hb V2
      replace hx := Ir.after hb hx
      replace hy := Ir.after hb hy
      replace B0 := step B0 hb
      clear hb
      try go_wp2_with fail
      refine hK.out _ _ ⟨V0.c0, V0.c1, V1.c0, V1.c1⟩ (fun hHeld => ?_)
      clear hK K
      refine wpAnyH_ready (rs := [7]) (by kernel_rfl) (by simp) ?_
      refine AllReadyH.cons rfl (fun K hK => ?_) AllReadyH.nil
      simp only [List.getElem_toArray, List.getElem_cons_zero, List.getElem_cons_succ]
      go_simp
      refine (rnew_any s a1 m1 c1 z1 _ hs1 hmc (by omega)).mono ?_
      rintro e x5 ⟨s', a', l', c', zs, rfl, h', n', e', hl', hb⟩
      replace V0 := Va.after hb V0
      replace V1 := Va.after hb V1
      replace V2 := Va.after hb V2
      replace hs1 := hs1.below hb (Nat.le_refl _)
      replace hx := Ir.after hb hx
      replace hy := Ir.after hb hy
      replace B0 := step B0 hb
      clear hb
      try go_wp2_with fail
      refine hK.out _ _ ⟨V0.c0, V0.c1, V1.c0, V1.c1⟩ (fun hHeld => ?_)
      clear hK K
      clear hs1
      have c_V2 := V2.c0
      have d_V2 := V2.c1
      have f_V2 := V2.frozen 0
      have g_V2 := V2.frozen 1
      have l_V2 := V2.lt
      have m_V2 := Nat.le_of_lt l_V2
      refine wpAnyH_ready (rs := [8]) (by kernel_rfl) (by simp) ?_
      refine AllReadyH.cons rfl (fun K hK => ?_) AllReadyH.nil
      simp only [List.getElem_toArray, List.getElem_cons_zero, List.getElem_cons_succ]
      go_simp
      clear c_V2 d_V2 f_V2 g_V2 l_V2 m_V2
      refine st2 V2 (.bool s') (.slice a' l' c') (Q := fun W => K _ W) ?_
      intro x6 V' oth far
      replace V0 := oth _ _ _ (by first | omega | assumption) V0
      replace V1 := oth _ _ _ (by first | omega | assumption) V1
      replace hx := hx.far V2 (noInt2 _ _ _ _) far.1
      replace hy := hy.far V2 (noInt2 _ _ _ _) far.1
      replace h' := h'.far V2 (noInt2 _ _ _ _) far.1
      replace B0 := far.2 _ _ (by first | omega | (simp; omega)) B0
      replace V2 := V'
      clear oth far
      refine hK.out _ _ ⟨V0.c0, V0.c1, V1.c0, V1.c1⟩ (fun hHeld => ?_)
      clear hK K
      refine wpAnyH_done (by kernel_rfl) ?_ _
      refine NoPanic.normal ?_
      clear hHeld
      go_wp2_with fail
      refine bodyPost_ret (results_i rfl rfl V2) rfl ?_
      exact ⟨s', a', l', c', zs, rfl, h', by rw [e']; exact iv_not hn1, by omega, B0⟩
    ·
      have hq : cmp3 (num xs) (num ys) = -1 := cmp3_lt (by omega)
      go_enter Try.func25, Try.ntmps25
      go_wp2_with fail
      refine ent3 w _ _ _ _ _ _ (Q := fun W => Calls Try.prog _ _ W _) ?_
      intro x1 hb hs_x1 V0 V1 V2
      replace hx := Ir.after hb hx
      replace hy := Ir.after hb hy
      replace B0 := step B0 hb
      clear hb hs_x1
      refine (rcompare_any a b la ca lb cb xs ys x1 hx.1 hy.1 hx.2.2.2.1 hy.2.2.2.1 (by omega) (by omega) hx.2.2.1 hy.2.2.1).mono ?_
      rintro e x2 ⟨rfl, hb⟩
      replace V0 := Va.after hb V0
      replace V1 := Va.after hb V1
      replace V2 := Va.after hb V2
      replace hx := Ir.after hb hx
      replace hy := Ir.after hb hy
      replace B0 := step B0 hb
      clear hb
      rw [hq]
      have c_V0 := V0.c0
      have d_V0 := V0.c1
      have f_V0 := V0.frozen 0
      have g_V0 := V0.frozen 1
      have l_V0 := V0.lt
      have m_V0 := Nat.le_of_lt l_V0
      have c_V1 := V1.c0
      have d_V1 := V1.c1
      have f_V1 := V1.frozen 0
      have g_V1 := V1.frozen 1
      have l_V1 := V1.lt
      have m_V1 := Nat.le_of_lt l_V1
      have c_V2 := V2.c0
      have d_V2 := V2.c1
      have f_V2 := V2.frozen 0
      have g_V2 := V2.frozen 1
      have l_V2 := V2.lt
      have m_V2 := Nat.le_of_lt l_V2
      go_wp2_with fail
      clear c_V0 d_V0 f_V0 g_V0 l_V0 m_V0 c_V1 d_V1 f_V1 g_V1 l_V1 m_V1 c_V2 d_V2 f_V2 g_V2 l_V2 m_V2
      refine wp_region_noPanic ?_
      replace V0 : Va x2.drew _ _ _ := V0
      replace V1 : Va x2.drew _ _ _ := V1
      replace V2 : Va x2.drew _ _ _ := V2
      replace hx := hx.drw
      replace hy := hy.drw
      replace B0 := Below.drew B0
      refine wp_region_held_drew (S := (fun W => W.cell? ⟨w.heap.size, 0, none⟩ = some (.bool s) ∧ W.cell? ⟨w.heap.size, 1, none⟩ = some (.slice a la ca) ∧ W.cell? ⟨w.heap.size + 1, 0, none⟩ = some (.bool (!s)) ∧ W.cell? ⟨w.heap.size + 1, 1, none⟩ = some (.slice b lb cb))) (by kernel_rfl) ⟨V0.c0, V0.c1, V1.c0, V1.c1⟩ (fun hHeld => ?_)
      obtain ⟨x3, hxd⟩ : ∃ xd, xd = x2.drew := ⟨_, rfl⟩
      rw [← hxd] at V0 V1 V2 hx hy B0 hHeld ⊢
      clear hxd
      refine wpAnyH_take (i := 0) (v := ?_) rfl (by kernel_rfl) (by kernel_rfl) (by kernel_rfl) (fun _ _ _ h => h) (Or.inl ⟨by rfl, ?_⟩) hHeld ?_
      rotate_left
      · (intro W hSw; (try dsimp only at hSw); go_simp; all_goals (with_reducible rfl))
      simp only [List.getElem_toArray, List.getElem_cons_zero, Act.put, List.setIfInBounds_toArray, List.set_cons_zero, List.set_cons_succ]
      refine wpAnyH_take (i := 1) (v := ?_) rfl (by kernel_rfl) (by kernel_rfl) (by kernel_rfl) (fun _ _ _ h => h) (Or.inl ⟨by rfl, ?_⟩) hHeld ?_
      rotate_left
      · (intro W hSw; (try dsimp only at hSw); go_simp; all_goals (with_reducible rfl))
      simp only [List.getElem_toArray, List.getElem_cons_zero, List.getElem_cons_succ, Act.put, List.setIfInBounds_toArray, List.set_cons_zero, List.set_cons_succ]
      refine wpAnyH_take (i := 2) (v := ?_) rfl (by kernel_rfl) (by kernel_rfl) (by kernel_rfl) (fun _ _ _ h => h) (Or.inl ⟨by rfl, ?_⟩) hHeld ?_
      rotate_left
      · (intro W hSw; (try dsimp only at hSw); go_simp; all_goals (with_reducible rfl))
      simp only [List.getElem_toArray, List.getElem_cons_zero, List.getElem_cons_succ, Act.put, List.setIfInBounds_toArray, List.set_cons_zero, List.set_cons_succ]
      refine wpAnyH_take (i := 3) (v := ?_) rfl (by kernel_rfl) (by kernel_rfl) (by kernel_rfl) (fun _ _ _ h => h) (Or.inl ⟨by rfl, ?_⟩) hHeld ?_
      rotate_left
      · (intro W hSw; (try dsimp only at hSw); go_simp; all_goals (with_reducible rfl))
      simp only [List.getElem_toArray, List.getElem_cons_zero, List.getElem_cons_succ, Act.put, List.setIfInBounds_toArray, List.set_cons_zero, List.set_cons_succ]
      refine wpAnyH_take (i := 4) (v := ?_) rfl (by kernel_rfl) (by kernel_rfl) (by kernel_rfl) (fun _ _ _ h => h) (Or.inl ⟨by rfl, ?_⟩) hHeld ?_
      rotate_left
      · (intro W hSw; (try dsimp only at hSw); go_simp; all_goals (with_reducible rfl))
      simp only [List.getElem_toArray, List.getElem_cons_zero, List.getElem_cons_succ, Act.put, List.setIfInBounds_toArray, List.set_cons_zero, List.set_cons_succ]
      refine wpAnyH_take (i := 5) (v := ?_) rfl (by kernel_rfl) (by kernel_rfl) (by kernel_rfl) (fun _ _ _ h => h) (Or.inl ⟨by rfl, ?_⟩) hHeld ?_
      rotate_left
      · (intro W hSw; (try dsimp only at hSw); go_simp; all_goals (with_reducible rfl))
      simp only [List.getElem_toArray, List.getElem_cons_zero, List.getElem_cons_succ, Act.put, List.setIfInBounds_toArray, List.set_cons_zero, List.set_cons_succ]
      refine wpAnyH_ready (rs := [6]) (by kernel_rfl) (by simp) ?_
      refine AllReadyH.cons rfl (fun K hK => ?_) AllReadyH.nil
      simp only [List.getElem_toArray, List.getElem_cons_zero, List.getElem_cons_succ]
      go_simp
      refine (rsub_any b a lb cb la ca ys xs _ hy.1 hx.1 (by omega) (by omega) (by omega)).mono ?_
      rintro e x4 ⟨a1, m1, c1, z1, rfl, hmc, hmb, hs1, hu1, hn1, hb⟩
      replace V0 := Va.after hb V0
      replace V1 := Va.after hb V1
      replace V2 := Va.after hb V2
      replace hx := Ir.after hb hx
      replace hy := Ir.after hb hy
      replace B0 := step B0 hb
      clear hb
      try go_wp2_with fail
      refine hK.out _ _ ⟨V0.c0, V0.c1, V1.c0, V1.c1⟩ (fun hHeld => ?_)
      clear hK K
      refine wpAnyH_ready (rs := [7]) (by kernel_rfl) (by simp) ?_
      refine AllReadyH.cons rfl (fun K hK => ?_) AllReadyH.nil
      simp only [List.getElem_toArray, List.getElem_cons_zero, List.getElem_cons_succ]
      go_simp
      refine (rnew_any (!s) a1 m1 c1 z1 _ hs1 hmc (by omega)).mono ?_
      rintro e x5 ⟨s', a', l', c', zs, rfl, h', n', e', hl', hb⟩
      replace V0 := Va.after hb V0
      replace V1 := Va.after hb V1
      replace V2 := Va.after hb V2
      replace hs1 := hs1.below hb (Nat.le_refl _)
      replace hx := Ir.after hb hx
      replace hy := Ir.after hb hy
      replace B0 := step B0 hb
      clear hb
      try go_wp2_with fail
      refine hK.out _ _ ⟨V0.c0, V0.c1, V1.c0, V1.c1⟩ (fun hHeld => ?_)
      clear hK K
      clear hs1
      have c_V2 := V2.c0
      have d_V2 := V2.c1
      have f_V2 := V2.frozen 0
      have g_V2 := V2.frozen 1
      have l_V2 := V2.lt
      have m_V2 := Nat.le_of_lt l_V2
      refine wpAnyH_ready (rs := [8]) (by kernel_rfl) (by simp) ?_
      refine AllReadyH.cons rfl (fun K hK => ?_) AllReadyH.nil
      simp only [List.getElem_toArray, List.getElem_cons_zero, List.getElem_cons_succ]
      go_simp
      clear c_V2 d_V2 f_V2 g_V2 l_V2 m_V2
      refine st2 V2 (.bool s') (.slice a' l' c') (Q := fun W => K _ W) ?_
      intro x6 V' oth far
      replace V0 := oth _ _ _ (by first | omega | assumption) V0
      replace V1 := oth _ _ _ (by first | omega | assumption) V1
      replace hx := hx.far V2 (noInt2 _ _ _ _) far.1
      replace hy := hy.far V2 (noInt2 _ _ _ _) far.1
      replace h' := h'.far V2 (noInt2 _ _ _ _) far.1
      replace B0 := far.2 _ _ (by first | omega | (simp; omega)) B0
      replace V2 := V'
      clear oth far
      refine hK.out _ _ ⟨V0.c0, V0.c1, V1.c0, V1.c1⟩ (fun hHeld => ?_)
      clear hK K
      refine wpAnyH_done (by kernel_rfl) ?_ _
      refine NoPanic.normal ?_
      clear hHeld
      go_wp2_with fail
      refine bodyPost_ret (results_i rfl rfl V2) rfl ?_
      exact ⟨s', a', l', c', zs, rfl, h', by rw [e', iv_not hn1, Bool.not_not, Int.add_comm], by omega, B0⟩

set_option maxHeartbeats 4000000 in
theorem rmul4_any (s t : Bool) (a b : Option Addr) (la ca lb cb : Nat) (xs ys : List Int) (w : World) (hx : Ir w s a la ca xs) (hy : Ir w t b lb cb ys) (hl1 : la ≤ 1000000) (hl2 : lb ≤ 1000000) :
    Calls Try.prog 27 #[.agg #[.bool s, .slice a la ca], .agg #[.bool t, .slice b lb cb]] w fun e w' => ∃ s' a' l' c' zs, e = .returned (.agg #[.bool s', .slice a' l' c']) ∧ Ir w' s' a' l' c' zs ∧ iv s' zs = iv s xs * iv t ys ∧ l' ≤ 2 * la + 2 * lb + 1 ∧ Below w.heap.size w w' := by
  have B0 : Below w.heap.size w w := Below.refl _ _
  go_enter Try.func27, Try.ntmps27
  go_wp2_with fail
  refine ent3 w _ _ _ _ _ _ (Q := fun W => Code.wp Try.prog _ _ _ W) ?_
  intro x1 hb hs_x1 V0 V1 V2
  replace hx := Ir.after hb hx
  replace hy := Ir.after hb hy
  replace B0 := step B0 hb
  clear hb hs_x1
  refine wp_region_noPanic ?_
  replace V0 : Va x1.drew _ _ _ := V0
  replace V1 : Va x1.drew _ _ _ := V1
  replace V2 : Va x1.drew _ _ _ := V2
  replace hx := hx.drw
  replace hy := hy.drw
  replace B0 := Below.drew B0
  refine wp_region_held_drew (S := (fun W => W.cell? ⟨w.heap.size, 0, none⟩ = some (.bool s) ∧ W.cell? ⟨w.heap.size, 1, none⟩ = some (.slice a la ca) ∧ W.cell? ⟨w.heap.size + 1, 0, none⟩ = some (.bool t) ∧ W.cell? ⟨w.heap.size + 1, 1, none⟩ = some (.slice b lb cb))) (by kernel_rfl) ⟨V0.c0, V0.c1, V1.c0, V1.c1⟩ (fun hHeld => ?_)
  obtain ⟨x2, hxd⟩ : ∃ xd, xd = x1.drew := ⟨_, rfl⟩
  rw [← hxd] at V0 V1 V2 hx hy B0 hHeld ⊢
  clear hxd
  refine wpAnyH_take (i := 0) (v := ?_) rfl (by kernel_rfl) (by kernel_rfl) (by kernel_rfl) (fun _ _ _ h => h) (Or.inl ⟨by rfl, ?_⟩) hHeld ?_
  rotate_left
  · (intro W hSw; (try dsimp only at hSw); go_simp; all_goals (with_reducible rfl))
  simp only [List.getElem_toArray, List.getElem_cons_zero, Act.put, List.setIfInBounds_toArray, List.set_cons_zero, List.set_cons_succ]
  refine wpAnyH_take (i := 1) (v := ?_) rfl (by kernel_rfl) (by kernel_rfl) (by kernel_rfl) (fun _ _ _ h => h) (Or.inl ⟨by rfl, ?_⟩) hHeld ?_
  rotate_left
  · (intro W hSw; (try dsimp only at hSw); go_simp; all_goals (with_reducible rfl))
  simp only [List.getElem_toArray, List.getElem_cons_zero, List.getElem_cons_succ, Act.put, List.setIfInBounds_toArray, List.set_cons_zero, List.set_cons_succ]
  refine wpAnyH_take (i := 2) (v := ?_) rfl (by kernel_rfl) (by kernel_rfl) (by kernel_rfl) (fun _ _ _ h => h) (Or.inl ⟨by rfl, ?_⟩) hHeld ?_
  rotate_left
  · (intro W hSw; (try dsimp only at hSw); go_simp; all_goals (with_reducible rfl))
  simp only [List.getElem_toArray, List.getElem_cons_zero, List.getElem_cons_succ, Act.put, List.setIfInBounds_toArray, List.set_cons_zero, List.set_cons_succ]
  refine wpAnyH_take (i := 3) (v := ?_) rfl (by kernel_rfl) (by kernel_rfl) (by kernel_rfl) (fun _ _ _ h => h) (Or.inl ⟨by rfl, ?_⟩) hHeld ?_
  rotate_left
  · (intro W hSw; (try dsimp only at hSw); go_simp; all_goals (with_reducible rfl))
  simp only [List.getElem_toArray, List.getElem_cons_zero, List.getElem_cons_succ, Act.put, List.setIfInBounds_toArray, List.set_cons_zero, List.set_cons_succ]
  refine wpAnyH_take (i := 4) (v := ?_) rfl (by kernel_rfl) (by kernel_rfl) (by kernel_rfl) (fun _ _ _ h => h) (Or.inl ⟨by rfl, ?_⟩) hHeld ?_
  rotate_left
  · (intro W hSw; (try dsimp only at hSw); go_simp; all_goals (with_reducible rfl))
  simp only [List.getElem_toArray, List.getElem_cons_zero, List.getElem_cons_succ, Act.put, List.setIfInBounds_toArray, List.set_cons_zero, List.set_cons_succ]
  refine wpAnyH_take (i := 5) (v := ?_) rfl (by kernel_rfl) (by kernel_rfl) (by kernel_rfl) (fun _ _ _ h => h) (Or.inl ⟨by rfl, ?_⟩) hHeld ?_
  rotate_left
  · (intro W hSw; (try dsimp only at hSw); go_simp; all_goals (with_reducible rfl))
  simp only [List.getElem_toArray, List.getElem_cons_zero, List.getElem_cons_succ, Act.put, List.setIfInBounds_toArray, List.set_cons_zero, List.set_cons_succ]
  refine wpAnyH_take (i := 6) (v := ?_) rfl (by kernel_rfl) (by kernel_rfl) (by kernel_rfl) (fun _ _ _ h => h) (Or.inl ⟨by rfl, ?_⟩) hHeld ?_
  rotate_left
  · (intro W hSw; (try dsimp only at hSw); go_simp; all_goals (with_reducible rfl))
  simp only [List.getElem_toArray, List.getElem_cons_zero, List.getElem_cons_succ, Act.put, List.setIfInBounds_toArray, List.set_cons_zero, List.set_cons_succ]
  refine wpAnyH_take (i := 7) (v := ?_) rfl (by kernel_rfl) (by kernel_rfl) (by kernel_rfl) (fun _ _ _ h => h) (Or.inl ⟨by rfl, ?_⟩) hHeld ?_
  rotate_left
  · (intro W hSw; (try dsimp only at hSw); go_simp; all_goals (with_reducible rfl))
  simp only [List.getElem_toArray, List.getElem_cons_zero, List.getElem_cons_succ, Act.put, List.setIfInBounds_toArray, List.set_cons_zero, List.set_cons_succ]
  refine wpAnyH_take (i := 8) (v := ?_) rfl (by kernel_rfl) (by kernel_rfl) (by kernel_rfl) (fun _ _ _ h => h) (Or.inl ⟨by rfl, ?_⟩) hHeld ?_
  rotate_left
  · (intro W hSw; (try dsimp only at hSw); go_simp; all_goals (with_reducible rfl))
  simp only [List.getElem_toArray, List.getElem_cons_zero, List.getElem_cons_succ, Act.put, List.setIfInBounds_toArray, List.set_cons_zero, List.set_cons_succ]
  refine wpAnyH_ready (rs := [9]) (by kernel_rfl) (by simp) ?_
  refine AllReadyH.cons rfl (fun K hK => ?_) AllReadyH.nil
  simp only [List.getElem_toArray, List.getElem_cons_zero, List.getElem_cons_succ]
  go_simp
  refine (rmul_any a b la ca lb cb xs ys _ hx.1 hy.1 (by omega) (by omega)).mono ?_
  rintro e x3 ⟨a1, m1, c1, z1, rfl, hmc, hmb, hs1, hu1, hn1, hb⟩
  replace V0 := Va.after hb V0
  replace V1 := Va.after hb V1
  replace V2 := Va.after hb V2
  replace hx := Ir.after hb hx
  replace hy := Ir.after hb hy
  replace B0 := step B0 hb
  clear hb
  try go_wp2_with fail
  refine hK.out _ _ ⟨V0.c0, V0.c1, V1.c0, V1.c1⟩ (fun hHeld => ?_)
  clear hK K
  refine wpAnyH_ready (rs := [10]) (by kernel_rfl) (by simp) ?_
  refine AllReadyH.cons rfl (fun K hK => ?_) AllReadyH.nil
  simp only [List.getElem_toArray, List.getElem_cons_zero, List.getElem_cons_succ]
  go_simp
  refine (rnew_any _ a1 m1 c1 z1 _ hs1 hmc (by omega)).mono ?_
  rintro e x4 ⟨s', a', l', c', zs, rfl, h', n', e', hl', hb⟩
  replace V0 := Va.after hb V0
  replace V1 := Va.after hb V1
  replace V2 := Va.after hb V2
  replace hs1 := hs1.below hb (Nat.le_refl _)
  replace hx := Ir.after hb hx
  replace hy := Ir.after hb hy
  replace B0 := step B0 hb
  clear hb
  try go_wp2_with fail
  refine hK.out _ _ ⟨V0.c0, V0.c1, V1.c0, V1.c1⟩ (fun hHeld => ?_)
  clear hK K
  clear hs1
  have c_V2 := V2.c0
  have d_V2 := V2.c1
  have f_V2 := V2.frozen 0
  have g_V2 := V2.frozen 1
  have l_V2 := V2.lt
  have m_V2 := Nat.le_of_lt l_V2
  refine wpAnyH_ready (rs := [11]) (by kernel_rfl) (by simp) ?_
  refine AllReadyH.cons rfl (fun K hK => ?_) AllReadyH.nil
  simp only [List.getElem_toArray, List.getElem_cons_zero, List.getElem_cons_succ]
  go_simp
  clear c_V2 d_V2 f_V2 g_V2 l_V2 m_V2
  refine st2 V2 (.bool s') (.slice a' l' c') (Q := fun W => K _ W) ?_
  intro x5 V' oth far
  replace V0 := oth _ _ _ (by first | omega | assumption) V0
  replace V1 := oth _ _ _ (by first | omega | assumption) V1
  replace hx := hx.far V2 (noInt2 _ _ _ _) far.1
  replace hy := hy.far V2 (noInt2 _ _ _ _) far.1
  replace h' := h'.far V2 (noInt2 _ _ _ _) far.1
  replace B0 := far.2 _ _ (by first | omega | (simp; omega)) B0
  replace V2 := V'
  clear oth far
  refine hK.out _ _ ⟨V0.c0, V0.c1, V1.c0, V1.c1⟩ (fun hHeld => ?_)
  clear hK K
  refine wpAnyH_done (by kernel_rfl) ?_ _
  refine NoPanic.normal ?_
  clear hHeld
  go_wp2_with fail
  refine bodyPost_ret (results_i rfl rfl V2) rfl ?_
  exact ⟨s', a', l', c', zs, rfl, h', by rw [e']; exact iv_mul hn1, by omega, B0⟩

set_option maxHeartbeats 4000000 in
theorem rsub4_any (s t : Bool) (a b : Option Addr) (la ca lb cb : Nat) (xs ys : List Int) (w : World) (hx : Ir w s a la ca xs) (hy : Ir w t b lb cb ys) (hl1 : la ≤ 1000000) (hl2 : lb ≤ 1000000) :
    Calls Try.prog 26 #[.agg #[.bool s, .slice a la ca], .agg #[.bool t, .slice b lb cb]] w fun e w' => ∃ s' a' l' c' zs, e = .returned (.agg #[.bool s', .slice a' l' c']) ∧ Ir w' s' a' l' c' zs ∧ iv s' zs = iv s xs - iv t ys ∧ l' ≤ 2 * la + 2 * lb + 1 ∧ Below w.heap.size w w' := by
  have B0 : Below w.heap.size w w := Below.refl _ _
  go_enter Try.func26, Try.ntmps26
  go_wp2_with fail
  refine ent3 w _ _ _ _ _ _ (Q := fun W => Code.wp Try.prog _ _ _ W) ?_
  intro x1 hb hs_x1 V0 V1 V2
  replace hx := Ir.after hb hx
  replace hy := Ir.after hb hy
  replace B0 := step B0 hb
  clear hb hs_x1
  refine wp_region_noPanic ?_
  replace V0 : Va x1.drew _ _ _ := V0
  replace V1 : Va x1.drew _ _ _ := V1
  replace V2 : Va x1.drew _ _ _ := V2
  replace hx := hx.drw
  replace hy := hy.drw
  replace B0 := Below.drew B0
  refine wp_region_held_drew (S := (fun W => W.cell? ⟨w.heap.size, 0, none⟩ = some (.bool s) ∧ W.cell? ⟨w.heap.size, 1, none⟩ = some (.slice a la ca) ∧ W.cell? ⟨w.heap.size + 1, 0, none⟩ = some (.bool t) ∧ W.cell? ⟨w.heap.size + 1, 1, none⟩ = some (.slice b lb cb))) (by kernel_rfl) ⟨V0.c0, V0.c1, V1.c0, V1.c1⟩ (fun hHeld => ?_)
  obtain ⟨x2, hxd⟩ : ∃ xd, xd = x1.drew := ⟨_, rfl⟩
  rw [← hxd] at V0 V1 V2 hx hy B0 hHeld ⊢
  clear hxd
  refine wpAnyH_take (i := 0) (v := ?_) rfl (by kernel_rfl) (by kernel_rfl) (by kernel_rfl) (fun _ _ _ h => h) (Or.inl ⟨by rfl, ?_⟩) hHeld ?_
  rotate_left
  · (intro W hSw; (try dsimp only at hSw); go_simp; all_goals (with_reducible rfl))
  simp only [List.getElem_toArray, List.getElem_cons_zero, Act.put, List.setIfInBounds_toArray, List.set_cons_zero, List.set_cons_succ]
  refine wpAnyH_take (i := 1) (v := ?_) rfl (by kernel_rfl) (by kernel_rfl) (by kernel_rfl) (fun _ _ _ h => h) (Or.inl ⟨by rfl, ?_⟩) hHeld ?_
  rotate_left
  · (intro W hSw; (try dsimp only at hSw); go_simp; all_goals (with_reducible rfl))
  simp only [List.getElem_toArray, List.getElem_cons_zero, List.getElem_cons_succ, Act.put, List.setIfInBounds_toArray, List.set_cons_zero, List.set_cons_succ]
  refine wpAnyH_ready (rs := [2]) (by kernel_rfl) (by simp) ?_
  refine AllReadyH.cons rfl (fun K hK => ?_) AllReadyH.nil
  simp only [List.getElem_toArray, List.getElem_cons_zero, List.getElem_cons_succ]
  go_simp
  refine (rneg_any t b lb cb ys _ hy hl2).mono ?_
  rintro e x3 ⟨t1, b1, m1, k1, y1, rfl, hy1, ey, hm1, hb⟩
  replace V0 := Va.after hb V0
  replace V1 := Va.after hb V1
  replace V2 := Va.after hb V2
  replace hx := Ir.after hb hx
  replace hy := Ir.after hb hy
  replace B0 := step B0 hb
  clear hb
  try go_wp2_with fail
  refine hK.out _ _ ⟨V0.c0, V0.c1, V1.c0, V1.c1⟩ (fun hHeld => ?_)
  clear hK K
  refine wpAnyH_ready (rs := [3]) (by kernel_rfl) (by simp) ?_
  refine AllReadyH.cons rfl (fun K hK => ?_) AllReadyH.nil
  simp only [List.getElem_toArray, List.getElem_cons_zero, List.getElem_cons_succ]
  go_simp
  refine (radd4_any s t1 a b1 la ca m1 k1 xs y1 _ hx hy1 hl1 (by omega)).mono ?_
  rintro e x4 ⟨s', a', l', c', zs, rfl, h', e', hl', hb⟩
  replace V0 := Va.after hb V0
  replace V1 := Va.after hb V1
  replace V2 := Va.after hb V2
  replace hx := Ir.after hb hx
  replace hy := Ir.after hb hy
  replace hy1 := Ir.after hb hy1
  replace B0 := step B0 hb
  clear hb
  try go_wp2_with fail
  refine hK.out _ _ ⟨V0.c0, V0.c1, V1.c0, V1.c1⟩ (fun hHeld => ?_)
  clear hK K
  have c_V2 := V2.c0
  have d_V2 := V2.c1
  have f_V2 := V2.frozen 0
  have g_V2 := V2.frozen 1
  have l_V2 := V2.lt
  have m_V2 := Nat.le_of_lt l_V2
  refine wpAnyH_ready (rs := [4]) (by kernel_rfl) (by simp) ?_
  refine AllReadyH.cons rfl (fun K hK => ?_) AllReadyH.nil
  simp only [List.getElem_toArray, List.getElem_cons_zero, List.getElem_cons_succ]
  go_simp
  clear c_V2 d_V2 f_V2 g_V2 l_V2 m_V2
  refine st2 V2 (.bool s') (.slice a' l' c') (Q := fun W => K _ W) ?_
  intro x5 V' oth far
  replace V0 := oth _ _ _ (by first | omega | assumption) V0
  replace V1 := oth _ _ _ (by first | omega | assumption) V1
  replace hx := hx.far V2 (noInt2 _ _ _ _) far.1
  replace hy := hy.far V2 (noInt2 _ _ _ _) far.1
  replace hy1 := hy1.far V2 (noInt2 _ _ _ _) far.1
  replace h' := h'.far V2 (noInt2 _ _ _ _) far.1
  replace B0 := far.2 _ _ (by first | omega | (simp; omega)) B0
  replace V2 := V'
  clear oth far
  refine hK.out _ _ ⟨V0.c0, V0.c1, V1.c0, V1.c1⟩ (fun hHeld => ?_)
  clear hK K
  refine wpAnyH_done (by kernel_rfl) ?_ _
  refine NoPanic.normal ?_
  clear hHeld
  go_wp2_with fail
  refine bodyPost_ret (results_i rfl rfl V2) rfl ?_
  exact ⟨s', a', l', c', zs, rfl, h', by rw [e', ey, ← Int.sub_eq_add_neg], by omega, B0⟩

theorem rlong4_any (s : Bool) (a : Option Addr) (l c : Nat) (zs : List Int) (w : World) (h : Ir w s a l c zs) (hl : l ≤ 40000000000000) :
    Calls Try.prog 47 #[.agg #[.bool s, .slice a l c]] w fun e w' => e = .returned (.bool (decide (4096 < (usedN zs : Int)))) ∧ Below w.heap.size w w' := by
  have B0 : Below w.heap.size w w := Below.refl _ _
  go_enter Try.func47, Try.ntmps47
  go_wp2_with fail
  refine ent1 w _ _ (Q := fun W => Calls Try.prog _ _ W _) ?_
  intro x1 hb hs_x1 V0
  replace h := Ir.after hb h
  replace B0 := step B0 hb
  clear hb hs_x1
  refine (rlong_any a l c zs x1 h.1 hl).mono ?_
  rintro e w' ⟨rfl, rfl⟩
  go_wp2_with fail
  go_ret
  exact ⟨rfl, B0⟩

/-- What an answer and its error say of the number X. -/
def Ag (X er : Int) (s : Bool) (a : Option Addr) (l c : Nat) (zs : List Int) : Prop := (er = 0 ∧ iv s zs = X ∧ (X.natAbs : Int) < pw 4096) ∨ (er = 3 ∧ s = false ∧ a = none ∧ l = 0 ∧ c = 0 ∧ zs = [] ∧ pw 4096 ≤ (X.natAbs : Int))
theorem agrees4_any (X er : Int) (s t : Bool) (a b : Option Addr) (l c m k : Nat) (zs ds : List Int) (w : World) (h : It w s a l c zs) (g : Ir w t b m k ds) (hA : Hid (Ag X er s a l c zs)) (he : iv t ds = X) (hm : m ≤ 40000000000000) :
    Calls Try.prog 24 #[.agg #[.bool s, .slice a l c], .int .i64 er, .agg #[.bool t, .slice b m k]] w fun e w' => e = .returned (.bool true) ∧ Below w.heap.size w w' := by
  have B0 : Below w.heap.size w w := Below.refl _ _
  rcases hA.out with ⟨rfl, hx, hlt⟩ | ⟨rfl, rfl, rfl, rfl, rfl, rfl, hge⟩
  ·
    have hu : decide (4096 < (usedN ds : Int)) = false := by
      have h1 := used_of_lt g.1.2.1 (n := 4096) (by rw [g.abs, he]; exact hlt)
      simp; omega
    have hei : iv t ds = iv s zs := he.trans hx.symm
    clear hlt hA he hx
    go_enter Try.func24, Try.ntmps24
    go_wp2_with fail
    refine ent2 w _ _ _ _ (Q := fun W => Calls Try.prog _ _ W _) ?_
    intro x1 hb hs_x1 V0 V1
    replace h := It.after hb h
    replace g := Ir.after hb g
    replace B0 := step B0 hb
    clear hb hs_x1
    refine (rlong4_any t b m k ds x1 g hm).mono ?_
    rintro e x2 ⟨rfl, hb⟩
    replace V0 := Va.after hb V0
    replace V1 := Va.after hb V1
    replace h := It.after hb h
    replace g := Ir.after hb g
    replace B0 := step B0 hb
    clear hb
    rw [hu]
    have c_V0 := V0.c0
    have d_V0 := V0.c1
    have f_V0 := V0.frozen 0
    have g_V0 := V0.frozen 1
    have l_V0 := V0.lt
    have m_V0 := Nat.le_of_lt l_V0
    have c_V1 := V1.c0
    have d_V1 := V1.c1
    have f_V1 := V1.frozen 0
    have g_V1 := V1.frozen 1
    have l_V1 := V1.lt
    have m_V1 := Nat.le_of_lt l_V1
    go_wp2_with fail
    refine (is4_ok s t a b l c m k zs ds x2 h g hei).mono ?_
    rintro e x3 ⟨rfl, hb⟩
    replace V0 := Va.after hb V0
    replace V1 := Va.after hb V1
    replace h := It.after hb h
    replace g := Ir.after hb g
    replace B0 := step B0 hb
    clear hb
    clear c_V0 d_V0 f_V0 g_V0 l_V0 m_V0 c_V1 d_V1 f_V1 g_V1 l_V1 m_V1
    have c_V0 := V0.c0
    have d_V0 := V0.c1
    have f_V0 := V0.frozen 0
    have g_V0 := V0.frozen 1
    have l_V0 := V0.lt
    have m_V0 := Nat.le_of_lt l_V0
    have c_V1 := V1.c0
    have d_V1 := V1.c1
    have f_V1 := V1.frozen 0
    have g_V1 := V1.frozen 1
    have l_V1 := V1.lt
    have m_V1 := Nat.le_of_lt l_V1
    go_wp2_with fail
    go_ret
    exact ⟨rfl, B0⟩
  ·
    have hu : decide (4096 < (usedN ds : Int)) = true := by
      rcases Nat.lt_or_ge 4096 (usedN ds) with h1 | h1
      · simp; omega
      · exfalso
        have h2 := lt_of_used g.1.2.1 h1
        rw [g.abs, he] at h2
        generalize pw 4096 = P at *
        omega
    clear hge hA he h
    go_enter Try.func24, Try.ntmps24
    go_wp2_with fail
    refine ent2 w _ _ _ _ (Q := fun W => Calls Try.prog _ _ W _) ?_
    intro x1 hb hs_x1 V0 V1
    replace g := Ir.after hb g
    replace B0 := step B0 hb
    clear hb hs_x1
    refine (rlong4_any t b m k ds x1 g hm).mono ?_
    rintro e x2 ⟨rfl, hb⟩
    replace V0 := Va.after hb V0
    replace V1 := Va.after hb V1
    replace g := Ir.after hb g
    replace B0 := step B0 hb
    clear hb
    rw [hu]
    have c_V0 := V0.c0
    have d_V0 := V0.c1
    have f_V0 := V0.frozen 0
    have g_V0 := V0.frozen 1
    have l_V0 := V0.lt
    have m_V0 := Nat.le_of_lt l_V0
    have c_V1 := V1.c0
    have d_V1 := V1.c1
    have f_V1 := V1.frozen 0
    have g_V1 := V1.frozen 1
    have l_V1 := V1.lt
    have m_V1 := Nat.le_of_lt l_V1
    go_wp2_with fail
    refine (is4_ok false false none none 0 0 0 0 [] [] x2 (It.nil _) (Ir.nil _) rfl).mono ?_
    rintro e x3 ⟨rfl, hb⟩
    replace V0 := Va.after hb V0
    replace V1 := Va.after hb V1
    replace g := Ir.after hb g
    replace B0 := step B0 hb
    clear hb
    clear c_V0 d_V0 f_V0 g_V0 l_V0 m_V0 c_V1 d_V1 f_V1 g_V1 l_V1 m_V1
    have c_V0 := V0.c0
    have d_V0 := V0.c1
    have f_V0 := V0.frozen 0
    have g_V0 := V0.frozen 1
    have l_V0 := V0.lt
    have m_V0 := Nat.le_of_lt l_V0
    have c_V1 := V1.c0
    have d_V1 := V1.c1
    have f_V1 := V1.frozen 0
    have g_V1 := V1.frozen 1
    have l_V1 := V1.lt
    have m_V1 := Nat.le_of_lt l_V1
    go_wp2_with fail
    go_ret
    exact ⟨rfl, B0⟩

theorem wadd_any (s t : Bool) (a b : Option Addr) (la ca lb cb : Nat) (xs ys : List Int) (w : World) (hx : It w s a la ca xs) (hy : It w t b lb cb ys) :
    Calls Try.prog 21 #[.agg #[.bool s, .slice a la ca], .agg #[.bool t, .slice b lb cb]] w fun e w' => ∃ er s' a' l' c' zs, e = .returned (.tuple #[.agg #[.bool s', .slice a' l' c'], .int .i64 er]) ∧ It w' s' a' l' c' zs ∧ Hid (Ag (iv s xs + iv t ys) er s' a' l' c' zs) ∧ Below w.heap.size w w' := by
  by_cases h : ((iv s xs + iv t ys).natAbs : Int) < pw 4096
  · refine (wadd_ok s t a b la ca lb cb xs ys w hx hy h).mono ?_
    rintro e w' ⟨s', a', l', c', zs, rfl, h', e', hb⟩
    exact ⟨0, s', a', l', c', zs, rfl, h', Or.inl ⟨rfl, e', h⟩, hb⟩
  · refine (wadd_long s t a b la ca lb cb xs ys w hx hy (Int.not_lt.1 h)).mono ?_
    rintro e w' ⟨rfl, hb⟩
    exact ⟨3, false, none, 0, 0, [], rfl, It.nil _, Or.inr ⟨rfl, rfl, rfl, rfl, rfl, rfl, Int.not_lt.1 h⟩, hb⟩

theorem wsub_any (s t : Bool) (a b : Option Addr) (la ca lb cb : Nat) (xs ys : List Int) (w : World) (hx : It w s a la ca xs) (hy : It w t b lb cb ys) :
    Calls Try.prog 22 #[.agg #[.bool s, .slice a la ca], .agg #[.bool t, .slice b lb cb]] w fun e w' => ∃ er s' a' l' c' zs, e = .returned (.tuple #[.agg #[.bool s', .slice a' l' c'], .int .i64 er]) ∧ It w' s' a' l' c' zs ∧ Hid (Ag (iv s xs - iv t ys) er s' a' l' c' zs) ∧ Below w.heap.size w w' := by
  by_cases h : ((iv s xs - iv t ys).natAbs : Int) < pw 4096
  · refine (wsub_ok s t a b la ca lb cb xs ys w hx hy h).mono ?_
    rintro e w' ⟨s', a', l', c', zs, rfl, h', e', hb⟩
    exact ⟨0, s', a', l', c', zs, rfl, h', Or.inl ⟨rfl, e', h⟩, hb⟩
  · refine (wsub_long s t a b la ca lb cb xs ys w hx hy (Int.not_lt.1 h)).mono ?_
    rintro e w' ⟨rfl, hb⟩
    exact ⟨3, false, none, 0, 0, [], rfl, It.nil _, Or.inr ⟨rfl, rfl, rfl, rfl, rfl, rfl, Int.not_lt.1 h⟩, hb⟩

theorem wmul_any (s t : Bool) (a b : Option Addr) (la ca lb cb : Nat) (xs ys : List Int) (w : World) (hx : It w s a la ca xs) (hy : It w t b lb cb ys) :
    Calls Try.prog 23 #[.agg #[.bool s, .slice a la ca], .agg #[.bool t, .slice b lb cb]] w fun e w' => ∃ er s' a' l' c' zs, e = .returned (.tuple #[.agg #[.bool s', .slice a' l' c'], .int .i64 er]) ∧ It w' s' a' l' c' zs ∧ Hid (Ag (iv s xs * iv t ys) er s' a' l' c' zs) ∧ Below w.heap.size w w' := by
  by_cases h : ((iv s xs * iv t ys).natAbs : Int) < pw 4096
  · refine (wmul_ok s t a b la ca lb cb xs ys w hx hy h).mono ?_
    rintro e w' ⟨s', a', l', c', zs, rfl, h', e', hb⟩
    exact ⟨0, s', a', l', c', zs, rfl, h', Or.inl ⟨rfl, e', h⟩, hb⟩
  · refine (wmul_long s t a b la ca lb cb xs ys w hx hy (Int.not_lt.1 h)).mono ?_
    rintro e w' ⟨rfl, hb⟩
    exact ⟨3, false, none, 0, 0, [], rfl, It.nil _, Or.inr ⟨rfl, rfl, rfl, rfl, rfl, rfl, Int.not_lt.1 h⟩, hb⟩
end Go.Proofs.Ytkfpblonjinfmaa
namespace Go.Proofs.Ytkfpblonjinfmaa
open Go.RowKit Go.Shelf
set_option linter.unusedVariables false

theorem rsmallw_any (x : Int) (hx : Word x) (w : World) :
    Calls Try.prog 39 #[.int .u64 x] w fun e w' => LRes w w' e x 1 := by
  go_enter Try.func39, Try.ntmps39
  go_wp2_with fail
  refine ent1 w _ _ (Q := fun W => Calls Try.prog _ _ W _) ?_
  intro w0 B0 hs V0
  have s := sl_one w x hx
  have s1 : Sl w0 (some ⟨w.heap.size, 0, none⟩) 1 [x] := by
    refine ⟨rfl, s.2.1, fun _ => ⟨w.heap.size, 0, rfl, fun i hi => ?_⟩⟩
    obtain rfl : i = 0 := by omega
    exact V0.cell
  refine (rtrim_n (some ⟨w.heap.size, 0, none⟩) 1 1 [x] w0 s1 (by omega) (Nat.le_refl _)).mono ?_
  rintro e w2 ⟨a2, c2, rfl, s2, hc2, -, b2⟩
  have hu := usedN_le [x]
  simp at hu
  go_wp2_with fail
  go_ret
  exact ⟨a2, usedN [x], c2, [x].take (usedN [x]), rfl, hc2, hu, s2, usedN_take [x] (Nat.le_refl _), by rw [num_take_used [x] (Nat.le_refl _)]; simp [num], step B0 b2⟩

theorem rsmall4_any (x : Int) (h1 : -9223372036854775808 ≤ x) (h2 : x ≤ 9223372036854775807) (w : World) :
    Calls Try.prog 14 #[.int .i64 x] w fun e w' => ∃ s' a' l' c' zs, e = .returned (.agg #[.bool s', .slice a' l' c']) ∧ Ir w' s' a' l' c' zs ∧ iv s' zs = x ∧ l' ≤ 5 ∧ Below w.heap.size w w' := by
  by_cases hx : x < 0
  ·
    have e1 : IntKind.i64.wrap (x + 1) = x + 1 := by rw [IntKind.wrap_i64]; omega
    have e2 : IntKind.i64.wrap (-(x + 1)) = -(x + 1) := by rw [IntKind.wrap_i64]; omega
    have e3 : IntKind.u64.wrap (-(x + 1)) = -(x + 1) := by rw [IntKind.wrap_u64]; omega
    have hx2 : ¬ 0 ≤ x := by omega
    have B0 : Below w.heap.size w w := Below.refl _ _
    go_enter Try.func14, Try.ntmps14
    go_wp2_with fail
    refine ent1 w _ _ (Q := fun W => Calls Try.prog _ _ W _) ?_
    intro x1 hb hs_x1 V2
    replace B0 := step B0 hb
    clear hb hs_x1
    refine (rsmallw_any _ ⟨by omega, by omega⟩ x1).mono ?_
    rintro e x2 ⟨p1, q1, r1, y1, rfl, pc1, pb1, ps1, pu1, pn1, hb⟩
    replace V2 := Va.after hb V2
    replace B0 := step B0 hb
    clear hb
    have c_V2 := V2.c0
    have d_V2 := V2.c1
    have f_V2 := V2.frozen 0
    have g_V2 := V2.frozen 1
    have l_V2 := V2.lt
    have m_V2 := Nat.le_of_lt l_V2
    go_wp2_with fail
    refine (rsmallw_any 1 ⟨by omega, by omega⟩ x2).mono ?_
    rintro e x3 ⟨p2, q2, r2, y2, rfl, pc2, pb2, ps2, pu2, pn2, hb⟩
    replace V2 := Va.after hb V2
    replace ps1 := ps1.below hb (Nat.le_refl _)
    replace B0 := step B0 hb
    clear hb
    clear c_V2 d_V2 f_V2 g_V2 l_V2 m_V2
    have c_V2 := V2.c0
    have d_V2 := V2.c1
    have f_V2 := V2.frozen 0
    have g_V2 := V2.frozen 1
    have l_V2 := V2.lt
    have m_V2 := Nat.le_of_lt l_V2
    go_wp2_with fail
    refine (radd_any p1 p2 q1 r1 q2 r2 y1 y2 x3 ps1 ps2 (by omega) (by omega)).mono ?_
    rintro e x4 ⟨a1, m1, c1, z1, rfl, hmc, hmb, hs1, hu1, hn1, hb⟩
    replace V2 := Va.after hb V2
    replace ps1 := ps1.below hb (Nat.le_refl _)
    replace ps2 := ps2.below hb (Nat.le_refl _)
    replace B0 := step B0 hb
    clear hb
    clear c_V2 d_V2 f_V2 g_V2 l_V2 m_V2
    have c_V2 := V2.c0
    have d_V2 := V2.c1
    have f_V2 := V2.frozen 0
    have g_V2 := V2.frozen 1
    have l_V2 := V2.lt
    have m_V2 := Nat.le_of_lt l_V2
    go_wp2_with fail
    refine (rnew_any true a1 m1 c1 z1 x4 hs1 hmc (by omega)).mono ?_
    rintro e x5 ⟨s', a', l', c', zs, rfl, h', n', e', hl', hb⟩
    replace V2 := Va.after hb V2
    replace ps1 := ps1.below hb (Nat.le_refl _)
    replace ps2 := ps2.below hb (Nat.le_refl _)
    replace hs1 := hs1.below hb (Nat.le_refl _)
    replace B0 := step B0 hb
    clear hb
    clear c_V2 d_V2 f_V2 g_V2 l_V2 m_V2
    have c_V2 := V2.c0
    have d_V2 := V2.c1
    have f_V2 := V2.frozen 0
    have g_V2 := V2.frozen 1
    have l_V2 := V2.lt
    have m_V2 := Nat.le_of_lt l_V2
    go_wp2_with fail
    refine bodyPost_ret (results_i rfl rfl (V2.set2 _ _)) rfl ?_
    refine ⟨s', a', l', c', zs, rfl, h'.far V2 (noInt2 _ _ _ _) (far2 _ _ _ _), ?_, by omega, below_2 B0 (by omega) _ _⟩
    rw [e', iv_t]
    omega
  ·
    have e1 : IntKind.u64.wrap x = x := by rw [IntKind.wrap_u64]; omega
    have hx2 : 0 ≤ x := by omega
    have B0 : Below w.heap.size w w := Below.refl _ _
    go_enter Try.func14, Try.ntmps14
    go_wp2_with fail
    refine ent1 w _ _ (Q := fun W => Calls Try.prog _ _ W _) ?_
    intro x1 hb hs_x1 V2
    replace B0 := step B0 hb
    clear hb hs_x1
    refine (rsmallw_any _ ⟨by omega, by omega⟩ x1).mono ?_
    rintro e x2 ⟨a1, m1, c1, z1, rfl, hmc, hmb, hs1, hu1, hn1, hb⟩
    replace V2 := Va.after hb V2
    replace B0 := step B0 hb
    clear hb
    have c_V2 := V2.c0
    have d_V2 := V2.c1
    have f_V2 := V2.frozen 0
    have g_V2 := V2.frozen 1
    have l_V2 := V2.lt
    have m_V2 := Nat.le_of_lt l_V2
    go_wp2_with fail
    refine (rnew_any false a1 m1 c1 z1 x2 hs1 hmc (by omega)).mono ?_
    rintro e x3 ⟨s', a', l', c', zs, rfl, h', n', e', hl', hb⟩
    replace V2 := Va.after hb V2
    replace hs1 := hs1.below hb (Nat.le_refl _)
    replace B0 := step B0 hb
    clear hb
    clear c_V2 d_V2 f_V2 g_V2 l_V2 m_V2
    have c_V2 := V2.c0
    have d_V2 := V2.c1
    have f_V2 := V2.frozen 0
    have g_V2 := V2.frozen 1
    have l_V2 := V2.lt
    have m_V2 := Nat.le_of_lt l_V2
    go_wp2_with fail
    refine bodyPost_ret (results_i rfl rfl (V2.set2 _ _)) rfl ?_
    refine ⟨s', a', l', c', zs, rfl, h'.far V2 (noInt2 _ _ _ _) (far2 _ _ _ _), ?_, by omega, below_2 B0 (by omega) _ _⟩
    rw [e', iv_f]
    omega
end Go.Proofs.Ytkfpblonjinfmaa
namespace Go.Proofs.Ytkfpblonjinfmaa
open Go.RowKit Go.Shelf
set_option linter.unusedVariables false


theorem wint64_great (s : Bool) (a : Option Addr) (l c : Nat) (zs : List Int) (w : World) (h : It w s a l c zs) (hg : 18446744073709551616 ≤ num zs) :
    Calls Try.prog 9 #[.agg #[.bool s, .slice a l c]] w fun e w' => e = .returned (.tuple #[.int .i64 0, .int .i64 5]) ∧ Below w.heap.size w w' := by
  have p0 := h.1.nonneg
  have B0 : Below w.heap.size w w := Below.refl _ _
  go_enter Try.func9, Try.ntmps9
  go_wp2_with fail
  refine ent1 w _ _ (Q := fun W => Calls Try.prog _ _ W _) ?_
  intro x1 hb hs_x1 V0
  replace h := It.after hb h
  replace B0 := step B0 hb
  clear hb hs_x1
  refine (uint64_great a l c zs x1 h.1 hg).mono ?_
  rintro e x2 ⟨rfl, hb⟩
  replace V0 := Va.after hb V0
  replace h := It.after hb h
  replace B0 := step B0 hb
  clear hb
  have c_V0 := V0.c0
  have d_V0 := V0.c1
  have f_V0 := V0.frozen 0
  have g_V0 := V0.frozen 1
  have l_V0 := V0.lt
  have m_V0 := Nat.le_of_lt l_V0
  go_wp2_with fail
  all_goals
    go_ret2
    exact ⟨rfl, B0⟩

theorem wint64_pos (s : Bool) (a : Option Addr) (l c : Nat) (zs : List Int) (w : World) (h : It w s a l c zs) (hs : s = false) (hv : num zs < 9223372036854775808) :
    Calls Try.prog 9 #[.agg #[.bool s, .slice a l c]] w fun e w' => e = .returned (.tuple #[.int .i64 (num zs), .int .i64 0]) ∧ Below w.heap.size w w' := by
  have p0 := h.1.nonneg
  subst hs
  have hg : num zs < 18446744073709551616 := by omega
  have e1 : IntKind.i64.wrap (num zs) = num zs := by rw [IntKind.wrap_i64]; omega
  have B0 : Below w.heap.size w w := Below.refl _ _
  go_enter Try.func9, Try.ntmps9
  go_wp2_with fail
  refine ent1 w _ _ (Q := fun W => Calls Try.prog _ _ W _) ?_
  intro x1 hb hs_x1 V0
  replace h := It.after hb h
  replace B0 := step B0 hb
  clear hb hs_x1
  refine (uint64_small a l c zs x1 h.1 hg).mono ?_
  rintro e x2 ⟨rfl, hb⟩
  replace V0 := Va.after hb V0
  replace h := It.after hb h
  replace B0 := step B0 hb
  clear hb
  have c_V0 := V0.c0
  have d_V0 := V0.c1
  have f_V0 := V0.frozen 0
  have g_V0 := V0.frozen 1
  have l_V0 := V0.lt
  have m_V0 := Nat.le_of_lt l_V0
  go_wp2_with fail
  all_goals
    go_ret2
    exact ⟨rfl, B0⟩

theorem wint64_over (s : Bool) (a : Option Addr) (l c : Nat) (zs : List Int) (w : World) (h : It w s a l c zs) (hs : s = false) (hv : 9223372036854775808 ≤ num zs) (hg : num zs < 18446744073709551616) :
    Calls Try.prog 9 #[.agg #[.bool s, .slice a l c]] w fun e w' => e = .returned (.tuple #[.int .i64 0, .int .i64 5]) ∧ Below w.heap.size w w' := by
  have p0 := h.1.nonneg
  subst hs
  have hv2 : ¬ num zs < 9223372036854775808 := by omega
  have B0 : Below w.heap.size w w := Below.refl _ _
  go_enter Try.func9, Try.ntmps9
  go_wp2_with fail
  refine ent1 w _ _ (Q := fun W => Calls Try.prog _ _ W _) ?_
  intro x1 hb hs_x1 V0
  replace h := It.after hb h
  replace B0 := step B0 hb
  clear hb hs_x1
  refine (uint64_small a l c zs x1 h.1 hg).mono ?_
  rintro e x2 ⟨rfl, hb⟩
  replace V0 := Va.after hb V0
  replace h := It.after hb h
  replace B0 := step B0 hb
  clear hb
  have c_V0 := V0.c0
  have d_V0 := V0.c1
  have f_V0 := V0.frozen 0
  have g_V0 := V0.frozen 1
  have l_V0 := V0.lt
  have m_V0 := Nat.le_of_lt l_V0
  go_wp2_with fail
  all_goals
    go_ret2
    exact ⟨rfl, B0⟩

theorem wint64_neg (s : Bool) (a : Option Addr) (l c : Nat) (zs : List Int) (w : World) (h : It w s a l c zs) (hs : s = true) (hv : num zs ≤ 9223372036854775808) :
    Calls Try.prog 9 #[.agg #[.bool s, .slice a l c]] w fun e w' => e = .returned (.tuple #[.int .i64 (- num zs), .int .i64 0]) ∧ Below w.heap.size w w' := by
  have p0 := h.1.nonneg
  subst hs
  have hg : num zs < 18446744073709551616 := by omega
  have p1 := h.2 rfl
  have e1 : IntKind.u64.wrap (- num zs) = 18446744073709551616 - num zs := by rw [IntKind.wrap_u64]; omega
  have e2 : IntKind.i64.wrap (18446744073709551616 - num zs) = - num zs := by rw [IntKind.wrap_i64]; omega
  by_cases hv3 : num zs < 9223372036854775808
  ·
    have B0 : Below w.heap.size w w := Below.refl _ _
    go_enter Try.func9, Try.ntmps9
    go_wp2_with fail
    refine ent1 w _ _ (Q := fun W => Calls Try.prog _ _ W _) ?_
    intro x1 hb hs_x1 V0
    replace h := It.after hb h
    replace B0 := step B0 hb
    clear hb hs_x1
    refine (uint64_small a l c zs x1 h.1 hg).mono ?_
    rintro e x2 ⟨rfl, hb⟩
    replace V0 := Va.after hb V0
    replace h := It.after hb h
    replace B0 := step B0 hb
    clear hb
    have c_V0 := V0.c0
    have d_V0 := V0.c1
    have f_V0 := V0.frozen 0
    have g_V0 := V0.frozen 1
    have l_V0 := V0.lt
    have m_V0 := Nat.le_of_lt l_V0
    go_wp2_with fail
    all_goals
      go_ret2
      exact ⟨rfl, B0⟩
  ·
    have B0 : Below w.heap.size w w := Below.refl _ _
    go_enter Try.func9, Try.ntmps9
    go_wp2_with fail
    refine ent1 w _ _ (Q := fun W => Calls Try.prog _ _ W _) ?_
    intro x1 hb hs_x1 V0
    replace h := It.after hb h
    replace B0 := step B0 hb
    clear hb hs_x1
    refine (uint64_small a l c zs x1 h.1 hg).mono ?_
    rintro e x2 ⟨rfl, hb⟩
    replace V0 := Va.after hb V0
    replace h := It.after hb h
    replace B0 := step B0 hb
    clear hb
    have c_V0 := V0.c0
    have d_V0 := V0.c1
    have f_V0 := V0.frozen 0
    have g_V0 := V0.frozen 1
    have l_V0 := V0.lt
    have m_V0 := Nat.le_of_lt l_V0
    go_wp2_with fail
    all_goals
      go_ret2
      exact ⟨rfl, B0⟩

theorem wint64_under (s : Bool) (a : Option Addr) (l c : Nat) (zs : List Int) (w : World) (h : It w s a l c zs) (hs : s = true) (hv : 9223372036854775808 < num zs) (hg : num zs < 18446744073709551616) :
    Calls Try.prog 9 #[.agg #[.bool s, .slice a l c]] w fun e w' => e = .returned (.tuple #[.int .i64 0, .int .i64 5]) ∧ Below w.heap.size w w' := by
  have p0 := h.1.nonneg
  subst hs
  have hv2 : ¬ num zs < 9223372036854775808 := by omega
  have hv3 : ¬ num zs ≤ 9223372036854775808 := by omega
  have B0 : Below w.heap.size w w := Below.refl _ _
  go_enter Try.func9, Try.ntmps9
  go_wp2_with fail
  refine ent1 w _ _ (Q := fun W => Calls Try.prog _ _ W _) ?_
  intro x1 hb hs_x1 V0
  replace h := It.after hb h
  replace B0 := step B0 hb
  clear hb hs_x1
  refine (uint64_small a l c zs x1 h.1 hg).mono ?_
  rintro e x2 ⟨rfl, hb⟩
  replace V0 := Va.after hb V0
  replace h := It.after hb h
  replace B0 := step B0 hb
  clear hb
  have c_V0 := V0.c0
  have d_V0 := V0.c1
  have f_V0 := V0.frozen 0
  have g_V0 := V0.frozen 1
  have l_V0 := V0.lt
  have m_V0 := Nat.le_of_lt l_V0
  go_wp2_with fail
  all_goals
    go_ret2
    exact ⟨rfl, B0⟩

theorem wint64_in (s : Bool) (a : Option Addr) (l c : Nat) (zs : List Int) (w : World) (h : It w s a l c zs) (h1 : -9223372036854775808 ≤ iv s zs) (h2 : iv s zs ≤ 9223372036854775807) :
    Calls Try.prog 9 #[.agg #[.bool s, .slice a l c]] w fun e w' => e = .returned (.tuple #[.int .i64 (iv s zs), .int .i64 0]) ∧ Below w.heap.size w w' := by
  cases s
  · rw [iv_f] at h1 h2 ⊢; exact wint64_pos false a l c zs w h rfl (by omega)
  · rw [iv_t] at h1 h2 ⊢; exact wint64_neg true a l c zs w h rfl (by omega)
theorem wint64_out (s : Bool) (a : Option Addr) (l c : Nat) (zs : List Int) (w : World) (h : It w s a l c zs) (hv : iv s zs < -9223372036854775808 ∨ 9223372036854775807 < iv s zs) :
    Calls Try.prog 9 #[.agg #[.bool s, .slice a l c]] w fun e w' => e = .returned (.tuple #[.int .i64 0, .int .i64 5]) ∧ Below w.heap.size w w' := by
  have p0 := h.1.nonneg
  by_cases hg : 18446744073709551616 ≤ num zs
  · exact wint64_great s a l c zs w h hg
  · cases s
    · rw [iv_f] at hv; exact wint64_over false a l c zs w h rfl (by omega) (by omega)
    · rw [iv_t] at hv; exact wint64_under true a l c zs w h rfl (by omega) (by omega)

set_option maxHeartbeats 4000000 in
theorem rint64_low (s : Bool) (a : Option Addr) (l c : Nat) (zs : List Int) (w : World) (h : Ir w s a l c zs) (hl : l ≤ 10000) (hv : iv s zs < -9223372036854775808) :
    Calls Try.prog 8 #[.agg #[.bool s, .slice a l c]] w fun e w' => e = .returned (.tuple #[.int .i64 0, .bool false]) ∧ Below w.heap.size w w' := by
  have B0 : Below w.heap.size w w := Below.refl _ _
  go_enter Try.func8, Try.ntmps8
  go_wp2_with fail
  refine ent1 w _ _ (Q := fun W => Code.wp Try.prog _ _ _ W) ?_
  intro x1 hb hs_x1 V0
  replace h := Ir.after hb h
  replace B0 := step B0 hb
  clear hb hs_x1
  refine wp_region_noPanic ?_
  replace V0 : Va x1.drew _ _ _ := V0
  replace h := h.drw
  replace B0 := Below.drew B0
  refine wp_region_held_drew (S := (fun W => W.cell? ⟨w.heap.size, 0, none⟩ = some (.bool s) ∧ W.cell? ⟨w.heap.size, 1, none⟩ = some (.slice a l c))) (by kernel_rfl) ⟨V0.c0, V0.c1⟩ (fun hHeld => ?_)
  obtain ⟨x2, hxd⟩ : ∃ xd, xd = x1.drew := ⟨_, rfl⟩
  rw [← hxd] at V0 h B0 hHeld ⊢
  clear hxd
  refine wpAnyH_take (i := 0) (v := ?_) rfl (by kernel_rfl) (by kernel_rfl) (by kernel_rfl) (fun _ _ _ h => h) (Or.inl ⟨by rfl, ?_⟩) hHeld ?_
  rotate_left
  · (intro W hSw; (try dsimp only at hSw); go_simp; all_goals (with_reducible rfl))
  simp only [List.getElem_toArray, List.getElem_cons_zero, Act.put, List.setIfInBounds_toArray, List.set_cons_zero, List.set_cons_succ]
  refine wpAnyH_ready (rs := [1]) (by kernel_rfl) (by simp) ?_
  refine AllReadyH.cons rfl (fun K hK => ?_) AllReadyH.nil
  simp only [List.getElem_toArray, List.getElem_cons_zero, List.getElem_cons_succ]
  go_simp
  refine (rsmall4_any (-9223372036854775808) (by omega) (by omega) _).mono ?_
  rintro e x3 ⟨s1, a1, l1, k1, y1, rfl, g1, e1, u1, hb⟩
  replace V0 := Va.after hb V0
  replace h := Ir.after hb h
  replace B0 := step B0 hb
  clear hb
  try go_wp2_with fail
  refine hK.out _ _ ⟨V0.c0, V0.c1⟩ (fun hHeld => ?_)
  clear hK K
  refine wpAnyH_ready (rs := [2]) (by kernel_rfl) (by simp) ?_
  refine AllReadyH.cons rfl (fun K hK => ?_) AllReadyH.nil
  simp only [List.getElem_toArray, List.getElem_cons_zero, List.getElem_cons_succ]
  go_simp
  refine (rcmp_any s s1 a a1 l c l1 k1 zs y1 _ h g1 (by omega) (by omega)).mono ?_
  rintro e x4 ⟨rfl, hb⟩
  replace V0 := Va.after hb V0
  replace h := Ir.after hb h
  replace g1 := Ir.after hb g1
  replace B0 := step B0 hb
  clear hb
  rw [e1, cmp3_lt hv]
  try go_wp2_with fail
  refine hK.out _ _ ⟨V0.c0, V0.c1⟩ (fun hHeld => ?_)
  clear hK K
  refine wpAnyH_take (i := 3) (v := ?_) rfl (by kernel_rfl) (by kernel_rfl) (by kernel_rfl) (fun _ _ _ h => h) (Or.inl ⟨by rfl, ?_⟩) hHeld ?_
  rotate_left
  · (intro W hSw; (try dsimp only at hSw); go_simp; all_goals (with_reducible rfl))
  simp only [List.getElem_toArray, List.getElem_cons_zero, List.getElem_cons_succ, Act.put, List.setIfInBounds_toArray, List.set_cons_zero, List.set_cons_succ]
  refine wpAnyH_take (i := 4) (v := ?_) rfl (by kernel_rfl) (by kernel_rfl) (by kernel_rfl) (fun _ _ _ h => h) (Or.inl ⟨by rfl, ?_⟩) hHeld ?_
  rotate_left
  · (intro W hSw; (try dsimp only at hSw); go_simp; all_goals (with_reducible rfl))
  simp only [List.getElem_toArray, List.getElem_cons_zero, List.getElem_cons_succ, Act.put, List.setIfInBounds_toArray, List.set_cons_zero, List.set_cons_succ]
  refine wpAnyH_take (i := 5) (v := undef) rfl (by kernel_rfl) (by kernel_rfl) (by kernel_rfl) (fun _ _ _ h => h) (Or.inr ⟨by rfl, rfl⟩) hHeld ?_
  simp only [List.getElem_toArray, List.getElem_cons_zero, List.getElem_cons_succ, Act.put, List.setIfInBounds_toArray, List.set_cons_zero, List.set_cons_succ]
  refine wpAnyH_take (i := 6) (v := undef) rfl (by kernel_rfl) (by kernel_rfl) (by kernel_rfl) (fun _ _ _ h => h) (Or.inr ⟨by rfl, rfl⟩) hHeld ?_
  simp only [List.getElem_toArray, List.getElem_cons_zero, List.getElem_cons_succ, Act.put, List.setIfInBounds_toArray, List.set_cons_zero, List.set_cons_succ]
  refine wpAnyH_take (i := 7) (v := undef) rfl (by kernel_rfl) (by kernel_rfl) (by kernel_rfl) (fun _ _ _ h => h) (Or.inr ⟨by rfl, rfl⟩) hHeld ?_
  simp only [List.getElem_toArray, List.getElem_cons_zero, List.getElem_cons_succ, Act.put, List.setIfInBounds_toArray, List.set_cons_zero, List.set_cons_succ]
  refine wpAnyH_take (i := 8) (v := undef) rfl (by kernel_rfl) (by kernel_rfl) (by kernel_rfl) (fun _ _ _ h => h) (Or.inr ⟨by rfl, rfl⟩) hHeld ?_
  simp only [List.getElem_toArray, List.getElem_cons_zero, List.getElem_cons_succ, Act.put, List.setIfInBounds_toArray, List.set_cons_zero, List.set_cons_succ]
  refine wpAnyH_take (i := 9) (v := ?_) rfl (by kernel_rfl) (by kernel_rfl) (by kernel_rfl) (fun _ _ _ h => h) (Or.inl ⟨by rfl, ?_⟩) hHeld ?_
  rotate_left
  · (intro W hSw; (try dsimp only at hSw); go_simp; all_goals (with_reducible rfl))
  simp only [List.getElem_toArray, List.getElem_cons_zero, List.getElem_cons_succ, Act.put, List.setIfInBounds_toArray, List.set_cons_zero, List.set_cons_succ]
  refine wpAnyH_done (by kernel_rfl) ?_ _
  refine NoPanic.normal ?_
  clear hHeld
  go_wp2_with fail
  go_ret2
  exact ⟨rfl, B0⟩

set_option maxHeartbeats 4000000 in
theorem rint64_high (s : Bool) (a : Option Addr) (l c : Nat) (zs : List Int) (w : World) (h : Ir w s a l c zs) (hl : l ≤ 10000) (hv : 9223372036854775807 < iv s zs) :
    Calls Try.prog 8 #[.agg #[.bool s, .slice a l c]] w fun e w' => e = .returned (.tuple #[.int .i64 0, .bool false]) ∧ Below w.heap.size w w' := by
  have B0 : Below w.heap.size w w := Below.refl _ _
  go_enter Try.func8, Try.ntmps8
  go_wp2_with fail
  refine ent1 w _ _ (Q := fun W => Code.wp Try.prog _ _ _ W) ?_
  intro x1 hb hs_x1 V0
  replace h := Ir.after hb h
  replace B0 := step B0 hb
  clear hb hs_x1
  refine wp_region_noPanic ?_
  replace V0 : Va x1.drew _ _ _ := V0
  replace h := h.drw
  replace B0 := Below.drew B0
  refine wp_region_held_drew (S := (fun W => W.cell? ⟨w.heap.size, 0, none⟩ = some (.bool s) ∧ W.cell? ⟨w.heap.size, 1, none⟩ = some (.slice a l c))) (by kernel_rfl) ⟨V0.c0, V0.c1⟩ (fun hHeld => ?_)
  obtain ⟨x2, hxd⟩ : ∃ xd, xd = x1.drew := ⟨_, rfl⟩
  rw [← hxd] at V0 h B0 hHeld ⊢
  clear hxd
  refine wpAnyH_take (i := 0) (v := ?_) rfl (by kernel_rfl) (by kernel_rfl) (by kernel_rfl) (fun _ _ _ h => h) (Or.inl ⟨by rfl, ?_⟩) hHeld ?_
  rotate_left
  · (intro W hSw; (try dsimp only at hSw); go_simp; all_goals (with_reducible rfl))
  simp only [List.getElem_toArray, List.getElem_cons_zero, Act.put, List.setIfInBounds_toArray, List.set_cons_zero, List.set_cons_succ]
  refine wpAnyH_ready (rs := [1]) (by kernel_rfl) (by simp) ?_
  refine AllReadyH.cons rfl (fun K hK => ?_) AllReadyH.nil
  simp only [List.getElem_toArray, List.getElem_cons_zero, List.getElem_cons_succ]
  go_simp
  refine (rsmall4_any (-9223372036854775808) (by omega) (by omega) _).mono ?_
  rintro e x3 ⟨s1, a1, l1, k1, y1, rfl, g1, e1, u1, hb⟩
  replace V0 := Va.after hb V0
  replace h := Ir.after hb h
  replace B0 := step B0 hb
  clear hb
  try go_wp2_with fail
  refine hK.out _ _ ⟨V0.c0, V0.c1⟩ (fun hHeld => ?_)
  clear hK K
  refine wpAnyH_ready (rs := [2]) (by kernel_rfl) (by simp) ?_
  refine AllReadyH.cons rfl (fun K hK => ?_) AllReadyH.nil
  simp only [List.getElem_toArray, List.getElem_cons_zero, List.getElem_cons_succ]
  go_simp
  refine (rcmp_any s s1 a a1 l c l1 k1 zs y1 _ h g1 (by omega) (by omega)).mono ?_
  rintro e x4 ⟨rfl, hb⟩
  replace V0 := Va.after hb V0
  replace h := Ir.after hb h
  replace g1 := Ir.after hb g1
  replace B0 := step B0 hb
  clear hb
  rw [e1, cmp3_gt (by omega)]
  try go_wp2_with fail
  refine hK.out _ _ ⟨V0.c0, V0.c1⟩ (fun hHeld => ?_)
  clear hK K
  refine wpAnyH_take (i := 3) (v := ?_) rfl (by kernel_rfl) (by kernel_rfl) (by kernel_rfl) (fun _ _ _ h => h) (Or.inl ⟨by rfl, ?_⟩) hHeld ?_
  rotate_left
  · (intro W hSw; (try dsimp only at hSw); go_simp; all_goals (with_reducible rfl))
  simp only [List.getElem_toArray, List.getElem_cons_zero, List.getElem_cons_succ, Act.put, List.setIfInBounds_toArray, List.set_cons_zero, List.set_cons_succ]
  refine wpAnyH_take (i := 4) (v := ?_) rfl (by kernel_rfl) (by kernel_rfl) (by kernel_rfl) (fun _ _ _ h => h) (Or.inl ⟨by rfl, ?_⟩) hHeld ?_
  rotate_left
  · (intro W hSw; (try dsimp only at hSw); go_simp; all_goals (with_reducible rfl))
  simp only [List.getElem_toArray, List.getElem_cons_zero, List.getElem_cons_succ, Act.put, List.setIfInBounds_toArray, List.set_cons_zero, List.set_cons_succ]
  refine wpAnyH_take (i := 5) (v := ?_) rfl (by kernel_rfl) (by kernel_rfl) (by kernel_rfl) (fun _ _ _ h => h) (Or.inl ⟨by rfl, ?_⟩) hHeld ?_
  rotate_left
  · (intro W hSw; (try dsimp only at hSw); go_simp; all_goals (with_reducible rfl))
  simp only [List.getElem_toArray, List.getElem_cons_zero, List.getElem_cons_succ, Act.put, List.setIfInBounds_toArray, List.set_cons_zero, List.set_cons_succ]
  refine wpAnyH_ready (rs := [6]) (by kernel_rfl) (by simp) ?_
  refine AllReadyH.cons rfl (fun K hK => ?_) AllReadyH.nil
  simp only [List.getElem_toArray, List.getElem_cons_zero, List.getElem_cons_succ]
  go_simp
  refine (rsmall4_any 9223372036854775807 (by omega) (by omega) _).mono ?_
  rintro e x5 ⟨s2, a2, l2, k2, y2, rfl, g2, e2, u2, hb⟩
  replace V0 := Va.after hb V0
  replace h := Ir.after hb h
  replace g1 := Ir.after hb g1
  replace B0 := step B0 hb
  clear hb
  try go_wp2_with fail
  refine hK.out _ _ ⟨V0.c0, V0.c1⟩ (fun hHeld => ?_)
  clear hK K
  refine wpAnyH_ready (rs := [7]) (by kernel_rfl) (by simp) ?_
  refine AllReadyH.cons rfl (fun K hK => ?_) AllReadyH.nil
  simp only [List.getElem_toArray, List.getElem_cons_zero, List.getElem_cons_succ]
  go_simp
  refine (rcmp_any s s2 a a2 l c l2 k2 zs y2 _ h g2 (by omega) (by omega)).mono ?_
  rintro e x6 ⟨rfl, hb⟩
  replace V0 := Va.after hb V0
  replace h := Ir.after hb h
  replace g1 := Ir.after hb g1
  replace g2 := Ir.after hb g2
  replace B0 := step B0 hb
  clear hb
  rw [e2]
  rw [cmp3_gt hv]
  try go_wp2_with fail
  refine hK.out _ _ ⟨V0.c0, V0.c1⟩ (fun hHeld => ?_)
  clear hK K
  refine wpAnyH_take (i := 8) (v := ?_) rfl (by kernel_rfl) (by kernel_rfl) (by kernel_rfl) (fun _ _ _ h => h) (Or.inl ⟨by rfl, ?_⟩) hHeld ?_
  rotate_left
  · (intro W hSw; (try dsimp only at hSw); go_simp; all_goals (with_reducible rfl))
  simp only [List.getElem_toArray, List.getElem_cons_zero, List.getElem_cons_succ, Act.put, List.setIfInBounds_toArray, List.set_cons_zero, List.set_cons_succ]
  refine wpAnyH_take (i := 9) (v := ?_) rfl (by kernel_rfl) (by kernel_rfl) (by kernel_rfl) (fun _ _ _ h => h) (Or.inl ⟨by rfl, ?_⟩) hHeld ?_
  rotate_left
  · (intro W hSw; (try dsimp only at hSw); go_simp; all_goals (with_reducible rfl))
  simp only [List.getElem_toArray, List.getElem_cons_zero, List.getElem_cons_succ, Act.put, List.setIfInBounds_toArray, List.set_cons_zero, List.set_cons_succ]
  refine wpAnyH_done (by kernel_rfl) ?_ _
  refine NoPanic.normal ?_
  clear hHeld
  go_wp2_with fail
  go_ret2
  exact ⟨rfl, B0⟩

set_option maxHeartbeats 4000000 in
theorem rint64_in (s : Bool) (a : Option Addr) (l c : Nat) (zs : List Int) (w : World) (h : Ir w s a l c zs) (hl : l ≤ 10000) (h1 : -9223372036854775808 ≤ iv s zs) (h2 : iv s zs ≤ 9223372036854775807) :
    Calls Try.prog 8 #[.agg #[.bool s, .slice a l c]] w fun e w' => e = .returned (.tuple #[.int .i64 (iv s zs), .bool true]) ∧ Below w.heap.size w w' := by
  have p0 := h.nonneg
  have C1 : Hid (0 ≤ cmp3 (iv s zs) (-9223372036854775808)) := by show _ ≤ _; unfold cmp3; grind
  have C2 : Hid (cmp3 (iv s zs) 9223372036854775807 ≤ 0) := by show _ ≤ _; unfold cmp3; grind
  have hn : num zs < 18446744073709551616 := by rw [h.abs]; omega
  have hu1 : usedN zs ≤ 1 := used_of_lt h.1.2.1 (by simpa [pw] using hn)
  have hz := h.1.1
  have hu := h.2.1
  have hs1 := h.2.2.2.2
  have hla : l = 0 ∨ l = 1 := by omega
  rcases hla with rfl | rfl
  ·
    have e0 : num zs = 0 := (num_eq_zero h.1.2.1).2 hu
    have es : s = false := by cases s with | false => rfl | true => exact absurd e0 (hs1 rfl)
    subst es
    have ev : Hid (iv false zs = 0) := by show _ = _; rw [iv_f]; exact e0
    clear hs1 h1 h2 hn hu1 hu
    have B0 : Below w.heap.size w w := Below.refl _ _
    go_enter Try.func8, Try.ntmps8
    go_wp2_with fail
    refine ent1 w _ _ (Q := fun W => Code.wp Try.prog _ _ _ W) ?_
    intro x1 hb hs_x1 V0
    replace h := Ir.after hb h
    replace B0 := step B0 hb
    clear hb hs_x1
    refine wp_region_noPanic ?_
    replace V0 : Va x1.drew _ _ _ := V0
    replace h := h.drw
    replace B0 := Below.drew B0
    refine wp_region_held_drew (S := (fun W => W.cell? ⟨w.heap.size, 0, none⟩ = some (.bool false) ∧ W.cell? ⟨w.heap.size, 1, none⟩ = some (.slice a 0 c))) (by kernel_rfl) ⟨V0.c0, V0.c1⟩ (fun hHeld => ?_)
    obtain ⟨x2, hxd⟩ : ∃ xd, xd = x1.drew := ⟨_, rfl⟩
    rw [← hxd] at V0 h B0 hHeld ⊢
    clear hxd
    refine wpAnyH_take (i := 0) (v := ?_) rfl (by kernel_rfl) (by kernel_rfl) (by kernel_rfl) (fun _ _ _ h => h) (Or.inl ⟨by rfl, ?_⟩) hHeld ?_
    rotate_left
    · (intro W hSw; (try dsimp only at hSw); go_simp; all_goals (with_reducible rfl))
    simp only [List.getElem_toArray, List.getElem_cons_zero, Act.put, List.setIfInBounds_toArray, List.set_cons_zero, List.set_cons_succ]
    refine wpAnyH_ready (rs := [1]) (by kernel_rfl) (by simp) ?_
    refine AllReadyH.cons rfl (fun K hK => ?_) AllReadyH.nil
    simp only [List.getElem_toArray, List.getElem_cons_zero, List.getElem_cons_succ]
    go_simp
    refine (rsmall4_any (-9223372036854775808) (by omega) (by omega) _).mono ?_
    rintro e x3 ⟨s1, a1, l1, k1, y1, rfl, g1, e1, u1, hb⟩
    replace V0 := Va.after hb V0
    replace h := Ir.after hb h
    replace B0 := step B0 hb
    clear hb
    try go_wp2_with fail
    refine hK.out _ _ ⟨V0.c0, V0.c1⟩ (fun hHeld => ?_)
    clear hK K
    refine wpAnyH_ready (rs := [2]) (by kernel_rfl) (by simp) ?_
    refine AllReadyH.cons rfl (fun K hK => ?_) AllReadyH.nil
    simp only [List.getElem_toArray, List.getElem_cons_zero, List.getElem_cons_succ]
    go_simp
    refine (rcmp_any false s1 a a1 0 c l1 k1 zs y1 _ h g1 (by omega) (by omega)).mono ?_
    rintro e x4 ⟨rfl, hb⟩
    replace V0 := Va.after hb V0
    replace h := Ir.after hb h
    replace g1 := Ir.after hb g1
    replace B0 := step B0 hb
    clear hb
    rw [e1]
    obtain ⟨q1, hq1⟩ : ∃ q, cmp3 (iv false zs) (-9223372036854775808) = q := ⟨_, rfl⟩
    have hq0 : 0 ≤ q1 := by rw [← hq1]; exact C1.out
    rw [hq1]
    clear hq1
    try go_wp2_with fail
    refine hK.out _ _ ⟨V0.c0, V0.c1⟩ (fun hHeld => ?_)
    clear hK K
    refine wpAnyH_take (i := 3) (v := .bool false) rfl (by kernel_rfl) (by kernel_rfl) (by kernel_rfl) (fun _ _ _ h => h) (Or.inl ⟨by rfl, ?_⟩) hHeld ?_
    · (intro W hSw; (try dsimp only at hSw); go_simp; all_goals (first | (simp; omega) | omega))
    simp only [List.getElem_toArray, List.getElem_cons_zero, List.getElem_cons_succ, Act.put, List.setIfInBounds_toArray, List.set_cons_zero, List.set_cons_succ]
    refine wpAnyH_take (i := 4) (v := ?_) rfl (by kernel_rfl) (by kernel_rfl) (by kernel_rfl) (fun _ _ _ h => h) (Or.inl ⟨by rfl, ?_⟩) hHeld ?_
    rotate_left
    · (intro W hSw; (try dsimp only at hSw); go_simp; all_goals (with_reducible rfl))
    simp only [List.getElem_toArray, List.getElem_cons_zero, List.getElem_cons_succ, Act.put, List.setIfInBounds_toArray, List.set_cons_zero, List.set_cons_succ]
    refine wpAnyH_take (i := 5) (v := ?_) rfl (by kernel_rfl) (by kernel_rfl) (by kernel_rfl) (fun _ _ _ h => h) (Or.inl ⟨by rfl, ?_⟩) hHeld ?_
    rotate_left
    · (intro W hSw; (try dsimp only at hSw); go_simp; all_goals (with_reducible rfl))
    simp only [List.getElem_toArray, List.getElem_cons_zero, List.getElem_cons_succ, Act.put, List.setIfInBounds_toArray, List.set_cons_zero, List.set_cons_succ]
    refine wpAnyH_ready (rs := [6]) (by kernel_rfl) (by simp) ?_
    refine AllReadyH.cons rfl (fun K hK => ?_) AllReadyH.nil
    simp only [List.getElem_toArray, List.getElem_cons_zero, List.getElem_cons_succ]
    go_simp
    refine (rsmall4_any 9223372036854775807 (by omega) (by omega) _).mono ?_
    rintro e x5 ⟨s2, a2, l2, k2, y2, rfl, g2, e2, u2, hb⟩
    replace V0 := Va.after hb V0
    replace h := Ir.after hb h
    replace g1 := Ir.after hb g1
    replace B0 := step B0 hb
    clear hb
    try go_wp2_with fail
    refine hK.out _ _ ⟨V0.c0, V0.c1⟩ (fun hHeld => ?_)
    clear hK K
    refine wpAnyH_ready (rs := [7]) (by kernel_rfl) (by simp) ?_
    refine AllReadyH.cons rfl (fun K hK => ?_) AllReadyH.nil
    simp only [List.getElem_toArray, List.getElem_cons_zero, List.getElem_cons_succ]
    go_simp
    refine (rcmp_any false s2 a a2 0 c l2 k2 zs y2 _ h g2 (by omega) (by omega)).mono ?_
    rintro e x6 ⟨rfl, hb⟩
    replace V0 := Va.after hb V0
    replace h := Ir.after hb h
    replace g1 := Ir.after hb g1
    replace g2 := Ir.after hb g2
    replace B0 := step B0 hb
    clear hb
    rw [e2]
    obtain ⟨q2, hq2⟩ : ∃ q, cmp3 (iv false zs) 9223372036854775807 = q := ⟨_, rfl⟩
    have hq3 : q2 ≤ 0 := by rw [← hq2]; exact C2.out
    rw [hq2]
    clear hq2
    try go_wp2_with fail
    refine hK.out _ _ ⟨V0.c0, V0.c1⟩ (fun hHeld => ?_)
    clear hK K
    refine wpAnyH_take (i := 8) (v := .bool false) rfl (by kernel_rfl) (by kernel_rfl) (by kernel_rfl) (fun _ _ _ h => h) (Or.inl ⟨by rfl, ?_⟩) hHeld ?_
    · (intro W hSw; (try dsimp only at hSw); go_simp; all_goals (first | (simp; omega) | omega))
    simp only [List.getElem_toArray, List.getElem_cons_zero, List.getElem_cons_succ, Act.put, List.setIfInBounds_toArray, List.set_cons_zero, List.set_cons_succ]
    refine wpAnyH_take (i := 9) (v := ?_) rfl (by kernel_rfl) (by kernel_rfl) (by kernel_rfl) (fun _ _ _ h => h) (Or.inl ⟨by rfl, ?_⟩) hHeld ?_
    rotate_left
    · (intro W hSw; (try dsimp only at hSw); go_simp; all_goals (with_reducible rfl))
    simp only [List.getElem_toArray, List.getElem_cons_zero, List.getElem_cons_succ, Act.put, List.setIfInBounds_toArray, List.set_cons_zero, List.set_cons_succ]
    refine wpAnyH_done (by kernel_rfl) ?_ _
    refine NoPanic.normal ?_
    clear hHeld
    have c_V0 := V0.c0
    have d_V0 := V0.c1
    have f_V0 := V0.frozen 0
    have g_V0 := V0.frozen 1
    have l_V0 := V0.lt
    have m_V0 := Nat.le_of_lt l_V0
    go_wp2_with fail
    go_ret2
    exact ⟨by rw [ev.out]; rfl, B0⟩
  ·
    obtain ⟨x, rfl⟩ : ∃ x, zs = [x] := by
      match zs, hz with
      | [x], _ => exact ⟨x, rfl⟩
    have e0 : num [x] = x := by simp [num]
    rw [e0] at p0 hn
    obtain ⟨bb, off, rfl, -⟩ := h.1.2.2 (by omega)
    have hs2 := hs1
    rw [e0] at hs2
    clear hs1 hu1 hu hz
    have hvt : iv true [x] = -x := by rw [iv_t, e0]
    have hvf : iv false [x] = x := by rw [iv_f, e0]
    cases s
    ·
      rw [hvf] at h1 h2
      have w1 : IntKind.i64.wrap x = x := by rw [IntKind.wrap_i64]; omega
      have ev : Hid (iv false [x] = x) := hvf
      clear hvt hvf e0 hs2 h1 h2
      have B0 : Below w.heap.size w w := Below.refl _ _
      go_enter Try.func8, Try.ntmps8
      go_wp2_with fail
      refine ent1 w _ _ (Q := fun W => Code.wp Try.prog _ _ _ W) ?_
      intro x1 hb hs_x1 V0
      replace h := Ir.after hb h
      replace B0 := step B0 hb
      clear hb hs_x1
      refine wp_region_noPanic ?_
      replace V0 : Va x1.drew _ _ _ := V0
      replace h := h.drw
      replace B0 := Below.drew B0
      refine wp_region_held_drew (S := (fun W => W.cell? ⟨w.heap.size, 0, none⟩ = some (.bool false) ∧ W.cell? ⟨w.heap.size, 1, none⟩ = some (.slice (some ⟨bb, off, none⟩) 1 c))) (by kernel_rfl) ⟨V0.c0, V0.c1⟩ (fun hHeld => ?_)
      obtain ⟨x2, hxd⟩ : ∃ xd, xd = x1.drew := ⟨_, rfl⟩
      rw [← hxd] at V0 h B0 hHeld ⊢
      clear hxd
      refine wpAnyH_take (i := 0) (v := ?_) rfl (by kernel_rfl) (by kernel_rfl) (by kernel_rfl) (fun _ _ _ h => h) (Or.inl ⟨by rfl, ?_⟩) hHeld ?_
      rotate_left
      · (intro W hSw; (try dsimp only at hSw); go_simp; all_goals (with_reducible rfl))
      simp only [List.getElem_toArray, List.getElem_cons_zero, Act.put, List.setIfInBounds_toArray, List.set_cons_zero, List.set_cons_succ]
      refine wpAnyH_ready (rs := [1]) (by kernel_rfl) (by simp) ?_
      refine AllReadyH.cons rfl (fun K hK => ?_) AllReadyH.nil
      simp only [List.getElem_toArray, List.getElem_cons_zero, List.getElem_cons_succ]
      go_simp
      refine (rsmall4_any (-9223372036854775808) (by omega) (by omega) _).mono ?_
      rintro e x3 ⟨s1, a1, l1, k1, y1, rfl, g1, e1, u1, hb⟩
      replace V0 := Va.after hb V0
      replace h := Ir.after hb h
      replace B0 := step B0 hb
      clear hb
      try go_wp2_with fail
      refine hK.out _ _ ⟨V0.c0, V0.c1⟩ (fun hHeld => ?_)
      clear hK K
      refine wpAnyH_ready (rs := [2]) (by kernel_rfl) (by simp) ?_
      refine AllReadyH.cons rfl (fun K hK => ?_) AllReadyH.nil
      simp only [List.getElem_toArray, List.getElem_cons_zero, List.getElem_cons_succ]
      go_simp
      refine (rcmp_any false s1 (some ⟨bb, off, none⟩) a1 1 c l1 k1 [x] y1 _ h g1 (by omega) (by omega)).mono ?_
      rintro e x4 ⟨rfl, hb⟩
      replace V0 := Va.after hb V0
      replace h := Ir.after hb h
      replace g1 := Ir.after hb g1
      replace B0 := step B0 hb
      clear hb
      rw [e1]
      obtain ⟨q1, hq1⟩ : ∃ q, cmp3 (iv false [x]) (-9223372036854775808) = q := ⟨_, rfl⟩
      have hq0 : 0 ≤ q1 := by rw [← hq1]; exact C1.out
      rw [hq1]
      clear hq1
      try go_wp2_with fail
      refine hK.out _ _ ⟨V0.c0, V0.c1⟩ (fun hHeld => ?_)
      clear hK K
      refine wpAnyH_take (i := 3) (v := .bool false) rfl (by kernel_rfl) (by kernel_rfl) (by kernel_rfl) (fun _ _ _ h => h) (Or.inl ⟨by rfl, ?_⟩) hHeld ?_
      · (intro W hSw; (try dsimp only at hSw); go_simp; all_goals (first | (simp; omega) | omega))
      simp only [List.getElem_toArray, List.getElem_cons_zero, List.getElem_cons_succ, Act.put, List.setIfInBounds_toArray, List.set_cons_zero, List.set_cons_succ]
      refine wpAnyH_take (i := 4) (v := ?_) rfl (by kernel_rfl) (by kernel_rfl) (by kernel_rfl) (fun _ _ _ h => h) (Or.inl ⟨by rfl, ?_⟩) hHeld ?_
      rotate_left
      · (intro W hSw; (try dsimp only at hSw); go_simp; all_goals (with_reducible rfl))
      simp only [List.getElem_toArray, List.getElem_cons_zero, List.getElem_cons_succ, Act.put, List.setIfInBounds_toArray, List.set_cons_zero, List.set_cons_succ]
      refine wpAnyH_take (i := 5) (v := ?_) rfl (by kernel_rfl) (by kernel_rfl) (by kernel_rfl) (fun _ _ _ h => h) (Or.inl ⟨by rfl, ?_⟩) hHeld ?_
      rotate_left
      · (intro W hSw; (try dsimp only at hSw); go_simp; all_goals (with_reducible rfl))
      simp only [List.getElem_toArray, List.getElem_cons_zero, List.getElem_cons_succ, Act.put, List.setIfInBounds_toArray, List.set_cons_zero, List.set_cons_succ]
      refine wpAnyH_ready (rs := [6]) (by kernel_rfl) (by simp) ?_
      refine AllReadyH.cons rfl (fun K hK => ?_) AllReadyH.nil
      simp only [List.getElem_toArray, List.getElem_cons_zero, List.getElem_cons_succ]
      go_simp
      refine (rsmall4_any 9223372036854775807 (by omega) (by omega) _).mono ?_
      rintro e x5 ⟨s2, a2, l2, k2, y2, rfl, g2, e2, u2, hb⟩
      replace V0 := Va.after hb V0
      replace h := Ir.after hb h
      replace g1 := Ir.after hb g1
      replace B0 := step B0 hb
      clear hb
      try go_wp2_with fail
      refine hK.out _ _ ⟨V0.c0, V0.c1⟩ (fun hHeld => ?_)
      clear hK K
      refine wpAnyH_ready (rs := [7]) (by kernel_rfl) (by simp) ?_
      refine AllReadyH.cons rfl (fun K hK => ?_) AllReadyH.nil
      simp only [List.getElem_toArray, List.getElem_cons_zero, List.getElem_cons_succ]
      go_simp
      refine (rcmp_any false s2 (some ⟨bb, off, none⟩) a2 1 c l2 k2 [x] y2 _ h g2 (by omega) (by omega)).mono ?_
      rintro e x6 ⟨rfl, hb⟩
      replace V0 := Va.after hb V0
      replace h := Ir.after hb h
      replace g1 := Ir.after hb g1
      replace g2 := Ir.after hb g2
      replace B0 := step B0 hb
      clear hb
      rw [e2]
      obtain ⟨q2, hq2⟩ : ∃ q, cmp3 (iv false [x]) 9223372036854775807 = q := ⟨_, rfl⟩
      have hq3 : q2 ≤ 0 := by rw [← hq2]; exact C2.out
      rw [hq2]
      clear hq2
      try go_wp2_with fail
      refine hK.out _ _ ⟨V0.c0, V0.c1⟩ (fun hHeld => ?_)
      clear hK K
      refine wpAnyH_take (i := 8) (v := .bool false) rfl (by kernel_rfl) (by kernel_rfl) (by kernel_rfl) (fun _ _ _ h => h) (Or.inl ⟨by rfl, ?_⟩) hHeld ?_
      · (intro W hSw; (try dsimp only at hSw); go_simp; all_goals (first | (simp; omega) | omega))
      simp only [List.getElem_toArray, List.getElem_cons_zero, List.getElem_cons_succ, Act.put, List.setIfInBounds_toArray, List.set_cons_zero, List.set_cons_succ]
      refine wpAnyH_take (i := 9) (v := ?_) rfl (by kernel_rfl) (by kernel_rfl) (by kernel_rfl) (fun _ _ _ h => h) (Or.inl ⟨by rfl, ?_⟩) hHeld ?_
      rotate_left
      · (intro W hSw; (try dsimp only at hSw); go_simp; all_goals (with_reducible rfl))
      simp only [List.getElem_toArray, List.getElem_cons_zero, List.getElem_cons_succ, Act.put, List.setIfInBounds_toArray, List.set_cons_zero, List.set_cons_succ]
      refine wpAnyH_done (by kernel_rfl) ?_ _
      refine NoPanic.normal ?_
      clear hHeld
      obtain ⟨b2, o2, ea, hcx'⟩ := h.1.2.2 (by omega)
      cases ea
      have hcx := hcx' 0 (by omega)
      simp only [Nat.add_zero, List.getD_cons_zero] at hcx
      clear hcx'
      have c_V0 := V0.c0
      have d_V0 := V0.c1
      have f_V0 := V0.frozen 0
      have g_V0 := V0.frozen 1
      have l_V0 := V0.lt
      have m_V0 := Nat.le_of_lt l_V0
      go_wp2_with fail
      go_ret2
      exact ⟨by rw [ev.out]; rfl, B0⟩
    ·
      rw [hvt] at h1 h2
      obtain ⟨y, hy⟩ : ∃ y, IntKind.i64.wrap x = y := ⟨_, rfl⟩
      have w2 : IntKind.i64.wrap (-y) = -x := by
        rw [← hy]; rw [IntKind.wrap_i64, IntKind.wrap_i64]; omega
      have ev : Hid (iv true [x] = -x) := hvt
      clear hvt hvf e0 hs2 h1 h2
      have B0 : Below w.heap.size w w := Below.refl _ _
      go_enter Try.func8, Try.ntmps8
      go_wp2_with fail
      refine ent1 w _ _ (Q := fun W => Code.wp Try.prog _ _ _ W) ?_
      intro x1 hb hs_x1 V0
      replace h := Ir.after hb h
      replace B0 := step B0 hb
      clear hb hs_x1
      refine wp_region_noPanic ?_
      replace V0 : Va x1.drew _ _ _ := V0
      replace h := h.drw
      replace B0 := Below.drew B0
      refine wp_region_held_drew (S := (fun W => W.cell? ⟨w.heap.size, 0, none⟩ = some (.bool true) ∧ W.cell? ⟨w.heap.size, 1, none⟩ = some (.slice (some ⟨bb, off, none⟩) 1 c))) (by kernel_rfl) ⟨V0.c0, V0.c1⟩ (fun hHeld => ?_)
      obtain ⟨x2, hxd⟩ : ∃ xd, xd = x1.drew := ⟨_, rfl⟩
      rw [← hxd] at V0 h B0 hHeld ⊢
      clear hxd
      refine wpAnyH_take (i := 0) (v := ?_) rfl (by kernel_rfl) (by kernel_rfl) (by kernel_rfl) (fun _ _ _ h => h) (Or.inl ⟨by rfl, ?_⟩) hHeld ?_
      rotate_left
      · (intro W hSw; (try dsimp only at hSw); go_simp; all_goals (with_reducible rfl))
      simp only [List.getElem_toArray, List.getElem_cons_zero, Act.put, List.setIfInBounds_toArray, List.set_cons_zero, List.set_cons_succ]
      refine wpAnyH_ready (rs := [1]) (by kernel_rfl) (by simp) ?_
      refine AllReadyH.cons rfl (fun K hK => ?_) AllReadyH.nil
      simp only [List.getElem_toArray, List.getElem_cons_zero, List.getElem_cons_succ]
      go_simp
      refine (rsmall4_any (-9223372036854775808) (by omega) (by omega) _).mono ?_
      rintro e x3 ⟨s1, a1, l1, k1, y1, rfl, g1, e1, u1, hb⟩
      replace V0 := Va.after hb V0
      replace h := Ir.after hb h
      replace B0 := step B0 hb
      clear hb
      try go_wp2_with fail
      refine hK.out _ _ ⟨V0.c0, V0.c1⟩ (fun hHeld => ?_)
      clear hK K
      refine wpAnyH_ready (rs := [2]) (by kernel_rfl) (by simp) ?_
      refine AllReadyH.cons rfl (fun K hK => ?_) AllReadyH.nil
      simp only [List.getElem_toArray, List.getElem_cons_zero, List.getElem_cons_succ]
      go_simp
      refine (rcmp_any true s1 (some ⟨bb, off, none⟩) a1 1 c l1 k1 [x] y1 _ h g1 (by omega) (by omega)).mono ?_
      rintro e x4 ⟨rfl, hb⟩
      replace V0 := Va.after hb V0
      replace h := Ir.after hb h
      replace g1 := Ir.after hb g1
      replace B0 := step B0 hb
      clear hb
      rw [e1]
      obtain ⟨q1, hq1⟩ : ∃ q, cmp3 (iv true [x]) (-9223372036854775808) = q := ⟨_, rfl⟩
      have hq0 : 0 ≤ q1 := by rw [← hq1]; exact C1.out
      rw [hq1]
      clear hq1
      try go_wp2_with fail
      refine hK.out _ _ ⟨V0.c0, V0.c1⟩ (fun hHeld => ?_)
      clear hK K
      refine wpAnyH_take (i := 3) (v := .bool false) rfl (by kernel_rfl) (by kernel_rfl) (by kernel_rfl) (fun _ _ _ h => h) (Or.inl ⟨by rfl, ?_⟩) hHeld ?_
      · (intro W hSw; (try dsimp only at hSw); go_simp; all_goals (first | (simp; omega) | omega))
      simp only [List.getElem_toArray, List.getElem_cons_zero, List.getElem_cons_succ, Act.put, List.setIfInBounds_toArray, List.set_cons_zero, List.set_cons_succ]
      refine wpAnyH_take (i := 4) (v := ?_) rfl (by kernel_rfl) (by kernel_rfl) (by kernel_rfl) (fun _ _ _ h => h) (Or.inl ⟨by rfl, ?_⟩) hHeld ?_
      rotate_left
      · (intro W hSw; (try dsimp only at hSw); go_simp; all_goals (with_reducible rfl))
      simp only [List.getElem_toArray, List.getElem_cons_zero, List.getElem_cons_succ, Act.put, List.setIfInBounds_toArray, List.set_cons_zero, List.set_cons_succ]
      refine wpAnyH_take (i := 5) (v := ?_) rfl (by kernel_rfl) (by kernel_rfl) (by kernel_rfl) (fun _ _ _ h => h) (Or.inl ⟨by rfl, ?_⟩) hHeld ?_
      rotate_left
      · (intro W hSw; (try dsimp only at hSw); go_simp; all_goals (with_reducible rfl))
      simp only [List.getElem_toArray, List.getElem_cons_zero, List.getElem_cons_succ, Act.put, List.setIfInBounds_toArray, List.set_cons_zero, List.set_cons_succ]
      refine wpAnyH_ready (rs := [6]) (by kernel_rfl) (by simp) ?_
      refine AllReadyH.cons rfl (fun K hK => ?_) AllReadyH.nil
      simp only [List.getElem_toArray, List.getElem_cons_zero, List.getElem_cons_succ]
      go_simp
      refine (rsmall4_any 9223372036854775807 (by omega) (by omega) _).mono ?_
      rintro e x5 ⟨s2, a2, l2, k2, y2, rfl, g2, e2, u2, hb⟩
      replace V0 := Va.after hb V0
      replace h := Ir.after hb h
      replace g1 := Ir.after hb g1
      replace B0 := step B0 hb
      clear hb
      try go_wp2_with fail
      refine hK.out _ _ ⟨V0.c0, V0.c1⟩ (fun hHeld => ?_)
      clear hK K
      refine wpAnyH_ready (rs := [7]) (by kernel_rfl) (by simp) ?_
      refine AllReadyH.cons rfl (fun K hK => ?_) AllReadyH.nil
      simp only [List.getElem_toArray, List.getElem_cons_zero, List.getElem_cons_succ]
      go_simp
      refine (rcmp_any true s2 (some ⟨bb, off, none⟩) a2 1 c l2 k2 [x] y2 _ h g2 (by omega) (by omega)).mono ?_
      rintro e x6 ⟨rfl, hb⟩
      replace V0 := Va.after hb V0
      replace h := Ir.after hb h
      replace g1 := Ir.after hb g1
      replace g2 := Ir.after hb g2
      replace B0 := step B0 hb
      clear hb
      rw [e2]
      obtain ⟨q2, hq2⟩ : ∃ q, cmp3 (iv true [x]) 9223372036854775807 = q := ⟨_, rfl⟩
      have hq3 : q2 ≤ 0 := by rw [← hq2]; exact C2.out
      rw [hq2]
      clear hq2
      try go_wp2_with fail
      refine hK.out _ _ ⟨V0.c0, V0.c1⟩ (fun hHeld => ?_)
      clear hK K
      refine wpAnyH_take (i := 8) (v := .bool false) rfl (by kernel_rfl) (by kernel_rfl) (by kernel_rfl) (fun _ _ _ h => h) (Or.inl ⟨by rfl, ?_⟩) hHeld ?_
      · (intro W hSw; (try dsimp only at hSw); go_simp; all_goals (first | (simp; omega) | omega))
      simp only [List.getElem_toArray, List.getElem_cons_zero, List.getElem_cons_succ, Act.put, List.setIfInBounds_toArray, List.set_cons_zero, List.set_cons_succ]
      refine wpAnyH_take (i := 9) (v := ?_) rfl (by kernel_rfl) (by kernel_rfl) (by kernel_rfl) (fun _ _ _ h => h) (Or.inl ⟨by rfl, ?_⟩) hHeld ?_
      rotate_left
      · (intro W hSw; (try dsimp only at hSw); go_simp; all_goals (with_reducible rfl))
      simp only [List.getElem_toArray, List.getElem_cons_zero, List.getElem_cons_succ, Act.put, List.setIfInBounds_toArray, List.set_cons_zero, List.set_cons_succ]
      refine wpAnyH_done (by kernel_rfl) ?_ _
      refine NoPanic.normal ?_
      clear hHeld
      obtain ⟨b2, o2, ea, hcx'⟩ := h.1.2.2 (by omega)
      cases ea
      have hcx := hcx' 0 (by omega)
      simp only [Nat.add_zero, List.getD_cons_zero] at hcx
      clear hcx'
      have c_V0 := V0.c0
      have d_V0 := V0.c1
      have f_V0 := V0.frozen 0
      have g_V0 := V0.frozen 1
      have l_V0 := V0.lt
      have m_V0 := Nat.le_of_lt l_V0
      go_wp2_with fail
      go_ret2
      exact ⟨by rw [ev.out]; rfl, B0⟩

theorem rint64_out (s : Bool) (a : Option Addr) (l c : Nat) (zs : List Int) (w : World) (h : Ir w s a l c zs) (hl : l ≤ 10000) (hv : iv s zs < -9223372036854775808 ∨ 9223372036854775807 < iv s zs) :
    Calls Try.prog 8 #[.agg #[.bool s, .slice a l c]] w fun e w' => e = .returned (.tuple #[.int .i64 0, .bool false]) ∧ Below w.heap.size w w' := by
  rcases hv with hv | hv
  · exact rint64_low s a l c zs w h hl hv
  · exact rint64_high s a l c zs w h hl hv
end Go.Proofs.Ytkfpblonjinfmaa
namespace Go.Proofs.Ytkfpblonjinfmaa
open Go.RowKit Go.Shelf
set_option linter.unusedVariables false

theorem iv_turn (s : Bool) (zs : List Int) : iv (!s) zs = - iv s zs := by
  cases s
  · rfl
  · show num zs = - - num zs; omega
set_option maxHeartbeats 16000000 in
set_option maxRecDepth 20000 in
theorem makes4_walk (s0 : Bool) (a0 : Option Addr) (len0 cap0 : Nat) (z0 : List Int) (n : Int) (w : World) (h0 : Sl w a0 len0 z0) (c0 : len0 ≤ cap0) (e0 : a0 = none → len0 = 0 ∧ cap0 = 0) (wn : (Lit.int .i64 n).wf = true) :
    Calls Try.prog 3 #[.agg #[.bool s0, .slice a0 len0 cap0], .int .i64 n] w fun e w' => e = .returned (.bool true) ∧ Below w.heap.size w w' := by
  have hn1 : -9223372036854775808 ≤ n ∧ n ≤ 9223372036854775807 := by
    simp [Lit.wf, IntKind.min, IntKind.max, IntKind.signed, IntKind.bits] at wn
    omega
  obtain ⟨n1, n2⟩ := hn1
  clear wn
  have B0 : Below w.heap.size w w := Below.refl _ _
  go_enter Try.func3, Try.ntmps3
  go_wp2_with fail
  refine ent1 w _ _ (Q := fun W => Calls Try.prog _ _ W _) ?_
  intro x1 hb hs_x1 V0
  replace h0 := h0.below hb (Nat.le_refl _)
  replace B0 := step B0 hb
  clear hb hs_x1
  refine (oflaw4 s0 a0 len0 cap0 z0 x1 h0 e0 c0).mono ?_
  rintro e x2 ⟨sx, ax, lx, kx, zx, au, ku, rfl, hx, hu, ex, hb⟩
  replace V0 := Va.after hb V0
  replace h0 := h0.below hb (Nat.le_refl _)
  replace B0 := step B0 hb
  clear hb
  clear ex
  have lx4 : lx ≤ 4096 := hx.1.2.2.2
  have c_V0 := V0.c0
  have d_V0 := V0.c1
  have f_V0 := V0.frozen 0
  have g_V0 := V0.frozen 1
  have l_V0 := V0.lt
  have m_V0 := Nat.le_of_lt l_V0
  go_wp2_with fail
  refine ent2 x2 _ _ _ _ (Q := fun W => Calls Try.prog _ _ W _) ?_
  intro x3 hb hs_x3 Vx Vu
  replace V0 := Va.after hb V0
  replace hx := It.after hb hx
  replace h0 := h0.below hb (Nat.le_refl _)
  replace hu := Ir.after hb hu
  replace B0 := step B0 hb
  clear hb hs_x3
  clear c_V0 d_V0 f_V0 g_V0 l_V0 m_V0
  clear h0
  clear e0 c0
  by_cases hr : -9223372036854775808 ≤ iv sx zx ∧ iv sx zx ≤ 9223372036854775807
  ·
    obtain ⟨r1, r2⟩ := hr
    refine (rint64_in sx au lx ku zx x3 hu (by omega) r1 r2).mono ?_
    rintro e x4 ⟨rfl, hb⟩
    replace V0 := Va.after hb V0
    replace Vx := Va.after hb Vx
    replace Vu := Va.after hb Vu
    replace hx := It.after hb hx
    replace hu := Ir.after hb hu
    replace B0 := step B0 hb
    clear hb
    obtain ⟨V, hV⟩ : ∃ V, iv sx zx = V := ⟨_, rfl⟩
    rw [hV]
    have c_V0 := V0.c0
    have d_V0 := V0.c1
    have f_V0 := V0.frozen 0
    have g_V0 := V0.frozen 1
    have l_V0 := V0.lt
    have m_V0 := Nat.le_of_lt l_V0
    have c_Vx := Vx.c0
    have d_Vx := Vx.c1
    have f_Vx := Vx.frozen 0
    have g_Vx := Vx.frozen 1
    have l_Vx := Vx.lt
    have m_Vx := Nat.le_of_lt l_Vx
    have c_Vu := Vu.c0
    have d_Vu := Vu.c1
    have f_Vu := Vu.frozen 0
    have g_Vu := Vu.frozen 1
    have l_Vu := Vu.lt
    have m_Vu := Nat.le_of_lt l_Vu
    go_wp2_with fail
    refine (wint64_in sx ax lx kx zx x4 hx r1 r2).mono ?_
    rintro e x5 ⟨rfl, hb⟩
    replace V0 := Va.after hb V0
    replace Vx := Va.after hb Vx
    replace Vu := Va.after hb Vu
    replace hx := It.after hb hx
    replace hu := Ir.after hb hu
    replace B0 := step B0 hb
    clear hb
    rw [hV]
    clear c_V0 d_V0 f_V0 g_V0 l_V0 m_V0 c_Vx d_Vx f_Vx g_Vx l_Vx m_Vx c_Vu d_Vu f_Vu g_Vu l_Vu m_Vu
    have c_V0 := V0.c0
    have d_V0 := V0.c1
    have f_V0 := V0.frozen 0
    have g_V0 := V0.frozen 1
    have l_V0 := V0.lt
    have m_V0 := Nat.le_of_lt l_V0
    have c_Vx := Vx.c0
    have d_Vx := Vx.c1
    have f_Vx := Vx.frozen 0
    have g_Vx := Vx.frozen 1
    have l_Vx := Vx.lt
    have m_Vx := Nat.le_of_lt l_Vx
    have c_Vu := Vu.c0
    have d_Vu := Vu.c1
    have f_Vu := Vu.frozen 0
    have g_Vu := Vu.frozen 1
    have l_Vu := Vu.lt
    have m_Vu := Nat.le_of_lt l_Vu
    go_wp2_with fail
    clear hV r1 r2
    refine (wsmall_any n n1 n2 x5).mono ?_
    rintro e x6 ⟨ss, am, ls, ks, zs, rfl, hs, es, hb⟩
    replace V0 := Va.after hb V0
    replace Vx := Va.after hb Vx
    replace Vu := Va.after hb Vu
    replace hx := It.after hb hx
    replace hu := Ir.after hb hu
    replace B0 := step B0 hb
    clear hb
    clear c_V0 d_V0 f_V0 g_V0 l_V0 m_V0 c_Vx d_Vx f_Vx g_Vx l_Vx m_Vx c_Vu d_Vu f_Vu g_Vu l_Vu m_Vu
    have c_V0 := V0.c0
    have d_V0 := V0.c1
    have f_V0 := V0.frozen 0
    have g_V0 := V0.frozen 1
    have l_V0 := V0.lt
    have m_V0 := Nat.le_of_lt l_V0
    have c_Vx := Vx.c0
    have d_Vx := Vx.c1
    have f_Vx := Vx.frozen 0
    have g_Vx := Vx.frozen 1
    have l_Vx := Vx.lt
    have m_Vx := Nat.le_of_lt l_Vx
    have c_Vu := Vu.c0
    have d_Vu := Vu.c1
    have f_Vu := Vu.frozen 0
    have g_Vu := Vu.frozen 1
    have l_Vu := Vu.lt
    have m_Vu := Nat.le_of_lt l_Vu
    go_wp2_with fail
    refine ent1 x6 _ _ (Q := fun W => Calls Try.prog _ _ W _) ?_
    intro x7 hb hs_x7 Vs
    replace V0 := Va.after hb V0
    replace Vx := Va.after hb Vx
    replace Vu := Va.after hb Vu
    replace hx := It.after hb hx
    replace hs := It.after hb hs
    replace hu := Ir.after hb hu
    replace B0 := step B0 hb
    clear hb hs_x7
    refine (wint64_in ss am ls ks zs x7 hs (by omega) (by omega)).mono ?_
    rintro e x8 ⟨rfl, hb⟩
    replace V0 := Va.after hb V0
    replace Vx := Va.after hb Vx
    replace Vu := Va.after hb Vu
    replace Vs := Va.after hb Vs
    replace hx := It.after hb hx
    replace hs := It.after hb hs
    replace hu := Ir.after hb hu
    replace B0 := step B0 hb
    clear hb
    rw [es]
    clear c_V0 d_V0 f_V0 g_V0 l_V0 m_V0 c_Vx d_Vx f_Vx g_Vx l_Vx m_Vx c_Vu d_Vu f_Vu g_Vu l_Vu m_Vu
    have c_V0 := V0.c0
    have d_V0 := V0.c1
    have f_V0 := V0.frozen 0
    have g_V0 := V0.frozen 1
    have l_V0 := V0.lt
    have m_V0 := Nat.le_of_lt l_V0
    have c_Vx := Vx.c0
    have d_Vx := Vx.c1
    have f_Vx := Vx.frozen 0
    have g_Vx := Vx.frozen 1
    have l_Vx := Vx.lt
    have m_Vx := Nat.le_of_lt l_Vx
    have c_Vu := Vu.c0
    have d_Vu := Vu.c1
    have f_Vu := Vu.frozen 0
    have g_Vu := Vu.frozen 1
    have l_Vu := Vu.lt
    have m_Vu := Nat.le_of_lt l_Vu
    have c_Vs := Vs.c0
    have d_Vs := Vs.c1
    have f_Vs := Vs.frozen 0
    have g_Vs := Vs.frozen 1
    have l_Vs := Vs.lt
    have m_Vs := Nat.le_of_lt l_Vs
    go_wp2_with fail
    clear c_V0 d_V0 f_V0 g_V0 l_V0 m_V0 c_Vx d_Vx f_Vx g_Vx l_Vx m_Vx c_Vu d_Vu f_Vu g_Vu l_Vu m_Vu c_Vs d_Vs f_Vs g_Vs l_Vs m_Vs
    refine wp_region_noPanic ?_
    replace V0 : Va x8.drew _ _ _ := V0
    replace Vx : Va x8.drew _ _ _ := Vx
    replace Vu : Va x8.drew _ _ _ := Vu
    replace Vs : Va x8.drew _ _ _ := Vs
    replace hx : It x8.drew _ _ _ _ _ := hx
    replace hs : It x8.drew _ _ _ _ _ := hs
    replace hu := hu.drw
    replace B0 := Below.drew B0
    refine wp_region_held_drew (S := (fun W => W.cell? ⟨w.heap.size, 0, none⟩ = some (.bool s0) ∧ W.cell? ⟨w.heap.size, 1, none⟩ = some (.slice a0 len0 cap0) ∧ W.cell? ⟨x2.heap.size, 0, none⟩ = some (.bool sx) ∧ W.cell? ⟨x2.heap.size, 1, none⟩ = some (.slice ax lx kx) ∧ W.cell? ⟨x2.heap.size + 1, 0, none⟩ = some (.bool sx) ∧ W.cell? ⟨x2.heap.size + 1, 1, none⟩ = some (.slice au lx ku) ∧ W.cell? ⟨x6.heap.size, 0, none⟩ = some (.bool ss) ∧ W.cell? ⟨x6.heap.size, 1, none⟩ = some (.slice am ls ks))) (by kernel_rfl) ⟨V0.c0, V0.c1, Vx.c0, Vx.c1, Vu.c0, Vu.c1, Vs.c0, Vs.c1⟩ (fun hHeld => ?_)
    obtain ⟨x9, hxd⟩ : ∃ xd, xd = x8.drew := ⟨_, rfl⟩
    rw [← hxd] at V0 Vx Vu Vs hx hs hu B0 hHeld ⊢
    clear hxd
    refine wpAnyH_take (i := 0) (v := ?_) rfl (by kernel_rfl) (by kernel_rfl) (by kernel_rfl) (fun _ _ _ h => h) (Or.inl ⟨by rfl, ?_⟩) hHeld ?_
    rotate_left
    · (intro W hSw; (try dsimp only at hSw); go_simp; all_goals (with_reducible rfl))
    simp only [List.getElem_toArray, List.getElem_cons_zero, Act.put, List.setIfInBounds_toArray, List.set_cons_zero, List.set_cons_succ]
    refine wpAnyH_take (i := 1) (v := ?_) rfl (by kernel_rfl) (by kernel_rfl) (by kernel_rfl) (fun _ _ _ h => h) (Or.inl ⟨by rfl, ?_⟩) hHeld ?_
    rotate_left
    · (intro W hSw; (try dsimp only at hSw); go_simp; all_goals (with_reducible rfl))
    simp only [List.getElem_toArray, List.getElem_cons_zero, List.getElem_cons_succ, Act.put, List.setIfInBounds_toArray, List.set_cons_zero, List.set_cons_succ]
    refine wpAnyH_take (i := 2) (v := ?_) rfl (by kernel_rfl) (by kernel_rfl) (by kernel_rfl) (fun _ _ _ h => h) (Or.inl ⟨by rfl, ?_⟩) hHeld ?_
    rotate_left
    · (intro W hSw; (try dsimp only at hSw); go_simp; all_goals (with_reducible rfl))
    simp only [List.getElem_toArray, List.getElem_cons_zero, List.getElem_cons_succ, Act.put, List.setIfInBounds_toArray, List.set_cons_zero, List.set_cons_succ]
    refine wpAnyH_take (i := 3) (v := ?_) rfl (by kernel_rfl) (by kernel_rfl) (by kernel_rfl) (fun _ _ _ h => h) (Or.inl ⟨by rfl, ?_⟩) hHeld ?_
    rotate_left
    · (intro W hSw; (try dsimp only at hSw); go_simp; all_goals (with_reducible rfl))
    simp only [List.getElem_toArray, List.getElem_cons_zero, List.getElem_cons_succ, Act.put, List.setIfInBounds_toArray, List.set_cons_zero, List.set_cons_succ]
    refine wpAnyH_take (i := 4) (v := ?_) rfl (by kernel_rfl) (by kernel_rfl) (by kernel_rfl) (fun _ _ _ h => h) (Or.inl ⟨by rfl, ?_⟩) hHeld ?_
    rotate_left
    · (intro W hSw; (try dsimp only at hSw); go_simp; all_goals (with_reducible rfl))
    simp only [List.getElem_toArray, List.getElem_cons_zero, List.getElem_cons_succ, Act.put, List.setIfInBounds_toArray, List.set_cons_zero, List.set_cons_succ]
    refine wpAnyH_ready (rs := [5]) (by kernel_rfl) (by simp) ?_
    refine AllReadyH.cons rfl (fun K hK => ?_) AllReadyH.nil
    simp only [List.getElem_toArray, List.getElem_cons_zero, List.getElem_cons_succ]
    go_simp
    refine (is4_ok sx sx ax au lx kx lx ku zx zx _ hx hu rfl).mono ?_
    rintro e x10 ⟨rfl, hb⟩
    replace V0 := Va.after hb V0
    replace Vx := Va.after hb Vx
    replace Vu := Va.after hb Vu
    replace Vs := Va.after hb Vs
    replace hx := It.after hb hx
    replace hs := It.after hb hs
    replace hu := Ir.after hb hu
    replace B0 := step B0 hb
    clear hb
    try go_wp2_with fail
    refine hK.out _ _ ⟨V0.c0, V0.c1, Vx.c0, Vx.c1, Vu.c0, Vu.c1, Vs.c0, Vs.c1⟩ (fun hHeld => ?_)
    clear hK K
    refine wpAnyH_take (i := 6) (v := ?_) rfl (by kernel_rfl) (by kernel_rfl) (by kernel_rfl) (fun _ _ _ h => h) (Or.inl ⟨by rfl, ?_⟩) hHeld ?_
    rotate_left
    · (intro W hSw; (try dsimp only at hSw); go_simp; all_goals (with_reducible rfl))
    simp only [List.getElem_toArray, List.getElem_cons_zero, List.getElem_cons_succ, Act.put, List.setIfInBounds_toArray, List.set_cons_zero, List.set_cons_succ]
    refine wpAnyH_take (i := 7) (v := ?_) rfl (by kernel_rfl) (by kernel_rfl) (by kernel_rfl) (fun _ _ _ h => h) (Or.inl ⟨by rfl, ?_⟩) hHeld ?_
    rotate_left
    · (intro W hSw; (try dsimp only at hSw); go_simp; all_goals (with_reducible rfl))
    simp only [List.getElem_toArray, List.getElem_cons_zero, List.getElem_cons_succ, Act.put, List.setIfInBounds_toArray, List.set_cons_zero, List.set_cons_succ]
    refine wpAnyH_take (i := 8) (v := ?_) rfl (by kernel_rfl) (by kernel_rfl) (by kernel_rfl) (fun _ _ _ h => h) (Or.inl ⟨by rfl, ?_⟩) hHeld ?_
    rotate_left
    · (intro W hSw; (try dsimp only at hSw); go_simp; all_goals (with_reducible rfl))
    simp only [List.getElem_toArray, List.getElem_cons_zero, List.getElem_cons_succ, Act.put, List.setIfInBounds_toArray, List.set_cons_zero, List.set_cons_succ]
    refine wpAnyH_take (i := 9) (v := ?_) rfl (by kernel_rfl) (by kernel_rfl) (by kernel_rfl) (fun _ _ _ h => h) (Or.inl ⟨by rfl, ?_⟩) hHeld ?_
    rotate_left
    · (intro W hSw; (try dsimp only at hSw); go_simp; all_goals (with_reducible rfl))
    simp only [List.getElem_toArray, List.getElem_cons_zero, List.getElem_cons_succ, Act.put, List.setIfInBounds_toArray, List.set_cons_zero, List.set_cons_succ]
    refine wpAnyH_take (i := 11) (v := ?_) rfl (by kernel_rfl) (by kernel_rfl) (by kernel_rfl) (fun _ _ _ h => h) (Or.inl ⟨by rfl, ?_⟩) hHeld ?_
    rotate_left
    · (intro W hSw; (try dsimp only at hSw); go_simp; all_goals (with_reducible rfl))
    simp only [List.getElem_toArray, List.getElem_cons_zero, List.getElem_cons_succ, Act.put, List.setIfInBounds_toArray, List.set_cons_zero, List.set_cons_succ]
    refine wpAnyH_ready (rs := [10]) (by kernel_rfl) (by simp) ?_
    refine AllReadyH.cons rfl (fun K hK => ?_) AllReadyH.nil
    simp only [List.getElem_toArray, List.getElem_cons_zero, List.getElem_cons_succ]
    go_simp
    refine (wneg_any sx ax lx kx zx _ hx).mono ?_
    rintro e x11 ⟨s1, rfl, h1, e1, hb⟩
    replace V0 := Va.after hb V0
    replace Vx := Va.after hb Vx
    replace Vu := Va.after hb Vu
    replace Vs := Va.after hb Vs
    replace hx := It.after hb hx
    replace hs := It.after hb hs
    replace hu := Ir.after hb hu
    replace B0 := step B0 hb
    clear hb
    try go_wp2_with fail
    refine hK.out _ _ ⟨V0.c0, V0.c1, Vx.c0, Vx.c1, Vu.c0, Vu.c1, Vs.c0, Vs.c1⟩ (fun hHeld => ?_)
    clear hK K
    refine wpAnyH_ready (rs := [12]) (by kernel_rfl) (by simp) ?_
    refine AllReadyH.cons rfl (fun K hK => ?_) AllReadyH.nil
    simp only [List.getElem_toArray, List.getElem_cons_zero, List.getElem_cons_succ]
    go_simp
    refine (rneg_any sx au lx ku zx _ hu (by omega)).mono ?_
    rintro e x12 ⟨s2, a2, l2, k2, z2, rfl, h2, e2, l2', hb⟩
    replace V0 := Va.after hb V0
    replace Vx := Va.after hb Vx
    replace Vu := Va.after hb Vu
    replace Vs := Va.after hb Vs
    replace hx := It.after hb hx
    replace hs := It.after hb hs
    replace h1 := It.after hb h1
    replace hu := Ir.after hb hu
    replace B0 := step B0 hb
    clear hb
    try go_wp2_with fail
    refine hK.out _ _ ⟨V0.c0, V0.c1, Vx.c0, Vx.c1, Vu.c0, Vu.c1, Vs.c0, Vs.c1⟩ (fun hHeld => ?_)
    clear hK K
    refine wpAnyH_ready (rs := [13]) (by kernel_rfl) (by simp) ?_
    refine AllReadyH.cons rfl (fun K hK => ?_) AllReadyH.nil
    simp only [List.getElem_toArray, List.getElem_cons_zero, List.getElem_cons_succ]
    go_simp
    refine (is4_ok s1 s2 ax a2 lx kx l2 k2 zx z2 _ h1 h2 (by rw [e1, e2])).mono ?_
    rintro e x13 ⟨rfl, hb⟩
    replace V0 := Va.after hb V0
    replace Vx := Va.after hb Vx
    replace Vu := Va.after hb Vu
    replace Vs := Va.after hb Vs
    replace hx := It.after hb hx
    replace hs := It.after hb hs
    replace h1 := It.after hb h1
    replace hu := Ir.after hb hu
    replace h2 := Ir.after hb h2
    replace B0 := step B0 hb
    clear hb
    try go_wp2_with fail
    refine hK.out _ _ ⟨V0.c0, V0.c1, Vx.c0, Vx.c1, Vu.c0, Vu.c1, Vs.c0, Vs.c1⟩ (fun hHeld => ?_)
    clear hK K
    clear h1 h2
    clear e1 e2 l2'
    refine wpAnyH_take (i := 14) (v := ?_) rfl (by kernel_rfl) (by kernel_rfl) (by kernel_rfl) (fun _ _ _ h => h) (Or.inl ⟨by rfl, ?_⟩) hHeld ?_
    rotate_left
    · (intro W hSw; (try dsimp only at hSw); go_simp; all_goals (with_reducible rfl))
    simp only [List.getElem_toArray, List.getElem_cons_zero, List.getElem_cons_succ, Act.put, List.setIfInBounds_toArray, List.set_cons_zero, List.set_cons_succ]
    refine wpAnyH_take (i := 15) (v := ?_) rfl (by kernel_rfl) (by kernel_rfl) (by kernel_rfl) (fun _ _ _ h => h) (Or.inl ⟨by rfl, ?_⟩) hHeld ?_
    rotate_left
    · (intro W hSw; (try dsimp only at hSw); go_simp; all_goals (with_reducible rfl))
    simp only [List.getElem_toArray, List.getElem_cons_zero, List.getElem_cons_succ, Act.put, List.setIfInBounds_toArray, List.set_cons_zero, List.set_cons_succ]
    refine wpAnyH_take (i := 16) (v := ?_) rfl (by kernel_rfl) (by kernel_rfl) (by kernel_rfl) (fun _ _ _ h => h) (Or.inl ⟨by rfl, ?_⟩) hHeld ?_
    rotate_left
    · (intro W hSw; (try dsimp only at hSw); go_simp; all_goals (with_reducible rfl))
    simp only [List.getElem_toArray, List.getElem_cons_zero, List.getElem_cons_succ, Act.put, List.setIfInBounds_toArray, List.set_cons_zero, List.set_cons_succ]
    refine wpAnyH_take (i := 17) (v := ?_) rfl (by kernel_rfl) (by kernel_rfl) (by kernel_rfl) (fun _ _ _ h => h) (Or.inl ⟨by rfl, ?_⟩) hHeld ?_
    rotate_left
    · (intro W hSw; (try dsimp only at hSw); go_simp; all_goals (with_reducible rfl))
    simp only [List.getElem_toArray, List.getElem_cons_zero, List.getElem_cons_succ, Act.put, List.setIfInBounds_toArray, List.set_cons_zero, List.set_cons_succ]
    refine wpAnyH_take (i := 18) (v := ?_) rfl (by kernel_rfl) (by kernel_rfl) (by kernel_rfl) (fun _ _ _ h => h) (Or.inl ⟨by rfl, ?_⟩) hHeld ?_
    rotate_left
    · (intro W hSw; (try dsimp only at hSw); go_simp; all_goals (with_reducible rfl))
    simp only [List.getElem_toArray, List.getElem_cons_zero, List.getElem_cons_succ, Act.put, List.setIfInBounds_toArray, List.set_cons_zero, List.set_cons_succ]
    refine wpAnyH_take (i := 19) (v := ?_) rfl (by kernel_rfl) (by kernel_rfl) (by kernel_rfl) (fun _ _ _ h => h) (Or.inl ⟨by rfl, ?_⟩) hHeld ?_
    rotate_left
    · (intro W hSw; (try dsimp only at hSw); go_simp; all_goals (with_reducible rfl))
    simp only [List.getElem_toArray, List.getElem_cons_zero, List.getElem_cons_succ, Act.put, List.setIfInBounds_toArray, List.set_cons_zero, List.set_cons_succ]
    refine wpAnyH_take (i := 20) (v := ?_) rfl (by kernel_rfl) (by kernel_rfl) (by kernel_rfl) (fun _ _ _ h => h) (Or.inl ⟨by rfl, ?_⟩) hHeld ?_
    rotate_left
    · (intro W hSw; (try dsimp only at hSw); go_simp; all_goals (with_reducible rfl))
    simp only [List.getElem_toArray, List.getElem_cons_zero, List.getElem_cons_succ, Act.put, List.setIfInBounds_toArray, List.set_cons_zero, List.set_cons_succ]
    refine wpAnyH_take (i := 21) (v := ?_) rfl (by kernel_rfl) (by kernel_rfl) (by kernel_rfl) (fun _ _ _ h => h) (Or.inl ⟨by rfl, ?_⟩) hHeld ?_
    rotate_left
    · (intro W hSw; (try dsimp only at hSw); go_simp; all_goals (with_reducible rfl))
    simp only [List.getElem_toArray, List.getElem_cons_zero, List.getElem_cons_succ, Act.put, List.setIfInBounds_toArray, List.set_cons_zero, List.set_cons_succ]
    refine wpAnyH_take (i := 22) (v := ?_) rfl (by kernel_rfl) (by kernel_rfl) (by kernel_rfl) (fun _ _ _ h => h) (Or.inl ⟨by rfl, ?_⟩) hHeld ?_
    rotate_left
    · (intro W hSw; (try dsimp only at hSw); go_simp; all_goals (with_reducible rfl))
    simp only [List.getElem_toArray, List.getElem_cons_zero, List.getElem_cons_succ, Act.put, List.setIfInBounds_toArray, List.set_cons_zero, List.set_cons_succ]
    refine wpAnyH_take (i := 23) (v := ?_) rfl (by kernel_rfl) (by kernel_rfl) (by kernel_rfl) (fun _ _ _ h => h) (Or.inl ⟨by rfl, ?_⟩) hHeld ?_
    rotate_left
    · (intro W hSw; (try dsimp only at hSw); go_simp; all_goals (with_reducible rfl))
    simp only [List.getElem_toArray, List.getElem_cons_zero, List.getElem_cons_succ, Act.put, List.setIfInBounds_toArray, List.set_cons_zero, List.set_cons_succ]
    refine wpAnyH_take (i := 24) (v := ?_) rfl (by kernel_rfl) (by kernel_rfl) (by kernel_rfl) (fun _ _ _ h => h) (Or.inl ⟨by rfl, ?_⟩) hHeld ?_
    rotate_left
    · (intro W hSw; (try dsimp only at hSw); go_simp; all_goals (with_reducible rfl))
    simp only [List.getElem_toArray, List.getElem_cons_zero, List.getElem_cons_succ, Act.put, List.setIfInBounds_toArray, List.set_cons_zero, List.set_cons_succ]
    refine wpAnyH_take (i := 25) (v := ?_) rfl (by kernel_rfl) (by kernel_rfl) (by kernel_rfl) (fun _ _ _ h => h) (Or.inl ⟨by rfl, ?_⟩) hHeld ?_
    rotate_left
    · (intro W hSw; (try dsimp only at hSw); go_simp; all_goals (with_reducible rfl))
    simp only [List.getElem_toArray, List.getElem_cons_zero, List.getElem_cons_succ, Act.put, List.setIfInBounds_toArray, List.set_cons_zero, List.set_cons_succ]
    refine wpAnyH_take (i := 26) (v := ?_) rfl (by kernel_rfl) (by kernel_rfl) (by kernel_rfl) (fun _ _ _ h => h) (Or.inl ⟨by rfl, ?_⟩) hHeld ?_
    rotate_left
    · (intro W hSw; (try dsimp only at hSw); go_simp; all_goals (with_reducible rfl))
    simp only [List.getElem_toArray, List.getElem_cons_zero, List.getElem_cons_succ, Act.put, List.setIfInBounds_toArray, List.set_cons_zero, List.set_cons_succ]
    refine wpAnyH_take (i := 27) (v := ?_) rfl (by kernel_rfl) (by kernel_rfl) (by kernel_rfl) (fun _ _ _ h => h) (Or.inl ⟨by rfl, ?_⟩) hHeld ?_
    rotate_left
    · (intro W hSw; (try dsimp only at hSw); go_simp; all_goals (with_reducible rfl))
    simp only [List.getElem_toArray, List.getElem_cons_zero, List.getElem_cons_succ, Act.put, List.setIfInBounds_toArray, List.set_cons_zero, List.set_cons_succ]
    refine wpAnyH_take (i := 28) (v := ?_) rfl (by kernel_rfl) (by kernel_rfl) (by kernel_rfl) (fun _ _ _ h => h) (Or.inl ⟨by rfl, ?_⟩) hHeld ?_
    rotate_left
    · (intro W hSw; (try dsimp only at hSw); go_simp; all_goals (with_reducible rfl))
    simp only [List.getElem_toArray, List.getElem_cons_zero, List.getElem_cons_succ, Act.put, List.setIfInBounds_toArray, List.set_cons_zero, List.set_cons_succ]
    refine wpAnyH_take (i := 29) (v := ?_) rfl (by kernel_rfl) (by kernel_rfl) (by kernel_rfl) (fun _ _ _ h => h) (Or.inl ⟨by rfl, ?_⟩) hHeld ?_
    rotate_left
    · (intro W hSw; (try dsimp only at hSw); go_simp; all_goals (with_reducible rfl))
    simp only [List.getElem_toArray, List.getElem_cons_zero, List.getElem_cons_succ, Act.put, List.setIfInBounds_toArray, List.set_cons_zero, List.set_cons_succ]
    refine wpAnyH_take (i := 30) (v := ?_) rfl (by kernel_rfl) (by kernel_rfl) (by kernel_rfl) (fun _ _ _ h => h) (Or.inl ⟨by rfl, ?_⟩) hHeld ?_
    rotate_left
    · (intro W hSw; (try dsimp only at hSw); go_simp; all_goals (with_reducible rfl))
    simp only [List.getElem_toArray, List.getElem_cons_zero, List.getElem_cons_succ, Act.put, List.setIfInBounds_toArray, List.set_cons_zero, List.set_cons_succ]
    refine wpAnyH_take (i := 31) (v := undef) rfl (by kernel_rfl) (by kernel_rfl) (by kernel_rfl) (fun _ _ _ h => h) (Or.inr ⟨by rfl, rfl⟩) hHeld ?_
    simp only [List.getElem_toArray, List.getElem_cons_zero, List.getElem_cons_succ, Act.put, List.setIfInBounds_toArray, List.set_cons_zero, List.set_cons_succ]
    refine wpAnyH_take (i := 32) (v := undef) rfl (by kernel_rfl) (by kernel_rfl) (by kernel_rfl) (fun _ _ _ h => h) (Or.inr ⟨by rfl, rfl⟩) hHeld ?_
    simp only [List.getElem_toArray, List.getElem_cons_zero, List.getElem_cons_succ, Act.put, List.setIfInBounds_toArray, List.set_cons_zero, List.set_cons_succ]
    refine wpAnyH_take (i := 33) (v := ?_) rfl (by kernel_rfl) (by kernel_rfl) (by kernel_rfl) (fun _ _ _ h => h) (Or.inl ⟨by rfl, ?_⟩) hHeld ?_
    rotate_left
    · (intro W hSw; (try dsimp only at hSw); go_simp; all_goals (with_reducible rfl))
    simp only [List.getElem_toArray, List.getElem_cons_zero, List.getElem_cons_succ, Act.put, List.setIfInBounds_toArray, List.set_cons_zero, List.set_cons_succ]
    refine wpAnyH_take (i := 34) (v := ?_) rfl (by kernel_rfl) (by kernel_rfl) (by kernel_rfl) (fun _ _ _ h => h) (Or.inl ⟨by rfl, ?_⟩) hHeld ?_
    rotate_left
    · (intro W hSw; (try dsimp only at hSw); go_simp; all_goals (with_reducible rfl))
    simp only [List.getElem_toArray, List.getElem_cons_zero, List.getElem_cons_succ, Act.put, List.setIfInBounds_toArray, List.set_cons_zero, List.set_cons_succ]
    refine wpAnyH_done (by kernel_rfl) ?_ _
    refine NoPanic.normal ?_
    clear hHeld
    go_wp2_with fail
    refine wp_region_noPanic ?_
    replace V0 : Va x13.drew _ _ _ := V0
    replace Vx : Va x13.drew _ _ _ := Vx
    replace Vu : Va x13.drew _ _ _ := Vu
    replace Vs : Va x13.drew _ _ _ := Vs
    replace hx : It x13.drew _ _ _ _ _ := hx
    replace hs : It x13.drew _ _ _ _ _ := hs
    replace hu := hu.drw
    replace B0 := Below.drew B0
    refine wp_region_held_drew (S := (fun W => W.cell? ⟨w.heap.size, 0, none⟩ = some (.bool s0) ∧ W.cell? ⟨w.heap.size, 1, none⟩ = some (.slice a0 len0 cap0) ∧ W.cell? ⟨x2.heap.size, 0, none⟩ = some (.bool sx) ∧ W.cell? ⟨x2.heap.size, 1, none⟩ = some (.slice ax lx kx) ∧ W.cell? ⟨x2.heap.size + 1, 0, none⟩ = some (.bool sx) ∧ W.cell? ⟨x2.heap.size + 1, 1, none⟩ = some (.slice au lx ku) ∧ W.cell? ⟨x6.heap.size, 0, none⟩ = some (.bool ss) ∧ W.cell? ⟨x6.heap.size, 1, none⟩ = some (.slice am ls ks))) (by kernel_rfl) ⟨V0.c0, V0.c1, Vx.c0, Vx.c1, Vu.c0, Vu.c1, Vs.c0, Vs.c1⟩ (fun hHeld => ?_)
    obtain ⟨x14, hxd⟩ : ∃ xd, xd = x13.drew := ⟨_, rfl⟩
    rw [← hxd] at V0 Vx Vu Vs hx hs hu B0 hHeld ⊢
    clear hxd
    refine wpAnyH_take (i := 0) (v := ?_) rfl (by kernel_rfl) (by kernel_rfl) (by kernel_rfl) (fun _ _ _ h => h) (Or.inl ⟨by rfl, ?_⟩) hHeld ?_
    rotate_left
    · (intro W hSw; (try dsimp only at hSw); go_simp; all_goals (with_reducible rfl))
    simp only [List.getElem_toArray, List.getElem_cons_zero, Act.put, List.setIfInBounds_toArray, List.set_cons_zero, List.set_cons_succ]
    refine wpAnyH_take (i := 1) (v := ?_) rfl (by kernel_rfl) (by kernel_rfl) (by kernel_rfl) (fun _ _ _ h => h) (Or.inl ⟨by rfl, ?_⟩) hHeld ?_
    rotate_left
    · (intro W hSw; (try dsimp only at hSw); go_simp; all_goals (with_reducible rfl))
    simp only [List.getElem_toArray, List.getElem_cons_zero, List.getElem_cons_succ, Act.put, List.setIfInBounds_toArray, List.set_cons_zero, List.set_cons_succ]
    refine wpAnyH_ready (rs := [2]) (by kernel_rfl) (by simp) ?_
    refine AllReadyH.cons rfl (fun K hK => ?_) AllReadyH.nil
    simp only [List.getElem_toArray, List.getElem_cons_zero, List.getElem_cons_succ]
    go_simp
    refine (rsmall4_any n n1 n2 _).mono ?_
    rintro e x15 ⟨s3, a3, l3, k3, z3, rfl, h3, e3, l3', hb⟩
    replace V0 := Va.after hb V0
    replace Vx := Va.after hb Vx
    replace Vu := Va.after hb Vu
    replace Vs := Va.after hb Vs
    replace hx := It.after hb hx
    replace hs := It.after hb hs
    replace hu := Ir.after hb hu
    replace B0 := step B0 hb
    clear hb
    try go_wp2_with fail
    refine hK.out _ _ ⟨V0.c0, V0.c1, Vx.c0, Vx.c1, Vu.c0, Vu.c1, Vs.c0, Vs.c1⟩ (fun hHeld => ?_)
    clear hK K
    refine wpAnyH_ready (rs := [3]) (by kernel_rfl) (by simp) ?_
    refine AllReadyH.cons rfl (fun K hK => ?_) AllReadyH.nil
    simp only [List.getElem_toArray, List.getElem_cons_zero, List.getElem_cons_succ]
    go_simp
    refine (is4_ok ss s3 am a3 ls ks l3 k3 zs z3 _ hs h3 (by rw [e3, es])).mono ?_
    rintro e x16 ⟨rfl, hb⟩
    replace V0 := Va.after hb V0
    replace Vx := Va.after hb Vx
    replace Vu := Va.after hb Vu
    replace Vs := Va.after hb Vs
    replace hx := It.after hb hx
    replace hs := It.after hb hs
    replace hu := Ir.after hb hu
    replace h3 := Ir.after hb h3
    replace B0 := step B0 hb
    clear hb
    try go_wp2_with fail
    refine hK.out _ _ ⟨V0.c0, V0.c1, Vx.c0, Vx.c1, Vu.c0, Vu.c1, Vs.c0, Vs.c1⟩ (fun hHeld => ?_)
    clear hK K
    clear h3
    clear e3 l3'
    refine wpAnyH_take (i := 4) (v := ?_) rfl (by kernel_rfl) (by kernel_rfl) (by kernel_rfl) (fun _ _ _ h => h) (Or.inl ⟨by rfl, ?_⟩) hHeld ?_
    rotate_left
    · (intro W hSw; (try dsimp only at hSw); go_simp; all_goals (with_reducible rfl))
    simp only [List.getElem_toArray, List.getElem_cons_zero, List.getElem_cons_succ, Act.put, List.setIfInBounds_toArray, List.set_cons_zero, List.set_cons_succ]
    refine wpAnyH_take (i := 5) (v := ?_) rfl (by kernel_rfl) (by kernel_rfl) (by kernel_rfl) (fun _ _ _ h => h) (Or.inl ⟨by rfl, ?_⟩) hHeld ?_
    rotate_left
    · (intro W hSw; (try dsimp only at hSw); go_simp; all_goals (with_reducible rfl))
    simp only [List.getElem_toArray, List.getElem_cons_zero, List.getElem_cons_succ, Act.put, List.setIfInBounds_toArray, List.set_cons_zero, List.set_cons_succ]
    refine wpAnyH_take (i := 6) (v := ?_) rfl (by kernel_rfl) (by kernel_rfl) (by kernel_rfl) (fun _ _ _ h => h) (Or.inl ⟨by rfl, ?_⟩) hHeld ?_
    rotate_left
    · (intro W hSw; (try dsimp only at hSw); go_simp; all_goals (with_reducible rfl))
    simp only [List.getElem_toArray, List.getElem_cons_zero, List.getElem_cons_succ, Act.put, List.setIfInBounds_toArray, List.set_cons_zero, List.set_cons_succ]
    refine wpAnyH_take (i := 7) (v := ?_) rfl (by kernel_rfl) (by kernel_rfl) (by kernel_rfl) (fun _ _ _ h => h) (Or.inl ⟨by rfl, ?_⟩) hHeld ?_
    rotate_left
    · (intro W hSw; (try dsimp only at hSw); go_simp; all_goals (with_reducible rfl))
    simp only [List.getElem_toArray, List.getElem_cons_zero, List.getElem_cons_succ, Act.put, List.setIfInBounds_toArray, List.set_cons_zero, List.set_cons_succ]
    refine wpAnyH_take (i := 8) (v := ?_) rfl (by kernel_rfl) (by kernel_rfl) (by kernel_rfl) (fun _ _ _ h => h) (Or.inl ⟨by rfl, ?_⟩) hHeld ?_
    rotate_left
    · (intro W hSw; (try dsimp only at hSw); go_simp; all_goals (with_reducible rfl))
    simp only [List.getElem_toArray, List.getElem_cons_zero, List.getElem_cons_succ, Act.put, List.setIfInBounds_toArray, List.set_cons_zero, List.set_cons_succ]
    refine wpAnyH_take (i := 9) (v := ?_) rfl (by kernel_rfl) (by kernel_rfl) (by kernel_rfl) (fun _ _ _ h => h) (Or.inl ⟨by rfl, ?_⟩) hHeld ?_
    rotate_left
    · (intro W hSw; (try dsimp only at hSw); go_simp; all_goals (with_reducible rfl))
    simp only [List.getElem_toArray, List.getElem_cons_zero, List.getElem_cons_succ, Act.put, List.setIfInBounds_toArray, List.set_cons_zero, List.set_cons_succ]
    refine wpAnyH_take (i := 10) (v := ?_) rfl (by kernel_rfl) (by kernel_rfl) (by kernel_rfl) (fun _ _ _ h => h) (Or.inl ⟨by rfl, ?_⟩) hHeld ?_
    rotate_left
    · (intro W hSw; (try dsimp only at hSw); go_simp; all_goals (with_reducible rfl))
    simp only [List.getElem_toArray, List.getElem_cons_zero, List.getElem_cons_succ, Act.put, List.setIfInBounds_toArray, List.set_cons_zero, List.set_cons_succ]
    refine wpAnyH_take (i := 11) (v := ?_) rfl (by kernel_rfl) (by kernel_rfl) (by kernel_rfl) (fun _ _ _ h => h) (Or.inl ⟨by rfl, ?_⟩) hHeld ?_
    rotate_left
    · (intro W hSw; (try dsimp only at hSw); go_simp; all_goals (with_reducible rfl))
    simp only [List.getElem_toArray, List.getElem_cons_zero, List.getElem_cons_succ, Act.put, List.setIfInBounds_toArray, List.set_cons_zero, List.set_cons_succ]
    refine wpAnyH_take (i := 12) (v := ?_) rfl (by kernel_rfl) (by kernel_rfl) (by kernel_rfl) (fun _ _ _ h => h) (Or.inl ⟨by rfl, ?_⟩) hHeld ?_
    rotate_left
    · (intro W hSw; (try dsimp only at hSw); go_simp; all_goals (with_reducible rfl))
    simp only [List.getElem_toArray, List.getElem_cons_zero, List.getElem_cons_succ, Act.put, List.setIfInBounds_toArray, List.set_cons_zero, List.set_cons_succ]
    refine wpAnyH_take (i := 13) (v := ?_) rfl (by kernel_rfl) (by kernel_rfl) (by kernel_rfl) (fun _ _ _ h => h) (Or.inl ⟨by rfl, ?_⟩) hHeld ?_
    rotate_left
    · (intro W hSw; (try dsimp only at hSw); go_simp; all_goals (with_reducible rfl))
    simp only [List.getElem_toArray, List.getElem_cons_zero, List.getElem_cons_succ, Act.put, List.setIfInBounds_toArray, List.set_cons_zero, List.set_cons_succ]
    refine wpAnyH_take (i := 14) (v := ?_) rfl (by kernel_rfl) (by kernel_rfl) (by kernel_rfl) (fun _ _ _ h => h) (Or.inl ⟨by rfl, ?_⟩) hHeld ?_
    rotate_left
    · (intro W hSw; (try dsimp only at hSw); go_simp; all_goals (with_reducible rfl))
    simp only [List.getElem_toArray, List.getElem_cons_zero, List.getElem_cons_succ, Act.put, List.setIfInBounds_toArray, List.set_cons_zero, List.set_cons_succ]
    refine wpAnyH_take (i := 15) (v := ?_) rfl (by kernel_rfl) (by kernel_rfl) (by kernel_rfl) (fun _ _ _ h => h) (Or.inl ⟨by rfl, ?_⟩) hHeld ?_
    rotate_left
    · (intro W hSw; (try dsimp only at hSw); go_simp; all_goals (with_reducible rfl))
    simp only [List.getElem_toArray, List.getElem_cons_zero, List.getElem_cons_succ, Act.put, List.setIfInBounds_toArray, List.set_cons_zero, List.set_cons_succ]
    refine wpAnyH_take (i := 16) (v := ?_) rfl (by kernel_rfl) (by kernel_rfl) (by kernel_rfl) (fun _ _ _ h => h) (Or.inl ⟨by rfl, ?_⟩) hHeld ?_
    rotate_left
    · (intro W hSw; (try dsimp only at hSw); go_simp; all_goals (with_reducible rfl))
    simp only [List.getElem_toArray, List.getElem_cons_zero, List.getElem_cons_succ, Act.put, List.setIfInBounds_toArray, List.set_cons_zero, List.set_cons_succ]
    refine wpAnyH_take (i := 17) (v := ?_) rfl (by kernel_rfl) (by kernel_rfl) (by kernel_rfl) (fun _ _ _ h => h) (Or.inl ⟨by rfl, ?_⟩) hHeld ?_
    rotate_left
    · (intro W hSw; (try dsimp only at hSw); go_simp; all_goals (with_reducible rfl))
    simp only [List.getElem_toArray, List.getElem_cons_zero, List.getElem_cons_succ, Act.put, List.setIfInBounds_toArray, List.set_cons_zero, List.set_cons_succ]
    refine wpAnyH_take (i := 20) (v := ?_) rfl (by kernel_rfl) (by kernel_rfl) (by kernel_rfl) (fun _ _ _ h => h) (Or.inl ⟨by rfl, ?_⟩) hHeld ?_
    rotate_left
    · (intro W hSw; (try dsimp only at hSw); go_simp; all_goals (with_reducible rfl))
    simp only [List.getElem_toArray, List.getElem_cons_zero, List.getElem_cons_succ, Act.put, List.setIfInBounds_toArray, List.set_cons_zero, List.set_cons_succ]
    refine wpAnyH_take (i := 21) (v := ?_) rfl (by kernel_rfl) (by kernel_rfl) (by kernel_rfl) (fun _ _ _ h => h) (Or.inl ⟨by rfl, ?_⟩) hHeld ?_
    rotate_left
    · (intro W hSw; (try dsimp only at hSw); go_simp; all_goals (with_reducible rfl))
    simp only [List.getElem_toArray, List.getElem_cons_zero, List.getElem_cons_succ, Act.put, List.setIfInBounds_toArray, List.set_cons_zero, List.set_cons_succ]
    refine wpAnyH_take (i := 22) (v := ?_) rfl (by kernel_rfl) (by kernel_rfl) (by kernel_rfl) (fun _ _ _ h => h) (Or.inl ⟨by rfl, ?_⟩) hHeld ?_
    rotate_left
    · (intro W hSw; (try dsimp only at hSw); go_simp; all_goals (with_reducible rfl))
    simp only [List.getElem_toArray, List.getElem_cons_zero, List.getElem_cons_succ, Act.put, List.setIfInBounds_toArray, List.set_cons_zero, List.set_cons_succ]
    refine wpAnyH_take (i := 23) (v := ?_) rfl (by kernel_rfl) (by kernel_rfl) (by kernel_rfl) (fun _ _ _ h => h) (Or.inl ⟨by rfl, ?_⟩) hHeld ?_
    rotate_left
    · (intro W hSw; (try dsimp only at hSw); go_simp; all_goals (with_reducible rfl))
    simp only [List.getElem_toArray, List.getElem_cons_zero, List.getElem_cons_succ, Act.put, List.setIfInBounds_toArray, List.set_cons_zero, List.set_cons_succ]
    refine wpAnyH_ready (rs := [18]) (by kernel_rfl) (by simp) ?_
    refine AllReadyH.cons rfl (fun K hK => ?_) AllReadyH.nil
    simp only [List.getElem_toArray, List.getElem_cons_zero, List.getElem_cons_succ]
    go_simp
    refine (wabs_any sx ax lx kx _).mono ?_
    rintro e x17 ⟨rfl, hb⟩
    replace V0 := Va.after hb V0
    replace Vx := Va.after hb Vx
    replace Vu := Va.after hb Vu
    replace Vs := Va.after hb Vs
    replace hx := It.after hb hx
    replace hs := It.after hb hs
    replace hu := Ir.after hb hu
    replace B0 := step B0 hb
    clear hb
    try go_wp2_with fail
    refine hK.out _ _ ⟨V0.c0, V0.c1, Vx.c0, Vx.c1, Vu.c0, Vu.c1, Vs.c0, Vs.c1⟩ (fun hHeld => ?_)
    clear hK K
    refine wpAnyH_ready (rs := [19]) (by kernel_rfl) (by simp) ?_
    refine AllReadyH.cons rfl (fun K hK => ?_) AllReadyH.nil
    simp only [List.getElem_toArray, List.getElem_cons_zero, List.getElem_cons_succ]
    go_simp
    refine (wnew_any (!s0) ax lx kx zx _ hx.1).mono ?_
    rintro e x18 ⟨s4, rfl, h4, e4, hb⟩
    replace V0 := Va.after hb V0
    replace Vx := Va.after hb Vx
    replace Vu := Va.after hb Vu
    replace Vs := Va.after hb Vs
    replace hx := It.after hb hx
    replace hs := It.after hb hs
    replace hu := Ir.after hb hu
    replace B0 := step B0 hb
    clear hb
    try go_wp2_with fail
    refine hK.out _ _ ⟨V0.c0, V0.c1, Vx.c0, Vx.c1, Vu.c0, Vu.c1, Vs.c0, Vs.c1⟩ (fun hHeld => ?_)
    clear hK K
    refine wpAnyH_ready (rs := [24]) (by kernel_rfl) (by simp) ?_
    refine AllReadyH.cons rfl (fun K hK => ?_) AllReadyH.nil
    simp only [List.getElem_toArray, List.getElem_cons_zero, List.getElem_cons_succ]
    go_simp
    refine (rnew_any s0 au lx ku zx _ hu.1 hu.2.2.1 (by omega)).mono ?_
    rintro e x19 ⟨s5, a5, l5, k5, z5, rfl, h5, n5, e5, l5', hb⟩
    replace V0 := Va.after hb V0
    replace Vx := Va.after hb Vx
    replace Vu := Va.after hb Vu
    replace Vs := Va.after hb Vs
    replace hx := It.after hb hx
    replace hs := It.after hb hs
    replace h4 := It.after hb h4
    replace hu := Ir.after hb hu
    replace B0 := step B0 hb
    clear hb
    try go_wp2_with fail
    refine hK.out _ _ ⟨V0.c0, V0.c1, Vx.c0, Vx.c1, Vu.c0, Vu.c1, Vs.c0, Vs.c1⟩ (fun hHeld => ?_)
    clear hK K
    refine wpAnyH_ready (rs := [25]) (by kernel_rfl) (by simp) ?_
    refine AllReadyH.cons rfl (fun K hK => ?_) AllReadyH.nil
    simp only [List.getElem_toArray, List.getElem_cons_zero, List.getElem_cons_succ]
    go_simp
    refine (rneg_any s5 a5 l5 k5 z5 _ h5 (by omega)).mono ?_
    rintro e x20 ⟨s6, a6, l6, k6, z6, rfl, h6, e6, l6', hb⟩
    replace V0 := Va.after hb V0
    replace Vx := Va.after hb Vx
    replace Vu := Va.after hb Vu
    replace Vs := Va.after hb Vs
    replace hx := It.after hb hx
    replace hs := It.after hb hs
    replace h4 := It.after hb h4
    replace hu := Ir.after hb hu
    replace h5 := Ir.after hb h5
    replace B0 := step B0 hb
    clear hb
    try go_wp2_with fail
    refine hK.out _ _ ⟨V0.c0, V0.c1, Vx.c0, Vx.c1, Vu.c0, Vu.c1, Vs.c0, Vs.c1⟩ (fun hHeld => ?_)
    clear hK K
    refine wpAnyH_ready (rs := [26]) (by kernel_rfl) (by simp) ?_
    refine AllReadyH.cons rfl (fun K hK => ?_) AllReadyH.nil
    simp only [List.getElem_toArray, List.getElem_cons_zero, List.getElem_cons_succ]
    go_simp
    refine (is4_ok s4 s6 ax a6 lx kx l6 k6 zx z6 _ h4 h6 (by rw [e6, e5, e4, iv_turn])).mono ?_
    rintro e x21 ⟨rfl, hb⟩
    replace V0 := Va.after hb V0
    replace Vx := Va.after hb Vx
    replace Vu := Va.after hb Vu
    replace Vs := Va.after hb Vs
    replace hx := It.after hb hx
    replace hs := It.after hb hs
    replace h4 := It.after hb h4
    replace hu := Ir.after hb hu
    replace h5 := Ir.after hb h5
    replace h6 := Ir.after hb h6
    replace B0 := step B0 hb
    clear hb
    try go_wp2_with fail
    refine hK.out _ _ ⟨V0.c0, V0.c1, Vx.c0, Vx.c1, Vu.c0, Vu.c1, Vs.c0, Vs.c1⟩ (fun hHeld => ?_)
    clear hK K
    refine wpAnyH_take (i := 27) (v := ?_) rfl (by kernel_rfl) (by kernel_rfl) (by kernel_rfl) (fun _ _ _ h => h) (Or.inl ⟨by rfl, ?_⟩) hHeld ?_
    rotate_left
    · (intro W hSw; (try dsimp only at hSw); go_simp; all_goals (with_reducible rfl))
    simp only [List.getElem_toArray, List.getElem_cons_zero, List.getElem_cons_succ, Act.put, List.setIfInBounds_toArray, List.set_cons_zero, List.set_cons_succ]
    refine wpAnyH_take (i := 28) (v := ?_) rfl (by kernel_rfl) (by kernel_rfl) (by kernel_rfl) (fun _ _ _ h => h) (Or.inl ⟨by rfl, ?_⟩) hHeld ?_
    rotate_left
    · (intro W hSw; (try dsimp only at hSw); go_simp; all_goals (with_reducible rfl))
    simp only [List.getElem_toArray, List.getElem_cons_zero, List.getElem_cons_succ, Act.put, List.setIfInBounds_toArray, List.set_cons_zero, List.set_cons_succ]
    refine wpAnyH_take (i := 29) (v := ?_) rfl (by kernel_rfl) (by kernel_rfl) (by kernel_rfl) (fun _ _ _ h => h) (Or.inl ⟨by rfl, ?_⟩) hHeld ?_
    rotate_left
    · (intro W hSw; (try dsimp only at hSw); go_simp; all_goals (with_reducible rfl))
    simp only [List.getElem_toArray, List.getElem_cons_zero, List.getElem_cons_succ, Act.put, List.setIfInBounds_toArray, List.set_cons_zero, List.set_cons_succ]
    refine wpAnyH_ready (rs := [30]) (by kernel_rfl) (by simp) ?_
    refine AllReadyH.cons rfl (fun K hK => ?_) AllReadyH.nil
    simp only [List.getElem_toArray, List.getElem_cons_zero, List.getElem_cons_succ]
    go_simp
    refine (wsign_any false none 0 0 [] _ (It.nil _)).mono ?_
    rintro e x22 ⟨rfl, hb⟩
    replace V0 := Va.after hb V0
    replace Vx := Va.after hb Vx
    replace Vu := Va.after hb Vu
    replace Vs := Va.after hb Vs
    replace hx := It.after hb hx
    replace hs := It.after hb hs
    replace h4 := It.after hb h4
    replace hu := Ir.after hb hu
    replace h5 := Ir.after hb h5
    replace h6 := Ir.after hb h6
    replace B0 := step B0 hb
    clear hb
    rw [iv_nil, Int.sign_zero]
    try go_wp2_with fail
    refine hK.out _ _ ⟨V0.c0, V0.c1, Vx.c0, Vx.c1, Vu.c0, Vu.c1, Vs.c0, Vs.c1⟩ (fun hHeld => ?_)
    clear hK K
    refine wpAnyH_take (i := 31) (v := ?_) rfl (by kernel_rfl) (by kernel_rfl) (by kernel_rfl) (fun _ _ _ h => h) (Or.inl ⟨by rfl, ?_⟩) hHeld ?_
    rotate_left
    · (intro W hSw; (try dsimp only at hSw); go_simp; all_goals (with_reducible rfl))
    simp only [List.getElem_toArray, List.getElem_cons_zero, List.getElem_cons_succ, Act.put, List.setIfInBounds_toArray, List.set_cons_zero, List.set_cons_succ]
    refine wpAnyH_take (i := 32) (v := ?_) rfl (by kernel_rfl) (by kernel_rfl) (by kernel_rfl) (fun _ _ _ h => h) (Or.inl ⟨by rfl, ?_⟩) hHeld ?_
    rotate_left
    · (intro W hSw; (try dsimp only at hSw); go_simp; all_goals (with_reducible rfl))
    simp only [List.getElem_toArray, List.getElem_cons_zero, List.getElem_cons_succ, Act.put, List.setIfInBounds_toArray, List.set_cons_zero, List.set_cons_succ]
    refine wpAnyH_take (i := 33) (v := ?_) rfl (by kernel_rfl) (by kernel_rfl) (by kernel_rfl) (fun _ _ _ h => h) (Or.inl ⟨by rfl, ?_⟩) hHeld ?_
    rotate_left
    · (intro W hSw; (try dsimp only at hSw); go_simp; all_goals (with_reducible rfl))
    simp only [List.getElem_toArray, List.getElem_cons_zero, List.getElem_cons_succ, Act.put, List.setIfInBounds_toArray, List.set_cons_zero, List.set_cons_succ]
    refine wpAnyH_done (by kernel_rfl) ?_ _
    refine NoPanic.normal ?_
    clear hHeld
    go_wp2_with fail
    go_ret
    exact ⟨rfl, B0⟩
  ·
    have hr2 : iv sx zx < -9223372036854775808 ∨ 9223372036854775807 < iv sx zx := by omega
    clear hr
    refine (rint64_out sx au lx ku zx x3 hu (by omega) hr2).mono ?_
    rintro e x4 ⟨rfl, hb⟩
    replace V0 := Va.after hb V0
    replace Vx := Va.after hb Vx
    replace Vu := Va.after hb Vu
    replace hx := It.after hb hx
    replace hu := Ir.after hb hu
    replace B0 := step B0 hb
    clear hb
    have c_V0 := V0.c0
    have d_V0 := V0.c1
    have f_V0 := V0.frozen 0
    have g_V0 := V0.frozen 1
    have l_V0 := V0.lt
    have m_V0 := Nat.le_of_lt l_V0
    have c_Vx := Vx.c0
    have d_Vx := Vx.c1
    have f_Vx := Vx.frozen 0
    have g_Vx := Vx.frozen 1
    have l_Vx := Vx.lt
    have m_Vx := Nat.le_of_lt l_Vx
    have c_Vu := Vu.c0
    have d_Vu := Vu.c1
    have f_Vu := Vu.frozen 0
    have g_Vu := Vu.frozen 1
    have l_Vu := Vu.lt
    have m_Vu := Nat.le_of_lt l_Vu
    go_wp2_with fail
    refine (wint64_out sx ax lx kx zx x4 hx hr2).mono ?_
    rintro e x5 ⟨rfl, hb⟩
    replace V0 := Va.after hb V0
    replace Vx := Va.after hb Vx
    replace Vu := Va.after hb Vu
    replace hx := It.after hb hx
    replace hu := Ir.after hb hu
    replace B0 := step B0 hb
    clear hb
    clear c_V0 d_V0 f_V0 g_V0 l_V0 m_V0 c_Vx d_Vx f_Vx g_Vx l_Vx m_Vx c_Vu d_Vu f_Vu g_Vu l_Vu m_Vu
    have c_V0 := V0.c0
    have d_V0 := V0.c1
    have f_V0 := V0.frozen 0
    have g_V0 := V0.frozen 1
    have l_V0 := V0.lt
    have m_V0 := Nat.le_of_lt l_V0
    have c_Vx := Vx.c0
    have d_Vx := Vx.c1
    have f_Vx := Vx.frozen 0
    have g_Vx := Vx.frozen 1
    have l_Vx := Vx.lt
    have m_Vx := Nat.le_of_lt l_Vx
    have c_Vu := Vu.c0
    have d_Vu := Vu.c1
    have f_Vu := Vu.frozen 0
    have g_Vu := Vu.frozen 1
    have l_Vu := Vu.lt
    have m_Vu := Nat.le_of_lt l_Vu
    go_wp2_with fail
    clear hr2
    refine (wsmall_any n n1 n2 x5).mono ?_
    rintro e x6 ⟨ss, am, ls, ks, zs, rfl, hs, es, hb⟩
    replace V0 := Va.after hb V0
    replace Vx := Va.after hb Vx
    replace Vu := Va.after hb Vu
    replace hx := It.after hb hx
    replace hu := Ir.after hb hu
    replace B0 := step B0 hb
    clear hb
    clear c_V0 d_V0 f_V0 g_V0 l_V0 m_V0 c_Vx d_Vx f_Vx g_Vx l_Vx m_Vx c_Vu d_Vu f_Vu g_Vu l_Vu m_Vu
    have c_V0 := V0.c0
    have d_V0 := V0.c1
    have f_V0 := V0.frozen 0
    have g_V0 := V0.frozen 1
    have l_V0 := V0.lt
    have m_V0 := Nat.le_of_lt l_V0
    have c_Vx := Vx.c0
    have d_Vx := Vx.c1
    have f_Vx := Vx.frozen 0
    have g_Vx := Vx.frozen 1
    have l_Vx := Vx.lt
    have m_Vx := Nat.le_of_lt l_Vx
    have c_Vu := Vu.c0
    have d_Vu := Vu.c1
    have f_Vu := Vu.frozen 0
    have g_Vu := Vu.frozen 1
    have l_Vu := Vu.lt
    have m_Vu := Nat.le_of_lt l_Vu
    go_wp2_with fail
    refine ent1 x6 _ _ (Q := fun W => Calls Try.prog _ _ W _) ?_
    intro x7 hb hs_x7 Vs
    replace V0 := Va.after hb V0
    replace Vx := Va.after hb Vx
    replace Vu := Va.after hb Vu
    replace hx := It.after hb hx
    replace hs := It.after hb hs
    replace hu := Ir.after hb hu
    replace B0 := step B0 hb
    clear hb hs_x7
    refine (wint64_in ss am ls ks zs x7 hs (by omega) (by omega)).mono ?_
    rintro e x8 ⟨rfl, hb⟩
    replace V0 := Va.after hb V0
    replace Vx := Va.after hb Vx
    replace Vu := Va.after hb Vu
    replace Vs := Va.after hb Vs
    replace hx := It.after hb hx
    replace hs := It.after hb hs
    replace hu := Ir.after hb hu
    replace B0 := step B0 hb
    clear hb
    rw [es]
    clear c_V0 d_V0 f_V0 g_V0 l_V0 m_V0 c_Vx d_Vx f_Vx g_Vx l_Vx m_Vx c_Vu d_Vu f_Vu g_Vu l_Vu m_Vu
    have c_V0 := V0.c0
    have d_V0 := V0.c1
    have f_V0 := V0.frozen 0
    have g_V0 := V0.frozen 1
    have l_V0 := V0.lt
    have m_V0 := Nat.le_of_lt l_V0
    have c_Vx := Vx.c0
    have d_Vx := Vx.c1
    have f_Vx := Vx.frozen 0
    have g_Vx := Vx.frozen 1
    have l_Vx := Vx.lt
    have m_Vx := Nat.le_of_lt l_Vx
    have c_Vu := Vu.c0
    have d_Vu := Vu.c1
    have f_Vu := Vu.frozen 0
    have g_Vu := Vu.frozen 1
    have l_Vu := Vu.lt
    have m_Vu := Nat.le_of_lt l_Vu
    have c_Vs := Vs.c0
    have d_Vs := Vs.c1
    have f_Vs := Vs.frozen 0
    have g_Vs := Vs.frozen 1
    have l_Vs := Vs.lt
    have m_Vs := Nat.le_of_lt l_Vs
    go_wp2_with fail
    clear c_V0 d_V0 f_V0 g_V0 l_V0 m_V0 c_Vx d_Vx f_Vx g_Vx l_Vx m_Vx c_Vu d_Vu f_Vu g_Vu l_Vu m_Vu c_Vs d_Vs f_Vs g_Vs l_Vs m_Vs
    refine wp_region_noPanic ?_
    replace V0 : Va x8.drew _ _ _ := V0
    replace Vx : Va x8.drew _ _ _ := Vx
    replace Vu : Va x8.drew _ _ _ := Vu
    replace Vs : Va x8.drew _ _ _ := Vs
    replace hx : It x8.drew _ _ _ _ _ := hx
    replace hs : It x8.drew _ _ _ _ _ := hs
    replace hu := hu.drw
    replace B0 := Below.drew B0
    refine wp_region_held_drew (S := (fun W => W.cell? ⟨w.heap.size, 0, none⟩ = some (.bool s0) ∧ W.cell? ⟨w.heap.size, 1, none⟩ = some (.slice a0 len0 cap0) ∧ W.cell? ⟨x2.heap.size, 0, none⟩ = some (.bool sx) ∧ W.cell? ⟨x2.heap.size, 1, none⟩ = some (.slice ax lx kx) ∧ W.cell? ⟨x2.heap.size + 1, 0, none⟩ = some (.bool sx) ∧ W.cell? ⟨x2.heap.size + 1, 1, none⟩ = some (.slice au lx ku) ∧ W.cell? ⟨x6.heap.size, 0, none⟩ = some (.bool ss) ∧ W.cell? ⟨x6.heap.size, 1, none⟩ = some (.slice am ls ks))) (by kernel_rfl) ⟨V0.c0, V0.c1, Vx.c0, Vx.c1, Vu.c0, Vu.c1, Vs.c0, Vs.c1⟩ (fun hHeld => ?_)
    obtain ⟨x9, hxd⟩ : ∃ xd, xd = x8.drew := ⟨_, rfl⟩
    rw [← hxd] at V0 Vx Vu Vs hx hs hu B0 hHeld ⊢
    clear hxd
    refine wpAnyH_take (i := 0) (v := ?_) rfl (by kernel_rfl) (by kernel_rfl) (by kernel_rfl) (fun _ _ _ h => h) (Or.inl ⟨by rfl, ?_⟩) hHeld ?_
    rotate_left
    · (intro W hSw; (try dsimp only at hSw); go_simp; all_goals (with_reducible rfl))
    simp only [List.getElem_toArray, List.getElem_cons_zero, Act.put, List.setIfInBounds_toArray, List.set_cons_zero, List.set_cons_succ]
    refine wpAnyH_take (i := 1) (v := ?_) rfl (by kernel_rfl) (by kernel_rfl) (by kernel_rfl) (fun _ _ _ h => h) (Or.inl ⟨by rfl, ?_⟩) hHeld ?_
    rotate_left
    · (intro W hSw; (try dsimp only at hSw); go_simp; all_goals (with_reducible rfl))
    simp only [List.getElem_toArray, List.getElem_cons_zero, List.getElem_cons_succ, Act.put, List.setIfInBounds_toArray, List.set_cons_zero, List.set_cons_succ]
    refine wpAnyH_take (i := 2) (v := ?_) rfl (by kernel_rfl) (by kernel_rfl) (by kernel_rfl) (fun _ _ _ h => h) (Or.inl ⟨by rfl, ?_⟩) hHeld ?_
    rotate_left
    · (intro W hSw; (try dsimp only at hSw); go_simp; all_goals (with_reducible rfl))
    simp only [List.getElem_toArray, List.getElem_cons_zero, List.getElem_cons_succ, Act.put, List.setIfInBounds_toArray, List.set_cons_zero, List.set_cons_succ]
    refine wpAnyH_take (i := 3) (v := ?_) rfl (by kernel_rfl) (by kernel_rfl) (by kernel_rfl) (fun _ _ _ h => h) (Or.inl ⟨by rfl, ?_⟩) hHeld ?_
    rotate_left
    · (intro W hSw; (try dsimp only at hSw); go_simp; all_goals (with_reducible rfl))
    simp only [List.getElem_toArray, List.getElem_cons_zero, List.getElem_cons_succ, Act.put, List.setIfInBounds_toArray, List.set_cons_zero, List.set_cons_succ]
    refine wpAnyH_take (i := 4) (v := ?_) rfl (by kernel_rfl) (by kernel_rfl) (by kernel_rfl) (fun _ _ _ h => h) (Or.inl ⟨by rfl, ?_⟩) hHeld ?_
    rotate_left
    · (intro W hSw; (try dsimp only at hSw); go_simp; all_goals (with_reducible rfl))
    simp only [List.getElem_toArray, List.getElem_cons_zero, List.getElem_cons_succ, Act.put, List.setIfInBounds_toArray, List.set_cons_zero, List.set_cons_succ]
    refine wpAnyH_ready (rs := [5]) (by kernel_rfl) (by simp) ?_
    refine AllReadyH.cons rfl (fun K hK => ?_) AllReadyH.nil
    simp only [List.getElem_toArray, List.getElem_cons_zero, List.getElem_cons_succ]
    go_simp
    refine (is4_ok sx sx ax au lx kx lx ku zx zx _ hx hu rfl).mono ?_
    rintro e x10 ⟨rfl, hb⟩
    replace V0 := Va.after hb V0
    replace Vx := Va.after hb Vx
    replace Vu := Va.after hb Vu
    replace Vs := Va.after hb Vs
    replace hx := It.after hb hx
    replace hs := It.after hb hs
    replace hu := Ir.after hb hu
    replace B0 := step B0 hb
    clear hb
    try go_wp2_with fail
    refine hK.out _ _ ⟨V0.c0, V0.c1, Vx.c0, Vx.c1, Vu.c0, Vu.c1, Vs.c0, Vs.c1⟩ (fun hHeld => ?_)
    clear hK K
    refine wpAnyH_take (i := 6) (v := ?_) rfl (by kernel_rfl) (by kernel_rfl) (by kernel_rfl) (fun _ _ _ h => h) (Or.inl ⟨by rfl, ?_⟩) hHeld ?_
    rotate_left
    · (intro W hSw; (try dsimp only at hSw); go_simp; all_goals (with_reducible rfl))
    simp only [List.getElem_toArray, List.getElem_cons_zero, List.getElem_cons_succ, Act.put, List.setIfInBounds_toArray, List.set_cons_zero, List.set_cons_succ]
    refine wpAnyH_take (i := 7) (v := ?_) rfl (by kernel_rfl) (by kernel_rfl) (by kernel_rfl) (fun _ _ _ h => h) (Or.inl ⟨by rfl, ?_⟩) hHeld ?_
    rotate_left
    · (intro W hSw; (try dsimp only at hSw); go_simp; all_goals (with_reducible rfl))
    simp only [List.getElem_toArray, List.getElem_cons_zero, List.getElem_cons_succ, Act.put, List.setIfInBounds_toArray, List.set_cons_zero, List.set_cons_succ]
    refine wpAnyH_take (i := 8) (v := ?_) rfl (by kernel_rfl) (by kernel_rfl) (by kernel_rfl) (fun _ _ _ h => h) (Or.inl ⟨by rfl, ?_⟩) hHeld ?_
    rotate_left
    · (intro W hSw; (try dsimp only at hSw); go_simp; all_goals (with_reducible rfl))
    simp only [List.getElem_toArray, List.getElem_cons_zero, List.getElem_cons_succ, Act.put, List.setIfInBounds_toArray, List.set_cons_zero, List.set_cons_succ]
    refine wpAnyH_take (i := 9) (v := ?_) rfl (by kernel_rfl) (by kernel_rfl) (by kernel_rfl) (fun _ _ _ h => h) (Or.inl ⟨by rfl, ?_⟩) hHeld ?_
    rotate_left
    · (intro W hSw; (try dsimp only at hSw); go_simp; all_goals (with_reducible rfl))
    simp only [List.getElem_toArray, List.getElem_cons_zero, List.getElem_cons_succ, Act.put, List.setIfInBounds_toArray, List.set_cons_zero, List.set_cons_succ]
    refine wpAnyH_take (i := 11) (v := ?_) rfl (by kernel_rfl) (by kernel_rfl) (by kernel_rfl) (fun _ _ _ h => h) (Or.inl ⟨by rfl, ?_⟩) hHeld ?_
    rotate_left
    · (intro W hSw; (try dsimp only at hSw); go_simp; all_goals (with_reducible rfl))
    simp only [List.getElem_toArray, List.getElem_cons_zero, List.getElem_cons_succ, Act.put, List.setIfInBounds_toArray, List.set_cons_zero, List.set_cons_succ]
    refine wpAnyH_ready (rs := [10]) (by kernel_rfl) (by simp) ?_
    refine AllReadyH.cons rfl (fun K hK => ?_) AllReadyH.nil
    simp only [List.getElem_toArray, List.getElem_cons_zero, List.getElem_cons_succ]
    go_simp
    refine (wneg_any sx ax lx kx zx _ hx).mono ?_
    rintro e x11 ⟨s1, rfl, h1, e1, hb⟩
    replace V0 := Va.after hb V0
    replace Vx := Va.after hb Vx
    replace Vu := Va.after hb Vu
    replace Vs := Va.after hb Vs
    replace hx := It.after hb hx
    replace hs := It.after hb hs
    replace hu := Ir.after hb hu
    replace B0 := step B0 hb
    clear hb
    try go_wp2_with fail
    refine hK.out _ _ ⟨V0.c0, V0.c1, Vx.c0, Vx.c1, Vu.c0, Vu.c1, Vs.c0, Vs.c1⟩ (fun hHeld => ?_)
    clear hK K
    refine wpAnyH_ready (rs := [12]) (by kernel_rfl) (by simp) ?_
    refine AllReadyH.cons rfl (fun K hK => ?_) AllReadyH.nil
    simp only [List.getElem_toArray, List.getElem_cons_zero, List.getElem_cons_succ]
    go_simp
    refine (rneg_any sx au lx ku zx _ hu (by omega)).mono ?_
    rintro e x12 ⟨s2, a2, l2, k2, z2, rfl, h2, e2, l2', hb⟩
    replace V0 := Va.after hb V0
    replace Vx := Va.after hb Vx
    replace Vu := Va.after hb Vu
    replace Vs := Va.after hb Vs
    replace hx := It.after hb hx
    replace hs := It.after hb hs
    replace h1 := It.after hb h1
    replace hu := Ir.after hb hu
    replace B0 := step B0 hb
    clear hb
    try go_wp2_with fail
    refine hK.out _ _ ⟨V0.c0, V0.c1, Vx.c0, Vx.c1, Vu.c0, Vu.c1, Vs.c0, Vs.c1⟩ (fun hHeld => ?_)
    clear hK K
    refine wpAnyH_ready (rs := [13]) (by kernel_rfl) (by simp) ?_
    refine AllReadyH.cons rfl (fun K hK => ?_) AllReadyH.nil
    simp only [List.getElem_toArray, List.getElem_cons_zero, List.getElem_cons_succ]
    go_simp
    refine (is4_ok s1 s2 ax a2 lx kx l2 k2 zx z2 _ h1 h2 (by rw [e1, e2])).mono ?_
    rintro e x13 ⟨rfl, hb⟩
    replace V0 := Va.after hb V0
    replace Vx := Va.after hb Vx
    replace Vu := Va.after hb Vu
    replace Vs := Va.after hb Vs
    replace hx := It.after hb hx
    replace hs := It.after hb hs
    replace h1 := It.after hb h1
    replace hu := Ir.after hb hu
    replace h2 := Ir.after hb h2
    replace B0 := step B0 hb
    clear hb
    try go_wp2_with fail
    refine hK.out _ _ ⟨V0.c0, V0.c1, Vx.c0, Vx.c1, Vu.c0, Vu.c1, Vs.c0, Vs.c1⟩ (fun hHeld => ?_)
    clear hK K
    clear h1 h2
    clear e1 e2 l2'
    refine wpAnyH_take (i := 14) (v := ?_) rfl (by kernel_rfl) (by kernel_rfl) (by kernel_rfl) (fun _ _ _ h => h) (Or.inl ⟨by rfl, ?_⟩) hHeld ?_
    rotate_left
    · (intro W hSw; (try dsimp only at hSw); go_simp; all_goals (with_reducible rfl))
    simp only [List.getElem_toArray, List.getElem_cons_zero, List.getElem_cons_succ, Act.put, List.setIfInBounds_toArray, List.set_cons_zero, List.set_cons_succ]
    refine wpAnyH_take (i := 15) (v := ?_) rfl (by kernel_rfl) (by kernel_rfl) (by kernel_rfl) (fun _ _ _ h => h) (Or.inl ⟨by rfl, ?_⟩) hHeld ?_
    rotate_left
    · (intro W hSw; (try dsimp only at hSw); go_simp; all_goals (with_reducible rfl))
    simp only [List.getElem_toArray, List.getElem_cons_zero, List.getElem_cons_succ, Act.put, List.setIfInBounds_toArray, List.set_cons_zero, List.set_cons_succ]
    refine wpAnyH_take (i := 16) (v := ?_) rfl (by kernel_rfl) (by kernel_rfl) (by kernel_rfl) (fun _ _ _ h => h) (Or.inl ⟨by rfl, ?_⟩) hHeld ?_
    rotate_left
    · (intro W hSw; (try dsimp only at hSw); go_simp; all_goals (with_reducible rfl))
    simp only [List.getElem_toArray, List.getElem_cons_zero, List.getElem_cons_succ, Act.put, List.setIfInBounds_toArray, List.set_cons_zero, List.set_cons_succ]
    refine wpAnyH_take (i := 17) (v := ?_) rfl (by kernel_rfl) (by kernel_rfl) (by kernel_rfl) (fun _ _ _ h => h) (Or.inl ⟨by rfl, ?_⟩) hHeld ?_
    rotate_left
    · (intro W hSw; (try dsimp only at hSw); go_simp; all_goals (with_reducible rfl))
    simp only [List.getElem_toArray, List.getElem_cons_zero, List.getElem_cons_succ, Act.put, List.setIfInBounds_toArray, List.set_cons_zero, List.set_cons_succ]
    refine wpAnyH_take (i := 18) (v := ?_) rfl (by kernel_rfl) (by kernel_rfl) (by kernel_rfl) (fun _ _ _ h => h) (Or.inl ⟨by rfl, ?_⟩) hHeld ?_
    rotate_left
    · (intro W hSw; (try dsimp only at hSw); go_simp; all_goals (with_reducible rfl))
    simp only [List.getElem_toArray, List.getElem_cons_zero, List.getElem_cons_succ, Act.put, List.setIfInBounds_toArray, List.set_cons_zero, List.set_cons_succ]
    refine wpAnyH_take (i := 19) (v := ?_) rfl (by kernel_rfl) (by kernel_rfl) (by kernel_rfl) (fun _ _ _ h => h) (Or.inl ⟨by rfl, ?_⟩) hHeld ?_
    rotate_left
    · (intro W hSw; (try dsimp only at hSw); go_simp; all_goals (with_reducible rfl))
    simp only [List.getElem_toArray, List.getElem_cons_zero, List.getElem_cons_succ, Act.put, List.setIfInBounds_toArray, List.set_cons_zero, List.set_cons_succ]
    refine wpAnyH_take (i := 20) (v := ?_) rfl (by kernel_rfl) (by kernel_rfl) (by kernel_rfl) (fun _ _ _ h => h) (Or.inl ⟨by rfl, ?_⟩) hHeld ?_
    rotate_left
    · (intro W hSw; (try dsimp only at hSw); go_simp; all_goals (with_reducible rfl))
    simp only [List.getElem_toArray, List.getElem_cons_zero, List.getElem_cons_succ, Act.put, List.setIfInBounds_toArray, List.set_cons_zero, List.set_cons_succ]
    refine wpAnyH_take (i := 21) (v := ?_) rfl (by kernel_rfl) (by kernel_rfl) (by kernel_rfl) (fun _ _ _ h => h) (Or.inl ⟨by rfl, ?_⟩) hHeld ?_
    rotate_left
    · (intro W hSw; (try dsimp only at hSw); go_simp; all_goals (with_reducible rfl))
    simp only [List.getElem_toArray, List.getElem_cons_zero, List.getElem_cons_succ, Act.put, List.setIfInBounds_toArray, List.set_cons_zero, List.set_cons_succ]
    refine wpAnyH_take (i := 22) (v := ?_) rfl (by kernel_rfl) (by kernel_rfl) (by kernel_rfl) (fun _ _ _ h => h) (Or.inl ⟨by rfl, ?_⟩) hHeld ?_
    rotate_left
    · (intro W hSw; (try dsimp only at hSw); go_simp; all_goals (with_reducible rfl))
    simp only [List.getElem_toArray, List.getElem_cons_zero, List.getElem_cons_succ, Act.put, List.setIfInBounds_toArray, List.set_cons_zero, List.set_cons_succ]
    refine wpAnyH_take (i := 23) (v := ?_) rfl (by kernel_rfl) (by kernel_rfl) (by kernel_rfl) (fun _ _ _ h => h) (Or.inl ⟨by rfl, ?_⟩) hHeld ?_
    rotate_left
    · (intro W hSw; (try dsimp only at hSw); go_simp; all_goals (with_reducible rfl))
    simp only [List.getElem_toArray, List.getElem_cons_zero, List.getElem_cons_succ, Act.put, List.setIfInBounds_toArray, List.set_cons_zero, List.set_cons_succ]
    refine wpAnyH_take (i := 24) (v := ?_) rfl (by kernel_rfl) (by kernel_rfl) (by kernel_rfl) (fun _ _ _ h => h) (Or.inl ⟨by rfl, ?_⟩) hHeld ?_
    rotate_left
    · (intro W hSw; (try dsimp only at hSw); go_simp; all_goals (with_reducible rfl))
    simp only [List.getElem_toArray, List.getElem_cons_zero, List.getElem_cons_succ, Act.put, List.setIfInBounds_toArray, List.set_cons_zero, List.set_cons_succ]
    refine wpAnyH_take (i := 25) (v := ?_) rfl (by kernel_rfl) (by kernel_rfl) (by kernel_rfl) (fun _ _ _ h => h) (Or.inl ⟨by rfl, ?_⟩) hHeld ?_
    rotate_left
    · (intro W hSw; (try dsimp only at hSw); go_simp; all_goals (with_reducible rfl))
    simp only [List.getElem_toArray, List.getElem_cons_zero, List.getElem_cons_succ, Act.put, List.setIfInBounds_toArray, List.set_cons_zero, List.set_cons_succ]
    refine wpAnyH_take (i := 26) (v := ?_) rfl (by kernel_rfl) (by kernel_rfl) (by kernel_rfl) (fun _ _ _ h => h) (Or.inl ⟨by rfl, ?_⟩) hHeld ?_
    rotate_left
    · (intro W hSw; (try dsimp only at hSw); go_simp; all_goals (with_reducible rfl))
    simp only [List.getElem_toArray, List.getElem_cons_zero, List.getElem_cons_succ, Act.put, List.setIfInBounds_toArray, List.set_cons_zero, List.set_cons_succ]
    refine wpAnyH_take (i := 27) (v := ?_) rfl (by kernel_rfl) (by kernel_rfl) (by kernel_rfl) (fun _ _ _ h => h) (Or.inl ⟨by rfl, ?_⟩) hHeld ?_
    rotate_left
    · (intro W hSw; (try dsimp only at hSw); go_simp; all_goals (with_reducible rfl))
    simp only [List.getElem_toArray, List.getElem_cons_zero, List.getElem_cons_succ, Act.put, List.setIfInBounds_toArray, List.set_cons_zero, List.set_cons_succ]
    refine wpAnyH_take (i := 28) (v := ?_) rfl (by kernel_rfl) (by kernel_rfl) (by kernel_rfl) (fun _ _ _ h => h) (Or.inl ⟨by rfl, ?_⟩) hHeld ?_
    rotate_left
    · (intro W hSw; (try dsimp only at hSw); go_simp; all_goals (with_reducible rfl))
    simp only [List.getElem_toArray, List.getElem_cons_zero, List.getElem_cons_succ, Act.put, List.setIfInBounds_toArray, List.set_cons_zero, List.set_cons_succ]
    refine wpAnyH_take (i := 29) (v := ?_) rfl (by kernel_rfl) (by kernel_rfl) (by kernel_rfl) (fun _ _ _ h => h) (Or.inl ⟨by rfl, ?_⟩) hHeld ?_
    rotate_left
    · (intro W hSw; (try dsimp only at hSw); go_simp; all_goals (with_reducible rfl))
    simp only [List.getElem_toArray, List.getElem_cons_zero, List.getElem_cons_succ, Act.put, List.setIfInBounds_toArray, List.set_cons_zero, List.set_cons_succ]
    refine wpAnyH_take (i := 30) (v := ?_) rfl (by kernel_rfl) (by kernel_rfl) (by kernel_rfl) (fun _ _ _ h => h) (Or.inl ⟨by rfl, ?_⟩) hHeld ?_
    rotate_left
    · (intro W hSw; (try dsimp only at hSw); go_simp; all_goals (with_reducible rfl))
    simp only [List.getElem_toArray, List.getElem_cons_zero, List.getElem_cons_succ, Act.put, List.setIfInBounds_toArray, List.set_cons_zero, List.set_cons_succ]
    refine wpAnyH_take (i := 31) (v := ?_) rfl (by kernel_rfl) (by kernel_rfl) (by kernel_rfl) (fun _ _ _ h => h) (Or.inl ⟨by rfl, ?_⟩) hHeld ?_
    rotate_left
    · (intro W hSw; (try dsimp only at hSw); go_simp; all_goals (with_reducible rfl))
    simp only [List.getElem_toArray, List.getElem_cons_zero, List.getElem_cons_succ, Act.put, List.setIfInBounds_toArray, List.set_cons_zero, List.set_cons_succ]
    refine wpAnyH_take (i := 32) (v := ?_) rfl (by kernel_rfl) (by kernel_rfl) (by kernel_rfl) (fun _ _ _ h => h) (Or.inl ⟨by rfl, ?_⟩) hHeld ?_
    rotate_left
    · (intro W hSw; (try dsimp only at hSw); go_simp; all_goals (with_reducible rfl))
    simp only [List.getElem_toArray, List.getElem_cons_zero, List.getElem_cons_succ, Act.put, List.setIfInBounds_toArray, List.set_cons_zero, List.set_cons_succ]
    refine wpAnyH_take (i := 33) (v := ?_) rfl (by kernel_rfl) (by kernel_rfl) (by kernel_rfl) (fun _ _ _ h => h) (Or.inl ⟨by rfl, ?_⟩) hHeld ?_
    rotate_left
    · (intro W hSw; (try dsimp only at hSw); go_simp; all_goals (with_reducible rfl))
    simp only [List.getElem_toArray, List.getElem_cons_zero, List.getElem_cons_succ, Act.put, List.setIfInBounds_toArray, List.set_cons_zero, List.set_cons_succ]
    refine wpAnyH_take (i := 34) (v := ?_) rfl (by kernel_rfl) (by kernel_rfl) (by kernel_rfl) (fun _ _ _ h => h) (Or.inl ⟨by rfl, ?_⟩) hHeld ?_
    rotate_left
    · (intro W hSw; (try dsimp only at hSw); go_simp; all_goals (with_reducible rfl))
    simp only [List.getElem_toArray, List.getElem_cons_zero, List.getElem_cons_succ, Act.put, List.setIfInBounds_toArray, List.set_cons_zero, List.set_cons_succ]
    refine wpAnyH_done (by kernel_rfl) ?_ _
    refine NoPanic.normal ?_
    clear hHeld
    go_wp2_with fail
    refine wp_region_noPanic ?_
    replace V0 : Va x13.drew _ _ _ := V0
    replace Vx : Va x13.drew _ _ _ := Vx
    replace Vu : Va x13.drew _ _ _ := Vu
    replace Vs : Va x13.drew _ _ _ := Vs
    replace hx : It x13.drew _ _ _ _ _ := hx
    replace hs : It x13.drew _ _ _ _ _ := hs
    replace hu := hu.drw
    replace B0 := Below.drew B0
    refine wp_region_held_drew (S := (fun W => W.cell? ⟨w.heap.size, 0, none⟩ = some (.bool s0) ∧ W.cell? ⟨w.heap.size, 1, none⟩ = some (.slice a0 len0 cap0) ∧ W.cell? ⟨x2.heap.size, 0, none⟩ = some (.bool sx) ∧ W.cell? ⟨x2.heap.size, 1, none⟩ = some (.slice ax lx kx) ∧ W.cell? ⟨x2.heap.size + 1, 0, none⟩ = some (.bool sx) ∧ W.cell? ⟨x2.heap.size + 1, 1, none⟩ = some (.slice au lx ku) ∧ W.cell? ⟨x6.heap.size, 0, none⟩ = some (.bool ss) ∧ W.cell? ⟨x6.heap.size, 1, none⟩ = some (.slice am ls ks))) (by kernel_rfl) ⟨V0.c0, V0.c1, Vx.c0, Vx.c1, Vu.c0, Vu.c1, Vs.c0, Vs.c1⟩ (fun hHeld => ?_)
    obtain ⟨x14, hxd⟩ : ∃ xd, xd = x13.drew := ⟨_, rfl⟩
    rw [← hxd] at V0 Vx Vu Vs hx hs hu B0 hHeld ⊢
    clear hxd
    refine wpAnyH_take (i := 0) (v := ?_) rfl (by kernel_rfl) (by kernel_rfl) (by kernel_rfl) (fun _ _ _ h => h) (Or.inl ⟨by rfl, ?_⟩) hHeld ?_
    rotate_left
    · (intro W hSw; (try dsimp only at hSw); go_simp; all_goals (with_reducible rfl))
    simp only [List.getElem_toArray, List.getElem_cons_zero, Act.put, List.setIfInBounds_toArray, List.set_cons_zero, List.set_cons_succ]
    refine wpAnyH_take (i := 1) (v := ?_) rfl (by kernel_rfl) (by kernel_rfl) (by kernel_rfl) (fun _ _ _ h => h) (Or.inl ⟨by rfl, ?_⟩) hHeld ?_
    rotate_left
    · (intro W hSw; (try dsimp only at hSw); go_simp; all_goals (with_reducible rfl))
    simp only [List.getElem_toArray, List.getElem_cons_zero, List.getElem_cons_succ, Act.put, List.setIfInBounds_toArray, List.set_cons_zero, List.set_cons_succ]
    refine wpAnyH_ready (rs := [2]) (by kernel_rfl) (by simp) ?_
    refine AllReadyH.cons rfl (fun K hK => ?_) AllReadyH.nil
    simp only [List.getElem_toArray, List.getElem_cons_zero, List.getElem_cons_succ]
    go_simp
    refine (rsmall4_any n n1 n2 _).mono ?_
    rintro e x15 ⟨s3, a3, l3, k3, z3, rfl, h3, e3, l3', hb⟩
    replace V0 := Va.after hb V0
    replace Vx := Va.after hb Vx
    replace Vu := Va.after hb Vu
    replace Vs := Va.after hb Vs
    replace hx := It.after hb hx
    replace hs := It.after hb hs
    replace hu := Ir.after hb hu
    replace B0 := step B0 hb
    clear hb
    try go_wp2_with fail
    refine hK.out _ _ ⟨V0.c0, V0.c1, Vx.c0, Vx.c1, Vu.c0, Vu.c1, Vs.c0, Vs.c1⟩ (fun hHeld => ?_)
    clear hK K
    refine wpAnyH_ready (rs := [3]) (by kernel_rfl) (by simp) ?_
    refine AllReadyH.cons rfl (fun K hK => ?_) AllReadyH.nil
    simp only [List.getElem_toArray, List.getElem_cons_zero, List.getElem_cons_succ]
    go_simp
    refine (is4_ok ss s3 am a3 ls ks l3 k3 zs z3 _ hs h3 (by rw [e3, es])).mono ?_
    rintro e x16 ⟨rfl, hb⟩
    replace V0 := Va.after hb V0
    replace Vx := Va.after hb Vx
    replace Vu := Va.after hb Vu
    replace Vs := Va.after hb Vs
    replace hx := It.after hb hx
    replace hs := It.after hb hs
    replace hu := Ir.after hb hu
    replace h3 := Ir.after hb h3
    replace B0 := step B0 hb
    clear hb
    try go_wp2_with fail
    refine hK.out _ _ ⟨V0.c0, V0.c1, Vx.c0, Vx.c1, Vu.c0, Vu.c1, Vs.c0, Vs.c1⟩ (fun hHeld => ?_)
    clear hK K
    clear h3
    clear e3 l3'
    refine wpAnyH_take (i := 4) (v := ?_) rfl (by kernel_rfl) (by kernel_rfl) (by kernel_rfl) (fun _ _ _ h => h) (Or.inl ⟨by rfl, ?_⟩) hHeld ?_
    rotate_left
    · (intro W hSw; (try dsimp only at hSw); go_simp; all_goals (with_reducible rfl))
    simp only [List.getElem_toArray, List.getElem_cons_zero, List.getElem_cons_succ, Act.put, List.setIfInBounds_toArray, List.set_cons_zero, List.set_cons_succ]
    refine wpAnyH_take (i := 5) (v := ?_) rfl (by kernel_rfl) (by kernel_rfl) (by kernel_rfl) (fun _ _ _ h => h) (Or.inl ⟨by rfl, ?_⟩) hHeld ?_
    rotate_left
    · (intro W hSw; (try dsimp only at hSw); go_simp; all_goals (with_reducible rfl))
    simp only [List.getElem_toArray, List.getElem_cons_zero, List.getElem_cons_succ, Act.put, List.setIfInBounds_toArray, List.set_cons_zero, List.set_cons_succ]
    refine wpAnyH_take (i := 6) (v := ?_) rfl (by kernel_rfl) (by kernel_rfl) (by kernel_rfl) (fun _ _ _ h => h) (Or.inl ⟨by rfl, ?_⟩) hHeld ?_
    rotate_left
    · (intro W hSw; (try dsimp only at hSw); go_simp; all_goals (with_reducible rfl))
    simp only [List.getElem_toArray, List.getElem_cons_zero, List.getElem_cons_succ, Act.put, List.setIfInBounds_toArray, List.set_cons_zero, List.set_cons_succ]
    refine wpAnyH_take (i := 7) (v := ?_) rfl (by kernel_rfl) (by kernel_rfl) (by kernel_rfl) (fun _ _ _ h => h) (Or.inl ⟨by rfl, ?_⟩) hHeld ?_
    rotate_left
    · (intro W hSw; (try dsimp only at hSw); go_simp; all_goals (with_reducible rfl))
    simp only [List.getElem_toArray, List.getElem_cons_zero, List.getElem_cons_succ, Act.put, List.setIfInBounds_toArray, List.set_cons_zero, List.set_cons_succ]
    refine wpAnyH_take (i := 8) (v := ?_) rfl (by kernel_rfl) (by kernel_rfl) (by kernel_rfl) (fun _ _ _ h => h) (Or.inl ⟨by rfl, ?_⟩) hHeld ?_
    rotate_left
    · (intro W hSw; (try dsimp only at hSw); go_simp; all_goals (with_reducible rfl))
    simp only [List.getElem_toArray, List.getElem_cons_zero, List.getElem_cons_succ, Act.put, List.setIfInBounds_toArray, List.set_cons_zero, List.set_cons_succ]
    refine wpAnyH_take (i := 9) (v := ?_) rfl (by kernel_rfl) (by kernel_rfl) (by kernel_rfl) (fun _ _ _ h => h) (Or.inl ⟨by rfl, ?_⟩) hHeld ?_
    rotate_left
    · (intro W hSw; (try dsimp only at hSw); go_simp; all_goals (with_reducible rfl))
    simp only [List.getElem_toArray, List.getElem_cons_zero, List.getElem_cons_succ, Act.put, List.setIfInBounds_toArray, List.set_cons_zero, List.set_cons_succ]
    refine wpAnyH_take (i := 10) (v := ?_) rfl (by kernel_rfl) (by kernel_rfl) (by kernel_rfl) (fun _ _ _ h => h) (Or.inl ⟨by rfl, ?_⟩) hHeld ?_
    rotate_left
    · (intro W hSw; (try dsimp only at hSw); go_simp; all_goals (with_reducible rfl))
    simp only [List.getElem_toArray, List.getElem_cons_zero, List.getElem_cons_succ, Act.put, List.setIfInBounds_toArray, List.set_cons_zero, List.set_cons_succ]
    refine wpAnyH_take (i := 11) (v := ?_) rfl (by kernel_rfl) (by kernel_rfl) (by kernel_rfl) (fun _ _ _ h => h) (Or.inl ⟨by rfl, ?_⟩) hHeld ?_
    rotate_left
    · (intro W hSw; (try dsimp only at hSw); go_simp; all_goals (with_reducible rfl))
    simp only [List.getElem_toArray, List.getElem_cons_zero, List.getElem_cons_succ, Act.put, List.setIfInBounds_toArray, List.set_cons_zero, List.set_cons_succ]
    refine wpAnyH_take (i := 12) (v := ?_) rfl (by kernel_rfl) (by kernel_rfl) (by kernel_rfl) (fun _ _ _ h => h) (Or.inl ⟨by rfl, ?_⟩) hHeld ?_
    rotate_left
    · (intro W hSw; (try dsimp only at hSw); go_simp; all_goals (with_reducible rfl))
    simp only [List.getElem_toArray, List.getElem_cons_zero, List.getElem_cons_succ, Act.put, List.setIfInBounds_toArray, List.set_cons_zero, List.set_cons_succ]
    refine wpAnyH_take (i := 13) (v := ?_) rfl (by kernel_rfl) (by kernel_rfl) (by kernel_rfl) (fun _ _ _ h => h) (Or.inl ⟨by rfl, ?_⟩) hHeld ?_
    rotate_left
    · (intro W hSw; (try dsimp only at hSw); go_simp; all_goals (with_reducible rfl))
    simp only [List.getElem_toArray, List.getElem_cons_zero, List.getElem_cons_succ, Act.put, List.setIfInBounds_toArray, List.set_cons_zero, List.set_cons_succ]
    refine wpAnyH_take (i := 14) (v := ?_) rfl (by kernel_rfl) (by kernel_rfl) (by kernel_rfl) (fun _ _ _ h => h) (Or.inl ⟨by rfl, ?_⟩) hHeld ?_
    rotate_left
    · (intro W hSw; (try dsimp only at hSw); go_simp; all_goals (with_reducible rfl))
    simp only [List.getElem_toArray, List.getElem_cons_zero, List.getElem_cons_succ, Act.put, List.setIfInBounds_toArray, List.set_cons_zero, List.set_cons_succ]
    refine wpAnyH_take (i := 15) (v := ?_) rfl (by kernel_rfl) (by kernel_rfl) (by kernel_rfl) (fun _ _ _ h => h) (Or.inl ⟨by rfl, ?_⟩) hHeld ?_
    rotate_left
    · (intro W hSw; (try dsimp only at hSw); go_simp; all_goals (with_reducible rfl))
    simp only [List.getElem_toArray, List.getElem_cons_zero, List.getElem_cons_succ, Act.put, List.setIfInBounds_toArray, List.set_cons_zero, List.set_cons_succ]
    refine wpAnyH_take (i := 16) (v := ?_) rfl (by kernel_rfl) (by kernel_rfl) (by kernel_rfl) (fun _ _ _ h => h) (Or.inl ⟨by rfl, ?_⟩) hHeld ?_
    rotate_left
    · (intro W hSw; (try dsimp only at hSw); go_simp; all_goals (with_reducible rfl))
    simp only [List.getElem_toArray, List.getElem_cons_zero, List.getElem_cons_succ, Act.put, List.setIfInBounds_toArray, List.set_cons_zero, List.set_cons_succ]
    refine wpAnyH_take (i := 17) (v := ?_) rfl (by kernel_rfl) (by kernel_rfl) (by kernel_rfl) (fun _ _ _ h => h) (Or.inl ⟨by rfl, ?_⟩) hHeld ?_
    rotate_left
    · (intro W hSw; (try dsimp only at hSw); go_simp; all_goals (with_reducible rfl))
    simp only [List.getElem_toArray, List.getElem_cons_zero, List.getElem_cons_succ, Act.put, List.setIfInBounds_toArray, List.set_cons_zero, List.set_cons_succ]
    refine wpAnyH_take (i := 20) (v := ?_) rfl (by kernel_rfl) (by kernel_rfl) (by kernel_rfl) (fun _ _ _ h => h) (Or.inl ⟨by rfl, ?_⟩) hHeld ?_
    rotate_left
    · (intro W hSw; (try dsimp only at hSw); go_simp; all_goals (with_reducible rfl))
    simp only [List.getElem_toArray, List.getElem_cons_zero, List.getElem_cons_succ, Act.put, List.setIfInBounds_toArray, List.set_cons_zero, List.set_cons_succ]
    refine wpAnyH_take (i := 21) (v := ?_) rfl (by kernel_rfl) (by kernel_rfl) (by kernel_rfl) (fun _ _ _ h => h) (Or.inl ⟨by rfl, ?_⟩) hHeld ?_
    rotate_left
    · (intro W hSw; (try dsimp only at hSw); go_simp; all_goals (with_reducible rfl))
    simp only [List.getElem_toArray, List.getElem_cons_zero, List.getElem_cons_succ, Act.put, List.setIfInBounds_toArray, List.set_cons_zero, List.set_cons_succ]
    refine wpAnyH_take (i := 22) (v := ?_) rfl (by kernel_rfl) (by kernel_rfl) (by kernel_rfl) (fun _ _ _ h => h) (Or.inl ⟨by rfl, ?_⟩) hHeld ?_
    rotate_left
    · (intro W hSw; (try dsimp only at hSw); go_simp; all_goals (with_reducible rfl))
    simp only [List.getElem_toArray, List.getElem_cons_zero, List.getElem_cons_succ, Act.put, List.setIfInBounds_toArray, List.set_cons_zero, List.set_cons_succ]
    refine wpAnyH_take (i := 23) (v := ?_) rfl (by kernel_rfl) (by kernel_rfl) (by kernel_rfl) (fun _ _ _ h => h) (Or.inl ⟨by rfl, ?_⟩) hHeld ?_
    rotate_left
    · (intro W hSw; (try dsimp only at hSw); go_simp; all_goals (with_reducible rfl))
    simp only [List.getElem_toArray, List.getElem_cons_zero, List.getElem_cons_succ, Act.put, List.setIfInBounds_toArray, List.set_cons_zero, List.set_cons_succ]
    refine wpAnyH_ready (rs := [18]) (by kernel_rfl) (by simp) ?_
    refine AllReadyH.cons rfl (fun K hK => ?_) AllReadyH.nil
    simp only [List.getElem_toArray, List.getElem_cons_zero, List.getElem_cons_succ]
    go_simp
    refine (wabs_any sx ax lx kx _).mono ?_
    rintro e x17 ⟨rfl, hb⟩
    replace V0 := Va.after hb V0
    replace Vx := Va.after hb Vx
    replace Vu := Va.after hb Vu
    replace Vs := Va.after hb Vs
    replace hx := It.after hb hx
    replace hs := It.after hb hs
    replace hu := Ir.after hb hu
    replace B0 := step B0 hb
    clear hb
    try go_wp2_with fail
    refine hK.out _ _ ⟨V0.c0, V0.c1, Vx.c0, Vx.c1, Vu.c0, Vu.c1, Vs.c0, Vs.c1⟩ (fun hHeld => ?_)
    clear hK K
    refine wpAnyH_ready (rs := [19]) (by kernel_rfl) (by simp) ?_
    refine AllReadyH.cons rfl (fun K hK => ?_) AllReadyH.nil
    simp only [List.getElem_toArray, List.getElem_cons_zero, List.getElem_cons_succ]
    go_simp
    refine (wnew_any (!s0) ax lx kx zx _ hx.1).mono ?_
    rintro e x18 ⟨s4, rfl, h4, e4, hb⟩
    replace V0 := Va.after hb V0
    replace Vx := Va.after hb Vx
    replace Vu := Va.after hb Vu
    replace Vs := Va.after hb Vs
    replace hx := It.after hb hx
    replace hs := It.after hb hs
    replace hu := Ir.after hb hu
    replace B0 := step B0 hb
    clear hb
    try go_wp2_with fail
    refine hK.out _ _ ⟨V0.c0, V0.c1, Vx.c0, Vx.c1, Vu.c0, Vu.c1, Vs.c0, Vs.c1⟩ (fun hHeld => ?_)
    clear hK K
    refine wpAnyH_ready (rs := [24]) (by kernel_rfl) (by simp) ?_
    refine AllReadyH.cons rfl (fun K hK => ?_) AllReadyH.nil
    simp only [List.getElem_toArray, List.getElem_cons_zero, List.getElem_cons_succ]
    go_simp
    refine (rnew_any s0 au lx ku zx _ hu.1 hu.2.2.1 (by omega)).mono ?_
    rintro e x19 ⟨s5, a5, l5, k5, z5, rfl, h5, n5, e5, l5', hb⟩
    replace V0 := Va.after hb V0
    replace Vx := Va.after hb Vx
    replace Vu := Va.after hb Vu
    replace Vs := Va.after hb Vs
    replace hx := It.after hb hx
    replace hs := It.after hb hs
    replace h4 := It.after hb h4
    replace hu := Ir.after hb hu
    replace B0 := step B0 hb
    clear hb
    try go_wp2_with fail
    refine hK.out _ _ ⟨V0.c0, V0.c1, Vx.c0, Vx.c1, Vu.c0, Vu.c1, Vs.c0, Vs.c1⟩ (fun hHeld => ?_)
    clear hK K
    refine wpAnyH_ready (rs := [25]) (by kernel_rfl) (by simp) ?_
    refine AllReadyH.cons rfl (fun K hK => ?_) AllReadyH.nil
    simp only [List.getElem_toArray, List.getElem_cons_zero, List.getElem_cons_succ]
    go_simp
    refine (rneg_any s5 a5 l5 k5 z5 _ h5 (by omega)).mono ?_
    rintro e x20 ⟨s6, a6, l6, k6, z6, rfl, h6, e6, l6', hb⟩
    replace V0 := Va.after hb V0
    replace Vx := Va.after hb Vx
    replace Vu := Va.after hb Vu
    replace Vs := Va.after hb Vs
    replace hx := It.after hb hx
    replace hs := It.after hb hs
    replace h4 := It.after hb h4
    replace hu := Ir.after hb hu
    replace h5 := Ir.after hb h5
    replace B0 := step B0 hb
    clear hb
    try go_wp2_with fail
    refine hK.out _ _ ⟨V0.c0, V0.c1, Vx.c0, Vx.c1, Vu.c0, Vu.c1, Vs.c0, Vs.c1⟩ (fun hHeld => ?_)
    clear hK K
    refine wpAnyH_ready (rs := [26]) (by kernel_rfl) (by simp) ?_
    refine AllReadyH.cons rfl (fun K hK => ?_) AllReadyH.nil
    simp only [List.getElem_toArray, List.getElem_cons_zero, List.getElem_cons_succ]
    go_simp
    refine (is4_ok s4 s6 ax a6 lx kx l6 k6 zx z6 _ h4 h6 (by rw [e6, e5, e4, iv_turn])).mono ?_
    rintro e x21 ⟨rfl, hb⟩
    replace V0 := Va.after hb V0
    replace Vx := Va.after hb Vx
    replace Vu := Va.after hb Vu
    replace Vs := Va.after hb Vs
    replace hx := It.after hb hx
    replace hs := It.after hb hs
    replace h4 := It.after hb h4
    replace hu := Ir.after hb hu
    replace h5 := Ir.after hb h5
    replace h6 := Ir.after hb h6
    replace B0 := step B0 hb
    clear hb
    try go_wp2_with fail
    refine hK.out _ _ ⟨V0.c0, V0.c1, Vx.c0, Vx.c1, Vu.c0, Vu.c1, Vs.c0, Vs.c1⟩ (fun hHeld => ?_)
    clear hK K
    refine wpAnyH_take (i := 27) (v := ?_) rfl (by kernel_rfl) (by kernel_rfl) (by kernel_rfl) (fun _ _ _ h => h) (Or.inl ⟨by rfl, ?_⟩) hHeld ?_
    rotate_left
    · (intro W hSw; (try dsimp only at hSw); go_simp; all_goals (with_reducible rfl))
    simp only [List.getElem_toArray, List.getElem_cons_zero, List.getElem_cons_succ, Act.put, List.setIfInBounds_toArray, List.set_cons_zero, List.set_cons_succ]
    refine wpAnyH_take (i := 28) (v := ?_) rfl (by kernel_rfl) (by kernel_rfl) (by kernel_rfl) (fun _ _ _ h => h) (Or.inl ⟨by rfl, ?_⟩) hHeld ?_
    rotate_left
    · (intro W hSw; (try dsimp only at hSw); go_simp; all_goals (with_reducible rfl))
    simp only [List.getElem_toArray, List.getElem_cons_zero, List.getElem_cons_succ, Act.put, List.setIfInBounds_toArray, List.set_cons_zero, List.set_cons_succ]
    refine wpAnyH_take (i := 29) (v := ?_) rfl (by kernel_rfl) (by kernel_rfl) (by kernel_rfl) (fun _ _ _ h => h) (Or.inl ⟨by rfl, ?_⟩) hHeld ?_
    rotate_left
    · (intro W hSw; (try dsimp only at hSw); go_simp; all_goals (with_reducible rfl))
    simp only [List.getElem_toArray, List.getElem_cons_zero, List.getElem_cons_succ, Act.put, List.setIfInBounds_toArray, List.set_cons_zero, List.set_cons_succ]
    refine wpAnyH_ready (rs := [30]) (by kernel_rfl) (by simp) ?_
    refine AllReadyH.cons rfl (fun K hK => ?_) AllReadyH.nil
    simp only [List.getElem_toArray, List.getElem_cons_zero, List.getElem_cons_succ]
    go_simp
    refine (wsign_any false none 0 0 [] _ (It.nil _)).mono ?_
    rintro e x22 ⟨rfl, hb⟩
    replace V0 := Va.after hb V0
    replace Vx := Va.after hb Vx
    replace Vu := Va.after hb Vu
    replace Vs := Va.after hb Vs
    replace hx := It.after hb hx
    replace hs := It.after hb hs
    replace h4 := It.after hb h4
    replace hu := Ir.after hb hu
    replace h5 := Ir.after hb h5
    replace h6 := Ir.after hb h6
    replace B0 := step B0 hb
    clear hb
    rw [iv_nil, Int.sign_zero]
    try go_wp2_with fail
    refine hK.out _ _ ⟨V0.c0, V0.c1, Vx.c0, Vx.c1, Vu.c0, Vu.c1, Vs.c0, Vs.c1⟩ (fun hHeld => ?_)
    clear hK K
    refine wpAnyH_take (i := 31) (v := ?_) rfl (by kernel_rfl) (by kernel_rfl) (by kernel_rfl) (fun _ _ _ h => h) (Or.inl ⟨by rfl, ?_⟩) hHeld ?_
    rotate_left
    · (intro W hSw; (try dsimp only at hSw); go_simp; all_goals (with_reducible rfl))
    simp only [List.getElem_toArray, List.getElem_cons_zero, List.getElem_cons_succ, Act.put, List.setIfInBounds_toArray, List.set_cons_zero, List.set_cons_succ]
    refine wpAnyH_take (i := 32) (v := ?_) rfl (by kernel_rfl) (by kernel_rfl) (by kernel_rfl) (fun _ _ _ h => h) (Or.inl ⟨by rfl, ?_⟩) hHeld ?_
    rotate_left
    · (intro W hSw; (try dsimp only at hSw); go_simp; all_goals (with_reducible rfl))
    simp only [List.getElem_toArray, List.getElem_cons_zero, List.getElem_cons_succ, Act.put, List.setIfInBounds_toArray, List.set_cons_zero, List.set_cons_succ]
    refine wpAnyH_take (i := 33) (v := ?_) rfl (by kernel_rfl) (by kernel_rfl) (by kernel_rfl) (fun _ _ _ h => h) (Or.inl ⟨by rfl, ?_⟩) hHeld ?_
    rotate_left
    · (intro W hSw; (try dsimp only at hSw); go_simp; all_goals (with_reducible rfl))
    simp only [List.getElem_toArray, List.getElem_cons_zero, List.getElem_cons_succ, Act.put, List.setIfInBounds_toArray, List.set_cons_zero, List.set_cons_succ]
    refine wpAnyH_done (by kernel_rfl) ?_ _
    refine NoPanic.normal ?_
    clear hHeld
    go_wp2_with fail
    go_ret
    exact ⟨rfl, B0⟩
end Go.Proofs.Ytkfpblonjinfmaa
namespace Go.Proofs.Ytkfpblonjinfmaa.wholeMakes
open Go.ChangeShapes Go.WideShapes Go.ChangeAt Go.RowKit
set_option linter.unusedVariables false

theorem own : ownKnob Try.prog.godebug = none := by kernel_rfl
theorem laidOut : laidOutB Try.prog = true := by kernel_rfl
theorem bytes8 : Try.prog.bytesOf 64 = 8 := by kernel_rfl

set_option maxRecDepth 100000 in
theorem contract (H : Type) (enc : TypeId × Value → H) (W : World) (base : Nat) (args : Array Value) (ds gs : List (DataW H)) (before : List MemPlace)
    (hval : ∀ (j : Nat) t v, Try.f3.params[j]? = some t → args[j]? = some v → Value.okWide Try.prog W .any base t v)
    (hW : DataW.Whole enc Try.prog Try.f3.params.toList Rows.wholeMakesSpec.vars false W args.toList ds gs before) (hsz : (DataW.weightsEach Try.prog (Try.f3.params.toList ++ Rows.wholeMakesSpec.plain.varTypes Try.prog) (ds ++ gs)).all (· ≤ reachBytes) = true) :
    Calls Try.prog 3 args W fun e W' => ∃ v, e = .returned v ∧ Rows.wholeMakesSpec.post enc Try.prog Try.f3 false true false false W args v W' := by
  have hW' := hW
  obtain ⟨p, q, hA0, hV, rfl, hfz, hnd⟩ := hW
  have hA : DataW.TrodAll enc Try.prog W 0 (fun _ => true) true Try.f3.params.toList args.toList ds p := hA0
  rw [Try.params3] at hA hval hsz
  obtain ⟨v0, vs0, d0, ds0, p0, q0, hargs, rfl, rfl, h0, r0⟩ := trodAll_cons hA
  obtain ⟨v1, vs1, d1, ds1, p1, q1, rfl, rfl, rfl, h1, r1⟩ := trodAll_cons r0
  obtain ⟨rfl, rfl, rfl⟩ := trodAll_nil r1
  obtain rfl : args = #[v0, v1] := by cases args; simp_all
  obtain ⟨rfl, rfl⟩ := trodVars_none hV
  have k0 := h0
  have lt0 : ∀ x ∈ p0, x.block < W.heap.size := by obtain ⟨m, hm⟩ := k0; exact DataW.trod_lt m _ _ _ hm
  obtain ⟨u0, x0, y00, y01, m0, rfl, rfl, rfl, hy00, hy01⟩ := Go.Joins.open_agg2 Try.underlying24 (by kernel_rfl) (by kernel_rfl) (hval 0 24 v0 rfl rfl) h0
  obtain ⟨n0, hn0, -⟩ := DataW.trod_bool Try.underlying4 hy00
  obtain rfl : u0 = .bool n0 := by simpa using hn0
  obtain ⟨a0, len0, cap0, z0, hv0, s0, c0, e0⟩ : ∃ a len cap zs, x0 = .slice a len cap ∧ Sl W a len zs ∧ len ≤ cap ∧ (a = Option.none → len = 0 ∧ cap = 0) := by
    rcases open_ints Try.underlying22 Try.underlying64 (by kernel_rfl) hy01 with ⟨hcs, _⟩ | ⟨x, l, c, zs, hcs, _, hl, hm, hz, hx, hcell, hwz⟩
    · exact ⟨Option.none, 0, 0, [], by simpa using hcs, ⟨rfl, Limbs.nil, fun h => absurd h (by decide)⟩, Nat.le_refl _, fun _ => ⟨rfl, rfl⟩⟩
    · have hz' : zs.length = c := by simpa using hz
      refine ⟨some x, l, c, zs.take l, by simpa using hcs, ⟨by rw [List.length_take]; omega, fun z hz2 => word_of_wf (hwz z (List.mem_of_mem_take hz2)), fun h => ?_⟩, hl, fun h => by cases h⟩
      obtain ⟨bb, off, rfl, hc⟩ := ints_at hcell (by omega)
      refine ⟨bb, off, rfl, fun j hj => ?_⟩
      rw [hc j (by omega), List.getD_eq_getElem?_getD, List.getD_eq_getElem?_getD, List.getElem?_take_of_lt hj]
  subst hv0
  clear hn0
  obtain ⟨a1, rfl, rfl, rfl, w1⟩ := open_int Try.underlying2 (hval 1 2 v1 rfl rfl) h1
  clear hA0
  refine (makes4_walk n0 a0 len0 cap0 z0 a1 W s0 c0 e0 w1).mono fun e W' ⟨he, bel⟩ => ?_
  subst he
  exact ⟨_, rfl, _, _, _, [], _, [], hW', trodAll_mk1 (shut_bool Try.underlying4 _), (trodAll_cons_mk (Below.trod laidOut (by kernel_rfl) (of_decide_eq_true (by kernel_rfl)) k0 bel lt0) (trodAll_cons_mk (shut_int Try.underlying2 w1) trodAll_mk0)), rfl, bel.frame _, fun h => by cases h⟩

set_option maxRecDepth 100000 in
theorem lifted (os : Os) (started : os.Started) (H : Type) (enc : TypeId × Value → H) :
    ReturnsInHanded {} Try.checked os 3 .any (Rows.wholeMakesSpec.pre6 enc Try.prog Try.f3 Rows.wholeMakesRow.domain false) (Rows.wholeMakesSpec.post enc Try.prog Try.f3 false true false false) := by
  refine returnsInHanded_of_change_sized (C := Try.checked) own started (by kernel_rfl) Try.func3
    (ChangeSpec.witness6 (enc := enc) (C := Try.checked) false ⟨#[], #[.agg #[.bool false, .slice none 0 0], .int .i64 0], []⟩ 8 (by kernel_rfl) (by kernel_rfl) (by kernel_rfl) (by kernel_rfl)) ?_
  intro W base args ds gs before hval0 hW _ hsz0 _
  exact contract H enc W base args ds gs before hval0 hW hsz0

theorem over : Rows.wholeMakesRow.holds Try.pinned (OpenSpec.ofChange Rows.wholeMakesSpec) :=
  OpenClaim.holds_of_wide 3 Try.f3 rfl rfl rfl rfl rfl rfl rfl ⟨rfl, rfl, rfl, rfl, rfl⟩ rfl rfl rfl rfl rfl (by kernel_rfl) Try.func3 (by kernel_rfl)
    (of_decide_eq_true (by kernel_rfl)) (by unfold Func.isWrapper; first | (rw [if_pos (by decide +kernel)]; kernel_rfl) | (rw [if_neg (by decide +kernel)]; exact ⟨rfl, rfl⟩))
    (fun os started H enc _ => lifted os started H enc)
end Go.Proofs.Ytkfpblonjinfmaa.wholeMakes
namespace Go.Proofs.Ytkfpblonjinfmaa
theorem wholeMakes_holds : Rows.WholeMakesSaid := wholeMakes.over
#print axioms wholeMakes_holds
end Go.Proofs.Ytkfpblonjinfmaa
