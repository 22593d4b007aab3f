/-
  The walk of NumeralBounds: each call by its contract.
-/
import Derived.Test.YtjpghkpdgiiabaaDoorNBackW
import Derived.Test.YtjpghkpdgiiabaaDoorPow
namespace Go.Proofs.YtjpghkpdgiiabaaDoor
open Go.RowKit Go.Shelf
set_option linter.unusedVariables false

set_option maxHeartbeats 4000000 in
theorem number_val (a : Option Addr) (len cap : Nat) (zs : List Int) (w : World) (h : Sl w a len zs) (hl : len ≤ 17592186044416) (hc : len ≤ cap) (hn : a = none → len = 0 ∧ cap = 0) (hu : usedN zs ≤ 4096) :
    Calls Tryd.prog 11 #[.slice a len cap] w fun e w' => ∃ a' l' c' zs', e = .returned (.tuple #[.agg #[.slice a' l' c'], .bool true]) ∧ Nt w' a' l' c' zs' ∧ num zs' = num zs ∧ Below w.heap.size w w' := by
  go_enter Tryd.func11, Tryd.ntmps11
  go_wp2_with fail
  refine ent1 w _ _ (Q := fun W => Calls Tryd.prog _ _ W _) ?_
  intro w0 B0 hs V0
  clear hs
  refine (rtrim_n a len cap zs w0 (h.below B0 (Nat.le_refl _)) hl hc).mono ?_
  rintro e w1 ⟨a1, c1, rfl, -, -, -, hb1⟩
  replace V0 := Va.after hb1 V0
  replace B0 := step B0 hb1
  clear hb1
  have hui : ¬ (4096 : Int) < usedN zs := by omega
  go_wp2_with fail
  refine (copyl_any a len cap zs w1 (h.below B0 (Nat.le_refl _)) hn hl).mono ?_
  rintro e w2 ⟨a2, c2, rfl, h2, hc2, -, hb2⟩
  replace V0 := Va.after hb2 V0
  replace B0 := step B0 hb2
  clear hb2
  go_wp2_with fail
  refine (of_ok a2 len c2 zs w2 h2 (by omega) hc2 hu).mono ?_
  rintro e w3 ⟨g, l', c', zs', rfl, -, h3, hn3, hb3⟩
  replace V0 := Va.after hb3 V0
  replace B0 := step B0 hb3
  clear hb3 h2
  have q0 := V0.cell
  have f0 := V0.frozen 0
  have l0 := V0.lt
  have m0 := Nat.le_of_lt l0
  go_wp2_with fail
  have B1 := B0.setCell (p := ⟨w.heap.size, 0, none⟩) (Nat.le_refl _) (.slice (some ⟨g, 0, none⟩) l' c')
  refine bodyPost_ret (results_ct rfl rfl ((V0.set _).old _)) rfl ?_
  exact ⟨_, _, _, zs', rfl, (h3.store V0 _).al' _, hn3, B1.alloc B1.size _⟩
theorem pow_fits (a : Option Addr) (la ca : Nat) (xs : List Int) (n : Nat) (w : World) (ha : Nt w a la ca xs) (hn : n ≤ 9223372036854775807) (hf : num xs ^ n < pw 4096) :
    Calls Tryd.prog 15 #[.agg #[.slice a la ca], .int .i64 n] w fun e w' => ∃ a' l' c' zs, e = .returned (.tuple #[.agg #[.slice a' l' c'], .int .i64 0]) ∧ Nt w' a' l' c' zs ∧ num zs = num xs ^ n ∧ Below w.heap.size w w' := by
  refine (pow_any a la ca xs n w ha hn).mono ?_
  rintro e w' (h | ⟨-, hb, -⟩)
  · exact h
  · exact absurd hb.ge (Int.not_le.2 hf)
theorem digits_bad (b : Int) (hb : b < 2 ∨ 36 < b) (a : Option Addr) (l c : Nat) (w : World) :
    Calls Tryd.prog 13 #[.agg #[.slice a l c], .int .i64 b] w fun e W' => e = .returned (.tuple #[.int .i64 0, .int .i64 30]) ∧ Below w.heap.size w W' := by
  go_enter Tryd.func13, Tryd.ntmps13
  go_wp2_with fail
  refine ent1 w _ _ (Q := fun W => Calls Tryd.prog _ _ W _) ?_
  intro w0 B0 hs V0
  refine (text_bad b hb a l c w0).mono ?_
  rintro e w1 ⟨rfl, hb1⟩
  go_wp2_with fail
  go_ret2
  exact ⟨rfl, step B0 hb1⟩
/-- A number of d digits lies between two powers, which are not long. -/
theorem tx_bounds {b : Nat} (h2 : 2 ≤ b) (h36 : b ≤ 36) {t : List UInt8} {zs : List Int} (ht : Tx b t (num zs).toNat) (h0 : 0 ≤ num zs) (hlt : num zs < pw 64) :
    num zs < (b : Int) ^ t.length ∧ (t.length = 1 ∨ (b : Int) ^ (t.length - 1) ≤ num zs) ∧ (b : Int) ^ t.length < pw 4096 ∧ (b : Int) ^ (t.length - 1) < pw 4096 := by
  have e : ∀ n, (b : Int) ^ n = ((b ^ n : Nat) : Int) := fun n => (Int.natCast_pow b n).symm
  have h1 := ht.lt
  have hp := ht.pos
  have hpw : pw 64 * 36 < pw 4096 := by
    have : pw 64 * 36 < pw 65 := by decide
    exact Int.lt_of_lt_of_le this (pw_mono (by omega))
  have h64 : (36 : Int) ≤ pw 64 := by decide
  have hlow : t.length = 1 ∨ b ^ (t.length - 1) ≤ (num zs).toNat := by
    rcases Nat.lt_or_ge 1 t.length with h | h
    · exact .inr (ht.low h)
    · exact .inl (by omega)
  have hb1 : b ^ t.length = b ^ (t.length - 1) * b := by
    conv => lhs; rw [show t.length = (t.length - 1) + 1 by omega]
    rw [Nat.pow_succ]
  rw [e, e]
  refine ⟨by omega, by rcases hlow with h | h; exact .inl h; exact .inr (by omega), ?_, ?_⟩
  · rw [hb1]
    rcases hlow with h | h
    · rw [h]; simp
      generalize pw 4096 = P at *; generalize pw 64 = X at *; omega
    · have h3 : b ^ (t.length - 1) * b ≤ (num zs).toNat * 36 := Nat.mul_le_mul h h36
      generalize pw 4096 = P at *; generalize pw 64 = X at *; omega
  · rcases hlow with h | h
    · rw [h]; simp
      generalize pw 4096 = P at *; generalize pw 64 = X at *; omega
    · generalize pw 4096 = P at *; generalize pw 64 = X at *; omega
set_option maxHeartbeats 16000000 in
set_option maxRecDepth 20000 in
theorem nbounds_core (a0 : Option Addr) (len0 len cap0 : Nat) (z0 : List Int) (b0 : Int) (w : World) (h0 : Sl w a0 len0 z0) (hl0 : len0 ≤ 64) (hle : (len ≤ 64 ∧ len0 = len) ∨ (64 < len ∧ len0 = 64)) (c0 : len ≤ cap0) (e0 : a0 = none → len = 0 ∧ cap0 = 0) (hT : Tb w) (hlb : len ≤ 17592186044416) :
    Calls Tryd.prog 5 #[.slice a0 len cap0, .int .i64 b0] w fun e w' => e = .returned (.bool true) ∧ Below w.heap.size w w' := by
  have B0 : Below w.heap.size w w := Below.refl _ _
  have HT : Hid (Tb w) := hT
  clear hT
  have hz64 : z0.length ≤ 64 := by have := h0.1; omega
  have HU : Hid (usedN z0 ≤ 64 ∧ num z0 < pw 64) := ⟨Nat.le_trans (usedN_le z0) hz64, Int.lt_of_lt_of_le (num_lt h0.2.1) (pw_mono hz64)⟩
  go_enter Tryd.func5, Tryd.ntmps5
  go_wp2_with fail
  refine (awake3 _ (HT.out.to B0)).mono ?_
  rintro e x1 ⟨rfl, hb⟩
  replace B0 := step B0 hb
  clear hb
  have hnum : ∀ W, Below w.heap.size w W → Calls Tryd.prog 11 #[.slice a0 len0 cap0] W fun e w' => ∃ a' l' c' zs', e = .returned (.tuple #[.agg #[.slice a' l' c'], .bool true]) ∧ Nt w' a' l' c' zs' ∧ num zs' = num z0 ∧ Below W.heap.size W w' := fun W hb => number_val a0 len0 cap0 z0 W (h0.below hb (Nat.le_refl _)) (by omega) (by omega) (fun h => by have := e0 h; omega) (Nat.le_trans HU.out.1 (by omega))
  have HNUM : Hid _ := hnum
  clear hnum h0 hz64
  rcases hle with ⟨hl1, rfl⟩ | ⟨hl1, rfl⟩
  ·
    have hi : ¬ (64 : Int) < len0 := by omega
    go_wp2_with fail
    refine (HNUM.out _ B0).mono ?_
    rintro e x2 ⟨a1, l1, c1, z1, rfl, h1, e1, hb⟩
    replace B0 := step B0 hb
    clear hb
    have E1 : Hid (num z1 < pw 64) := by show num z1 < pw 64; rw [e1]; exact HU.out.2
    clear e1 HNUM
    go_wp2_with fail
    refine ent1 x2 _ _ (Q := fun W => Calls Tryd.prog _ _ W _) ?_
    intro x3 hb hs_x3 V1
    replace h1 := Nt.after hb h1
    replace B0 := step B0 hb
    clear hb hs_x3
    by_cases hb : b0 < 2 ∨ 36 < b0
    · rcases hb with hb | hb
      · 
        refine (digits_bad b0 (.inl hb) a1 l1 c1 _).mono ?_
        rintro e x4 ⟨rfl, hb⟩
        replace V1 := Va.after hb V1
        replace h1 := Nt.after hb h1
        replace B0 := step B0 hb
        clear hb
        have c_V1 := V1.cell
        have f0_V1 := V1.frozen 0
        have l_V1 := V1.lt
        have m_V1 := Nat.le_of_lt l_V1
        go_wp2_with fail
        go_ret
        exact ⟨rfl, B0⟩
      · have hb1 : ¬ b0 < 2 := by omega
        refine (digits_bad b0 (.inr hb) a1 l1 c1 _).mono ?_
        rintro e x4 ⟨rfl, hb⟩
        replace V1 := Va.after hb V1
        replace h1 := Nt.after hb h1
        replace B0 := step B0 hb
        clear hb
        have c_V1 := V1.cell
        have f0_V1 := V1.frozen 0
        have l_V1 := V1.lt
        have m_V1 := Nat.le_of_lt l_V1
        go_wp2_with fail
        go_ret
        exact ⟨rfl, B0⟩
    obtain ⟨b, rfl⟩ : ∃ b : Nat, b0 = b := ⟨b0.toNat, by omega⟩
    have hb2 : 2 ≤ b := by omega
    have hb36 : b ≤ 36 := by omega
    have hbI : IntKind.u64.wrap (b : Int) = b := by rw [IntKind.wrap_u64]; omega
    clear hb
    refine (digits_b b hb2 hb36 a1 l1 c1 z1 _ h1 (HT.out.to B0)).mono ?_
    rintro e x4 ⟨t, rfl, ht, hb⟩
    replace V1 := Va.after hb V1
    replace h1 := Nt.after hb h1
    replace B0 := step B0 hb
    clear hb
    have htl := len_b hb2 ht h1.nonneg h1.lt
    have htp := ht.pos
    obtain ⟨g1, g2, g3, g4⟩ := tx_bounds hb2 hb36 ht h1.nonneg E1.out
    obtain ⟨d, hd⟩ : ∃ d, t.length = d + 1 := ⟨t.length - 1, by omega⟩
    rw [hd] at g1 g2 g3 g4 htl ⊢
    rw [Nat.add_sub_cancel] at g2 g4
    have G1 : Hid (num z1 < (b : Int) ^ (d + 1)) := g1
    have G2 : Hid (d + 1 = 1 ∨ (b : Int) ^ d ≤ num z1) := g2
    have G3 : Hid ((b : Int) ^ (d + 1) < pw 4096) := g3
    have G4 : Hid ((b : Int) ^ d < pw 4096) := g4
    have ed : ((d + 1 : Nat) : Int) - 1 = d := by omega
    clear g1 g2 g3 g4 ht htp hd E1 HU
    have c_V1 := V1.cell
    have f0_V1 := V1.frozen 0
    have l_V1 := V1.lt
    have m_V1 := Nat.le_of_lt l_V1
    go_wp2_with fail
    refine (small_any (b : Int) ⟨by omega, by omega⟩ _).mono ?_
    rintro e x5 ⟨a2, l2, c2, z2, rfl, h2, e2, hb⟩
    replace V1 := Va.after hb V1
    replace h1 := Nt.after hb h1
    replace B0 := step B0 hb
    clear hb
    have E2 : Hid (num z2 = b) := e2
    clear e2
    clear c_V1 f0_V1 l_V1 m_V1
    have c_V1 := V1.cell
    have f0_V1 := V1.frozen 0
    have l_V1 := V1.lt
    have m_V1 := Nat.le_of_lt l_V1
    go_wp2_with fail
    refine (pow_fits a2 l2 c2 z2 d _ h2 (by omega) (by rw [E2.out]; exact G4.out)).mono ?_
    rintro e x6 ⟨a3, l3, c3, z3, rfl, h3, e3, hb⟩
    replace V1 := Va.after hb V1
    replace h1 := Nt.after hb h1
    replace h2 := Nt.after hb h2
    replace B0 := step B0 hb
    clear hb
    have E3 : Hid (num z3 = (b : Int) ^ d) := by show _ = _; rw [e3, E2.out]
    clear e3
    clear c_V1 f0_V1 l_V1 m_V1
    have c_V1 := V1.cell
    have f0_V1 := V1.frozen 0
    have l_V1 := V1.lt
    have m_V1 := Nat.le_of_lt l_V1
    go_wp2_with fail
    refine ent1 x6 _ _ (Q := fun W => Calls Tryd.prog _ _ W _) ?_
    intro x7 hb hs_x7 V3
    replace V1 := Va.after hb V1
    replace h1 := Nt.after hb h1
    replace h2 := Nt.after hb h2
    replace h3 := Nt.after hb h3
    replace B0 := step B0 hb
    clear hb hs_x7
    clear h2
    clear E2
    refine (small_any (b : Int) ⟨by omega, by omega⟩ _).mono ?_
    rintro e x8 ⟨a4, l4, c4, z4, rfl, h4, e4, hb⟩
    replace V1 := Va.after hb V1
    replace V3 := Va.after hb V3
    replace h1 := Nt.after hb h1
    replace h3 := Nt.after hb h3
    replace B0 := step B0 hb
    clear hb
    have E4 : Hid (num z4 = b) := e4
    clear e4
    clear c_V1 f0_V1 l_V1 m_V1
    have c_V1 := V1.cell
    have f0_V1 := V1.frozen 0
    have l_V1 := V1.lt
    have m_V1 := Nat.le_of_lt l_V1
    have c_V3 := V3.cell
    have f0_V3 := V3.frozen 0
    have l_V3 := V3.lt
    have m_V3 := Nat.le_of_lt l_V3
    go_wp2_with fail
    have hpw := pow_fits a4 l4 c4 z4 (d + 1) x8 h4 (by omega) (by rw [E4.out]; exact G3.out)
    rw [show ((d + 1 : Nat) : Int) = (d : Int) + 1 by omega] at hpw
    clear G3 G4
    refine (hpw).mono ?_
    rintro e x9 ⟨a5, l5, c5, z5, rfl, h5, e5, hb⟩
    replace V1 := Va.after hb V1
    replace V3 := Va.after hb V3
    replace h1 := Nt.after hb h1
    replace h3 := Nt.after hb h3
    replace h4 := Nt.after hb h4
    replace B0 := step B0 hb
    clear hb
    have E5 : Hid (num z5 = (b : Int) ^ (d + 1)) := by show _ = _; rw [e5, E4.out]
    clear e5 hpw
    clear c_V1 f0_V1 l_V1 m_V1 c_V3 f0_V3 l_V3 m_V3
    have c_V1 := V1.cell
    have f0_V1 := V1.frozen 0
    have l_V1 := V1.lt
    have m_V1 := Nat.le_of_lt l_V1
    have c_V3 := V3.cell
    have f0_V3 := V3.frozen 0
    have l_V3 := V3.lt
    have m_V3 := Nat.le_of_lt l_V3
    go_wp2_with fail
    refine ent1 x9 _ _ (Q := fun W => Calls Tryd.prog _ _ W _) ?_
    intro x10 hb hs_x10 V5
    replace V1 := Va.after hb V1
    replace V3 := Va.after hb V3
    replace h1 := Nt.after hb h1
    replace h3 := Nt.after hb h3
    replace h4 := Nt.after hb h4
    replace h5 := Nt.after hb h5
    replace B0 := step B0 hb
    clear hb hs_x10
    clear h4
    clear E4
    have hcm := ncompare_any a1 a5 l1 c1 l5 c5 z1 z5 x10 h1 h5
    rw [show cmp3 (num z1) (num z5) = -1 by unfold cmp3; rw [if_pos (by rw [E5.out]; exact G1.out)]] at hcm
    refine (hcm).mono ?_
    rintro e x11 ⟨rfl, hb⟩
    replace V1 := Va.after hb V1
    replace V3 := Va.after hb V3
    replace V5 := Va.after hb V5
    replace h1 := Nt.after hb h1
    replace h3 := Nt.after hb h3
    replace h5 := Nt.after hb h5
    replace B0 := step B0 hb
    clear hb
    clear V5 h5
    clear E5 G1
    by_cases hd0 : d = 0
    · subst hd0
      clear c_V1 f0_V1 l_V1 m_V1 c_V3 f0_V3 l_V3 m_V3
      have c_V1 := V1.cell
      have f0_V1 := V1.frozen 0
      have l_V1 := V1.lt
      have m_V1 := Nat.le_of_lt l_V1
      have c_V3 := V3.cell
      have f0_V3 := V3.frozen 0
      have l_V3 := V3.lt
      have m_V3 := Nat.le_of_lt l_V3
      go_wp2_with fail
      go_ret
      exact ⟨rfl, B0⟩
    · have hd1 : ¬ (d : Int) = 0 := by omega
      have hd2 : ¬ (d : Int) + 1 = 1 := by omega
      have G5 : Hid ((b : Int) ^ d ≤ num z1) := G2.out.resolve_left (by omega)
      clear G2
      clear c_V1 f0_V1 l_V1 m_V1 c_V3 f0_V3 l_V3 m_V3
      have c_V1 := V1.cell
      have f0_V1 := V1.frozen 0
      have l_V1 := V1.lt
      have m_V1 := Nat.le_of_lt l_V1
      have c_V3 := V3.cell
      have f0_V3 := V3.frozen 0
      have l_V3 := V3.lt
      have m_V3 := Nat.le_of_lt l_V3
      go_wp2_with fail
      have hcm := ncompare_any a3 a1 l3 c3 l1 c1 z3 z1 x11 h3 h1
      obtain ⟨cc, hcc, hcl⟩ : ∃ cc, cmp3 (num z3) (num z1) = cc ∧ cc ≤ 0 := ⟨_, rfl, by have := G5.out; rw [← E3.out] at this; unfold cmp3; split; omega; split; omega; omega⟩
      rw [hcc] at hcm
      clear hcc
      refine (hcm).mono ?_
      rintro e x12 ⟨rfl, hb⟩
      replace V1 := Va.after hb V1
      replace V3 := Va.after hb V3
      replace h1 := Nt.after hb h1
      replace h3 := Nt.after hb h3
      replace B0 := step B0 hb
      clear hb
      clear c_V1 f0_V1 l_V1 m_V1 c_V3 f0_V3 l_V3 m_V3
      have c_V1 := V1.cell
      have f0_V1 := V1.frozen 0
      have l_V1 := V1.lt
      have m_V1 := Nat.le_of_lt l_V1
      have c_V3 := V3.cell
      have f0_V3 := V3.frozen 0
      have l_V3 := V3.lt
      have m_V3 := Nat.le_of_lt l_V3
      go_wp2_with fail
      go_ret
      exact ⟨by first | rfl | simp [hcl], B0⟩
  ·
    have hi : (64 : Int) < len := by omega
    have hcc : (64 : Int) ≤ cap0 := by omega
    have hsl : a0 ≠ none := fun h => by have := e0 h; omega
    go_wp2_with fail
    refine (HNUM.out _ B0).mono ?_
    rintro e x2 ⟨a1, l1, c1, z1, rfl, h1, e1, hb⟩
    replace B0 := step B0 hb
    clear hb
    have E1 : Hid (num z1 < pw 64) := by show num z1 < pw 64; rw [e1]; exact HU.out.2
    clear e1 HNUM
    go_wp2_with fail
    refine ent1 x2 _ _ (Q := fun W => Calls Tryd.prog _ _ W _) ?_
    intro x3 hb hs_x3 V1
    replace h1 := Nt.after hb h1
    replace B0 := step B0 hb
    clear hb hs_x3
    by_cases hb : b0 < 2 ∨ 36 < b0
    · rcases hb with hb | hb
      · 
        refine (digits_bad b0 (.inl hb) a1 l1 c1 _).mono ?_
        rintro e x4 ⟨rfl, hb⟩
        replace V1 := Va.after hb V1
        replace h1 := Nt.after hb h1
        replace B0 := step B0 hb
        clear hb
        have c_V1 := V1.cell
        have f0_V1 := V1.frozen 0
        have l_V1 := V1.lt
        have m_V1 := Nat.le_of_lt l_V1
        go_wp2_with fail
        go_ret
        exact ⟨rfl, B0⟩
      · have hb1 : ¬ b0 < 2 := by omega
        refine (digits_bad b0 (.inr hb) a1 l1 c1 _).mono ?_
        rintro e x4 ⟨rfl, hb⟩
        replace V1 := Va.after hb V1
        replace h1 := Nt.after hb h1
        replace B0 := step B0 hb
        clear hb
        have c_V1 := V1.cell
        have f0_V1 := V1.frozen 0
        have l_V1 := V1.lt
        have m_V1 := Nat.le_of_lt l_V1
        go_wp2_with fail
        go_ret
        exact ⟨rfl, B0⟩
    obtain ⟨b, rfl⟩ : ∃ b : Nat, b0 = b := ⟨b0.toNat, by omega⟩
    have hb2 : 2 ≤ b := by omega
    have hb36 : b ≤ 36 := by omega
    have hbI : IntKind.u64.wrap (b : Int) = b := by rw [IntKind.wrap_u64]; omega
    clear hb
    refine (digits_b b hb2 hb36 a1 l1 c1 z1 _ h1 (HT.out.to B0)).mono ?_
    rintro e x4 ⟨t, rfl, ht, hb⟩
    replace V1 := Va.after hb V1
    replace h1 := Nt.after hb h1
    replace B0 := step B0 hb
    clear hb
    have htl := len_b hb2 ht h1.nonneg h1.lt
    have htp := ht.pos
    obtain ⟨g1, g2, g3, g4⟩ := tx_bounds hb2 hb36 ht h1.nonneg E1.out
    obtain ⟨d, hd⟩ : ∃ d, t.length = d + 1 := ⟨t.length - 1, by omega⟩
    rw [hd] at g1 g2 g3 g4 htl ⊢
    rw [Nat.add_sub_cancel] at g2 g4
    have G1 : Hid (num z1 < (b : Int) ^ (d + 1)) := g1
    have G2 : Hid (d + 1 = 1 ∨ (b : Int) ^ d ≤ num z1) := g2
    have G3 : Hid ((b : Int) ^ (d + 1) < pw 4096) := g3
    have G4 : Hid ((b : Int) ^ d < pw 4096) := g4
    have ed : ((d + 1 : Nat) : Int) - 1 = d := by omega
    clear g1 g2 g3 g4 ht htp hd E1 HU
    have c_V1 := V1.cell
    have f0_V1 := V1.frozen 0
    have l_V1 := V1.lt
    have m_V1 := Nat.le_of_lt l_V1
    go_wp2_with fail
    refine (small_any (b : Int) ⟨by omega, by omega⟩ _).mono ?_
    rintro e x5 ⟨a2, l2, c2, z2, rfl, h2, e2, hb⟩
    replace V1 := Va.after hb V1
    replace h1 := Nt.after hb h1
    replace B0 := step B0 hb
    clear hb
    have E2 : Hid (num z2 = b) := e2
    clear e2
    clear c_V1 f0_V1 l_V1 m_V1
    have c_V1 := V1.cell
    have f0_V1 := V1.frozen 0
    have l_V1 := V1.lt
    have m_V1 := Nat.le_of_lt l_V1
    go_wp2_with fail
    refine (pow_fits a2 l2 c2 z2 d _ h2 (by omega) (by rw [E2.out]; exact G4.out)).mono ?_
    rintro e x6 ⟨a3, l3, c3, z3, rfl, h3, e3, hb⟩
    replace V1 := Va.after hb V1
    replace h1 := Nt.after hb h1
    replace h2 := Nt.after hb h2
    replace B0 := step B0 hb
    clear hb
    have E3 : Hid (num z3 = (b : Int) ^ d) := by show _ = _; rw [e3, E2.out]
    clear e3
    clear c_V1 f0_V1 l_V1 m_V1
    have c_V1 := V1.cell
    have f0_V1 := V1.frozen 0
    have l_V1 := V1.lt
    have m_V1 := Nat.le_of_lt l_V1
    go_wp2_with fail
    refine ent1 x6 _ _ (Q := fun W => Calls Tryd.prog _ _ W _) ?_
    intro x7 hb hs_x7 V3
    replace V1 := Va.after hb V1
    replace h1 := Nt.after hb h1
    replace h2 := Nt.after hb h2
    replace h3 := Nt.after hb h3
    replace B0 := step B0 hb
    clear hb hs_x7
    clear h2
    clear E2
    refine (small_any (b : Int) ⟨by omega, by omega⟩ _).mono ?_
    rintro e x8 ⟨a4, l4, c4, z4, rfl, h4, e4, hb⟩
    replace V1 := Va.after hb V1
    replace V3 := Va.after hb V3
    replace h1 := Nt.after hb h1
    replace h3 := Nt.after hb h3
    replace B0 := step B0 hb
    clear hb
    have E4 : Hid (num z4 = b) := e4
    clear e4
    clear c_V1 f0_V1 l_V1 m_V1
    have c_V1 := V1.cell
    have f0_V1 := V1.frozen 0
    have l_V1 := V1.lt
    have m_V1 := Nat.le_of_lt l_V1
    have c_V3 := V3.cell
    have f0_V3 := V3.frozen 0
    have l_V3 := V3.lt
    have m_V3 := Nat.le_of_lt l_V3
    go_wp2_with fail
    have hpw := pow_fits a4 l4 c4 z4 (d + 1) x8 h4 (by omega) (by rw [E4.out]; exact G3.out)
    rw [show ((d + 1 : Nat) : Int) = (d : Int) + 1 by omega] at hpw
    clear G3 G4
    refine (hpw).mono ?_
    rintro e x9 ⟨a5, l5, c5, z5, rfl, h5, e5, hb⟩
    replace V1 := Va.after hb V1
    replace V3 := Va.after hb V3
    replace h1 := Nt.after hb h1
    replace h3 := Nt.after hb h3
    replace h4 := Nt.after hb h4
    replace B0 := step B0 hb
    clear hb
    have E5 : Hid (num z5 = (b : Int) ^ (d + 1)) := by show _ = _; rw [e5, E4.out]
    clear e5 hpw
    clear c_V1 f0_V1 l_V1 m_V1 c_V3 f0_V3 l_V3 m_V3
    have c_V1 := V1.cell
    have f0_V1 := V1.frozen 0
    have l_V1 := V1.lt
    have m_V1 := Nat.le_of_lt l_V1
    have c_V3 := V3.cell
    have f0_V3 := V3.frozen 0
    have l_V3 := V3.lt
    have m_V3 := Nat.le_of_lt l_V3
    go_wp2_with fail
    refine ent1 x9 _ _ (Q := fun W => Calls Tryd.prog _ _ W _) ?_
    intro x10 hb hs_x10 V5
    replace V1 := Va.after hb V1
    replace V3 := Va.after hb V3
    replace h1 := Nt.after hb h1
    replace h3 := Nt.after hb h3
    replace h4 := Nt.after hb h4
    replace h5 := Nt.after hb h5
    replace B0 := step B0 hb
    clear hb hs_x10
    clear h4
    clear E4
    have hcm := ncompare_any a1 a5 l1 c1 l5 c5 z1 z5 x10 h1 h5
    rw [show cmp3 (num z1) (num z5) = -1 by unfold cmp3; rw [if_pos (by rw [E5.out]; exact G1.out)]] at hcm
    refine (hcm).mono ?_
    rintro e x11 ⟨rfl, hb⟩
    replace V1 := Va.after hb V1
    replace V3 := Va.after hb V3
    replace V5 := Va.after hb V5
    replace h1 := Nt.after hb h1
    replace h3 := Nt.after hb h3
    replace h5 := Nt.after hb h5
    replace B0 := step B0 hb
    clear hb
    clear V5 h5
    clear E5 G1
    by_cases hd0 : d = 0
    · subst hd0
      clear c_V1 f0_V1 l_V1 m_V1 c_V3 f0_V3 l_V3 m_V3
      have c_V1 := V1.cell
      have f0_V1 := V1.frozen 0
      have l_V1 := V1.lt
      have m_V1 := Nat.le_of_lt l_V1
      have c_V3 := V3.cell
      have f0_V3 := V3.frozen 0
      have l_V3 := V3.lt
      have m_V3 := Nat.le_of_lt l_V3
      go_wp2_with fail
      go_ret
      exact ⟨rfl, B0⟩
    · have hd1 : ¬ (d : Int) = 0 := by omega
      have hd2 : ¬ (d : Int) + 1 = 1 := by omega
      have G5 : Hid ((b : Int) ^ d ≤ num z1) := G2.out.resolve_left (by omega)
      clear G2
      clear c_V1 f0_V1 l_V1 m_V1 c_V3 f0_V3 l_V3 m_V3
      have c_V1 := V1.cell
      have f0_V1 := V1.frozen 0
      have l_V1 := V1.lt
      have m_V1 := Nat.le_of_lt l_V1
      have c_V3 := V3.cell
      have f0_V3 := V3.frozen 0
      have l_V3 := V3.lt
      have m_V3 := Nat.le_of_lt l_V3
      go_wp2_with fail
      have hcm := ncompare_any a3 a1 l3 c3 l1 c1 z3 z1 x11 h3 h1
      obtain ⟨cc, hcc, hcl⟩ : ∃ cc, cmp3 (num z3) (num z1) = cc ∧ cc ≤ 0 := ⟨_, rfl, by have := G5.out; rw [← E3.out] at this; unfold cmp3; split; omega; split; omega; omega⟩
      rw [hcc] at hcm
      clear hcc
      refine (hcm).mono ?_
      rintro e x12 ⟨rfl, hb⟩
      replace V1 := Va.after hb V1
      replace V3 := Va.after hb V3
      replace h1 := Nt.after hb h1
      replace h3 := Nt.after hb h3
      replace B0 := step B0 hb
      clear hb
      clear c_V1 f0_V1 l_V1 m_V1 c_V3 f0_V3 l_V3 m_V3
      have c_V1 := V1.cell
      have f0_V1 := V1.frozen 0
      have l_V1 := V1.lt
      have m_V1 := Nat.le_of_lt l_V1
      have c_V3 := V3.cell
      have f0_V3 := V3.frozen 0
      have l_V3 := V3.lt
      have m_V3 := Nat.le_of_lt l_V3
      go_wp2_with fail
      go_ret
      exact ⟨by first | rfl | simp [hcl], B0⟩

theorem nbounds_walk (a0 : Option Addr) (len0 cap0 : Nat) (z0 : List Int) (b0 : Int) (w : World) (h0 : Sl w a0 len0 z0) (hl0 : len0 ≤ 17592186044416) (c0 : len0 ≤ cap0) (e0 : a0 = none → len0 = 0 ∧ cap0 = 0) (hT : Tb w) :
    Calls Tryd.prog 5 #[.slice a0 len0 cap0, .int .i64 b0] w fun e w' => e = .returned (.bool true) ∧ Below w.heap.size w w' := by
  by_cases h : len0 ≤ 64
  · exact nbounds_core a0 len0 len0 cap0 z0 b0 w h0 h (.inl ⟨h, rfl⟩) c0 e0 hT hl0
  · exact nbounds_core a0 64 len0 cap0 (z0.take 64) b0 w (h0.take (by omega)) (Nat.le_refl _) (.inr ⟨by omega, rfl⟩) c0 e0 hT hl0
end Go.Proofs.YtjpghkpdgiiabaaDoor
