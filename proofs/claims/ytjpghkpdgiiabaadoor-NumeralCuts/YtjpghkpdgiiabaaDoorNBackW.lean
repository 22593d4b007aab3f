/-
  The walk of NumeralBack: each call by its contract.
-/
import Derived.Test.YtjpghkpdgiiabaaDoorTextB
import Derived.Test.YtjpghkpdgiiabaaDoorCopyl
import Derived.Test.YtjpghkpdgiiabaaDoorStrP
namespace Go.Proofs.YtjpghkpdgiiabaaDoor
open Go.RowKit Go.Shelf
set_option linter.unusedVariables false

theorem ps_ok {b : Nat} {s : ByteArray} {W : World} {e : Ending} (h : PsR b s W e) (hd : Dig b s.data.toList) (h0 : 0 < s.size) (h1 : s.size ≤ 262144) (hv : (tv b s.data.toList : Int) < pw 4096) : ∃ a l c zs, e = .returned (.tuple #[.agg #[.slice a l c], .int .i64 0, .int .i64 0]) ∧ Nt W a l c zs ∧ num zs = tv b s.data.toList := by
  rcases h with ⟨h, -⟩ | ⟨-, ⟨h, -⟩ | ⟨-, -, er, a, l, c, zs, rfl, h2, h3⟩ | ⟨k, hk, -, -, hbad⟩⟩
  · omega
  · omega
  · rcases h3 with ⟨e1, e2, -⟩ | ⟨-, -, -, -, -, e2⟩
    · subst e1; exact ⟨a, l, c, zs, rfl, h2, e2⟩
    · exact absurd hv (Int.not_lt.2 e2)
  · exact absurd (hd s[k] (by show s.data[k] ∈ s.data.toList; simp)) (by omega)
theorem ps_long {b : Nat} {s : ByteArray} {W : World} {e : Ending} (h : PsR b s W e) (h1 : 262144 < s.size) : e = .returned (.tuple #[.agg #[.slice none 0 0], .int .i64 0, .int .i64 3]) := by
  rcases h with ⟨-, h⟩ | ⟨h, -⟩
  · exact h
  · omega
theorem ps_1z {W : World} {e : Ending} (h : PsR 35 ⟨#[49, 122]⟩ W e) : e = .returned (.tuple #[.agg #[.slice none 0 0], .int .i64 1, .int .i64 31]) := by
  rcases h with ⟨h, -⟩ | ⟨-, ⟨h, -⟩ | ⟨-, hd, -⟩ | ⟨k, hk, rfl, h1, hbad⟩⟩
  · exact absurd h (by decide)
  · exact absurd h (by decide)
  · exact absurd (hd 122 (by decide)) (by decide)
  · have hk2 : k < 2 := hk
    have : k = 0 ∨ k = 1 := by omega
    rcases this with rfl | rfl
    · have hbad' : 35 ≤ wv 49 := hbad
      exact absurd hbad' (by decide)
    · rfl
theorem dig_1z : Dig 36 [49, 122] := fun c hc => by
  have : c = 49 ∨ c = 122 := by simpa using hc
  rcases this with rfl | rfl <;> decide
theorem first_byte {t : List UInt8} (htp : 0 < t.length) (hN : 1 < t.length → ∀ c r, t = c :: r → ¬ (c.toNat : Int) = 48) : ∃ c : UInt8, (ByteArray.mk t.toArray)[0]'(by rw [bsize]; exact htp) = c ∧ (1 < t.length → ¬ (c.toNat : Int) = 48) := by
  cases t with
  | nil => simp at htp
  | cons c r => exact ⟨c, rfl, fun h => hN h c r rfl⟩
theorem small_lt {v n : Nat} (h : v < n) (hn : n ≤ 18446744073709551616) : (v : Int) < pw 4096 := by
  have h1 : pw 1 ≤ pw 4096 := pw_mono (by omega)
  have h2 : pw 1 = 18446744073709551616 := by decide
  omega
theorem tx_ff : Tx 16 [102, 102] 255 := ⟨by simp, fun c hc => by obtain rfl : c = 102 := by simpa using hc
                                                                 decide, by decide, fun e => by simp at e⟩
set_option maxHeartbeats 4000000 in
theorem number_ok (a : Option Addr) (len cap : Nat) (zs : List Int) (w : World) (h : Sl w a len zs) (hl : len ≤ 17592186044416) (hc : len ≤ cap) (hn : a = none → len = 0 ∧ cap = 0) (hu : usedN zs ≤ 4096) :
    Calls Tryd.prog 11 #[.slice a len cap] w fun e w' => ∃ a' l' c' zs', e = .returned (.tuple #[.agg #[.slice a' l' c'], .bool true]) ∧ Nt w' a' l' c' zs' ∧ Below w.heap.size w w' := by
  go_enter Tryd.func11, Tryd.ntmps11
  go_wp2_with fail
  refine ent1 w _ _ (Q := fun W => Calls Tryd.prog _ _ W _) ?_
  intro w0 B0 hs V0
  clear hs
  refine (rtrim_n a len cap zs w0 (h.below B0 (Nat.le_refl _)) hl hc).mono ?_
  rintro e w1 ⟨a1, c1, rfl, -, -, -, hb1⟩
  replace V0 := Va.after hb1 V0
  replace B0 := step B0 hb1
  clear hb1
  have hui : ¬ (4096 : Int) < usedN zs := by omega
  go_wp2_with fail
  refine (copyl_any a len cap zs w1 (h.below B0 (Nat.le_refl _)) hn hl).mono ?_
  rintro e w2 ⟨a2, c2, rfl, h2, hc2, -, hb2⟩
  replace V0 := Va.after hb2 V0
  replace B0 := step B0 hb2
  clear hb2
  go_wp2_with fail
  refine (of_ok a2 len c2 zs w2 h2 (by omega) hc2 hu).mono ?_
  rintro e w3 ⟨g, l', c', zs', rfl, -, h3, -, hb3⟩
  replace V0 := Va.after hb3 V0
  replace B0 := step B0 hb3
  clear hb3 h2
  have q0 := V0.cell
  have f0 := V0.frozen 0
  have l0 := V0.lt
  have m0 := Nat.le_of_lt l0
  go_wp2_with fail
  have B1 := B0.setCell (p := ⟨w.heap.size, 0, none⟩) (Nat.le_refl _) (.slice (some ⟨g, 0, none⟩) l' c')
  refine bodyPost_ret (results_ct rfl rfl ((V0.set _).old _)) rfl ?_
  exact ⟨_, _, _, zs', rfl, (h3.store V0 _).al' _, B1.alloc B1.size _⟩
set_option maxHeartbeats 4000000 in
theorem number_long (a : Option Addr) (len cap : Nat) (zs : List Int) (w : World) (h : Sl w a len zs) (hl : len ≤ 17592186044416) (hc : len ≤ cap) (hu : 4096 < usedN zs) :
    Calls Tryd.prog 11 #[.slice a len cap] w fun e w' => e = .returned (.tuple #[.agg #[.slice none 0 0], .bool false]) ∧ Below w.heap.size w w' := by
  go_enter Tryd.func11, Tryd.ntmps11
  go_wp2_with fail
  refine ent1 w _ _ (Q := fun W => Calls Tryd.prog _ _ W _) ?_
  intro w0 B0 hs V0
  clear hs
  refine (rtrim_n a len cap zs w0 (h.below B0 (Nat.le_refl _)) hl hc).mono ?_
  rintro e w1 ⟨a1, c1, rfl, -, -, -, hb1⟩
  replace V0 := Va.after hb1 V0
  replace B0 := step B0 hb1
  clear hb1
  have hui : (4096 : Int) < usedN zs := by omega
  have q0 := V0.cell
  have f0 := V0.frozen 0
  have l0 := V0.lt
  have m0 := Nat.le_of_lt l0
  go_wp2_with fail
  refine bodyPost_ret (results_ct rfl rfl (V0.set _)) rfl ?_
  exact ⟨rfl, B0.setCell (p := ⟨w.heap.size, 0, none⟩) (Nat.le_refl _) _⟩
set_option maxHeartbeats 8000000 in
set_option maxRecDepth 20000 in
theorem awake3 (w : World) (hT : Tb w) : Calls Tryd.prog 10 #[] w fun e W' => e = .returned (.bool true) ∧ Below w.heap.size w W' := by
  have B0 : Below w.heap.size w w := Below.refl _ _
  have HT : Hid (Tb w) := hT
  clear hT
  go_enter Tryd.func10, Tryd.ntmps10
  go_wp2_with fail
  refine (small_any 255 ⟨by omega, by omega⟩ _).mono ?_
  rintro e x1 ⟨a1, l1, c1, z1, rfl, h1, e1, hb⟩
  replace B0 := step B0 hb
  clear hb
  have E1 : Hid (num z1 = 255) := e1
  clear e1
  go_wp2_with fail
  refine (text_b 16 (by omega) (by omega) a1 l1 c1 z1 _ h1 (HT.out.to B0)).mono ?_
  rintro e x2 ⟨t1, rfl, ht1, hb⟩
  replace h1 := Nt.after hb h1
  replace B0 := step B0 hb
  clear hb
  obtain rfl : t1 = [102, 102] := by
    rw [E1.out] at ht1
    exact ht1.unique (by omega) (by omega) tx_ff
  clear ht1
  clear h1
  clear E1
  have hpk : ∀ W, Calls Tryd.prog 8 #[.string ⟨#[49, 122]⟩, .int .i64 36] W fun e W' => ∃ a l c zs, e = .returned (.tuple #[.agg #[.slice a l c], .int .i64 0, .int .i64 0]) ∧ Nt W' a l c zs ∧ num zs = 71 ∧ Below W.heap.size W W' := fun W => (parse_b 36 (by omega) (by omega) ⟨#[49, 122]⟩ W).mono (fun e W' h => by
    have hv : tv 36 [49, 122] = 71 := by decide
    obtain ⟨a, l, c, zs, h1, h2, h3⟩ := ps_ok h.1 dig_1z (by decide) (by decide) (small_lt (n := 100) (by show tv 36 [49, 122] < 100; omega) (by omega))
    exact ⟨a, l, c, zs, h1, h2, h3.trans (by show ((tv 36 [49, 122] : Nat) : Int) = 71; rw [hv]; rfl), h.2⟩)
  have hpb : ∀ W, Calls Tryd.prog 8 #[.string ⟨#[49, 122]⟩, .int .i64 35] W fun e W' => e = .returned (.tuple #[.agg #[.slice none 0 0], .int .i64 1, .int .i64 31]) ∧ Below W.heap.size W W' := fun W => (parse_b 35 (by omega) (by omega) ⟨#[49, 122]⟩ W).mono (fun e W' h => ⟨ps_1z h.1, h.2⟩)
  go_wp2_with fail
  refine (hpk _).mono ?_
  rintro e x3 ⟨a2, l2, c2, z2, rfl, h2, e2, hb⟩
  replace B0 := step B0 hb
  clear hb
  have E2 : Hid (num z2 = 71) := e2
  clear e2
  go_wp2_with fail
  refine ent1 x3 _ _ (Q := fun W => Calls Tryd.prog _ _ W _) ?_
  intro x4 hb hs_x4 V2
  replace h2 := Nt.after hb h2
  replace B0 := step B0 hb
  clear hb hs_x4
  have hu := uint64_small a2 l2 c2 z2 x4 h2 (by rw [E2.out]; omega)
  rw [E2.out] at hu
  refine (hu).mono ?_
  rintro e x5 ⟨rfl, hb⟩
  replace V2 := Va.after hb V2
  replace h2 := Nt.after hb h2
  replace B0 := step B0 hb
  clear hb
  have c_V2 := V2.cell
  have f0_V2 := V2.frozen 0
  have l_V2 := V2.lt
  have m_V2 := Nat.le_of_lt l_V2
  go_wp2_with fail
  clear h2 V2
  clear E2
  refine (hpb _).mono ?_
  rintro e x6 ⟨rfl, hb⟩
  replace B0 := step B0 hb
  clear hb
  clear c_V2 f0_V2 l_V2 m_V2
  go_wp2_with fail
  go_ret
  exact ⟨rfl, B0.alloc B0.size _⟩

set_option maxHeartbeats 16000000 in
set_option maxRecDepth 20000 in
theorem nback_walk (a0 : Option Addr) (len0 cap0 : Nat) (z0 : List Int) (b0 : Int) (w : World) (h0 : Sl w a0 len0 z0) (hl0 : len0 ≤ 17592186044416) (c0 : len0 ≤ cap0) (e0 : a0 = none → len0 = 0 ∧ cap0 = 0) (hT : Tb w) :
    Calls Tryd.prog 4 #[.slice a0 len0 cap0, .int .i64 b0] w fun e w' => e = .returned (.bool true) ∧ Below w.heap.size w w' := by
  have B0 : Below w.heap.size w w := Below.refl _ _
  have HT : Hid (Tb w) := hT
  clear hT
  go_enter Tryd.func4, Tryd.ntmps4
  go_wp2_with fail
  refine (awake3 _ (HT.out.to B0)).mono ?_
  rintro e x1 ⟨rfl, hb⟩
  replace B0 := step B0 hb
  clear hb
  go_wp2_with fail
  by_cases hu : usedN z0 ≤ 4096
  ·
    refine (number_ok a0 len0 cap0 z0 _ (h0.below B0 (Nat.le_refl _)) hl0 c0 e0 hu).mono ?_
    rintro e x2 ⟨a1, l1, c1, z1, rfl, h1, hb⟩
    replace B0 := step B0 hb
    clear hb
    clear h0 hu
    go_wp2_with fail
    refine ent1 x2 _ _ (Q := fun W => Calls Tryd.prog _ _ W _) ?_
    intro x3 hb hs_x3 V1
    replace h1 := Nt.after hb h1
    replace B0 := step B0 hb
    clear hb hs_x3
    by_cases hb : b0 < 2 ∨ 36 < b0
    · rcases hb with hb | hb
      · 
        refine (text_bad b0 (.inl hb) a1 l1 c1 _).mono ?_
        rintro e x4 ⟨rfl, hb⟩
        replace V1 := Va.after hb V1
        replace h1 := Nt.after hb h1
        replace B0 := step B0 hb
        clear hb
        have c_V1 := V1.cell
        have f0_V1 := V1.frozen 0
        have l_V1 := V1.lt
        have m_V1 := Nat.le_of_lt l_V1
        go_wp2_with fail
        go_ret
        exact ⟨rfl, B0⟩
      · have hb1 : ¬ b0 < 2 := by omega
        refine (text_bad b0 (.inr hb) a1 l1 c1 _).mono ?_
        rintro e x4 ⟨rfl, hb⟩
        replace V1 := Va.after hb V1
        replace h1 := Nt.after hb h1
        replace B0 := step B0 hb
        clear hb
        have c_V1 := V1.cell
        have f0_V1 := V1.frozen 0
        have l_V1 := V1.lt
        have m_V1 := Nat.le_of_lt l_V1
        go_wp2_with fail
        go_ret
        exact ⟨rfl, B0⟩
    obtain ⟨b, rfl⟩ : ∃ b : Nat, b0 = b := ⟨b0.toNat, by omega⟩
    have hb2 : 2 ≤ b := by omega
    have hb36 : b ≤ 36 := by omega
    have hb3 : ¬ (b : Int) < 2 := by omega
    have hb4 : ¬ (36 : Int) < b := by omega
    clear hb
    refine (text_b b hb2 hb36 a1 l1 c1 z1 _ h1 (HT.out.to B0)).mono ?_
    rintro e x4 ⟨t, rfl, ht, hb⟩
    replace V1 := Va.after hb V1
    replace h1 := Nt.after hb h1
    replace B0 := step B0 hb
    clear hb
    have HX : Hid (Tx b t (num z1).toNat) := ht
    have HL : Hid (t.length ≤ 262144) := len_b hb2 ht h1.nonneg h1.lt
    have htl := HL.out
    have htp := ht.pos
    have hbz : (ByteArray.mk t.toArray).size = t.length := bsize t
    have hcat : (⟨#[48]⟩ ++ ⟨t.toArray⟩ : ByteArray) = ⟨(48 :: t).toArray⟩ := cat [48] t
    clear ht
    have c_V1 := V1.cell
    have f0_V1 := V1.frozen 0
    have l_V1 := V1.lt
    have m_V1 := Nat.le_of_lt l_V1
    go_wp2_with fail
    refine (digits_b b hb2 hb36 a1 l1 c1 z1 _ h1 (HT.out.to B0)).mono ?_
    rintro e x5 ⟨t', rfl, ht', hb⟩
    replace V1 := Va.after hb V1
    replace h1 := Nt.after hb h1
    replace B0 := step B0 hb
    clear hb
    obtain rfl : t' = t := ht'.unique hb2 hb36 HX.out
    clear ht'
    have htv : (tv b t' : Int) = num z1 := by rw [HX.out.val, Int.toNat_of_nonneg h1.nonneg]
    have hlt1 := h1.lt
    have HPK : Hid (∀ W, Calls Tryd.prog 8 #[.string ⟨t'.toArray⟩, .int .i64 b] W fun e W' => ∃ a l c zs, e = .returned (.tuple #[.agg #[.slice a l c], .int .i64 0, .int .i64 0]) ∧ Nt W' a l c zs ∧ num zs = num z1 ∧ Below W.heap.size W W') := fun W => (parse_b b hb2 hb36 ⟨t'.toArray⟩ W).mono (fun e W' h => by
      obtain ⟨a, l, c, zs, g1, g2, g3⟩ := ps_ok h.1 HX.out.dig (by rw [bsize]; exact htp) (by rw [bsize]; exact htl) (by show (tv b t' : Int) < _; rw [htv]; exact hlt1)
      exact ⟨a, l, c, zs, g1, g2, g3.trans htv, h.2⟩)
    have HPZ : Hid (t'.length ≠ 262144 → ∀ W, Calls Tryd.prog 8 #[.string ⟨(48 :: t').toArray⟩, .int .i64 b] W fun e W' => ∃ a l c zs, e = .returned (.tuple #[.agg #[.slice a l c], .int .i64 0, .int .i64 0]) ∧ Nt W' a l c zs ∧ num zs = num z1 ∧ Below W.heap.size W W') := fun hne W => (parse_b b hb2 hb36 ⟨(48 :: t').toArray⟩ W).mono (fun e W' h => by
      have hv0 : tv b (48 :: t') = tv b t' := by rw [tv_cons, wv_nought]; omega
      obtain ⟨a, l, c, zs, g1, g2, g3⟩ := ps_ok h.1 (fun c hc => by rcases List.mem_cons.1 hc with rfl | hc; (rw [wv_nought]; omega); exact HX.out.dig c hc) (by rw [bsize]; simp) (by rw [bsize]; simp; omega) (by show (tv b (48 :: t') : Int) < _; rw [hv0, htv]; exact hlt1)
      exact ⟨a, l, c, zs, g1, g2, g3.trans (by show (tv b (48 :: t') : Int) = _; rw [hv0, htv]), h.2⟩)
    have HPL : Hid (t'.length = 262144 → ∀ W, Calls Tryd.prog 8 #[.string ⟨(48 :: t').toArray⟩, .int .i64 b] W fun e W' => e = .returned (.tuple #[.agg #[.slice none 0 0], .int .i64 0, .int .i64 3]) ∧ Below W.heap.size W W') := fun he W => (parse_b b hb2 hb36 ⟨(48 :: t').toArray⟩ W).mono (fun e W' h => ⟨ps_long h.1 (by rw [bsize]; simp; omega), h.2⟩)
    have HNZ : Hid (1 < t'.length → ∀ c r, t' = c :: r → ¬ (c.toNat : Int) = 48) := fun h1 c r e hc => by
      have := HX.out.nz (by rw [e]; simp; exact UInt8.toNat_inj.1 (by show c.toNat = 48; omega))
      omega
    clear htv hlt1
    clear c_V1 f0_V1 l_V1 m_V1
    have c_V1 := V1.cell
    have f0_V1 := V1.frozen 0
    have l_V1 := V1.lt
    have m_V1 := Nat.le_of_lt l_V1
    go_wp2_with fail
    refine (HPK.out _).mono ?_
    rintro e x6 ⟨a2, l2, c2, z2, rfl, h2, e2, hb⟩
    replace V1 := Va.after hb V1
    replace h1 := Nt.after hb h1
    replace B0 := step B0 hb
    clear hb
    have E2 : Hid (num z2 = num z1) := e2
    clear e2
    clear c_V1 f0_V1 l_V1 m_V1
    have c_V1 := V1.cell
    have f0_V1 := V1.frozen 0
    have l_V1 := V1.lt
    have m_V1 := Nat.le_of_lt l_V1
    go_wp2_with fail
    refine ent1 x6 _ _ (Q := fun W => Calls Tryd.prog _ _ W _) ?_
    intro x7 hb hs_x7 V2
    replace V1 := Va.after hb V1
    replace h1 := Nt.after hb h1
    replace h2 := Nt.after hb h2
    replace B0 := step B0 hb
    clear hb hs_x7
    have hcm := ncompare_any a2 a1 l2 c2 l1 c1 z2 z1 x7 h2 h1
    rw [E2.out, show cmp3 (num z1) (num z1) = 0 by unfold cmp3; simp] at hcm
    obtain ⟨c, hg0, hc48⟩ := first_byte htp HNZ.out
    refine (hcm).mono ?_
    rintro e x8 ⟨rfl, hb⟩
    replace V1 := Va.after hb V1
    replace V2 := Va.after hb V2
    replace h1 := Nt.after hb h1
    replace h2 := Nt.after hb h2
    replace B0 := step B0 hb
    clear hb
    clear V2 h2
    clear E2 HNZ HPK HX
    have hgo : ∀ W, Calls Tryd.prog 8 #[.string ⟨(48 :: t').toArray⟩, .int .i64 b] W fun e W' => ∃ a l c zs er, e = .returned (.tuple #[.agg #[.slice a l c], .int .i64 0, .int .i64 er]) ∧ Nt W' a l c zs ∧ Hid ((t'.length = 262144 ∧ er = 3) ∨ (t'.length ≠ 262144 ∧ er = 0 ∧ num zs = num z1)) ∧ Below W.heap.size W W' := fun W => by
      by_cases hL : t'.length = 262144
      · exact (HPL.out hL W).mono (fun e W' h => ⟨none, 0, 0, [], 3, h.1, Nt.nil _, .inl ⟨hL, rfl⟩, h.2⟩)
      · exact (HPZ.out hL W).mono (fun e W' ⟨a, l, c, zs, h1, h2, h3, h4⟩ => ⟨a, l, c, zs, 0, h1, h2, .inr ⟨hL, rfl, h3⟩, h4⟩)
    have HGO : Hid (∀ W, Calls Tryd.prog 8 #[.string ⟨(48 :: t').toArray⟩, .int .i64 b] W fun e W' => ∃ a l c zs er, e = .returned (.tuple #[.agg #[.slice a l c], .int .i64 0, .int .i64 er]) ∧ Nt W' a l c zs ∧ Hid ((t'.length = 262144 ∧ er = 3) ∨ (t'.length ≠ 262144 ∧ er = 0 ∧ num zs = num z1)) ∧ Below W.heap.size W W') := hgo
    clear hgo HPL HPZ
    by_cases h1t : 1 < t'.length
    · have h1i : (1 : Int) < t'.length := by omega
      have hc49 := hc48 h1t
      clear hc48
      clear c_V1 f0_V1 l_V1 m_V1
      have c_V1 := V1.cell
      have f0_V1 := V1.frozen 0
      have l_V1 := V1.lt
      have m_V1 := Nat.le_of_lt l_V1
      go_wp2_with fail
      refine (HGO.out _).mono ?_
      rintro e x9 ⟨a3, l3, c3, z3, er, rfl, h3, hE, hb⟩
      replace V1 := Va.after hb V1
      replace h1 := Nt.after hb h1
      replace B0 := step B0 hb
      clear hb
      rcases hE.out with ⟨hL, rfl⟩ | ⟨hL, rfl, hz⟩
      · have hLi : (t'.length : Int) = 262144 := by omega
        clear c_V1 f0_V1 l_V1 m_V1
        have c_V1 := V1.cell
        have f0_V1 := V1.frozen 0
        have l_V1 := V1.lt
        have m_V1 := Nat.le_of_lt l_V1
        go_wp2_with fail
        go_ret
        exact ⟨rfl, B0.alloc B0.size _⟩
      · have hLi : ¬ (t'.length : Int) = 262144 := by omega
        have HZ : Hid (num z3 = num z1) := hz
        clear hz hL hE
        clear c_V1 f0_V1 l_V1 m_V1
        have c_V1 := V1.cell
        have f0_V1 := V1.frozen 0
        have l_V1 := V1.lt
        have m_V1 := Nat.le_of_lt l_V1
        go_wp2_with fail
        refine ent1 x9 _ _ (Q := fun W => Calls Tryd.prog _ _ W _) ?_
        intro x10 hb hs_x10 V3
        replace V1 := Va.after hb V1
        replace h1 := Nt.after hb h1
        replace h3 := Nt.after hb h3
        replace B0 := step B0 hb
        clear hb hs_x10
        have hcm := ncompare_any a3 a1 l3 c3 l1 c1 z3 z1 x10 h3 h1
        rw [HZ.out, show cmp3 (num z1) (num z1) = 0 by unfold cmp3; simp] at hcm
        refine (hcm).mono ?_
        rintro e x11 ⟨rfl, hb⟩
        replace V1 := Va.after hb V1
        replace V3 := Va.after hb V3
        replace h1 := Nt.after hb h1
        replace h3 := Nt.after hb h3
        replace B0 := step B0 hb
        clear hb
        clear c_V1 f0_V1 l_V1 m_V1
        have c_V1 := V1.cell
        have f0_V1 := V1.frozen 0
        have l_V1 := V1.lt
        have m_V1 := Nat.le_of_lt l_V1
        go_wp2_with fail
        go_ret
        exact ⟨rfl, B0⟩
    · have h1i : ¬ (1 : Int) < t'.length := by omega
      clear hc48
      clear c_V1 f0_V1 l_V1 m_V1
      have c_V1 := V1.cell
      have f0_V1 := V1.frozen 0
      have l_V1 := V1.lt
      have m_V1 := Nat.le_of_lt l_V1
      go_wp2_with fail
      refine (HGO.out _).mono ?_
      rintro e x9 ⟨a3, l3, c3, z3, er, rfl, h3, hE, hb⟩
      replace V1 := Va.after hb V1
      replace h1 := Nt.after hb h1
      replace B0 := step B0 hb
      clear hb
      rcases hE.out with ⟨hL, rfl⟩ | ⟨hL, rfl, hz⟩
      · have hLi : (t'.length : Int) = 262144 := by omega
        exfalso
        omega
      · have hLi : ¬ (t'.length : Int) = 262144 := by omega
        have HZ : Hid (num z3 = num z1) := hz
        clear hz hL hE
        clear c_V1 f0_V1 l_V1 m_V1
        have c_V1 := V1.cell
        have f0_V1 := V1.frozen 0
        have l_V1 := V1.lt
        have m_V1 := Nat.le_of_lt l_V1
        go_wp2_with fail
        refine ent1 x9 _ _ (Q := fun W => Calls Tryd.prog _ _ W _) ?_
        intro x10 hb hs_x10 V3
        replace V1 := Va.after hb V1
        replace h1 := Nt.after hb h1
        replace h3 := Nt.after hb h3
        replace B0 := step B0 hb
        clear hb hs_x10
        have hcm := ncompare_any a3 a1 l3 c3 l1 c1 z3 z1 x10 h3 h1
        rw [HZ.out, show cmp3 (num z1) (num z1) = 0 by unfold cmp3; simp] at hcm
        refine (hcm).mono ?_
        rintro e x11 ⟨rfl, hb⟩
        replace V1 := Va.after hb V1
        replace V3 := Va.after hb V3
        replace h1 := Nt.after hb h1
        replace h3 := Nt.after hb h3
        replace B0 := step B0 hb
        clear hb
        clear c_V1 f0_V1 l_V1 m_V1
        have c_V1 := V1.cell
        have f0_V1 := V1.frozen 0
        have l_V1 := V1.lt
        have m_V1 := Nat.le_of_lt l_V1
        go_wp2_with fail
        go_ret
        exact ⟨rfl, B0⟩
  ·
    refine (number_long a0 len0 cap0 z0 _ (h0.below B0 (Nat.le_refl _)) hl0 c0 (by omega)).mono ?_
    rintro e x2 ⟨rfl, hb⟩
    replace B0 := step B0 hb
    clear hb
    go_wp2_with fail
    go_ret
    exact ⟨rfl, B0.alloc B0.size _⟩
end Go.Proofs.YtjpghkpdgiiabaaDoor
