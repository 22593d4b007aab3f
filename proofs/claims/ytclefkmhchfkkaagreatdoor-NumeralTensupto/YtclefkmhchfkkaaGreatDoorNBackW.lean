/-
  The walk of NumeralBack: each call by its contract.
-/
import Derived.Test.YtclefkmhchfkkaaGreatDoorTextB
import Derived.Test.YtclefkmhchfkkaaGreatDoorCopyl
import Derived.Test.YtclefkmhchfkkaaGreatDoorStrP
namespace Go.Proofs.YtclefkmhchfkkaaGreatDoor
open Go.RowKit Go.Shelf
set_option linter.unusedVariables false

theorem ps_ok {b : Nat} {s : ByteArray} {W : World} {e : Ending} (h : PsR b s W e) (hd : Dig b s.data.toList) (h0 : 0 < s.size) (h1 : s.size ≤ 262144) (hv : (tv b s.data.toList : Int) < pw 4096) : ∃ a l c zs, e = .returned (.tuple #[.agg #[.slice a l c], .int .i64 0, .int .i64 0]) ∧ Nt W a l c zs ∧ num zs = tv b s.data.toList := by
  rcases h with ⟨h, -⟩ | ⟨-, ⟨h, -⟩ | ⟨-, -, er, a, l, c, zs, rfl, h2, h3⟩ | ⟨k, hk, -, -, hbad⟩⟩
  · omega
  · omega
  · rcases h3 with ⟨e1, e2, -⟩ | ⟨-, -, -, -, -, e2⟩
    · subst e1; exact ⟨a, l, c, zs, rfl, h2, e2⟩
    · exact absurd hv (Int.not_lt.2 e2)
  · exact absurd (hd s[k] (by show s.data[k] ∈ s.data.toList; simp)) (by omega)
theorem ps_long {b : Nat} {s : ByteArray} {W : World} {e : Ending} (h : PsR b s W e) (h1 : 262144 < s.size) : e = .returned (.tuple #[.agg #[.slice none 0 0], .int .i64 0, .int .i64 3]) := by
  rcases h with ⟨-, h⟩ | ⟨h, -⟩
  · exact h
  · omega
theorem ps_1z {W : World} {e : Ending} (h : PsR 35 ⟨#[49, 122]⟩ W e) : e = .returned (.tuple #[.agg #[.slice none 0 0], .int .i64 1, .int .i64 31]) := by
  rcases h with ⟨h, -⟩ | ⟨-, ⟨h, -⟩ | ⟨-, hd, -⟩ | ⟨k, hk, rfl, h1, hbad⟩⟩
  · exact absurd h (by decide)
  · exact absurd h (by decide)
  · exact absurd (hd 122 (by decide)) (by decide)
  · have hk2 : k < 2 := hk
    have : k = 0 ∨ k = 1 := by omega
    rcases this with rfl | rfl
    · have hbad' : 35 ≤ wv 49 := hbad
      exact absurd hbad' (by decide)
    · rfl
theorem dig_1z : Dig 36 [49, 122] := fun c hc => by
  have : c = 49 ∨ c = 122 := by simpa using hc
  rcases this with rfl | rfl <;> decide
theorem first_byte {t : List UInt8} (htp : 0 < t.length) (hN : 1 < t.length → ∀ c r, t = c :: r → ¬ (c.toNat : Int) = 48) : ∃ c : UInt8, (ByteArray.mk t.toArray)[0]'(by rw [bsize]; exact htp) = c ∧ (1 < t.length → ¬ (c.toNat : Int) = 48) := by
  cases t with
  | nil => simp at htp
  | cons c r => exact ⟨c, rfl, fun h => hN h c r rfl⟩
theorem small_lt {v n : Nat} (h : v < n) (hn : n ≤ 18446744073709551616) : (v : Int) < pw 4096 := by
  have h1 : pw 1 ≤ pw 4096 := pw_mono (by omega)
  have h2 : pw 1 = 18446744073709551616 := by decide
  omega
theorem tx_ff : Tx 16 [102, 102] 255 := ⟨by simp, fun c hc => by obtain rfl : c = 102 := by simpa using hc
                                                                 decide, by decide, fun e => by simp at e⟩
set_option maxHeartbeats 4000000 in
theorem number_ok (a : Option Addr) (len cap : Nat) (zs : List Int) (w : World) (h : Sl w a len zs) (hl : len ≤ 17592186044416) (hc : len ≤ cap) (hn : a = none → len = 0 ∧ cap = 0) (hu : usedN zs ≤ 4096) :
    Calls Tryz.prog 5 #[.slice a len cap] w fun e w' => ∃ a' l' c' zs', e = .returned (.tuple #[.agg #[.slice a' l' c'], .bool true]) ∧ Nt w' a' l' c' zs' ∧ Below w.heap.size w w' := by
  go_enter Tryz.func5, Tryz.ntmps5
  go_wp2_with fail
  refine ent1 w _ _ (Q := fun W => Calls Tryz.prog _ _ W _) ?_
  intro w0 B0 hs V0
  clear hs
  refine (rtrim_n a len cap zs w0 (h.below B0 (Nat.le_refl _)) hl hc).mono ?_
  rintro e w1 ⟨a1, c1, rfl, -, -, -, hb1⟩
  replace V0 := Va.after hb1 V0
  replace B0 := step B0 hb1
  clear hb1
  have hui : ¬ (4096 : Int) < usedN zs := by omega
  go_wp2_with fail
  refine (copyl_any a len cap zs w1 (h.below B0 (Nat.le_refl _)) hn hl).mono ?_
  rintro e w2 ⟨a2, c2, rfl, h2, hc2, -, hb2⟩
  replace V0 := Va.after hb2 V0
  replace B0 := step B0 hb2
  clear hb2
  go_wp2_with fail
  refine (of_ok a2 len c2 zs w2 h2 (by omega) hc2 hu).mono ?_
  rintro e w3 ⟨g, l', c', zs', rfl, -, h3, -, hb3⟩
  replace V0 := Va.after hb3 V0
  replace B0 := step B0 hb3
  clear hb3 h2
  have q0 := V0.cell
  have f0 := V0.frozen 0
  have l0 := V0.lt
  have m0 := Nat.le_of_lt l0
  go_wp2_with fail
  have B1 := B0.setCell (p := ⟨w.heap.size, 0, none⟩) (Nat.le_refl _) (.slice (some ⟨g, 0, none⟩) l' c')
  refine bodyPost_ret (results_ct rfl rfl ((V0.set _).old _)) rfl ?_
  exact ⟨_, _, _, zs', rfl, (h3.store V0 _).al' _, B1.alloc B1.size _⟩
set_option maxHeartbeats 4000000 in
theorem number_long (a : Option Addr) (len cap : Nat) (zs : List Int) (w : World) (h : Sl w a len zs) (hl : len ≤ 17592186044416) (hc : len ≤ cap) (hu : 4096 < usedN zs) :
    Calls Tryz.prog 5 #[.slice a len cap] w fun e w' => e = .returned (.tuple #[.agg #[.slice none 0 0], .bool false]) ∧ Below w.heap.size w w' := by
  go_enter Tryz.func5, Tryz.ntmps5
  go_wp2_with fail
  refine ent1 w _ _ (Q := fun W => Calls Tryz.prog _ _ W _) ?_
  intro w0 B0 hs V0
  clear hs
  refine (rtrim_n a len cap zs w0 (h.below B0 (Nat.le_refl _)) hl hc).mono ?_
  rintro e w1 ⟨a1, c1, rfl, -, -, -, hb1⟩
  replace V0 := Va.after hb1 V0
  replace B0 := step B0 hb1
  clear hb1
  have hui : (4096 : Int) < usedN zs := by omega
  have q0 := V0.cell
  have f0 := V0.frozen 0
  have l0 := V0.lt
  have m0 := Nat.le_of_lt l0
  go_wp2_with fail
  refine bodyPost_ret (results_ct rfl rfl (V0.set _)) rfl ?_
  exact ⟨rfl, B0.setCell (p := ⟨w.heap.size, 0, none⟩) (Nat.le_refl _) _⟩
set_option maxHeartbeats 8000000 in
set_option maxRecDepth 20000 in
theorem awake3 (w : World) (hT : Tb w) : Calls Tryz.prog 13 #[] w fun e W' => e = .returned (.bool true) ∧ Below w.heap.size w W' := by
  have B0 : Below w.heap.size w w := Below.refl _ _
  have HT : Hid (Tb w) := hT
  clear hT
  go_enter Tryz.func13, Tryz.ntmps13
  go_wp2_with fail
  refine (small_any 255 ⟨by omega, by omega⟩ _).mono ?_
  rintro e x1 ⟨a1, l1, c1, z1, rfl, h1, e1, hb⟩
  replace B0 := step B0 hb
  clear hb
  have E1 : Hid (num z1 = 255) := e1
  clear e1
  go_wp2_with fail
  refine (text_b 16 (by omega) (by omega) a1 l1 c1 z1 _ h1 (HT.out.to B0)).mono ?_
  rintro e x2 ⟨t1, rfl, ht1, hb⟩
  replace h1 := Nt.after hb h1
  replace B0 := step B0 hb
  clear hb
  obtain rfl : t1 = [102, 102] := by
    rw [E1.out] at ht1
    exact ht1.unique (by omega) (by omega) tx_ff
  clear ht1
  clear h1
  clear E1
  have hpk : ∀ W, Calls Tryz.prog 41 #[.string ⟨#[49, 122]⟩, .int .i64 36] W fun e W' => ∃ a l c zs, e = .returned (.tuple #[.agg #[.slice a l c], .int .i64 0, .int .i64 0]) ∧ Nt W' a l c zs ∧ num zs = 71 ∧ Below W.heap.size W W' := fun W => (parse_b 36 (by omega) (by omega) ⟨#[49, 122]⟩ W).mono (fun e W' h => by
    have hv : tv 36 [49, 122] = 71 := by decide
    obtain ⟨a, l, c, zs, h1, h2, h3⟩ := ps_ok h.1 dig_1z (by decide) (by decide) (small_lt (n := 100) (by show tv 36 [49, 122] < 100; omega) (by omega))
    exact ⟨a, l, c, zs, h1, h2, h3.trans (by show ((tv 36 [49, 122] : Nat) : Int) = 71; rw [hv]; rfl), h.2⟩)
  have hpb : ∀ W, Calls Tryz.prog 41 #[.string ⟨#[49, 122]⟩, .int .i64 35] W fun e W' => e = .returned (.tuple #[.agg #[.slice none 0 0], .int .i64 1, .int .i64 31]) ∧ Below W.heap.size W W' := fun W => (parse_b 35 (by omega) (by omega) ⟨#[49, 122]⟩ W).mono (fun e W' h => ⟨ps_1z h.1, h.2⟩)
  go_wp2_with fail
  refine (hpk _).mono ?_
  rintro e x3 ⟨a2, l2, c2, z2, rfl, h2, e2, hb⟩
  replace B0 := step B0 hb
  clear hb
  have E2 : Hid (num z2 = 71) := e2
  clear e2
  go_wp2_with fail
  refine ent1 x3 _ _ (Q := fun W => Calls Tryz.prog _ _ W _) ?_
  intro x4 hb hs_x4 V2
  replace h2 := Nt.after hb h2
  replace B0 := step B0 hb
  clear hb hs_x4
  have hu := uint64_small a2 l2 c2 z2 x4 h2 (by rw [E2.out]; omega)
  rw [E2.out] at hu
  refine (hu).mono ?_
  rintro e x5 ⟨rfl, hb⟩
  replace V2 := Va.after hb V2
  replace h2 := Nt.after hb h2
  replace B0 := step B0 hb
  clear hb
  have c_V2 := V2.cell
  have f0_V2 := V2.frozen 0
  have l_V2 := V2.lt
  have m_V2 := Nat.le_of_lt l_V2
  go_wp2_with fail
  clear h2 V2
  clear E2
  refine (hpb _).mono ?_
  rintro e x6 ⟨rfl, hb⟩
  replace B0 := step B0 hb
  clear hb
  clear c_V2 f0_V2 l_V2 m_V2
  go_wp2_with fail
  go_ret
  exact ⟨rfl, B0.alloc B0.size _⟩

end Go.Proofs.YtclefkmhchfkkaaGreatDoor
