/-
  Whether a number has these limbs; the number of a list.
-/
import Derived.Test.YtckfgolijlggbaaLaw2
namespace Go.Proofs.Ytckfgolijlggbaa
open Go.RowKit Go.Shelf

theorem Nt.only {g : Nat} {w w' : World} {a : Option Addr} {len cap : Nat} {zs : List Int} (h : Nt w a len cap zs) (o : Only g w w') (hne : 0 < len → ∀ p, a = some p → p.block ≠ g) : Nt w' a len cap zs := ⟨(Sx.only ⟨h.1, hne⟩ o).1, h.2⟩

set_option maxHeartbeats 1000000 in
theorem is_true (a b : Option Addr) (la ca cb : Nat) (zs : List Int) (w : World) (h : Nt w a la ca zs) (hw : Sl w b la zs) :
    Calls Try.prog 26 #[.agg #[.slice a la ca], .slice b la cb] w fun e w' => e = .returned (.bool true) ∧ Below w.heap.size w w' := by
  have l1 := h.2
  have hz := h.1.1
  go_enter Try.func26, Try.ntmps26
  go_wp2_with fail
  refine ent1 w _ _ (Q := fun W => Calls Try.prog _ _ W _) ?_
  intro w0 B0 hs V0
  replace h := Nt.after B0 h
  replace hw := hw.below B0 (Nat.le_refl _)
  refine (limbs_any a la ca zs w0 h).mono ?_
  rintro e w1 ⟨g, rfl, hg, ho, hb1⟩
  replace V0 := V0.kept hb1
  have XA := h.1.apart hb1 hg
  have XB := hw.apart hb1 hg
  replace h := Nt.after hb1 h
  replace hw := hw.below hb1 (Nat.le_refl _)
  have B1 := step B0 hb1
  have s1 := ho.sl h.limbs
  rw [hz] at s1
  have hgw : w.heap.size < g := by omega
  go_wp2_with fail
  refine (same_b (some ⟨g, 0, none⟩) b la la cb zs w1 s1 hw (by omega)).mono ?_
  rintro e w2 ⟨rfl, hb2⟩
  have hog : Own w2 g zs := ho.below hb2 ho.lt
  replace V0 := V0.kept hb2
  replace h := Nt.after hb2 h
  replace hw := hw.below hb2 (Nat.le_refl _)
  have B2 := step B1 hb2
  have HB2 : Hid (Below w.heap.size w w2) := B2
  have HO : Hid (Own w2 g zs) := hog
  have HXA : Hid (Sx g w2 a la zs) := ⟨h.1, XA.2⟩
  have HXB : Hid (Sx g w2 b la zs) := ⟨hw, XB.2⟩
  have HV : Hid (Va w2 w.heap.size 27 #[.slice a la ca]) := V0
  clear hb1 hb2 s1 ho hog h hw V0 B0 B1 B2 XA XB hg hs
  go_wp2_with fail
  go_loopw [7] (fun ii wr => ∃ (k : Nat) (cs : List Int), k ≤ la ∧ ii = .int .i64 k ∧ Hid (cs.length = la) ∧ Hid (Own wr g cs) ∧ Hid (Only g w2 wr)) (fun ii _ => la - (intOf ii).toNat)
  case atStart => exact ⟨0, zs, Nat.zero_le _, rfl, hz, HO, Only.refl _ _⟩
  case round =>
    obtain ⟨k, cs, hk, rfl, hlen, hO, hON⟩ := hrel
    by_cases hlt : k < la
    · have hcx := hO.out.cell k (by rw [hlen.out]; exact hlt)
      have hfx := hO.out.frozen k
      go_wp2_with fail
      go_roundw
      case rel => exact ⟨k + 1, _, by omega, by go_num, by show _ = _; rw [List.length_set]; exact hlen, Own.set hO.out k _, Only.set hON.out k _⟩
      case measure => simp [intOf]; omega
    · have hA : Nt wr a la ca zs := ⟨(HXA.out.only hON.out).1, l1⟩
      have hB := (HXB.out.only hON.out).1
      have V3 := HV.out.only hON.out (show w.heap.size ≠ g by omega)
      have B3 := HB2.out.trans (hON.out.below (show w.heap.size ≤ g by omega))
      have c3 := V3.cell
      go_wp2_with fail
      refine (limbs_any a la ca zs wr hA).mono ?_
      rintro e w4 ⟨g4, rfl, hg4, ho4, hb4⟩
      have s4 := ho4.sl hA.limbs
      rw [hz] at s4
      have hB4 := hB.below hb4 (Nat.le_refl _)
      have B4 := step B3 hb4
      go_wp2_with fail
      refine (same_b (some ⟨g4, 0, none⟩) b la la cb zs w4 s4 hB4 (by omega)).mono ?_
      rintro e w5 ⟨rfl, hb5⟩
      have B5 := step B4 hb5
      go_wp2_with fail
      go_ret
      exact ⟨rfl, B5⟩

/-- A block of so many cells at least. -/
def Blk (w : World) (g n : Nat) : Prop := ∃ cur t, w.heap[g]? = some (.cells cur t (0, 0)) ∧ n ≤ cur.size
theorem Blk.lt {w : World} {g n : Nat} (h : Blk w g n) : g < w.heap.size := by
  obtain ⟨cur, t, h, -⟩ := h
  rcases Nat.lt_or_ge g w.heap.size with h' | h'
  · exact h'
  · rw [Array.getElem?_eq_none h'] at h; cases h
theorem Blk.cell {w : World} {g n : Nat} (h : Blk w g n) {k : Nat} (hk : k < n) : ∃ x, w.cell? ⟨g, k, none⟩ = some x := by
  obtain ⟨cur, t, h, hn⟩ := h
  refine ⟨cur[k]'(by omega), ?_⟩
  simp only [World.cell?, h]
  exact Array.getElem?_eq_getElem (by omega)
theorem Blk.frozen {w : World} {g n : Nat} (h : Blk w g n) (k : Nat) : w.frozen? ⟨g, k, none⟩ = false := by
  obtain ⟨cur, t, h, -⟩ := h
  simp [World.frozen?, h]
theorem Blk.set {w : World} {g n : Nat} (h : Blk w g n) (k : Nat) (v : Value) : Blk (w.setCell ⟨g, k, none⟩ v) g n := by
  obtain ⟨cur, t, h, hn⟩ := h
  refine ⟨cur.setIfInBounds k v, t, ?_, by simpa using hn⟩
  simp only [World.setCell]
  rw [Array.getElem?_modify, if_pos rfl, h]
  rfl
theorem Blk.kept {w w' : World} {g n : Nat} (h : Blk w g n) (hb : Below w.heap.size w w') : Blk w' g n := by
  have hl := h.lt
  obtain ⟨cur, t, h, hn⟩ := h
  exact ⟨cur, t, by rw [hb.block g hl]; exact h, hn⟩
theorem Blk.only {w w' : World} {g b n : Nat} (h : Blk w b n) (o : Only g w w') (hne : b ≠ g) : Blk w' b n := by
  obtain ⟨cur, t, h, hn⟩ := h
  exact ⟨cur, t, by rw [o.oth b hne]; exact h, hn⟩
theorem Gr.parts {w : World} {B : Nat} {v : Value} {cs : List Int} (h : Gr w B v cs) (hL : Limbs cs) :
    ∃ a c gm, v = .slice a cs.length c ∧ cs.length ≤ c ∧ Sl w a cs.length cs ∧ B ≤ gm ∧ (a = none → cs.length = 0 ∧ c = 0) ∧ (0 < cs.length → a = some ⟨gm, 0, none⟩ ∧ Blk w gm cs.length) := by
  obtain ⟨a, c, e, hc, hs⟩ := h.sl hL
  obtain ⟨h1, h2 | ⟨g, cap, cur, e2, hBg, hh, hc2, hm, hsz, ht⟩⟩ := h
  · obtain ⟨e2, h0⟩ := h2
    rw [e2] at e
    obtain ⟨ea, -, ec⟩ := Value.slice.inj e
    rw [← ea] at hs
    exact ⟨none, 0, B, e2.trans (by rw [h0]), by omega, hs, Nat.le_refl _, fun _ => ⟨h0, rfl⟩, fun h => by omega⟩
  · rw [e2] at e
    obtain ⟨ea, -, ec⟩ := Value.slice.inj e
    rw [← ea] at hs
    exact ⟨_, _, g, e2, hc2, hs, hBg, (fun h => by cases h), fun _ => ⟨rfl, cur, 46, hh, by omega⟩⟩

set_option maxHeartbeats 1000000 in
theorem oflaw_ok (a : Option Addr) (la ca : Nat) (zs : List Int) (w : World) (h : Sl w a la zs) (hn : a = none → la = 0 ∧ ca = 0) (hl : la ≤ 17592186043904) (hc : la ≤ ca) (hu : usedN zs ≤ 4096) :
    Calls Try.prog 9 #[.slice a la ca] w fun e w' => ∃ a' l' c' zs', e = .returned (.tuple #[.agg #[.slice a' l' c'], .bool true]) ∧ Nt w' a' l' c' zs' ∧ num zs' = num zs ∧ Below w.heap.size w w' := by
  have hz := h.1
  have hL := h.2.1
  have hul := usedN_le zs
  go_enter Try.func9, Try.ntmps9
  go_wp2_with fail
  refine ent1 w _ _ (Q := fun W => Calls Try.prog _ _ W _) ?_
  intro w0 B0 hs V0
  replace h := h.below B0 (Nat.le_refl _)
  have HA0 : Hid (0 < la → ∀ p, a = some p → p.block < w0.heap.size) := fun h0 p hp => h.lt h0 hp
  refine (copied_any a la ca zs w0 h hn (by omega)).mono ?_
  rintro e w1 ⟨v, rfl, hG, hb1⟩
  obtain ⟨a1, c1, gm, rfl, hc1, s1, hgm, hn1, hblk⟩ := hG.parts hL
  rw [hz] at hc1 s1 hn1 hblk
  rw [hz]
  replace V0 := V0.kept hb1
  replace h := h.below hb1 (Nat.le_refl _)
  have B1 := step B0 hb1
  clear hb1 B0 hG
  go_wp2_with fail
  refine (of_ok a1 la c1 zs w1 s1 (by omega) hc1 hu).mono ?_
  rintro e w2 ⟨g2, l2, k2, zs2, rfl, hg2, h2, hn2, hb2⟩
  obtain ⟨e1, e2⟩ := one_list h2.limbs hL h2.1.1 h2.2.1 hn2
  subst e2
  obtain ⟨uz, huz⟩ : ∃ u, usedN zs = u := ⟨_, rfl⟩
  rw [huz] at e1 h2 hu hn2
  subst e1
  have HUZ : Hid (usedN zs = l2) := huz
  replace V0 := V0.kept hb2
  replace h := h.below hb2 (Nat.le_refl _)
  have B2 := step B1 hb2
  have hblk2 : 0 < la → Blk w2 gm la := fun h0 => (hblk h0).2.kept hb2
  have hne2 : 0 < la → g2 ≠ gm := fun h0 => by have := (hblk h0).2.lt; omega
  go_wp2_with fail
  refine ent1 w2 _ _ (Q := fun W => Code.wp Try.prog _ _ _ W) ?_
  intro w3 B3 hs3 V3
  have HV0 : Hid (Va w3 w.heap.size 27 #[.slice none 0 0]) := V0.kept B3
  have HV3 : Hid (Va w3 w2.heap.size 27 #[.slice (some ⟨g2, 0, none⟩) l2 k2]) := V3
  have HB : Hid (Below w.heap.size w w3) := step B2 B3
  have hsz : w.heap.size < w2.heap.size := V0.lt
  have hwgm : w.heap.size < gm := by omega
  have hgm2 : 0 < la → gm < w2.heap.size := fun h0 => (hblk2 h0).lt
  have HBK : Hid (0 < la → a1 = some ⟨gm, 0, none⟩ ∧ Blk w3 gm la) := fun h0 => ⟨(hblk h0).1, (hblk2 h0).kept B3⟩
  have HNT : Hid (Nt w3 (some ⟨g2, 0, none⟩) l2 k2 (zs.take l2)) := Nt.after B3 h2
  have hgl : 0 < l2 → g2 ≠ gm := fun h0 => hne2 (by
    rcases Nat.eq_zero_or_pos la with h' | h'
    · exfalso
      have h7 := usedN_le zs
      omega
    · exact h')
  have HSL : Hid (Sl w3 a la zs) := h.below B3 (Nat.le_refl _)
  have hagm : 0 < la → ∀ p, a = some p → p.block ≠ gm := fun h0 p hp => by have := HA0.out h0 p hp; omega
  have HNA : Hid (a = none → la = 0 ∧ ca = 0) := hn
  clear V0 V3 B1 B2 B3 hblk hblk2 hne2 hb2 h2 h hn1 s1 hc1 hs hs3 hg2 hn
  go_loopw [7] (fun ii wr => ∃ (k : Nat), k ≤ la ∧ ii = .int .i64 k ∧ Hid (0 < la → Blk wr gm la) ∧ Hid (Only gm w3 wr) ∧ Hid (la = 0 → wr = w3)) (fun ii _ => la - (intOf ii).toNat)
  case atStart => exact ⟨0, Nat.zero_le _, rfl, fun h0 => (HBK.out h0).2, Only.refl _ _, fun _ => rfl⟩
  case round =>
    obtain ⟨k, hk, rfl, hK, hON, hEQ⟩ := hrel
    by_cases hlt : k < la
    · obtain ⟨rfl, -⟩ := HBK.out (by omega)
      have hkb := hK.out (by omega)
      obtain ⟨x, hcx⟩ := hkb.cell hlt
      have hfx := hkb.frozen k
      have HKB : Hid (Blk wr gm la) := hkb
      clear hkb
      go_wp2_with fail
      go_roundw
      case rel => exact ⟨k + 1, by omega, by go_num, fun _ => Blk.set HKB.out k _, Only.set hON.out k _, fun h0 => by omega⟩
      case measure => simp [intOf]; omega
    · have hA : Nt wr (some ⟨g2, 0, none⟩) l2 k2 (zs.take l2) := HNT.out.only hON.out (fun h0 p hp => by cases hp; exact hgl h0)
      have hS := (Sx.only ⟨HSL.out, hagm⟩ hON.out).1
      have T0 := HV0.out.only hON.out (show w.heap.size ≠ gm by omega)
      have T3 : Va wr w2.heap.size 27 #[.slice (some ⟨g2, 0, none⟩) l2 k2] := by
        rcases Nat.eq_zero_or_pos la with h' | h'
        · rw [hEQ.out h']; exact HV3.out
        · exact HV3.out.only hON.out (by have := hgm2 h'; omega)
      have B4 := HB.out.trans (hON.out.below (show w.heap.size ≤ gm by omega))
      have TR := rtrim_any a la ca zs wr.drew hS HNA.out (by omega) hc
      rw [HUZ.out] at TR
      have c3 := T3.cell
      have c0 := T0.cell
      have f0 := T0.frozen 0
      go_wp2_with fail
      go_region_with (first
        | (go_at_call 29; refine TR.mono ?_; rintro e wt ⟨at1, ct, rfl, st, hct, bt0⟩; have bt : Below wr.heap.size wr wt := ⟨bt0.os, bt0.tape, bt0.output, bt0.size, bt0.block⟩; have B5 := step B4 bt; have T0t := Va.after bt T0; have T3t := Va.after bt T3; have c3t := T3t.cell; have hAt := Nt.after bt hA; clear bt0)
        | (go_at_call 26; refine (is_true (some ⟨g2, 0, none⟩) at1 l2 k2 ct (zs.take l2) wt hAt st).mono ?_; rintro e wu ⟨rfl, bu⟩; have B6 := step B5 bu; have T0u := Va.after bu T0t; have T3u := Va.after bu T3t; have c3u := T3u.cell; have c0u := T0u.cell; have f0u := T0u.frozen 0; have hAu := Nt.after bu hAt))
      all_goals
        go_wp2_with fail
        refine bodyPost_ret (results_ct rfl rfl (T0u.set _)) rfl ?_
        exact ⟨_, _, _, zs.take l2, rfl, hAu.store T0u _, hn2, B6.setCell (p := ⟨w.heap.size, 0, none⟩) (Nat.le_refl _) _⟩
end Go.Proofs.Ytckfgolijlggbaa
