/-
  takeOff: the divisor is taken off a piece as often as that goes.
-/
import Derived.Test.YtkfpblonjinfmaaAddT
import Derived.Test.YtkfpblonjinfmaaLessT
import Derived.Test.YtkfpblonjinfmaaGuess2
import Derived.Test.YtkfpblonjinfmaaTakeP
namespace Go.Proofs.Ytkfpblonjinfmaa
open Go.RowKit Go.Shelf

set_option maxHeartbeats 4000000 in
theorem takeOff_any (g off n k cp vb vo cv : Nat) (cs vs : List Int) (w : World) (hk : k = n + 1) (ho : Own w g cs) (hL : Limbs cs) (hf : off + n < cs.length) (hv : Sx g w (some ⟨vb, vo, none⟩) n vs) (hn : n ≤ 10000000000000) (hn2 : 2 ≤ n)
    (hlt : num ((cs.drop off).take (n + 1)) < num vs * 18446744073709551616) (htop : 0 < vs.getD (n - 1) 0) (hkc : k ≤ cp) :
    Calls Try.prog 80 #[.slice (some ⟨g, off, none⟩) k cp, .slice (some ⟨vb, vo, none⟩) n cv] w fun e w' =>
      ∃ t ds, e = .returned (.int .u64 t) ∧ Word t ∧ Own w' g ds ∧ SInv (num vs) cs off n t 0 ds ∧ num ((cs.drop off).take (n + 1)) / num vs ≤ t ∧ Only g w w' := by
  have hzv := hv.1.1
  have hpos : 0 < num vs := by
    have e := num_top vs (n - 1) (by omega)
    have h1 := num_take_nonneg hv.1.2.1 (n - 1)
    have h2 := pw_pos (n - 1)
    have : 1 * pw (n - 1) ≤ vs.getD (n - 1) 0 * pw (n - 1) := mul_le (by omega) (by omega)
    omega
  have G := guess_any g off vb vo n k cp cv ((cs.drop off).take (n + 1)) vs w hk (by rw [hk]; exact ho.piece hL (by omega)) hv.1 hn hn2 hlt htop
  have NEG := fun t ds => sinv_neg (ds := ds) (t := t) hpos hL hf
  have FST := fun t c ds => sinv_first (t := t) (c := c) (ds := ds) hzv hf
  have MOR := fun t c ds es => sinv_more (cs0 := cs) (t := t) (c := c) (ds := ds) (es := es) hzv hf
  obtain ⟨V, hV⟩ : ∃ V, num vs = V := ⟨_, rfl⟩
  obtain ⟨Q, hQ⟩ : ∃ Q, num ((cs.drop off).take (n + 1)) / num vs = Q := ⟨_, rfl⟩
  rw [hQ] at G ⊢
  rw [hV]
  simp only [hV] at FST MOR hQ
  simp only [hV, hQ] at NEG
  have HO0 : Hid (Own w g cs) := ho
  have HQ0 : Hid (0 ≤ Q) := by rw [← hQ, ← hV]; exact (quot_facts hpos (num_take_nonneg (hL.drop off) (n + 1))).1
  have HSX : Hid (Sx g w (some ⟨vb, vo, none⟩) n vs) := hv
  have HNEG : Hid (∀ t ds, SInv V cs off n t 1 ds → Q + 1 ≤ t) := NEG
  have HFST : Hid (∀ t c ds, RInv cs vs t off n c ds → SInv V cs off n t (-((cs.getD (off + n) 0 - c) / 18446744073709551616)) (ds.set (off + n) ((cs.getD (off + n) 0 - c) % 18446744073709551616))) := FST
  have HMOR : Hid (∀ t c ds es, SInv V cs off n t 1 ds → BInv ds vs 1 off n c es → SInv V cs off n (t - 1) (1 - (ds.getD (off + n) 0 + c) / 18446744073709551616) (es.set (off + n) ((ds.getD (off + n) 0 + c) % 18446744073709551616))) := MOR
  have hy := hL.getD (off + n)
  have hcy := ho.cell (off + n) hf
  have hk1 : n < k := by omega
  have hk2 : n ≤ k := by omega
  have hk3 : k ≤ 10000000000001 := by omega
  have HL : Hid (Limbs cs) := hL
  have HLEN : Hid (off + n < cs.length) := hf
  have hkc2 : n ≤ cp := by omega
  clear NEG FST MOR ho hv hk hlt htop hzv hpos hV hQ hL hf
  go_enter Try.func80, Try.ntmps80
  go_wp2_with fail
  refine G.mono ?_
  rintro e w1 ⟨t, rfl, ht, hQt, q, hw1⟩
  clear G
  have HON1 : Hid (Only g w w1) := by rw [hw1]; exact (Only.refl g w).drewN q
  have HO1 : Hid (Own w1 g cs) := by rw [hw1]; exact HO0.out
  have HSX1 := HSX.out.only HON1.out
  have hcy1 := HO1.out.cell (off + n) HLEN.out
  have hfy1 := HO1.out.frozen (off + n)
  obtain ⟨y, hyy⟩ : ∃ y, cs.getD (off + n) 0 = y := ⟨_, rfl⟩
  rw [hyy] at hy hcy hcy1 HFST
  clear hw1
  go_wp2_with fail
  go_cut [7] (fun bb wx => ∃ (b : Int) (ds : List Int), bb = .int .u64 b ∧ Hid (SInv V cs off n t b ds) ∧ Hid (Own wx g ds) ∧ Hid (Only g w wx))
  case first =>
    go_region_with (first
      | (go_at_call 90; refine (lessTimes_any g off n cp cv cs vs (some ⟨vb, vo, none⟩) t w1.drew HO1.out HL.out (by have := HLEN.out; omega) HSX1 (by omega) ht).mono ?_; rintro e wl ⟨c, ds, rfl, hol, hR, honl⟩; have hcl := hol.cell (off + n) (by have := HLEN.out; have := hR.1; omega); rw [hR.2.2.1 _ (.inr (Nat.le_refl _)), hyy] at hcl; have hfl := hol.frozen (off + n); have hS := HFST.out t c ds hR; have hcw : Word c := ⟨hR.2.2.2.2.1, hR.2.2.2.2.2⟩; have HOL : Hid (Own wl g ds) := hol; have HONL : Hid (Only g w wl) := HON1.out.drew.trans honl; have HSS : Hid (SInv V cs off n t (-((y - c) / 18446744073709551616)) (ds.set (off + n) ((y - c) % 18446744073709551616))) := hS; clear hol hR honl hS)
      | (go_at_call 76; refine (sub_any y c 0 hy hcw ⟨by decide, by decide⟩ _).mono ?_; rintro e w3 ⟨rfl, rfl⟩))
    all_goals
      go_wp2_with fail
      go_meet
      exact ⟨_, _, rfl, HSS, Own.set HOL.out (off + n) _, Only.set HONL.out (off + n) _⟩
  case rest =>
    obtain ⟨b0, ds0, rfl, hS0, hO0, hON0⟩ := hcut
    go_wp2_with fail
    go_loopw [6, 7] (fun tt bb wr => ∃ (t b : Int) (ds : List Int), tt = .int .u64 t ∧ bb = .int .u64 b ∧ Hid (Word t) ∧ Hid (Q ≤ t) ∧ Hid (SInv V cs off n t b ds) ∧ Hid (Own wr g ds) ∧ Hid (Only g w wr)) (fun tt _ _ => (intOf tt).toNat)
    case atStart => exact ⟨t, b0, ds0, rfl, rfl, ht, hQt, hS0, hO0, hON0⟩
    case round =>
      clear hQt ht hS0 hO0 hON0 HSX1 hfy1 hcy1 HON1 HO1 HFST
      obtain ⟨t2, b, ds, rfl, rfl, ht2, hq2, hS, hO, hON⟩ := hrel
      have hb0 := hS.out.2.2.2.2.1
      have hb1 := hS.out.2.2.2.2.2
      have hb : b = 0 ∨ b = 1 := by omega
      clear hb0 hb1
      rcases hb with rfl | rfl
      · go_wp2_with fail
        go_ret
        exact ⟨t2, ds, rfl, ht2.out, hO.out, hS.out, hq2.out, hON.out⟩
      · have hge := HNEG.out t2 ds hS.out
        have htw1 := ht2.out.1; have htw2 := ht2.out.2
        have hq0 := HQ0.out
        have hlen := hS.out.1
        have hy2 := hS.out.2.1.getD (off + n)
        have hcx := hO.out.cell (off + n) (by have := HLEN.out; omega)
        have hfx := hO.out.frozen (off + n)
        obtain ⟨y2, hyy2⟩ : ∃ y, ds.getD (off + n) 0 = y := ⟨_, rfl⟩
        rw [hyy2] at hy2 hcx
        have ewt : IntKind.u64.wrap (t2 - 1) = t2 - 1 := by rw [IntKind.wrap_u64]; omega
        go_wp2_with fail
        have hM := fun c es => HMOR.out t2 c ds es hS.out
        simp only [hyy2] at hM
        have HM : Hid (∀ c es, BInv ds vs 1 off n c es → SInv V cs off n (t2 - 1) (1 - (y2 + c) / 18446744073709551616) (es.set (off + n) ((y2 + c) % 18446744073709551616))) := hM
        have hsx := HSX.out.only hON.out
        clear hM
        go_cut [8] (fun oo wx => ∃ (o : Int) (es : List Int), oo = .int .u64 o ∧ 0 ≤ o ∧ o ≤ 1 ∧ Hid (SInv V cs off n (t2 - 1) (1 - o) es) ∧ Hid (Own wx g es) ∧ Hid (Only g w wx))
        case first =>
          go_region_with (first
            | (go_at_call 77; refine (addTimes_any g off n cp cv ds vs (some ⟨vb, vo, none⟩) 1 wr.drew hO.out hS.out.2.1 (by have := HLEN.out; omega) hsx (by omega) ⟨by decide, by decide⟩).mono ?_; rintro e wl ⟨c, es, rfl, hol, hB, honl⟩; have hcl := hol.cell (off + n) (by have := HLEN.out; have := hB.1; omega); rw [hB.2.2.1 _ (.inr (Nat.le_refl _)), hyy2] at hcl; have hfl := hol.frozen (off + n); have hSS := HM.out c es hB; have hcw : Word c := ⟨hB.2.2.2.2.1, hB.2.2.2.2.2⟩; have HOL : Hid (Own wl g es) := hol; have HONL : Hid (Only g w wl) := hON.out.drew.trans honl; have HSS : Hid (SInv V cs off n (t2 - 1) (1 - (y2 + c) / 18446744073709551616) (es.set (off + n) ((y2 + c) % 18446744073709551616))) := hSS; clear hol hB honl hSS)
            | (go_at_call 73; refine (add_any y2 c 0 hy2 hcw ⟨by decide, by decide⟩ _).mono ?_; rintro e w3 ⟨rfl, rfl⟩))
          all_goals
            obtain ⟨hc1, hc2⟩ := hcw
            have o1 : 0 ≤ (y2 + c) / 18446744073709551616 := by omega
            have o2 : (y2 + c) / 18446744073709551616 ≤ 1 := by omega
            go_wp2_with fail
            go_meet
            exact ⟨_, _, rfl, o1, o2, HSS, Own.set HOL.out (off + n) _, Only.set HONL.out (off + n) _⟩
        case rest =>
          obtain ⟨o, es, rfl, o1, o2, hS3, hO3, hON3⟩ := hcut
          have HT3 : Hid (Word (t2 - 1)) := ⟨by omega, by omega⟩
          have HQ3 : Hid (Q ≤ t2 - 1) := by show _ ≤ _; omega
          have ewo : IntKind.u64.wrap (1 - o) = 1 - o := by rw [IntKind.wrap_u64]; omega
          clear hS hO hON hcx hfx hyy2 HM hsx
          go_wp2_with fail
          go_roundw
          case rel => exact ⟨t2 - 1, 1 - o, es, rfl, rfl, HT3, HQ3, hS3, hO3, hON3⟩
          case measure => simp [intOf]; omega
end Go.Proofs.Ytkfpblonjinfmaa
