/-
  The document's Worths of layer 3, at base ten, for numbers below 2 ^ 64.
-/
import Derived.Test.YtigimdcaakfckaaGreatDoorWt9
import Derived.Test.YtigimdcaakfckaaGreatDoorWtP
namespace Go.Proofs.YtigimdcaakfckaaGreatDoor
open Go.RowKit Go.Shelf
set_option linter.unusedVariables false

def slen9 : Value → Nat
  | .slice _ n _ => n
  | _ => 0
theorem D10.limbs {os : List Int} (h : D10 os) : Limbs os := fun z hz => by have := h z hz; omega
theorem Gr.len9 {w : World} {B : Nat} {v : Value} {cs : List Int} (h : Gr w B v cs) : slen9 v = cs.length := by
  obtain ⟨h1, h2 | ⟨g, cap, cur, e, hB, hh, hc, hm, hs, ht⟩⟩ := h
  · obtain ⟨rfl, h0⟩ := h2
    rw [h0]; rfl
  · rw [e]; rfl
theorem gr_weak {w : World} {B B' : Nat} {v : Value} {cs : List Int} (h : Gr w B v cs) (hB : B' ≤ B) : Gr w B' v cs := by
  obtain ⟨h1, h2 | ⟨g, cap, cur, e, hg, hh, hc, hm, hs, ht⟩⟩ := h
  · exact ⟨h1, .inl h2⟩
  · exact ⟨h1, .inr ⟨g, cap, cur, e, by omega, hh, hc, hm, hs, ht⟩⟩
/-- The digits that are left of the number. -/
def Lf9 (B0 B1 : Nat) (wr : World) (a : Option Addr) (m cap : Nat) (ds : List Int) : Prop :=
  m ≤ cap ∧ m ≤ 2 ∧ ds.length = m ∧ H.Limbs ds ∧ usedN ds = m ∧ (m ≠ 0 → ∃ g, a = some ⟨g, 0, none⟩ ∧ B0 ≤ g ∧ g < B1 ∧ Wb wr g m ds)
theorem Lf9.pos {B0 B1 : Nat} {wr : World} {a : Option Addr} {m cap : Nat} {ds : List Int} (h : Lf9 B0 B1 wr a m cap ds) (hm : 0 < m) : 0 < H.num ds := by
  obtain ⟨-, -, h1, h2, h3, -⟩ := h
  have := H.num_ge_used h2 (show 0 < usedN ds by omega)
  have := H.pw_pos (usedN ds - 1)
  omega
theorem Lf9.zero {B0 B1 : Nat} {wr : World} {a : Option Addr} {m cap : Nat} {ds : List Int} (h : Lf9 B0 B1 wr a m cap ds) (hm : m = 0) : H.num ds = 0 := by
  obtain ⟨-, -, h1, h2, h3, -⟩ := h
  have : ds = [] := List.eq_nil_of_length_eq_zero (by omega)
  rw [this]; rfl
theorem Lf9.below {B0 B1 B : Nat} {wr w' : World} {a : Option Addr} {m cap : Nat} {ds : List Int} (h : Lf9 B0 B1 wr a m cap ds) (b : Below B wr w') (hB : B1 ≤ B) : Lf9 B0 B1 w' a m cap ds := by
  obtain ⟨h1, h2, h3, h4, h5, h6⟩ := h
  refine ⟨h1, h2, h3, h4, h5, fun h => ?_⟩
  obtain ⟨g, e, g1, g2, g3⟩ := h6 h
  exact ⟨g, e, g1, g2, g3.below b (by omega)⟩
set_option maxRecDepth 20000 in
set_option maxHeartbeats 2000000 in
theorem worths9 (a : Option Addr) (la ca : Nat) (zs : List Int) (w : World) (h : Sl w a la zs) (hl : la ≤ 1) (hN : num zs < 18446744073709551616) (hN0 : 0 ≤ num zs) :
    Calls Tryz.prog 64 #[.slice a la ca, .int .i64 10] w fun e w' => ∃ v os, e = .returned v ∧ Gr w' w.heap.size v os ∧ os ≠ [] ∧ D10 os ∧ lv os = num zs ∧ os.length ≤ 27 ∧ (os = [0] ∨ Tp9 os) ∧ Below w.heap.size w w' := by
  obtain ⟨N, hNN⟩ : ∃ N, num zs = N := ⟨_, rfl⟩
  have hh := halves3 a la ca zs
  rw [hNN] at hN hN0 hh ⊢
  go_enter Tryz.func64, Tryz.ntmps64
  go_wp2_with fail
  refine (piece9 _).mono ?_
  rintro e w0 ⟨rfl, hw⟩
  rw [hw]
  clear hw
  go_wp2_with fail
  refine (hh _ h (by omega)).mono ?_
  clear hh
  rintro e x1 ⟨a1, m1, c1, ds1, rfl, hc1, hm1, hs1, hL1, hu1, hn1, ho1, hb1⟩
  have HL0 : Hid (Lf9 w.heap.size x1.heap.size x1 a1 m1 c1 ds1) := by
    refine ⟨hc1, by omega, hs1.1, hL1, hu1, fun h0 => ?_⟩
    obtain ⟨g, cur, rfl, hg, hcur⟩ := ho1 h0
    have hwb := wb_of hs1 hcur
    exact ⟨g, rfl, hg, hwb.lt, hwb⟩
  have HO0 : Hid (Ou9 N (H.num ds1) []) := by rw [hn1]; exact Ou9.start N
  clear hc1 hm1 hs1 hL1 hu1 hn1 ho1
  obtain ⟨B1, hB1⟩ : ∃ B1, B1 = x1.heap.size := ⟨_, rfl⟩
  have hbB : w.heap.size ≤ B1 := by rw [hB1]; exact hb1.size
  have hB2 : B1 ≤ x1.heap.size := by omega
  rw [← hB1] at HL0
  go_wp2_with fail
  go_loopw [7, 8] (fun d out wr => ∃ aa m cap ds os, d = .slice aa m cap ∧ Hid (Lf9 w.heap.size B1 wr aa m cap ds) ∧ Hid (Ou9 N (H.num ds) os) ∧ Hid (Gr wr B1 out os) ∧ Below w.heap.size w wr ∧ B1 ≤ wr.heap.size) (fun _ out _ => 40 - slen9 out)
  case atStart => exact ⟨a1, m1, c1, ds1, [], rfl, HL0, HO0, Gr.nil _ _, hb1, hB2⟩
  case round =>
    obtain ⟨aa, m, cap, ds, os, rfl, HL, HO, HG, hbl, hsz⟩ := hrel
    clear HL0 HO0 hB2 hB1 hb1
    by_cases hm0 : m = 0
    · subst hm0
      have hD := HL.out.zero rfl
      have hO := HO.out
      rw [hD] at hO
      have hv : lv os = N := by have := hO.val; simpa using this
      by_cases he : os = []
      · subst he
        have HN1 : Hid ((0 : Int) = N) := hv
        obtain ⟨a8, c8, hv8, hc8, hs8⟩ := HG.out.sl hO.dig.limbs
        subst hv8
        clear HG hs8 hO HO hv
        go_wp2_with fail
        go_ret
        exact ⟨_, [0], rfl, gr_of_own (cs := [0]) (heap_alloc_new _ _) hbl.size (by decide), by simp, fun z hz => by rw [List.mem_singleton.1 hz]; exact ⟨by decide, by decide⟩, by rw [← HN1.out]; rfl, by decide, .inl rfl, hbl.alloc hbl.size _⟩
      · obtain ⟨a8, c8, hv8, hc8, hs8⟩ := HG.out.sl hO.dig.limbs
        have htop := (hO.top rfl).resolve_left he
        have hdig := hO.dig
        have hle := hO.le
        have hpos : 0 < os.length := List.length_pos_iff.2 he
        subst hv8
        have g0 : ((os.length : Int) == 0) = false := by simp; omega
        clear hs8 hO HO
        go_wp2_with fail
        go_ret
        exact ⟨_, os, rfl, gr_weak HG.out hbB, he, hdig, hv, hle, .inr htop, hbl⟩
    · have hmi : (0 : Int) < m := by omega
      obtain ⟨g, rfl, hg0, hg1, hW⟩ := HL.out.2.2.2.2.2 hm0
      go_wp2_with fail
      refine (over9 g m cap ds 1000000000 _ hW HL.out.2.2.2.1 (by have := HL.out.2.1; omega) (by omega) (by omega)).mono ?_
      rintro e x2 ⟨cs, r, rfl, hW2, hL2, hn2, hr0, hr1, ho2⟩
      have hG2 := gr_only HG.out ho2 hg1
      have hP := HO.out.piece (HL.out.pos (by omega)) hn2 hr0 hr1
      go_wp2_with fail
      refine (cut3_any (some ⟨g, 0, none⟩) m cap cs _ (hW2.sl hL2.up) (by have := HL.out.2.1; omega) HL.out.1).mono ?_
      rintro e w3 ⟨rfl, hw⟩
      rw [hw]
      clear hw
      have hu := usedN_le cs
      have hlc := hW2.1
      have HL3 : Hid (Lf9 w.heap.size B1 x2 (some ⟨g, 0, none⟩) (usedN cs) cap (cs.take (usedN cs))) :=
        ⟨by have := HL.out.1; omega, by have := HL.out.2.1; omega, by rw [List.length_take]; omega, hL2.take _, usedN_take cs (Nat.le_refl _), fun _ => ⟨g, rfl, hg0, hg1, hW2.take (by omega)⟩⟩
      have HNc : H.num (cs.take (usedN cs)) = H.num cs := H.num_take_used cs (Nat.le_refl _)
      rw [← HNc] at hP
      have hk0 : 0 < H.num (cs.take (usedN cs)) ∨ 0 < r := by
        have := HL.out.pos (by omega)
        have := H.num_nonneg (hL2.take (usedN cs))
        omega
      have HP : Hid (In9 N (H.num (cs.take (usedN cs))) os.length 0 os r) := hP
      obtain ⟨ds3, hds3⟩ : ∃ d, cs.take (usedN cs) = d := ⟨_, rfl⟩
      obtain ⟨m3, hm3⟩ : ∃ d, usedN cs = d := ⟨_, rfl⟩
      rw [hds3] at HL3 HP hk0
      rw [hm3] at HL3 ⊢
      have hb2 : Below w.heap.size w x2 := hbl.trans (ho2.below hg0)
      have hsz2 : B1 ≤ x2.heap.size := Nat.le_trans hsz ho2.bel.size
      have HG2 : Hid (Gr x2 B1 _ os) := hG2
      have HK0 : Hid (0 < H.num ds3 ∨ 0 < r) := hk0
      have HLEN := HG.out.len9
      have HL0s : os.length = 0 ∨ os.length = 9 ∨ os.length = 18 := HO.out.len (by have := HL.out.pos (by omega); omega)
      clear HNc hP hk0 hds3 hm3 hu hlc hW hW2 hG2 hL2 hn2 hr0 hr1 ho2 HL HO HG hbl hsz
      go_wp2_with fail
      go_loopw [8, 9, 10] (fun out rest kk wr2 => ∃ (k : Nat) (os2 : List Int) (r2 : Int), kk = .int .i64 k ∧ rest = .int .u64 r2 ∧ Hid (In9 N (H.num ds3) os.length k os2 r2) ∧ Hid (Gr wr2 B1 out os2) ∧ Hid (Lf9 w.heap.size B1 wr2 (some ⟨g, 0, none⟩) m3 cap ds3) ∧ Hid (k = 0 → 0 < H.num ds3 ∨ 0 < r2) ∧ Below w.heap.size w wr2 ∧ B1 ≤ wr2.heap.size) (fun _ _ kk _ => 9 - (intOf kk).toNat)
      case atStart => exact ⟨0, os, r, rfl, rfl, HP, HG2, HL3, fun _ => HK0.out, hb2, hsz2⟩
      case round =>
        obtain ⟨k, os2, r2, rfl, rfl, HI, HG3, HL4, HK, hb3, hsz3⟩ := hrel
        clear HP HG2 HL3 HK0 hb2 hsz2
        have hr0 := HI.out.r0
        have hr1 : r2 < 18446744073709551616 := by
          have h1 := HI.out.r1
          have h2 : pt (9 - k) ≤ 1000000000 := by
            have hk := HI.out.kl
            have : k = 0 ∨ k = 1 ∨ k = 2 ∨ k = 3 ∨ k = 4 ∨ k = 5 ∨ k = 6 ∨ k = 7 ∨ k = 8 ∨ k = 9 := by omega
            rcases this with rfl | rfl | rfl | rfl | rfl | rfl | rfl | rfl | rfl | rfl <;> decide
          omega
        have hle2 : os2.length ≤ 27 := by have := HI.out.len; have := HI.out.kl; omega
        have hD := H.num_nonneg HL4.out.2.2.2.1
        by_cases hk9 : k < 9
        · have hki : (k : Int) < 9 := by omega
          by_cases hm0' : 0 < m3
          · have hmi3 : (0 : Int) < m3 := by omega
            have HS : Hid _ := HI.out.step hD hk9 (.inl (HL4.out.pos hm0'))
            have hw10 : Limbs [r2 % 10] := fun z hz => by rw [List.mem_singleton.1 hz]; omega
            have HC : Hid (Sl (wr.alloc (.cells #[.int .u64 (r2 % 10)] 77)) (some ⟨wr.heap.size, 0, none⟩) 1 [r2 % 10]) := Own.sl (cs := [r2 % 10]) (heap_alloc_new _ _) hw10
            have HGa : Hid (Gr (wr.alloc (.cells #[.int .u64 (r2 % 10)] 77)) B1 u8 os2) := HG3.out.alloc _
            have hszA : B1 ≤ (wr.alloc (.cells #[.int .u64 (r2 % 10)] 77)).heap.size := by simp; omega
            go_wp2_with (at_builtin; refine wpList_app_sl rfl (.tmp 40) (.tmp 45) rfl B1 u8 os2 rfl HGa.out wr.heap.size 0 1 1 [r2 % 10] rfl HC.out (by omega) hszA ?_; intro v1 w1 HG1 hb1)
            have hb4 : Below w.heap.size w w1 := (hb3.alloc hb3.size _).trans (hb1.mono hbB)
            have HL5 : Hid (Lf9 w.heap.size B1 w1 (some ⟨g, 0, none⟩) m3 cap ds3) := (HL4.out.below ((Below.refl B1 wr).alloc hsz3 _) (Nat.le_refl _)).below hb1 (Nat.le_refl _)
            have hsz4 : B1 ≤ w1.heap.size := Nat.le_trans hszA hb1.size
            clear HC HGa hb1 HI HG3 HL4 HK hw10
            go_wp2_with fail
            go_roundw
            case rel => exact ⟨k + 1, _, _, by go_num, rfl, HS, HG1, HL5, fun h => by omega, hb4, hsz4⟩
            case measure => simp [intOf]; omega
          · have HMZ : Hid (m3 = 0) := by show _ = _; omega
            have hmi3 : ¬ (0 : Int) < m3 := by omega
            by_cases hr2 : 0 < r2
            · have HS : Hid _ := HI.out.step hD hk9 (.inr hr2)
              have hw10 : Limbs [r2 % 10] := fun z hz => by rw [List.mem_singleton.1 hz]; omega
              have HC : Hid (Sl (wr.alloc (.cells #[.int .u64 (r2 % 10)] 77)) (some ⟨wr.heap.size, 0, none⟩) 1 [r2 % 10]) := Own.sl (cs := [r2 % 10]) (heap_alloc_new _ _) hw10
              have HGa : Hid (Gr (wr.alloc (.cells #[.int .u64 (r2 % 10)] 77)) B1 u8 os2) := HG3.out.alloc _
              have hszA : B1 ≤ (wr.alloc (.cells #[.int .u64 (r2 % 10)] 77)).heap.size := by simp; omega
              go_wp2_with (at_builtin; refine wpList_app_sl rfl (.tmp 40) (.tmp 45) rfl B1 u8 os2 rfl HGa.out wr.heap.size 0 1 1 [r2 % 10] rfl HC.out (by omega) hszA ?_; intro v1 w1 HG1 hb1)
              have hb4 : Below w.heap.size w w1 := (hb3.alloc hb3.size _).trans (hb1.mono hbB)
              have HL5 : Hid (Lf9 w.heap.size B1 w1 (some ⟨g, 0, none⟩) m3 cap ds3) := (HL4.out.below ((Below.refl B1 wr).alloc hsz3 _) (Nat.le_refl _)).below hb1 (Nat.le_refl _)
              have hsz4 : B1 ≤ w1.heap.size := Nat.le_trans hszA hb1.size
              clear HC HGa hb1 HI HG3 HL4 HK hw10
              go_wp2_with fail
              go_roundw
              case rel => exact ⟨k + 1, _, _, by go_num, rfl, HS, HG1, HL5, fun h => by omega, hb4, hsz4⟩
              case measure => simp [intOf]; omega
            · have HRZ : Hid (r2 = 0) := by show _ = _; omega
              have HO3 : Hid (Ou9 N (H.num ds3) os2) := HI.out.leave hN hD HL0s (.inr ⟨HL4.out.zero HMZ.out, HRZ.out⟩)
              go_wp2_with fail
              go_roundw
              case rel => exact ⟨_, m3, cap, ds3, os2, rfl, HL4, HO3, HG3, hb3, hsz3⟩
              case measure =>
                have h1 := HG3.out.len9
                have h2 := HI.out.len
                have h3 : k ≠ 0 := fun hk => by have := HK.out hk; have := HL4.out.zero HMZ.out; omega
                simp
                omega
        · have hki : ¬ (k : Int) < 9 := by omega
          have hk9e : k = 9 := by have := HI.out.kl; omega
          have HO3 : Hid (Ou9 N (H.num ds3) os2) := HI.out.leave hN hD HL0s (.inl hk9e)
          go_wp2_with fail
          go_roundw
          case rel => exact ⟨_, m3, cap, ds3, os2, rfl, HL4, HO3, HG3, hb3, hsz3⟩
          case measure =>
            have h1 := HG3.out.len9
            have h2 := HI.out.len
            have h3 : k ≠ 0 := by omega
            simp
            omega
end Go.Proofs.YtigimdcaakfckaaGreatDoor
