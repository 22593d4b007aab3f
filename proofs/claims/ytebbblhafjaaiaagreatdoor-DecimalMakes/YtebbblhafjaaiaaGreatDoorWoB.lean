/-
  The document's piece and Worths, at any base, for any number.
-/
import Derived.Test.YtebbblhafjaaiaaGreatDoorWt9
import Derived.Test.YtebbblhafjaaiaaGreatDoorWoBP
import Derived.Test.YtebbblhafjaaiaaGreatDoorOnP
namespace Go.Proofs.YtebbblhafjaaiaaGreatDoor
open Go.RowKit Go.Shelf
set_option linter.unusedVariables false

theorem pow_big32 {b n : Nat} (h2 : 2 ≤ b) (h : (b : Int) ^ n < 4294967296) : n ≤ 31 := by
  rcases Nat.lt_or_ge n 32 with h' | h'
  · omega
  · have h1 : 2 ^ 32 ≤ b ^ n := Nat.le_trans (Nat.pow_le_pow_right (by omega) h') (Nat.pow_le_pow_left h2 n)
    have h3 : (b : Int) ^ n = ((b ^ n : Nat) : Int) := by simp
    rw [h3] at h
    omega
/-- The greatest power below 2^32. -/
def PcB (b sz : Nat) (p : Int) : Prop := p = (b : Int) ^ sz ∧ 2 ≤ p ∧ p < 4294967296 ∧ 1 ≤ sz ∧ sz ≤ 31
set_option maxHeartbeats 1000000 in
theorem pieceB (b : Nat) (h2 : 2 ≤ b) (h36 : b ≤ 36) (w : World) : Calls Tryz.prog 146 #[.int .i64 b] w fun e w' => ∃ (sz : Nat) (p : Int), e = .returned (.tuple #[.int .u64 p, .int .i64 sz]) ∧ PcB b sz p ∧ w' = w := by
  go_enter Tryz.func146, Tryz.ntmps146
  go_wp2_with fail
  go_loop [4, 5] (fun pp nn => ∃ (n : Nat) (p : Int), pp = .int .u64 p ∧ nn = .int .i64 n ∧ Hid (p = (b : Int) ^ n) ∧ 1 ≤ p ∧ p < 4294967296 ∧ n ≤ 31 ∧ (n = 0 → p = 1) ∧ (0 < n → 2 ≤ p)) (fun _ nn => (40 - intOf nn).toNat)
  case atStart => exact ⟨0, 1, rfl, rfl, by show (1 : Int) = _; simp, by omega, by omega, by omega, fun _ => rfl, fun h => by omega⟩
  case round =>
    obtain ⟨n, p, rfl, rfl, HP, p1, p2, hn, hz, hp⟩ := hrel
    have HZ : Hid ((n = 0 → p = 1) ∧ (0 < n → 2 ≤ p)) := ⟨hz, hp⟩
    clear hz hp
    have wb : IntKind.u64.wrap (b : Int) = b := by rw [IntKind.wrap_u64]; omega
    obtain ⟨y, hy⟩ : ∃ y, p * (b : Int) = y := ⟨_, rfl⟩
    have yb := mul32_bd (a := p) (b := (b : Int)) (by omega) (by omega) (by omega) (by omega)
    have y2 : 2 ≤ y := by
      have : 1 * (b : Int) ≤ p * b := Int.mul_le_mul_of_nonneg_right p1 (by omega)
      omega
    rw [hy] at yb
    obtain ⟨y0, y1⟩ := yb
    have wy : IntKind.u64.wrap y = y := by rw [IntKind.wrap_u64]; omega
    by_cases hyw : y < 4294967296
    · have hpow : y = (b : Int) ^ (n + 1) := by rw [← hy, HP.out, Int.pow_succ]
      have hn31 := pow_big32 h2 (by rw [← hpow]; exact hyw)
      have HY : Hid (y = (b : Int) ^ (n + 1)) := hpow
      clear hpow
      go_wp2_with fail
      go_round
      case rel => exact ⟨n + 1, y, rfl, by go_num, HY, by omega, hyw, hn31, (fun h => by omega), fun _ => y2⟩
      case measure => simp [intOf]; omega
    · have hyd : decide (y < 4294967296) = false := by simpa using hyw
      have hn0 : 0 < n := by
        rcases Nat.eq_zero_or_pos n with h0 | h0
        · have := HZ.out.1 h0
          rw [this, Int.one_mul] at hy
          omega
        · exact h0
      have HF : Hid (PcB b n p) := ⟨HP.out, HZ.out.2 hn0, p2, hn0, hn⟩
      clear HZ HP
      go_wp2_with fail
      go_ret2
      exact ⟨n, p, rfl, HF.out, rfl⟩
def slenB : Value → Nat
  | .slice _ n _ => n
  | _ => 0
theorem DgI.limbs {b : Int} {os : List Int} (h : DgI b os) (hb : b ≤ 36) : Limbs os := fun z hz => by have := h z hz; omega
theorem Gr.lenB {w : World} {B : Nat} {v : Value} {cs : List Int} (h : Gr w B v cs) : slenB v = cs.length := by
  obtain ⟨h1, h2 | ⟨g, cap, cur, e, hB, hh, hc, hm, hs, ht⟩⟩ := h
  · obtain ⟨rfl, h0⟩ := h2
    rw [h0]; rfl
  · rw [e]; rfl
theorem gr_weakB {w : World} {B B' : Nat} {v : Value} {cs : List Int} (h : Gr w B v cs) (hB : B' ≤ B) : Gr w B' v cs := by
  obtain ⟨h1, h2 | ⟨g, cap, cur, e, hg, hh, hc, hm, hs, ht⟩⟩ := h
  · exact ⟨h1, .inl h2⟩
  · exact ⟨h1, .inr ⟨g, cap, cur, e, by omega, hh, hc, hm, hs, ht⟩⟩
/-- The digits that are left of the number. -/
def LfB (B0 B1 : Nat) (wr : World) (a : Option Addr) (m cap : Nat) (ds : List Int) : Prop :=
  m ≤ cap ∧ m ≤ 4000000 ∧ ds.length = m ∧ H.Limbs ds ∧ usedN ds = m ∧ (m ≠ 0 → ∃ g, a = some ⟨g, 0, none⟩ ∧ B0 ≤ g ∧ g < B1 ∧ Wb wr g m ds)
theorem LfB.pos {B0 B1 : Nat} {wr : World} {a : Option Addr} {m cap : Nat} {ds : List Int} (h : LfB B0 B1 wr a m cap ds) (hm : 0 < m) : 0 < H.num ds := by
  obtain ⟨-, -, h1, h2, h3, -⟩ := h
  have := H.num_ge_used h2 (show 0 < usedN ds by omega)
  have := H.pw_pos (usedN ds - 1)
  omega
theorem LfB.zero {B0 B1 : Nat} {wr : World} {a : Option Addr} {m cap : Nat} {ds : List Int} (h : LfB B0 B1 wr a m cap ds) (hm : m = 0) : H.num ds = 0 := by
  obtain ⟨-, -, h1, h2, h3, -⟩ := h
  have : ds = [] := List.eq_nil_of_length_eq_zero (by omega)
  rw [this]; rfl
theorem LfB.below {B0 B1 B : Nat} {wr w' : World} {a : Option Addr} {m cap : Nat} {ds : List Int} (h : LfB B0 B1 wr a m cap ds) (b : Below B wr w') (hB : B1 ≤ B) : LfB B0 B1 w' a m cap ds := by
  obtain ⟨h1, h2, h3, h4, h5, h6⟩ := h
  refine ⟨h1, h2, h3, h4, h5, fun h => ?_⟩
  obtain ⟨g, e, g1, g2, g3⟩ := h6 h
  exact ⟨g, e, g1, g2, g3.below b (by omega)⟩
/-- What Worths answers. -/
def WoR (b : Nat) (N : Int) (w : World) (e : Ending) (w' : World) : Prop := ∃ v os, e = .returned v ∧ Gr w' w.heap.size v os ∧ os ≠ [] ∧ DgI b os ∧ lvB b os = N ∧ os.length ≤ 300100 ∧ (os = [0] ∨ TpB os) ∧ Below w.heap.size w w'
set_option maxRecDepth 20000 in
set_option maxHeartbeats 4000000 in
theorem worthsB (b : Nat) (h2 : 2 ≤ b) (h36 : b ≤ 36) (a : Option Addr) (la ca : Nat) (zs : List Int) (w : World) (h : Sl w a la zs) (hl : la ≤ 1100000) (hM : ∀ n : Nat, (b : Int) ^ n ≤ num zs → n ≤ 300000) (hN0 : 0 ≤ num zs) :
    Calls Tryz.prog 102 #[.slice a la ca, .int .i64 b] w fun e w' => WoR b (num zs) w e w' := by
  obtain ⟨N, hNN⟩ : ∃ N, num zs = N := ⟨_, rfl⟩
  have hh := halves3 a la ca zs
  rw [hNN] at hM hN0 hh ⊢
  have HM : Hid (∀ n : Nat, (b : Int) ^ n ≤ N → n ≤ 300000) := hM
  clear hM
  have b1 : (1 : Int) ≤ b := by omega
  have wb : IntKind.u64.wrap (b : Int) = b := by rw [IntKind.wrap_u64]; omega
  go_enter Tryz.func102, Tryz.ntmps102
  go_wp2_with fail
  refine (pieceB b h2 h36 _).mono ?_
  rintro e w0 ⟨sz, p, rfl, HPC0, hw⟩
  have HPC : Hid (PcB b sz p) := HPC0
  have p2 := HPC0.2.1; have p3 := HPC0.2.2.1; have sz1 := HPC0.2.2.2.1; have sz2 := HPC0.2.2.2.2
  rw [hw]
  clear hw HPC0
  go_wp2_with fail
  refine (hh _ h (by omega)).mono ?_
  clear hh
  rintro e x1 ⟨a1, m1, c1, ds1, rfl, hc1, hm1, hs1, hL1, hu1, hn1, ho1, hb1⟩
  have HL0 : Hid (LfB w.heap.size x1.heap.size x1 a1 m1 c1 ds1) := by
    refine ⟨hc1, by omega, hs1.1, hL1, hu1, fun h0 => ?_⟩
    obtain ⟨g, cur, rfl, hg, hcur⟩ := ho1 h0
    have hwb := wb_of hs1 hcur
    exact ⟨g, rfl, hg, hwb.lt, hwb⟩
  have HO0 : Hid (OuB b N (H.num ds1) []) := by rw [hn1]; exact OuB.start b N
  clear hc1 hm1 hs1 hL1 hu1 hn1 ho1
  obtain ⟨B1, hB1⟩ : ∃ B1, B1 = x1.heap.size := ⟨_, rfl⟩
  have hbB : w.heap.size ≤ B1 := by rw [hB1]; exact hb1.size
  have hB2 : B1 ≤ x1.heap.size := by omega
  rw [← hB1] at HL0
  go_wp2_with fail
  go_loopw [7, 8] (fun d out wr => ∃ aa m cap ds os, d = .slice aa m cap ∧ Hid (LfB w.heap.size B1 wr aa m cap ds) ∧ Hid (OuB b N (H.num ds) os) ∧ Hid (Gr wr B1 out os) ∧ Below w.heap.size w wr ∧ B1 ≤ wr.heap.size ∧ os.length ≤ 300100) (fun _ out _ => 400000 - slenB out)
  case atStart => exact ⟨a1, m1, c1, ds1, [], rfl, HL0, HO0, Gr.nil _ _, hb1, hB2, by simp⟩
  case round =>
    obtain ⟨aa, m, cap, ds, os, rfl, HL, HO, HG, hbl, hsz, hole⟩ := hrel
    clear HL0 HO0 hB2 hB1 hb1
    by_cases hm0 : m = 0
    · subst hm0
      have hD := HL.out.zero rfl
      have hO := HO.out
      rw [hD] at hO
      have hv : lvB b os = N := by have := hO.val; rw [Int.mul_zero, Int.add_zero] at this; exact this.symm
      by_cases he : os = []
      · subst he
        have HN1 : Hid ((0 : Int) = N) := hv
        obtain ⟨a8, c8, hv8, hc8, hs8⟩ := HG.out.sl (hO.dig.limbs (by omega))
        subst hv8
        clear HG hs8 hO HO hv
        go_wp2_with fail
        go_ret
        exact ⟨_, [0], rfl, gr_of_own (cs := [0]) (heap_alloc_new _ _) hbl.size (by decide), by simp, fun z hz => by rw [List.mem_singleton.1 hz]; exact ⟨by decide, by omega⟩, by rw [← HN1.out]; simp [lvB], by decide, .inl rfl, hbl.alloc hbl.size _⟩
      · obtain ⟨a8, c8, hv8, hc8, hs8⟩ := HG.out.sl (hO.dig.limbs (by omega))
        have htop := (hO.top rfl).resolve_left he
        have hdig := hO.dig
        have hpos : 0 < os.length := List.length_pos_iff.2 he
        subst hv8
        have g0 : ((os.length : Int) == 0) = false := by simp; omega
        clear hs8 hO HO
        go_wp2_with fail
        go_ret
        exact ⟨_, os, rfl, gr_weakB HG.out hbB, he, hdig, hv, hole, .inr htop, hbl⟩
    · have hmi : (0 : Int) < m := by omega
      obtain ⟨g, rfl, hg0, hg1, hW⟩ := HL.out.2.2.2.2.2 hm0
      have hos := HM.out _ (HO.out.le b1 (HL.out.pos (by omega)))
      go_wp2_with fail
      refine (over9 g m cap ds p _ hW HL.out.2.2.2.1 (by have := HL.out.2.1; omega) (by omega) (by omega)).mono ?_
      rintro e x2 ⟨cs, r, rfl, hW2, hL2, hn2, hr0, hr1, ho2⟩
      have hG2 := gr_only HG.out ho2 hg1
      have hP : InB b N (H.num cs) sz os.length 0 os r := HO.out.piece (by rw [← HPC.out.1]; exact hn2) hr0 (by rw [← HPC.out.1]; exact hr1)
      go_wp2_with fail
      refine (cut3_any (some ⟨g, 0, none⟩) m cap cs _ (hW2.sl hL2.up) (by have := HL.out.2.1; omega) HL.out.1).mono ?_
      rintro e w3 ⟨rfl, hw⟩
      rw [hw]
      clear hw
      have hu := usedN_le cs
      have hlc := hW2.1
      have HL3 : Hid (LfB w.heap.size B1 x2 (some ⟨g, 0, none⟩) (usedN cs) cap (cs.take (usedN cs))) :=
        ⟨by have := HL.out.1; omega, by have := HL.out.2.1; omega, by rw [List.length_take]; omega, hL2.take _, usedN_take cs (Nat.le_refl _), fun _ => ⟨g, rfl, hg0, hg1, hW2.take (by omega)⟩⟩
      have HNc : H.num (cs.take (usedN cs)) = H.num cs := H.num_take_used cs (Nat.le_refl _)
      rw [← HNc] at hP hn2
      have hk0 : 0 < H.num (cs.take (usedN cs)) ∨ 0 < r := by
        have h1 := HL.out.pos (by omega)
        have h3 := H.num_nonneg (hL2.take (usedN cs))
        rcases Int.lt_or_eq_of_le h3 with h' | h'
        · exact .inl h'
        · right; rw [← h', Int.zero_mul] at hn2; omega
      have HP : Hid (InB b N (H.num (cs.take (usedN cs))) sz os.length 0 os r) := hP
      obtain ⟨ds3, hds3⟩ : ∃ d, cs.take (usedN cs) = d := ⟨_, rfl⟩
      obtain ⟨m3, hm3⟩ : ∃ d, usedN cs = d := ⟨_, rfl⟩
      rw [hds3] at HL3 HP hk0
      rw [hm3] at HL3 ⊢
      have hb2 : Below w.heap.size w x2 := hbl.trans (ho2.below hg0)
      have hsz2 : B1 ≤ x2.heap.size := Nat.le_trans hsz ho2.bel.size
      have HG2 : Hid (Gr x2 B1 _ os) := hG2
      have HK0 : Hid (0 < H.num ds3 ∨ 0 < r) := hk0
      have HLEN := HG.out.lenB
      clear HNc hP hk0 hds3 hm3 hu hlc hW hW2 hG2 hL2 hn2 hr0 hr1 ho2 HL HO HG hbl hsz
      go_wp2_with fail
      go_loopw [8, 9, 10] (fun out rest kk wr2 => ∃ (k : Nat) (os2 : List Int) (r2 : Int), kk = .int .i64 k ∧ rest = .int .u64 r2 ∧ r2 < 4294967296 ∧ Hid (InB b N (H.num ds3) sz os.length k os2 r2) ∧ Hid (Gr wr2 B1 out os2) ∧ Hid (LfB w.heap.size B1 wr2 (some ⟨g, 0, none⟩) m3 cap ds3) ∧ Hid (k = 0 → 0 < H.num ds3 ∨ 0 < r2) ∧ Below w.heap.size w wr2 ∧ B1 ≤ wr2.heap.size) (fun _ _ kk _ => sz - (intOf kk).toNat)
      case atStart => exact ⟨0, os, r, rfl, rfl, by have := HP.out.r1; rw [Nat.sub_zero, ← HPC.out.1] at this; omega, HP, HG2, HL3, fun _ => HK0.out, hb2, hsz2⟩
      case round =>
        obtain ⟨k, os2, r2, rfl, rfl, hr32, HI, HG3, HL4, HK, hb3, hsz3⟩ := hrel
        clear HP HG2 HL3 HK0 hb2 hsz2
        have hr0 := HI.out.r0
        have hr1 : r2 < 18446744073709551616 := by omega
        have hkl := HI.out.kl
        have hle2 : os2.length ≤ 300100 := by have := HI.out.len; omega
        have hD := H.num_nonneg HL4.out.2.2.2.1
        have bz : ((b : Int) == 0) = false := by simp; omega
        by_cases hk9 : k < sz
        · have hki : (k : Int) < sz := by omega
          have hq0 : 0 ≤ r2 / (b : Int) := Int.ediv_nonneg hr0 (by omega)
          have hq1 : r2 / (b : Int) ≤ r2 := Int.ediv_le_self _ hr0
          have hm0' : 0 ≤ r2 % (b : Int) := Int.emod_nonneg r2 (by omega)
          have hm1' : r2 % (b : Int) < b := Int.emod_lt_of_pos r2 (by omega)
          by_cases hm3 : 0 < m3
          · have hmi3 : (0 : Int) < m3 := by omega
            have HS : Hid (InB b N (H.num ds3) sz os.length (k + 1) (os2 ++ [r2 % b]) (r2 / b)) := HI.out.step (by omega) hD hk9 (.inl (HL4.out.pos hm3))
            have hw10 : Limbs [r2 % (b : Int)] := fun z hz => by rw [List.mem_singleton.1 hz]; omega
            have HC : Hid (Sl (wr.alloc (.cells #[.int .u64 (r2 % (b : Int))] 94)) (some ⟨wr.heap.size, 0, none⟩) 1 [r2 % (b : Int)]) := Own.sl (cs := [r2 % (b : Int)]) (heap_alloc_new _ _) hw10
            have HGa : Hid (Gr (wr.alloc (.cells #[.int .u64 (r2 % (b : Int))] 94)) B1 u8 os2) := HG3.out.alloc _
            have hszA : B1 ≤ (wr.alloc (.cells #[.int .u64 (r2 % (b : Int))] 94)).heap.size := by simp; omega
            go_wp2_with (at_builtin; refine wpList_app_sl rfl (.tmp 40) (.tmp 45) rfl B1 u8 os2 rfl HGa.out wr.heap.size 0 1 1 [r2 % (b : Int)] rfl HC.out (by omega) hszA ?_; intro v1 w1 HG1 hb1)
            have hb4 : Below w.heap.size w w1 := (hb3.alloc hb3.size _).trans (hb1.mono hbB)
            have HL5 : Hid (LfB w.heap.size B1 w1 (some ⟨g, 0, none⟩) m3 cap ds3) := (HL4.out.below ((Below.refl B1 wr).alloc hsz3 _) (Nat.le_refl _)).below hb1 (Nat.le_refl _)
            have hsz4 : B1 ≤ w1.heap.size := Nat.le_trans hszA hb1.size
            clear HC HGa hb1 HI HG3 HL4 HK hw10
            go_wp2_with fail
            go_roundw
            case rel => exact ⟨k + 1, _, _, by go_num, rfl, by omega, HS, HG1, HL5, fun h => by omega, hb4, hsz4⟩
            case measure => simp [intOf]; omega
          · have HMZ : Hid (m3 = 0) := by show _ = _; omega
            have hmi3 : ¬ (0 : Int) < m3 := by omega
            by_cases hr2 : 0 < r2
            · have HS : Hid (InB b N (H.num ds3) sz os.length (k + 1) (os2 ++ [r2 % b]) (r2 / b)) := HI.out.step (by omega) hD hk9 (.inr hr2)
              have hw10 : Limbs [r2 % (b : Int)] := fun z hz => by rw [List.mem_singleton.1 hz]; omega
              have HC : Hid (Sl (wr.alloc (.cells #[.int .u64 (r2 % (b : Int))] 94)) (some ⟨wr.heap.size, 0, none⟩) 1 [r2 % (b : Int)]) := Own.sl (cs := [r2 % (b : Int)]) (heap_alloc_new _ _) hw10
              have HGa : Hid (Gr (wr.alloc (.cells #[.int .u64 (r2 % (b : Int))] 94)) B1 u8 os2) := HG3.out.alloc _
              have hszA : B1 ≤ (wr.alloc (.cells #[.int .u64 (r2 % (b : Int))] 94)).heap.size := by simp; omega
              go_wp2_with (at_builtin; refine wpList_app_sl rfl (.tmp 40) (.tmp 45) rfl B1 u8 os2 rfl HGa.out wr.heap.size 0 1 1 [r2 % (b : Int)] rfl HC.out (by omega) hszA ?_; intro v1 w1 HG1 hb1)
              have hb4 : Below w.heap.size w w1 := (hb3.alloc hb3.size _).trans (hb1.mono hbB)
              have HL5 : Hid (LfB w.heap.size B1 w1 (some ⟨g, 0, none⟩) m3 cap ds3) := (HL4.out.below ((Below.refl B1 wr).alloc hsz3 _) (Nat.le_refl _)).below hb1 (Nat.le_refl _)
              have hsz4 : B1 ≤ w1.heap.size := Nat.le_trans hszA hb1.size
              clear HC HGa hb1 HI HG3 HL4 HK hw10
              go_wp2_with fail
              go_roundw
              case rel => exact ⟨k + 1, _, _, by go_num, rfl, by omega, HS, HG1, HL5, fun h => by omega, hb4, hsz4⟩
              case measure => simp [intOf]; omega
            · have HRZ : Hid (r2 = 0) := by show _ = _; omega
              have hk0' : 0 < k := by
                rcases Nat.eq_zero_or_pos k with h0 | h0
                · exfalso
                  have h1 := HK.out h0
                  have h3 := HL4.out.zero HMZ.out
                  have h4 := HRZ.out
                  omega
                · exact h0
              have HO3 : Hid (OuB b N (H.num ds3) os2) := HI.out.leave hk0' (.inr ⟨HL4.out.zero HMZ.out, HRZ.out⟩)
              go_wp2_with fail
              go_roundw
              case rel => exact ⟨_, m3, cap, ds3, os2, rfl, HL4, HO3, HG3, hb3, hsz3, hle2⟩
              case measure =>
                have h1 := HG3.out.lenB
                have h3 := HI.out.len
                simp
                omega
        · have hki : ¬ (k : Int) < sz := by omega
          have hk9e : k = sz := by omega
          have HO3 : Hid (OuB b N (H.num ds3) os2) := HI.out.leave (by omega) (.inl hk9e)
          go_wp2_with fail
          go_roundw
          case rel => exact ⟨_, m3, cap, ds3, os2, rfl, HL4, HO3, HG3, hb3, hsz3, hle2⟩
          case measure =>
            have h1 := HG3.out.lenB
            have h3 := HI.out.len
            simp
            omega
end Go.Proofs.YtebbblhafjaaiaaGreatDoor
