/-
  Lists of ints that are lent with marks behind their ends: made, held against the list, written over.
-/
import Derived.Test.YtonhooaboieapaaLeA
import Derived.Test.YtonhooaboieapaaNeX
namespace Go.Proofs.Ytonhooaboieapaa
open Go.RowKit Go.Shelf
set_option linter.unusedVariables false
set_option linter.unusedSimpArgs false

/-- The marks. -/
def mkI : Nat → List Int
  | 0 => []
  | k + 1 => mkI k ++ [8000024 + (k : Int)]
theorem mkI_length : ∀ k, (mkI k).length = k
  | 0 => rfl
  | k + 1 => by simp [mkI, mkI_length k]
theorem mkI_getD : ∀ (n k : Nat), k < n → (mkI n).getD k (-1) = 8000024 + (k : Int)
  | 0, k, h => absurd h (by omega)
  | n + 1, k, h => by
    rw [mkI, List.getD_eq_getElem?_getD]
    by_cases hk : k < n
    · rw [List.getElem?_append_left (by rw [mkI_length]; exact hk), ← List.getD_eq_getElem?_getD]; exact mkI_getD n k hk
    · obtain rfl : k = n := by omega
      rw [List.getElem?_append_right (by rw [mkI_length]; exact Nat.le_refl _), mkI_length, Nat.sub_self]; rfl
theorem rowI_len (zs : List Int) : (rowE elI zs).length = zs.length := by rw [rowI, List.length_map]
/-- A block that holds just these ints. -/
def OwI (w : World) (g : Nat) (zs : List Int) : Prop := Va w g 3 (rowE elI zs).toArray
theorem OwI.after {w w' : World} (hb : Below w.heap.size w w') {g : Nat} {zs : List Int} (h : OwI w g zs) : OwI w' g zs := Va.after hb h
theorem OwI.cell {w : World} {g : Nat} {zs : List Int} (h : OwI w g zs) {i : Nat} (hi : i < zs.length) : w.cell? ⟨g, i, none⟩ = some (.int .i64 (zs.getD i (-1))) := by
  rw [Va.cellAt h i, List.getElem?_toArray, rowI, List.getElem?_map, List.getD_eq_getElem?_getD, List.getElem?_eq_getElem hi]
  rfl
theorem OwI.set {w : World} {g : Nat} {zs : List Int} (h : OwI w g zs) (i : Nat) (x : Int) : OwI (w.setCell ⟨g, i, none⟩ (.int .i64 x)) g (zs.set i x) := by
  unfold OwI Va at *
  simp only [World.setCell]
  rw [Array.getElem?_modify, if_pos rfl, h]
  simp [rowI, List.map_set]
theorem OwI.li {w : World} {g : Nat} {ps qs : List Int} (h : OwI w g (ps ++ qs)) : Li w (some ⟨g, 0, none⟩) ps.length ps := by
  refine ⟨rfl, fun h0 => ⟨g, 0, rfl, fun i hi => ?_⟩⟩
  have := h.cell (i := i) (by rw [List.length_append]; omega)
  rw [Nat.zero_add, this, List.getD_eq_getElem?_getD, List.getElem?_append_left hi, ← List.getD_eq_getElem?_getD]
theorem owI_full {w : World} {B g cap : Nat} {zs : List Int} (hl : zs.length = cap) (h : w.ownsRow B 3 1 (.slice (some ⟨g, 0, none⟩) cap cap) cap (rowE elI zs)) : OwI w g zs := by
  obtain ⟨h1, h2 | ⟨g', cap', cur, e, hB, hh, hc, hm, hs, ht⟩⟩ := h
  · obtain ⟨h2, -⟩ := h2; cases h2
  · cases e
    rw [Nat.mul_one] at hs ht
    rw [List.take_of_length_le (by simp; omega)] at ht
    unfold OwI Va
    rw [hh, ← ht]
set_option maxHeartbeats 2000000 in
theorem lentI_any (a : Option Addr) (la ca : Nat) (zs : List Int) (w : World) (h : Li w a la zs) (hn : a = none → la = 0 ∧ ca = 0) (hl : la ≤ 20000000000000) :
    Calls Try.prog 7 #[.slice a la ca] w fun e w' => e = .returned (.slice (some ⟨w.heap.size, 0, none⟩) la (la + 12)) ∧ OwI w' w.heap.size (zs ++ mkI 12) ∧ Below w.heap.size w w' := by
  have hz := h.1
  obtain ⟨i0, hi, hz0, hz1, hz2⟩ := info_parts infoI
  have HB8 : Hid (i0.bytes * (la + 12) ≤ 281474976710656) := by show _ ≤ _; rw [hz2]; omega
  have HNN : Hid (a = none → la = 0 ∧ ca = 0) := hn
  have HSL : Hid (Li w a la zs) := h
  have HLZ : Hid ((rowE elI zs).length = la * 1) := by show _ = _; rw [rowI_len]; omega
  clear hn h
  go_enter Try.func7, Try.ntmps7
  go_wp2_with (at_make; refine wpList_make_own w rfl _ _ 23 rfl w.heap.size 3 i0 (.int .i64 0) 1 Try.underlying23 hi hz0 hz1 .i64 .i64 _ (la + 12) rfl rfl ?c1 HB8.out ?c2 (Nat.le_refl _) ?_)
  case c1 => omega
  case c2 => unfold maxLen; omega
  intro w1 ho1 hg1
  have hb1 : Below w.heap.size w w1 := (Below.refl _ _).grown hg1 (Nat.le_refl _) (fun k hk => by cases hk)
  have HR1 : Hid (∀ ad, a = some ad → ∀ (j : Nat) (u : Value), (rowE elI zs)[j]? = some u → w1.cell? (ad.add j) = some u) := fun ad had j u hu => by
    have hj : j < zs.length := by
      rcases Nat.lt_or_ge j (rowE elI zs).length with h' | h'
      · rwa [rowI_len] at h'
      · rw [List.getElem?_eq_none h'] at hu; cases hu
    obtain ⟨b, o, e, hc⟩ := (HSL.out.after hb1).le.2 (by omega)
    rw [had] at e
    cases e
    rw [Addr.add_lit]
    exact hc j u hu
  have HO1 : Hid (w1.ownsRow w.heap.size 3 1 (.slice (some ⟨w.heap.size, 0, none⟩) 0 (la + 12)) 0 []) := ho1
  have HB1 : Hid (Below w.heap.size w w1) := hb1
  have HZ : Hid (∀ u ∈ rowE elI zs, u.oneCell' = true) := rowE_one elI zs
  clear ho1 hg1 hb1
  go_wp2_with (at_builtin; refine wpList_append_fits_any w1 rfl _ _ 23 rfl w.heap.size 3 i0 1 Try.underlying23 hi hz1 w.heap.size 0 (la + 12) [] rfl HO1.out a la ca (rowE elI zs) rfl HLZ.out HNN.out HR1.out HZ.out (by omega) ?_; intro w2 ho2 hg2; simp only [Nat.zero_add, List.nil_append] at ho2)
  have hb2 : Below w.heap.size w w2 := HB1.out.grown hg2 HB1.out.size (fun k hk => by cases hk; exact Nat.le_refl _)
  have HO2 : Hid (w2.ownsRow w.heap.size 3 1 (.slice (some ⟨w.heap.size, 0, none⟩) la (la + 12)) la (rowE elI zs)) := ho2
  have HB2 : Hid (Below w.heap.size w w2) := hb2
  clear ho2 hg2 hb2 HR1 HO1 HB1
  go_wp2_with fail
  go_loopw [3, 4] (fun v ii wr => ∃ k : Nat, k ≤ 12 ∧ ii = .int .i64 k ∧ v = .slice (some ⟨w.heap.size, 0, none⟩) (la + k) (la + 12) ∧ Hid (wr.ownsRow w.heap.size 3 1 (.slice (some ⟨w.heap.size, 0, none⟩) (la + k) (la + 12)) (la + k) (rowE elI (zs ++ mkI k))) ∧ Hid (Below w.heap.size w wr)) (fun _ ii _ => 12 - (intOf ii).toNat)
  case atStart => exact ⟨0, by omega, rfl, rfl, by rw [mkI, List.append_nil]; exact HO2, HB2.out⟩
  case round =>
    clear HO2 HB2
    obtain ⟨k, hk, rfl, rfl, HO, HB⟩ := hrel
    by_cases hlt : k < 12
    · have hki : (k : Int) < 12 := by omega
      have mk := mark1_any k (by omega) (by omega) wr
      have HO3 : Hid ((wr.alloc (.cells #[.int .i64 (8000024 + (k : Int))] 3)).ownsRow w.heap.size 3 1 (.slice (some ⟨w.heap.size, 0, none⟩) (la + k) (la + 12)) (la + k) (rowE elI (zs ++ mkI k))) := World.ownsRow.alloc HO.out _
      have HC : Hid (∀ (j : Nat) (u : Value), (rowE elI [8000024 + (k : Int)])[j]? = some u → (wr.alloc (.cells #[.int .i64 (8000024 + (k : Int))] 3)).cell? ((⟨wr.heap.size, 0, none⟩ : Addr).add j) = some u) := by
        intro j u hu
        match j, hu with
        | 0, hu => cases hu; exact (Va.new wr _ _).cz
        | j + 1, hu => simp [rowI] at hu
      have HZ1 : Hid (∀ u ∈ rowE elI [8000024 + (k : Int)], u.oneCell' = true) := rowE_one elI _
      have hs3 := HB.out.size
      clear HO
      go_wp2_with fail
      refine mk.mono ?_
      rintro e w3 ⟨rfl, hw3⟩
      rw [hw3]
      clear hw3 mk w3
      go_wp2_with (at_builtin; refine wpList_append_fits _ rfl _ _ 23 rfl w.heap.size 3 i0 1 Try.underlying23 hi hz1 w.heap.size (la + k) (la + 12) (rowE elI (zs ++ mkI k)) rfl HO3.out ⟨wr.heap.size, 0, none⟩ 1 1 (rowE elI [8000024 + (k : Int)]) rfl rfl HC.out HZ1.out (by omega) ?_; intro w4 ho4 hg4)
      have hb4 : Below w.heap.size w w4 := (HB.out.alloc hs3 _).grown hg4 (by simp; omega) (fun k hk => by cases hk; exact Nat.le_refl _)
      have HO5 : Hid (w4.ownsRow w.heap.size 3 1 (.slice (some ⟨w.heap.size, 0, none⟩) (la + (k + 1)) (la + 12)) (la + (k + 1)) (rowE elI (zs ++ mkI (k + 1)))) := by
        have := ho4
        rw [← rowE_append, List.append_assoc] at this
        exact this
      clear ho4 hg4 HO3 HC HZ1 HB
      go_wp2_with fail
      go_roundw
      case rel => exact ⟨k + 1, by omega, by go_num, rfl, HO5, hb4⟩
      case measure => simp [intOf]; omega
    · obtain rfl : k = 12 := by omega
      have HF : Hid (OwI wr w.heap.size (zs ++ mkI 12)) := owI_full (by rw [List.length_append, mkI_length, hz]) HO.out
      clear HO
      go_wp2_with fail
      go_ret
      exact ⟨rfl, HF.out, HB.out⟩
set_option maxHeartbeats 2000000 in
theorem keptI_any (a : Option Addr) (la ca g : Nat) (zs : List Int) (w : World) (h : Li w a la zs) (ho : OwI w g (zs ++ mkI 12)) (hl : la ≤ 20000000000000) :
    Calls Try.prog 11 #[.slice (some ⟨g, 0, none⟩) la (la + 12), .slice a la ca] w fun e w' => e = .returned (.bool true) ∧ Below w.heap.size w w' := by
  have hz := h.1
  have g1 : ((la : Int) != la) = false := by simp
  have HO : Hid (OwI w g (zs ++ mkI 12)) := ho
  have HSL : Hid (Li w a la zs) := h
  have hlen : (zs ++ mkI 12).length = la + 12 := by rw [List.length_append, mkI_length]; omega
  have HLEN : Hid ((zs ++ mkI 12).length = la + 12) := hlen
  clear ho h hlen
  go_enter Try.func11, Try.ntmps11
  go_wp2_with fail
  go_loopw [6] (fun ii wr => ∃ k : Nat, k ≤ la + 12 ∧ ii = .int .i64 k ∧ ∃ q, wr = w.drewN q) (fun ii _ => la + 12 - (intOf ii).toNat)
  case atStart => exact ⟨0, by omega, rfl, 0, rfl⟩
  case round =>
    obtain ⟨k, hk, rfl, q, rfl⟩ := hrel
    by_cases hlt : k < la + 12
    · have hcx := HO.out.cell (i := k) (by rw [HLEN.out]; exact hlt)
      by_cases hkl : k < la
      · obtain ⟨b, o, rfl, hcy⟩ := HSL.out.at hkl
        have ez : (zs ++ mkI 12).getD k (-1) = zs.getD k (-1) := by rw [List.getD_eq_getElem?_getD, List.getElem?_append_left (by omega), ← List.getD_eq_getElem?_getD]
        rw [ez] at hcx
        obtain ⟨x, hx⟩ : ∃ x, zs.getD k (-1) = x := ⟨_, rfl⟩
        rw [hx] at hcx hcy
        clear hx ez
        have g2 : (x == x) = true := by simp
        have q1 : decide (k < la) = true := by simp; omega
        have q2 : decide (la ≤ k) = false := by simp; omega
        go_wp2_with fail
        go_quiet (fail)
        go_wp2_with fail
        go_roundw
        case rel => exact ⟨k + 1, by omega, by go_num, q + nq, rfl⟩
        case measure => simp [intOf]; omega
      · have ez : (zs ++ mkI 12).getD k (-1) = 8000024 + ((k : Int) - la) := by
          rw [List.getD_eq_getElem?_getD, List.getElem?_append_right (by omega), ← List.getD_eq_getElem?_getD, hz, mkI_getD 12 (k - la) (by omega)]
          omega
        rw [ez] at hcx
        obtain ⟨x, hx⟩ : ∃ x, 8000024 + ((k : Int) - la) = x := ⟨_, rfl⟩
        rw [hx] at hcx
        have M := fun W => mark1_any ((k : Int) - la) (by omega) (by omega) W
        simp only [hx] at M
        have x1 : 0 ≤ x := by omega
        have x2 : x ≤ 8000100 := by omega
        have g2 : (x == x) = true := by simp
        have ew : IntKind.i64.wrap ((k : Int) - la) = k - la := by rw [IntKind.wrap_i64]; omega
        have HM : Hid (∀ W, Calls Try.prog 21 #[.int .i64 1, .int .i64 ((k : Int) - la)] W fun e w' => e = .returned (.int .i64 x) ∧ w' = W) := M
        have q1 : decide (k < la) = false := by simp; omega
        have q2 : decide (la ≤ k) = true := by simp; omega
        clear M hx ez
        go_wp2_with fail
        go_quiet ((go_at_call 21; refine (HM.out _).mono ?_; rintro e w2 ⟨rfl, rfl⟩; exact ⟨rfl, _, rfl⟩))
        go_wp2_with fail
        go_roundw
        case rel => exact ⟨k + 1, by omega, by go_num, q + nq, rfl⟩
        case measure => simp [intOf]; omega
    · go_wp2_with fail
      go_ret
      exact ⟨rfl, below_drewN (Below.refl _ _) q⟩
set_option maxHeartbeats 2000000 in
theorem overI_any (g n : Nat) (zs : List Int) (w : World) (ho : OwI w g zs) (hz : zs.length = n + 12) (hn : n ≤ 20000000000000) :
    Calls Try.prog 13 #[.slice (some ⟨g, 0, none⟩) n (n + 12)] w fun e w' => e = .returned (.tuple #[]) ∧ Below g w w' ∧ (∀ k, k < w.heap.size → k ≠ g → w'.heap[k]? = w.heap[k]?) := by
  have HO : Hid (OwI w g zs) := ho
  clear ho
  obtain ⟨N, hN⟩ : ∃ N, n + 12 = N := ⟨_, rfl⟩
  have e1 : IntKind.i64.wrap ((n : Int) + 12) = (N : Int) := by rw [IntKind.wrap_i64]; omega
  have e2 : (n : Int) + 12 = (N : Int) := by omega
  rw [hN] at hz ⊢
  have hnN : n ≤ N := by omega
  have hN2 : N ≤ 30000000000000 := by omega
  clear hN
  go_enter Try.func13, Try.ntmps13
  go_wp2_with fail
  go_loopw [3] (fun ii wr => ∃ (k : Nat) (cs : List Int), k ≤ N ∧ ii = .int .i64 k ∧ Hid (cs.length = N) ∧ Hid (OwI wr g cs) ∧ Hid (Below g w wr ∧ ∀ k, k < w.heap.size → k ≠ g → wr.heap[k]? = w.heap[k]?)) (fun ii _ => N - (intOf ii).toNat)
  case atStart => exact ⟨0, zs, Nat.zero_le _, rfl, hz, HO, Below.refl _ _, fun _ _ _ => rfl⟩
  case round =>
    obtain ⟨k, cs, hk, rfl, hlen, hO, hON⟩ := hrel
    by_cases hlt : k < N
    · have hcx := hO.out.cell (i := k) (by rw [hlen.out]; exact hlt)
      have hfx := Va.frozen hO.out k
      have mk := mark2_any (k : Int) wr
      go_wp2_with fail
      refine mk.mono ?_
      rintro e w3 ⟨⟨x, rfl⟩, hw3⟩
      rw [hw3]
      clear hw3 w3 mk
      go_wp2_with fail
      go_roundw
      case rel => exact ⟨k + 1, cs.set k x, by omega, by go_num, by show _ = _; rw [List.length_set]; exact hlen, OwI.set hO.out k x, hON.out.1.setCell (p := ⟨g, k, none⟩) (Nat.le_refl _) _, fun q h1 h2 => by rw [heap_setCell_other _ _ _ _ (by exact h2)]; exact hON.out.2 q h1 h2⟩
      case measure => simp [intOf]; omega
    · go_wp2_with fail
      go_end0
      exact ⟨rfl, hON.out⟩
end Go.Proofs.Ytonhooaboieapaa
