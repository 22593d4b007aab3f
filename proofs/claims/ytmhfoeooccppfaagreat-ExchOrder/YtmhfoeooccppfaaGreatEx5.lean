/-
  exchange: slices.Insert of one quote.
-/
import Derived.Test.YtmhfoeooccppfaaGreatEx4
namespace Go.Proofs.YtmhfoeooccppfaaGreat
open Go.RowKit Go.Shelf
set_option linter.unusedVariables false
set_option maxRecDepth 20000

set_option maxHeartbeats 4000000 in
theorem insert_end (B : Nat) (a : Option Addr) (n cap : Nat) (xs : List (Int × Nat)) (x : Int × Nat) (vb : Nat) (w : World) (hG : Ge elQ w B (.slice a n cap) xs) (hU : NoU w (.slice a n cap)) (hv : Va w vb 76 #[.int .i64 x.1, .float .f64 x.2]) (hl : n ≤ 1000000) (hB : B ≤ w.heap.size) :
    Calls Tryz.prog 29 #[.slice a n cap, .int .i64 n, .slice (some ⟨vb, 0, none⟩) 1 1] w fun e w' => ∃ v', e = .returned v' ∧ Ge elQ w' B v' (xs ++ [x]) ∧ w.grownBy w' (Value.slice a n cap).ownBlock ∧ (v'.ownBlock = (Value.slice a n cap).ownBlock ∨ v'.ownBlock = some w.heap.size) ∧ NoU w' v' := by
  have HG : Hid (Ge elQ w B (.slice a n cap) xs) := hG
  have HU : Hid (NoU w (.slice a n cap)) := hU
  clear hU
  have HX : Hid (Le elQ w (some ⟨vb, 0, none⟩) 1 [x]) := Le.one hv rfl
  have hnx : xs.length = n := by obtain ⟨a', c', e, -⟩ := hG.shape; cases e; rfl
  have hnc : n ≤ cap := by obtain ⟨a', c', e, h, -⟩ := hG.shape; cases e; exact h
  have HN : Hid (xs.length + 1 ≤ 1000000000000) := by show _ ≤ _; omega
  have ha : a = none → cap = 0 := fun e => by
    obtain ⟨a', c', e', -, -, h⟩ := hG.shape
    cases e'
    rcases h with ⟨-, -, h⟩ | ⟨g, h⟩
    · exact h
    · rw [e] at h; cases h
  clear hG hv hnx
  cases a with
  | none =>
    obtain rfl := ha rfl
    obtain rfl : n = 0 := by omega
    clear ha hnc
    go_enter Tryz.func29, Tryz.ntmps29
    go_wp2_with (at_builtin; refine wpList_appU rfl _ _ _ rfl rfl B _ xs rfl HG.out HU.out vb 0 1 1 [x] rfl HX.out (by decide) HN.out hB ?_; intro v' w1 hg1 hgr1 hb1 hu1; have HU1 : Hid (NoU w1 v') := hu1; clear hu1; have HG1 : Hid (Ge elQ w1 B v' (xs ++ [x])) := hg1; have HGR : Hid (w.grownBy w1 (Value.slice none 0 0).ownBlock) := hgr1; have HB1 : Hid (v'.ownBlock = (Value.slice none 0 0).ownBlock ∨ v'.ownBlock = some w.heap.size) := hb1; clear hg1 hgr1 hb1)
    go_ret
    exact ⟨_, rfl, HG1.out, HGR.out, HB1.out, HU1.out⟩
  | some ad =>
    obtain ⟨ab, ao, asp⟩ := ad
    clear ha
    go_enter Tryz.func29, Tryz.ntmps29
    go_wp2_with (at_builtin; refine wpList_appU rfl _ _ _ rfl rfl B _ xs rfl HG.out HU.out vb 0 1 1 [x] rfl HX.out (by decide) HN.out hB ?_; intro v' w1 hg1 hgr1 hb1 hu1; have HU1 : Hid (NoU w1 v') := hu1; clear hu1; have HG1 : Hid (Ge elQ w1 B v' (xs ++ [x])) := hg1; have HGR : Hid (w.grownBy w1 (Value.slice (some ⟨ab, ao, asp⟩) n cap).ownBlock) := hgr1; have HB1 : Hid (v'.ownBlock = (Value.slice (some ⟨ab, ao, asp⟩) n cap).ownBlock ∨ v'.ownBlock = some w.heap.size) := hb1; clear hg1 hgr1 hb1)
    all_goals (go_ret; exact ⟨_, rfl, HG1.out, HGR.out, HB1.out, HU1.out⟩)
theorem Ge.opn {w : World} {B g n cap : Nat} {xs : List (Int × Nat)} (h : Ge elQ w B (.slice (some ⟨g, 0, none⟩) n cap) xs) : ∃ cur : Array Value, B ≤ g ∧ w.heap[g]? = some (.cells cur 76 (0, 0)) ∧ n ≤ cap ∧ cap ≤ maxLen ∧ cur.size = cap * 2 ∧ cur.toList.take (n * 2) = rowE elQ xs ∧ xs.length = n := by
  obtain ⟨h1, h2 | ⟨g', cap', cur, e, hBg, hh, hc, hm, hs, ht⟩⟩ := h
  · cases h2.1
  · cases e
    exact ⟨cur, hBg, hh, hc, hm, hs, ht, rfl⟩
theorem min_ni (n i : Nat) (hi : i < n) : Nat.min (n + 1 - i) (n - i) = n - i := by show min (n + 1 - i) (n - i) = n - i; omega
theorem min_1 (n i : Nat) (hi : i < n) : Nat.min 1 (n + 1 - i) = 1 := by show min 1 (n + 1 - i) = 1; omega
theorem min_g (n i : Nat) (hi : i < n) : Nat.min (n - i) (n + 1 - (i + 1)) = n - i := by show min (n - i) (n + 1 - (i + 1)) = n - i; omega
/-- What lies there behind the two copies. -/
theorem ins_row {cur : List Value} {xs : List (Int × Nat)} {i cap : Nat} (x : Int × Nat) (hi : i < xs.length) (hc : xs.length + 1 ≤ cap) (hs : cur.length = cap * 2) (ht : cur.take (i * 2) = rowE elQ (xs.take i)) :
    ((((cur.take ((i + 1) * 2) ++ rowE elQ (xs.drop i) ++ cur.drop ((i + 1) * 2 + (rowE elQ (xs.drop i)).length)).take (i * 2) ++ elQ.enc x ++ (cur.take ((i + 1) * 2) ++ rowE elQ (xs.drop i) ++ cur.drop ((i + 1) * 2 + (rowE elQ (xs.drop i)).length)).drop (i * 2 + (elQ.enc x).length)).take ((xs.length + 1) * 2)) = rowE elQ (xs.take i ++ x :: xs.drop i)) ∧
    (((cur.take ((i + 1) * 2) ++ rowE elQ (xs.drop i) ++ cur.drop ((i + 1) * 2 + (rowE elQ (xs.drop i)).length)).take (i * 2) ++ elQ.enc x ++ (cur.take ((i + 1) * 2) ++ rowE elQ (xs.drop i) ++ cur.drop ((i + 1) * 2 + (rowE elQ (xs.drop i)).length)).drop (i * 2 + (elQ.enc x).length)).length = cap * 2) := by
  have hd : (rowE elQ (xs.drop i)).length = (xs.length - i) * 2 := by rw [rowE_length, List.length_drop]; rfl
  have he : (elQ.enc x).length = 2 := rfl
  have hl1 : (cur.take ((i + 1) * 2)).length = (i + 1) * 2 := by rw [List.length_take]; omega
  have hl0 : (cur.take (i * 2)).length = i * 2 := by rw [List.length_take]; omega
  have e1 : (cur.take ((i + 1) * 2) ++ rowE elQ (xs.drop i) ++ cur.drop ((i + 1) * 2 + (rowE elQ (xs.drop i)).length)).take (i * 2) = cur.take (i * 2) := by
    rw [List.append_assoc, List.take_append_of_le_length (by rw [hl1]; omega), List.take_take, Nat.min_eq_left (by omega)]
  have e2 : (cur.take ((i + 1) * 2) ++ rowE elQ (xs.drop i) ++ cur.drop ((i + 1) * 2 + (rowE elQ (xs.drop i)).length)).drop (i * 2 + (elQ.enc x).length) = rowE elQ (xs.drop i) ++ cur.drop ((i + 1) * 2 + (rowE elQ (xs.drop i)).length) := by
    rw [List.append_assoc, he, show i * 2 + 2 = (cur.take ((i + 1) * 2)).length by rw [hl1]; omega, List.drop_left']
    rw [hl1]
  rw [e1, e2, ht, rowE_ins]
  constructor
  · rw [show rowE elQ (xs.take i) ++ elQ.enc x ++ (rowE elQ (xs.drop i) ++ cur.drop ((i + 1) * 2 + (rowE elQ (xs.drop i)).length)) = (rowE elQ (xs.take i) ++ (elQ.enc x ++ rowE elQ (xs.drop i))) ++ cur.drop ((i + 1) * 2 + (rowE elQ (xs.drop i)).length) by simp only [List.append_assoc]]
    rw [List.take_append_of_le_length, List.take_of_length_le]
    · rw [← ht]; simp only [List.length_append, hl0, he, hd]; omega
    · rw [← ht]; simp only [List.length_append, hl0, he, hd]; omega
  · rw [← ht]; simp only [List.length_append, hl0, he, hd, List.length_drop, hs]; omega
set_option maxHeartbeats 8000000 in
theorem insert_shift (B : Nat) (g n cap : Nat) (xs : List (Int × Nat)) (x : Int × Nat) (i vb : Nat) (w : World) (hG : Ge elQ w B (.slice (some ⟨g, 0, none⟩) n cap) xs) (hU : NoU w (.slice (some ⟨g, 0, none⟩) n cap)) (hv : Va w vb 76 #[.int .i64 x.1, .float .f64 x.2]) (hne : vb ≠ g) (hi : i < n) (hroom : n + 1 ≤ cap) (hl : n ≤ 1000000) :
    Calls Tryz.prog 29 #[.slice (some ⟨g, 0, none⟩) n cap, .int .i64 i, .slice (some ⟨vb, 0, none⟩) 1 1] w fun e w' => e = .returned (.slice (some ⟨g, 0, none⟩) (n + 1) cap) ∧ Ge elQ w' B (.slice (some ⟨g, 0, none⟩) (n + 1) cap) (xs.take i ++ x :: xs.drop i) ∧ w.grownBy w' (some g) ∧ NoU w' (.slice (some ⟨g, 0, none⟩) (n + 1) cap) := by
  obtain ⟨cur, hBg, hh, hc, hm, hs, ht, hlx⟩ := hG.opn
  have HCU : Hid (NU cur.toList) := hU.nu rfl hh
  clear hU
  have hz1 : ¬ ((i : Int) = (n : Int)) := by omega
  have hcap : cap ≤ 9223372036854775807 := by unfold maxLen at hm; omega
  have hov : ∀ lb cb, (callFunc 60 #[.slice (some ⟨vb, 0, none⟩) 1 1, .slice (some ⟨g, (i + 1) * 2, none⟩) lb cb]).run Tryz.prog w = .ok (.value (.bool false)) w := fun lb cb => by
    rw [run_callFunc_extern Tryz.func60 (by kernel_rfl) (by kernel_rfl) (by kernel_rfl) (e := Extern.SlicesOverlaps.overlaps #[72, 72] #[4]) (by kernel_rfl),
      Lib.run_overlaps_apart w 72 4 76 Tryz.underlying72 2 Tryz.sizeOf76 ⟨vb, 0, none⟩ ⟨g, (i + 1) * 2, none⟩ 1 1 lb cb hne 76 76 2 cur.size (by unfold Va at hv; simp [World.shape?, hv]) (by simp [World.shape?, hh]) (by omega) (hv.frozen 0) (hv.frozen 2)]
    rfl
  have hd : (rowE elQ (xs.drop i)).length = (n - i) * 2 := by rw [rowE_length, List.length_drop, hlx]; rfl
  have hcell : ∀ j u, (rowE elQ (xs.drop i))[j]? = some u → ∀ W : World, W.heap[g]? = w.heap[g]? → W.cell? ((⟨g, i * 2, none⟩ : Addr).add j) = some u := fun j u hj W hW => by
    rw [Addr.add_lit]
    rw [rowE_drop xs i (by omega), ← ht, List.getElem?_drop] at hj
    have hlt : i * 2 + j < xs.length * 2 := by
      rcases Nat.lt_or_ge (i * 2 + j) (cur.toList.take (n * 2)).length with h' | h'
      · rw [List.length_take] at h'; omega
      · rw [List.getElem?_eq_none h'] at hj; cases hj
    rw [List.getElem?_take_of_lt (by rw [hlx] at hlt; exact hlt)] at hj
    simp only [World.cell?, hW, hh]
    simpa using hj
  have hcp1 : ∀ (W : World), W.heap[g]? = w.heap[g]? → ∀ ty dc sc, (Builtin.copy_ #[72, 72] ty #[.slice (some ⟨g, (i + 1) * 2, none⟩) (n - i) dc, .slice (some ⟨g, i * 2, none⟩) (n + 1 - i) sc]).run Tryz.prog W = .ok (goInt ((n - i : Nat) : Int)) (W.setRow g (cur.toList.take ((i + 1) * 2) ++ rowE elQ (xs.drop i) ++ cur.toList.drop ((i + 1) * 2 + (rowE elQ (xs.drop i)).length)).toArray) := fun W hW ty dc sc => by
    have := run_copy_rowK (P := Tryz.prog) W 72 72 ty 76 2 g ((i + 1) * 2) (n - i) dc ⟨g, i * 2, none⟩ (n + 1 - i) sc cur 76 (rowE elQ (xs.drop i)) Tryz.underlying72 sizeQ (hW.trans hh) (by rw [min_ni n i hi, hd]) (fun j u hj => hcell j u hj W hW) (by rw [hd, hs]; omega) (rowE_one elQ _)
    rw [min_ni n i hi] at this
    exact this
  obtain ⟨R1, hR1⟩ : ∃ R1, R1 = cur.toList.take ((i + 1) * 2) ++ rowE elQ (xs.drop i) ++ cur.toList.drop ((i + 1) * 2 + (rowE elQ (xs.drop i)).length) := ⟨_, rfl⟩
  have HRU : Hid (NU R1) := by show NU R1; rw [hR1]; exact ((HCU.out.take _).app (nu_row _)).app (HCU.out.drop _)
  rw [← hR1] at hcp1
  have hcp2 : ∀ (W : World), W.heap[g]? = some (.cells R1.toArray 76 (0, 0)) → W.heap[vb]? = w.heap[vb]? → ∀ ty dc, (Builtin.copy_ #[72, 72] ty #[.slice (some ⟨g, i * 2, none⟩) (n + 1 - i) dc, .slice (some ⟨vb, 0, none⟩) 1 1]).run Tryz.prog W = .ok (goInt 1) (W.setRow g (R1.take (i * 2) ++ elQ.enc x ++ R1.drop (i * 2 + (elQ.enc x).length)).toArray) := fun W hW hWv ty dc => by
    have hR : R1.length = cap * 2 := by
      rw [hR1]; simp only [List.length_append, List.length_take, List.length_drop, Array.length_toList, hd, hs]; omega
    have := run_copy_rowK (P := Tryz.prog) W 72 72 ty 76 2 g (i * 2) (n + 1 - i) dc ⟨vb, 0, none⟩ 1 1 R1.toArray 76 (elQ.enc x) Tryz.underlying72 sizeQ hW (by rw [min_1 n i hi]; rfl) (fun j u hj => by
      rw [Addr.add_lit]
      unfold Va at hv
      simp only [World.cell?, hWv, hv]
      simpa [elQ] using hj) (by rw [List.size_toArray, hR]; show i * 2 + 2 ≤ _; omega) (elQ.one x)
    rw [min_1 n i hi] at this
    exact this
  have HF := ins_row (cur := cur.toList) (xs := xs) (i := i) (cap := cap) x (by omega) (by omega) (by simpa using hs) (by
    rw [rowE_take, ← ht, List.take_take, Nat.min_eq_left (by omega)])
  rw [← hR1] at HF
  have HFH : Hid _ := HF
  have HH : Hid (w.heap[g]? = some (.cells cur 76 (0, 0))) := hh
  have HM : Hid (cap ≤ maxLen ∧ B ≤ g ∧ xs.length = n) := ⟨hm, hBg, hlx⟩
  clear HF hR1 hcell hd hh ht hs hv hm hlx hBg hc
  have hw1 : IntKind.i64.wrap ((i : Int) + 1) = (i : Int) + 1 := by rw [IntKind.wrap_i64]; omega
  have hb2 : ¬ (cap = i + 1) := by omega
  have hb4 : ¬ (cap = i) := by omega
  have hb1 : (0 : Int) ≤ (i : Int) + 1 := by omega
  have hin : i ≤ n := by omega
  have hb3 : (i : Int) ≤ (n : Int) + 1 := by omega
  go_enter Tryz.func29, Tryz.ntmps29
  go_wp2_with (simp only [hov])
  have hc1 := hcp1 w.drew rfl
  have hc2 := hcp2 (w.drew.setRow g R1.toArray) (setRow_heap _ g cur _ _ _ HH.out) (setRow_other _ g vb _ hne)
  go_region
  go_wp2_with fail
  go_ret
  obtain ⟨hm, hBg, hlx⟩ := HM.out
  obtain ⟨f1, f2⟩ := HFH.out
  refine ⟨rfl, Ge.row (setRow_heap _ g _ _ _ _ (setRow_heap _ g cur _ _ _ HH.out)) hBg (by simp; omega) hroom hm (by simpa using f2) ?_, grown_row g (by simp [World.setRow]) rfl rfl rfl (fun k hk => ?_), NoU.of rfl (setRow_heap _ g _ _ _ _ (setRow_heap _ g cur _ _ _ HH.out)) (by simpa using (HRU.out.take _).app ((nu_enc x).app (HRU.out.drop _)))⟩
  · rw [hlx] at f1
    simpa using f1
  · rw [setRow_other _ g k _ hk, setRow_other _ g k _ hk]; rfl
end Go.Proofs.YtmhfoeooccppfaaGreat
