/-
  exchange: slices.Insert of one quote where there is no room; at any place; slices.Clone of a pair's quotes.
-/
import Derived.Test.YtmhfoeooccppfaaGreatEx5
namespace Go.Proofs.YtmhfoeooccppfaaGreat
open Go.RowKit Go.Shelf Go.Lib
set_option linter.unusedVariables false
set_option maxRecDepth 20000

theorem grow_row {cur : List Value} {xs : List (Int × Nat)} {i G : Nat} (x : Int × Nat) (hi : i < xs.length) (hc : xs.length + 1 ≤ G) (hs : cur.length = G * 2) (ht : cur.take (i * 2) = rowE elQ (xs.take i)) {R1 : List Value} (h1 : R1 = cur.take (i * 2) ++ elQ.enc x ++ cur.drop (i * 2 + (elQ.enc x).length)) :
    R1.length = G * 2 ∧ (R1.take ((i + 1) * 2) ++ rowE elQ (xs.drop i) ++ R1.drop ((i + 1) * 2 + (rowE elQ (xs.drop i)).length)).length = G * 2 ∧
    (R1.take ((i + 1) * 2) ++ rowE elQ (xs.drop i) ++ R1.drop ((i + 1) * 2 + (rowE elQ (xs.drop i)).length)).take ((xs.length + 1) * 2) = rowE elQ (xs.take i ++ x :: xs.drop i) := by
  have hd : (rowE elQ (xs.drop i)).length = (xs.length - i) * 2 := by rw [rowE_length, List.length_drop]; rfl
  have he : (elQ.enc x).length = 2 := rfl
  have hl0 : (cur.take (i * 2)).length = i * 2 := by rw [List.length_take]; omega
  have hR : R1.length = G * 2 := by rw [h1]; simp only [List.length_append, hl0, he, List.length_drop, hs]; omega
  have e1 : R1.take ((i + 1) * 2) = rowE elQ (xs.take i) ++ elQ.enc x := by
    rw [h1, List.take_append_of_le_length (by simp only [List.length_append, hl0, he]; omega), List.take_of_length_le (by simp only [List.length_append, hl0, he]; omega), ht]
  refine ⟨hR, ?_, ?_⟩
  · simp only [List.length_append, List.length_take, List.length_drop, hR, hd]; omega
  · rw [e1, rowE_ins, show rowE elQ (xs.take i) ++ elQ.enc x ++ rowE elQ (xs.drop i) = rowE elQ (xs.take i) ++ (elQ.enc x ++ rowE elQ (xs.drop i)) by simp only [List.append_assoc], List.take_append_of_le_length, List.take_of_length_le]
    · rw [← ht]; simp only [List.length_append, hl0, he, hd]; omega
    · rw [← ht]; simp only [List.length_append, hl0, he, hd]; omega
set_option maxHeartbeats 8000000 in
theorem insert_grow (B : Nat) (g n cap : Nat) (xs : List (Int × Nat)) (x : Int × Nat) (i vb : Nat) (w : World) (hG : Ge elQ w B (.slice (some ⟨g, 0, none⟩) n cap) xs) (hv : Va w vb 76 #[.int .i64 x.1, .float .f64 x.2]) (hB : B ≤ w.heap.size) (hi : i < n) (hroom : cap < n + 1) (hl : n ≤ 1000000) :
    Calls Tryz.prog 29 #[.slice (some ⟨g, 0, none⟩) n cap, .int .i64 i, .slice (some ⟨vb, 0, none⟩) 1 1] w fun e w' => ∃ v', e = .returned v' ∧ Ge elQ w' B v' (xs.take i ++ x :: xs.drop i) ∧ w.grownBy w' none ∧ v'.ownBlock = some w.heap.size ∧ NoU w' v' := by
  obtain ⟨cur, hBg, hh, hc, hm, hs, ht, hlx⟩ := hG.opn
  have hgw : g < w.heap.size := hG.lt g rfl
  have hvw : vb < w.heap.size := hv.lt
  have hz1 : ¬ ((i : Int) = (n : Int)) := by omega
  have hz3 : (cap : Int) < (n : Int) + 1 := by omega
  obtain ⟨i0, hi0, hz0, hzs, hzb⟩ := info_parts infoQ
  have hkk : (n : Int) + 1 - (i : Int) = ((n + 1 - i : Nat) : Int) := by omega
  have hik : i + (n + 1 - i) = n + 1 := by omega
  have hold : (Builtin.firstCells i0.size i (.slice (some ⟨g, 0, none⟩) i cap)).run Tryz.prog w.drew = .ok (rowE elQ (xs.take i)).toArray w.drew := by
    rw [hzs]
    exact run_firstCells_some w.drew 2 i ⟨g, 0, none⟩ i cap (rowE elQ (xs.take i)) (by rw [rowE_length, List.length_take, hlx, Nat.min_eq_left (by omega)]; rfl) (fun j v hj => by
      rw [Addr.add_lit]
      rw [rowE_take, ← ht, List.take_take, Nat.min_eq_left (by omega)] at hj
      have hlt : j < i * 2 := by
        rcases Nat.lt_or_ge j (cur.toList.take (i * 2)).length with h' | h'
        · rw [List.length_take] at h'; omega
        · rw [List.getElem?_eq_none h'] at hj; cases hj
      rw [List.getElem?_take_of_lt hlt] at hj
      show w.cell? _ = _
      simp only [World.cell?, hh, Nat.zero_add]
      simpa using hj)
  have hrz : ∀ ty, (Builtin.append_ #[72, 3] ty #[.slice (some ⟨g, 0, none⟩) i cap, .int .i64 ((n : Int) + 1 - (i : Int))]).run Tryz.prog w =
      .ok (.slice (some ⟨w.heap.size, 0, none⟩) (n + 1) (grownCap w (n + 1) cap 76)) (w.drew.alloc (.cells ((rowE elQ (xs.take i)).toArray ++ Builtin.zeroCells (Value.agg #[.int .i64 0, .float .f64 0]).cells (n + 1 - i) ++ Builtin.zeroCells (Value.agg #[.int .i64 0, .float .f64 0]).cells (grownCap w (n + 1) cap 76 - (n + 1))) 76)) := fun ty => by
    have h := Lib.run_append_grow_zeros w 72 3 ty 76 i0 _ .i64 .i64 Tryz.underlying72 Tryz.underlying3 hi0 hz0 (some ⟨g, 0, none⟩) i cap (rowE elQ (xs.take i)) hold (n + 1 - i) (by omega) (by omega) (by omega) (by omega) (by rw [hzb]; omega) (by rw [hzb, hik]; exact growslice_fits hroom (by omega))
    rw [hik] at h
    rw [hkk]
    exact h
  obtain ⟨G, hGe⟩ : ∃ G, G = grownCap w (n + 1) cap 76 := ⟨_, rfl⟩
  obtain ⟨ROW, hROW⟩ : ∃ ROW : Array Value, ROW = (rowE elQ (xs.take i)).toArray ++ Builtin.zeroCells (Value.agg #[.int .i64 0, .float .f64 0]).cells (n + 1 - i) ++ Builtin.zeroCells (Value.agg #[.int .i64 0, .float .f64 0]).cells (G - (n + 1)) := ⟨_, rfl⟩
  rw [← hGe] at hrz
  rw [← hROW] at hrz
  have hGn : n + 1 ≤ G := by rw [hGe]; exact grownCap_ge w _ _ _
  have hGm : G ≤ maxLen := by rw [hGe]; exact grownCap_le_maxLen w (n + 1) cap 76 (by unfold maxLen; omega)
  have hti : (rowE elQ (xs.take i)).length = i * 2 := by rw [rowE_length, List.length_take, hlx, Nat.min_eq_left (by omega)]; rfl
  have hRl : ROW.toList.length = G * 2 := by
    rw [hROW]
    simp [Builtin.zeroCells, Value.cells, hti]
    omega
  have hRt : ROW.toList.take (i * 2) = rowE elQ (xs.take i) := by
    rw [hROW]
    simp only [Array.toList_append, List.append_assoc]
    rw [List.take_append_of_le_length (by simp [hti]), List.take_of_length_le (by simp [hti])]
  have HWU : Hid (NU ROW.toList) := by show NU _; rw [hROW, Array.toList_append, Array.toList_append]; exact ((nu_row _).app (nu_zero _)).app (nu_zero _)
  have hG63 : G ≤ 9223372036854775807 := by unfold maxLen at hGm; omega
  obtain ⟨R1, hR1⟩ : ∃ R1, R1 = ROW.toList.take (i * 2) ++ elQ.enc x ++ ROW.toList.drop (i * 2 + (elQ.enc x).length) := ⟨_, rfl⟩
  have HRU : Hid (NU R1) := by show NU _; rw [hR1]; exact ((HWU.out.take _).app (nu_enc x)).app (HWU.out.drop _)
  obtain ⟨q1, q2, q3⟩ := grow_row (xs := xs) (i := i) (G := G) x (by omega) (by omega) hRl hRt hR1
  have hN : (w.drew.alloc (.cells ROW 76)).heap[w.heap.size]? = some (.cells ROW 76 (0, 0)) := heap_alloc_new w.drew _
  have hOld : ∀ k, k < w.heap.size → (w.drew.alloc (.cells ROW 76)).heap[k]? = w.heap[k]? := fun k hk => Below.heap_alloc w.drew _ _ hk
  have hcA : ∀ (W : World), W.heap = (w.drew.alloc (.cells ROW 76)).heap → ∀ ty dc, (Builtin.copy_ #[72, 72] ty #[.slice (some ⟨w.heap.size, i * 2, none⟩) (n + 1 - i) dc, .slice (some ⟨vb, 0, none⟩) 1 1]).run Tryz.prog W = .ok (goInt 1) (W.setRow w.heap.size R1.toArray) := fun W hW ty dc => by
    have := run_copy_rowK (P := Tryz.prog) W 72 72 ty 76 2 w.heap.size (i * 2) (n + 1 - i) dc ⟨vb, 0, none⟩ 1 1 ROW 76 (elQ.enc x) Tryz.underlying72 sizeQ (by rw [hW]; exact hN) (by rw [min_1 n i hi]; rfl) (fun j u hj => by
      rw [Addr.add_lit]
      have hvb : W.heap[vb]? = w.heap[vb]? := by rw [hW]; exact hOld vb hvw
      unfold Va at hv
      simp only [World.cell?, hvb, hv]
      simpa [elQ] using hj) (by rw [← Array.length_toList, hRl]; show i * 2 + 2 ≤ _; omega) (elQ.one x)
    rw [min_1 n i hi, ← hR1] at this
    exact this
  have hd : (rowE elQ (xs.drop i)).length = (n - i) * 2 := by rw [rowE_length, List.length_drop, hlx]; rfl
  have hcB : ∀ (W : World), W.heap[w.heap.size]? = some (.cells R1.toArray 76 (0, 0)) → W.heap[g]? = w.heap[g]? → ∀ ty dc sc, (Builtin.copy_ #[72, 72] ty #[.slice (some ⟨w.heap.size, (i + 1) * 2, none⟩) (n - i) dc, .slice (some ⟨g, i * 2, none⟩) (n - i) sc]).run Tryz.prog W = .ok (goInt ((n - i : Nat) : Int)) (W.setRow w.heap.size (R1.take ((i + 1) * 2) ++ rowE elQ (xs.drop i) ++ R1.drop ((i + 1) * 2 + (rowE elQ (xs.drop i)).length)).toArray) := fun W hW hWg ty dc sc => by
    have := run_copy_rowK (P := Tryz.prog) W 72 72 ty 76 2 w.heap.size ((i + 1) * 2) (n - i) dc ⟨g, i * 2, none⟩ (n - i) sc R1.toArray 76 (rowE elQ (xs.drop i)) Tryz.underlying72 sizeQ hW (by rw [show Nat.min (n - i) (n - i) = n - i from Nat.min_self _, hd]) (fun j u hj => by
      rw [Addr.add_lit]
      rw [rowE_drop xs i (by omega), ← ht, List.getElem?_drop] at hj
      have hlt : i * 2 + j < n * 2 := by
        rcases Nat.lt_or_ge (i * 2 + j) (cur.toList.take (n * 2)).length with h' | h'
        · rw [List.length_take] at h'; omega
        · rw [List.getElem?_eq_none h'] at hj; cases hj
      rw [List.getElem?_take_of_lt hlt] at hj
      simp only [World.cell?, hWg, hh]
      simpa using hj) (by rw [List.size_toArray, q1, hd]; omega) (rowE_one elQ _)
    rw [show Nat.min (n - i) (n - i) = n - i from Nat.min_self _] at this
    exact this
  have HQ : Hid _ := And.intro q2 q3
  have HM : Hid (G ≤ maxLen ∧ xs.length = n) := ⟨hGm, hlx⟩
  have HN : Hid _ := hN
  have HO : Hid _ := hOld
  have hgN : g ≠ w.heap.size := by omega
  clear q1 q2 q3 hN hd hR1 hRt hRl hti hROW hGe hGm hik hkk hold hh ht hs hv hm hlx hBg hG
  have hic : i ≤ cap := by omega
  have hw1 : IntKind.i64.wrap ((i : Int) + 1) = (i : Int) + 1 := by rw [IntKind.wrap_i64]; omega
  have hb1 : (0 : Int) ≤ (i : Int) + 1 := by omega
  have hin : i ≤ n := by omega
  have hb3 : (i : Int) ≤ (n : Int) := by omega
  have hGi : ¬ (G = i) := by omega
  have hGim : ¬ (G = i + 1) := by omega
  have hA := hcA (w.alloc (.cells ROW 76)).drew rfl
  have hR0 := setRow_heap (w.alloc (.cells ROW 76)).drew w.heap.size ROW R1.toArray _ _ HN.out
  have hR9 : ∀ k, k < w.heap.size → ((w.alloc (.cells ROW 76)).drew.setRow w.heap.size R1.toArray).heap[k]? = w.heap[k]? := fun k hk => by
    rw [setRow_other _ _ k _ (by omega)]; exact HO.out k hk
  have hBB := hcB ((w.alloc (.cells ROW 76)).drew.setRow w.heap.size R1.toArray).drew hR0 (hR9 g hgw)
  obtain ⟨R2, hR2⟩ : ∃ R2, R2 = R1.take ((i + 1) * 2) ++ rowE elQ (xs.drop i) ++ R1.drop ((i + 1) * 2 + (rowE elQ (xs.drop i)).length) := ⟨_, rfl⟩
  have HRU2 : Hid (NU R2) := by show NU _; rw [hR2]; exact ((HRU.out.take _).app (nu_row _)).app (HRU.out.drop _)
  rw [← hR2] at hBB HQ
  have HR0 : Hid _ := hR0
  have HR9 : Hid _ := hR9
  clear hR2 hcA hcB hR0 hR9
  go_enter Tryz.func29, Tryz.ntmps29
  go_wp2_with (at_builtin; refine Lib.wpList_append_run _ rfl _ _ _ _ rfl _ _ rfl rfl _ _ (hrz _) ?_)
  go_region
  go_wp2_with fail
  go_ret
  obtain ⟨hm, hlx⟩ := HM.out
  obtain ⟨f1, f2⟩ := HQ.out
  refine ⟨_, rfl, Ge.row (setRow_heap _ _ _ _ _ _ HR0.out) (by omega) (by simp; omega) hGn hm (by simpa using f1) ?_, ⟨rfl, rfl, rfl, by simp [World.setRow], fun k hk _ => ?_⟩, rfl, NoU.of rfl (setRow_heap _ _ _ _ _ _ HR0.out) (by simpa using HRU2.out)⟩
  · rw [hlx] at f2
    simpa using f2
  · rw [setRow_other _ _ k _ (by omega)]; exact HR9.out k hk
/-- slices.Insert of one quote. -/
theorem insert_any (B : Nat) (v : Value) (xs : List (Int × Nat)) (x : Int × Nat) (i vb : Nat) (w : World) (hG : Ge elQ w B v xs) (hU : NoU w v) (hv : Va w vb 76 #[.int .i64 x.1, .float .f64 x.2]) (hB : B ≤ w.heap.size) (hne : v.ownBlock ≠ some vb) (hi : i ≤ xs.length) (hl : xs.length ≤ 1000000) :
    Calls Tryz.prog 29 #[v, .int .i64 i, .slice (some ⟨vb, 0, none⟩) 1 1] w fun e w' => ∃ v', e = .returned v' ∧ Ge elQ w' B v' (xs.take i ++ x :: xs.drop i) ∧ w.grownBy w' v.ownBlock ∧ (v'.ownBlock = v.ownBlock ∨ v'.ownBlock = some w.heap.size) ∧ NoU w' v' := by
  obtain ⟨a, cap, rfl, hc, hm, hs⟩ := hG.shape
  rcases Nat.lt_or_eq_of_le hi with h | h
  · rcases hs with ⟨rfl, rfl, -⟩ | ⟨g, rfl⟩
    · simp at h
    · by_cases hroom : xs.length + 1 ≤ cap
      · refine (insert_shift B g _ cap xs x i vb w hG hU hv (fun e => hne (by rw [e]; rfl)) h hroom hl).mono ?_
        rintro e w' ⟨rfl, h1, h2, h4⟩
        exact ⟨_, rfl, h1, h2, Or.inl rfl, h4⟩
      · refine (insert_grow B g _ cap xs x i vb w hG hv hB h (by omega) hl).mono ?_
        rintro e w' ⟨v', rfl, h1, h2, h3, h4⟩
        exact ⟨_, rfl, h1, h2.but _, Or.inr h3, h4⟩
  · subst h
    refine (insert_end B a _ cap xs x vb w hG hU hv hl hB).mono ?_
    rintro e w' ⟨v', rfl, h1, h2, h3, h4⟩
    refine ⟨_, rfl, ?_, h2, h3, h4⟩
    rw [List.take_length, List.drop_length]
    exact h1
set_option maxHeartbeats 1000000 in
/-- slices.Clone of a pair's quotes. -/
theorem clone_q (a : Option Addr) (cap : Nat) (ps : List (Int × Nat)) (w : World) (h : Le elQ w a ps.length ps) (h0 : 0 < ps.length) (hl : ps.length ≤ 1000000) :
    Calls Tryz.prog 31 #[.slice a ps.length cap] w fun e w' => ∃ v, e = .returned v ∧ Ge elQ w' w.heap.size v ps ∧ RowKit.Below w.heap.size w w' := by
  have q22 : ∀ (w : World) (a : Option Addr) (n c n' c' : Nat), (binOp .eql 72 (.slice a n c) (.slice none n' c')).run Tryz.prog w = .ok (.bool a.isNone) w := fun w a n c n' c' => Lib.run_eql_slice_nil w _ _ a n c n' c' Tryz.underlying72
  obtain ⟨b, off, rfl⟩ := h.ex h0
  have HC : Hid (∀ j u, (rowE elQ ps)[j]? = some u → w.cell? ((⟨b, off, none⟩ : Addr).add j) = some u) := h.news
  obtain ⟨i0, hi, hz0, hz1, hz2⟩ := info_parts infoQ
  have HR : Hid ((rowE elQ ps).length = ps.length * 2) := rowE_length elQ ps
  clear h
  generalize hlen : ps.length = len at *
  have HP : Hid (ps.length = len) := hlen
  clear hlen
  go_enter Tryz.func31, Tryz.ntmps31
  go_wp2_with (at_builtin; refine wpList_append_own _ rfl _ _ 72 rfl w.heap.size 76 i0 (.agg #[.int .i64 0, .float .f64 0]) 2 16 Tryz.underlying72 hi hz0 hz1 hz2 rfl (by decide) _ _ _ rfl (World.ownsRow_made w #[] 0 (Nat.le_refl _) (Nat.zero_le _) (by simp)) ⟨b, off, none⟩ len cap (rowE elQ ps) rfl (by rw [HR.out]) (fun j u hj => Lib.cell?_alloc_some _ (HC.out j u hj)) (rowE_one elQ _) (by unfold maxLen; omega) (by omega) (by simp) ?_; intro v' w1 hown hgrow hnil)
  obtain ⟨a2, c2, rfl⟩ : ∃ a2 c2, v' = .slice a2 (0 + len) c2 := by
    rcases hown.2 with ⟨e, h'⟩ | ⟨g, cp, cur, e, -⟩
    · exact ⟨none, 0, by rw [e, h']⟩
    · exact ⟨_, cp, e⟩
  go_wp2_with fail
  go_ret
  refine ⟨_, rfl, ?_, ((RowKit.Below.refl _ w).alloc (Nat.le_refl _) _).grown hgrow (by simp) (by intro k hk; cases hk; exact Nat.le_refl _)⟩
  show World.ownsRow _ _ _ _ _ _ _
  rw [HP.out]
  have h9 : w1.ownsRow w.heap.size 76 2 (.slice a2 len c2) len (rowE elQ ps) := by simpa using hown
  rw [Nat.zero_add]
  exact h9
end Go.Proofs.YtmhfoeooccppfaaGreat
