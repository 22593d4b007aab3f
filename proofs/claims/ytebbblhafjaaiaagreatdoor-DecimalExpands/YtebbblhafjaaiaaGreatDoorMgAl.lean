/-
  decimal.Rat, Compare.
-/
import Derived.Test.YtebbblhafjaaiaaGreatDoorMgAk
import Derived.Test.YtebbblhafjaaiaaGreatDoorMgAj
import Derived.Lib.LaidTab
import Derived.Lib.AppendIntMem
import Derived.Test.YtebbblhafjaaiaaGreatDoorMgAm
import Derived.Test.YtebbblhafjaaiaaGreatDoorMgAh
import Derived.Test.YtebbblhafjaaiaaGreatDoorBsK
import Derived.Test.YtebbblhafjaaiaaGreatDoorMgAg
namespace Go.Proofs.YtebbblhafjaaiaaGreatDoor
open Go.RowKit Go.Shelf
set_option linter.unusedVariables false

/-- The table of the powers of ten of decimal. -/
def Tn (w : World) : Prop := Go.Lib.TabIs Tryz.prog w "tollbook/decimal.tens" .i64 [1, 10, 100, 1000, 10000, 100000, 1000000, 10000000, 100000000, 1000000000]
theorem Tn.to {w w' : World} (h : Tn w) (hb : Below w.heap.size w w') : Tn w' := Go.Lib.tabBelow_of_tabIs h w' hb
theorem Tn.cell {w : World} (h : Tn w) (P : Nat) (hP : P ≤ 9) : w.cell? ⟨0, P, none⟩ = some (.int .i64 (10 ^ P)) := by
  have := Go.Lib.TabIs.cell (g := 0) h (by kernel_rfl) P (by simp; omega)
  rw [this]
  match P, hP with
  | 0, _ => rfl
  | 1, _ => rfl
  | 2, _ => rfl
  | 3, _ => rfl
  | 4, _ => rfl
  | 5, _ => rfl
  | 6, _ => rfl
  | 7, _ => rfl
  | 8, _ => rfl
  | 9, _ => rfl
end Go.Proofs.YtebbblhafjaaiaaGreatDoor
namespace Go.Proofs.YtebbblhafjaaiaaGreatDoor
open Go.RowKit Go.Shelf
set_option linter.unusedVariables false

end Go.Proofs.YtebbblhafjaaiaaGreatDoor
namespace Go.Proofs.YtebbblhafjaaiaaGreatDoor
open Go.RowKit Go.Shelf
set_option linter.unusedVariables false

end Go.Proofs.YtebbblhafjaaiaaGreatDoor
namespace Go.Proofs.YtebbblhafjaaiaaGreatDoor
set_option linter.unusedVariables false

def ltr (x : Int) : UInt8 := UInt8.ofNat (if x < 10 then 48 + x.toNat else 87 + x.toNat)
theorem ltr_val {x : Int} (h0 : 0 ≤ x) (h : x < 36) : ((ltr x).toNat : Int) = if x < 10 then 48 + x else 87 + x := by
  unfold ltr
  split <;> simp <;> omega
theorem wv_ltr {x : Int} (h0 : 0 ≤ x) (h : x < 36) : (wv (ltr x) : Int) = x := by
  have e := ltr_val h0 h
  unfold wv
  split at e
  · rw [if_pos (by omega)]; omega
  · rw [if_neg (by omega), if_pos (by omega)]; omega
/-- The text of digits, the lowest first. -/
def tB3 (os : List Int) : List UInt8 := (os.map ltr).reverse
theorem tB3_len (os : List Int) : (tB3 os).length = os.length := by simp [tB3]
theorem tB3_dig {b : Nat} (h36 : b ≤ 36) {os : List Int} (h : DgI b os) : Dig b (tB3 os) := by
  intro c hc
  obtain ⟨x, hx, rfl⟩ := List.mem_map.1 (List.mem_reverse.1 hc)
  have hb := h x hx
  have := wv_ltr hb.1 (by omega)
  omega
theorem tB3_txI {b : Nat} (h36 : b ≤ 36) {os : List Int} (h : DgI b os) : txI (tB3 os) = os.reverse := by
  unfold txI tB3
  rw [List.map_reverse, List.map_map]
  congr 1
  have : ∀ l : List Int, DgI b l → l.map ((fun c => (wv c : Int)) ∘ ltr) = l := by
    intro l
    induction l with
    | nil => intro _; rfl
    | cons x t ih =>
      intro hl
      rw [List.map_cons, ih (fun z hz => hl z (List.mem_cons_of_mem _ hz))]
      have hx := hl x (List.mem_cons_self ..)
      simp only [Function.comp]
      rw [wv_ltr hx.1 (by omega)]
  exact this os h
theorem tB3_tx {b : Nat} (h2 : 2 ≤ b) (h36 : b ≤ 36) {os : List Int} {N : Int} (h : DgI b os) (he : os ≠ []) (hv : lvB b os = N) (ht : os = [0] ∨ TpB os) : Tx b (tB3 os) N.toNat := by
  refine ⟨fun e => he (List.length_eq_zero_iff.1 (by rw [← tB3_len, e]; rfl)), tB3_dig h36 h, ?_, fun hh => ?_⟩
  · have e := txI_val b (tB3 os)
    rw [tB3_txI h36 h, lvB_rev, hv] at e
    omega
  · rcases ht with rfl | ⟨_, ht⟩
    · rfl
    · exfalso
      have hp := List.length_pos_iff.2 he
      have e1 : (tB3 os).head? = some (ltr (os.getD (os.length - 1) 0)) := by
        unfold tB3
        rw [List.head?_reverse, List.getLast?_eq_getElem?, List.length_map, List.getElem?_map, List.getD_eq_getElem?_getD, List.getElem?_eq_getElem (by omega)]
        rfl
      rw [e1] at hh
      have hd := h.getD (i := os.length - 1) (by omega)
      have e2 := ltr_val hd.1 (by omega)
      have e3 : ltr (os.getD (os.length - 1) 0) = 48 := by simpa using hh
      rw [e3] at e2
      have e4 : ((48 : UInt8).toNat : Int) = 48 := rfl
      rw [e4] at e2
      split at e2 <;> omega
/-- One more letter. -/
theorem tB3_drop (os : List Int) {k : Nat} (h : k < os.length) : tB3 (os.drop k) = tB3 (os.drop (k + 1)) ++ [ltr (os.getD k 0)] := by
  unfold tB3
  rw [List.drop_eq_getElem_cons h, List.map_cons, List.reverse_cons, List.getD_eq_getElem?_getD, List.getElem?_eq_getElem h]
  rfl
end Go.Proofs.YtebbblhafjaaiaaGreatDoor
namespace Go.Proofs.YtebbblhafjaaiaaGreatDoor
open Go.RowKit Go.Shelf
set_option linter.unusedVariables false

/-- Digits at the head of a row of the call's own. -/
def Wb (w : World) (g m : Nat) (ds : List Int) : Prop := ds.length = m ∧ ∃ cur : Array Value, w.heap[g]? = some (.cells cur 94 (0, 0)) ∧ ∀ i, i < m → cur[i]? = some (.int .u64 (ds.getD i 0))
theorem Wb.cell {w : World} {g m : Nat} {ds : List Int} (h : Wb w g m ds) (i : Nat) (hi : i < m) : w.cell? ⟨g, i, none⟩ = some (.int .u64 (ds.getD i 0)) := by
  obtain ⟨-, cur, h1, h2⟩ := h
  simp only [World.cell?, h1]
  simpa using h2 i hi
theorem Wb.frozen {w : World} {g m : Nat} {ds : List Int} (h : Wb w g m ds) (i : Nat) : w.frozen? ⟨g, i, none⟩ = false := by
  obtain ⟨-, cur, h1, h2⟩ := h
  simp [World.frozen?, h1]
theorem Wb.lt {w : World} {g m : Nat} {ds : List Int} (h : Wb w g m ds) : g < w.heap.size := by
  obtain ⟨-, cur, h1, h2⟩ := h
  rcases Nat.lt_or_ge g w.heap.size with h' | h'
  · exact h'
  · rw [Array.getElem?_eq_none h'] at h1; cases h1
theorem Wb.set {w : World} {g m : Nat} {ds : List Int} (h : Wb w g m ds) (i : Nat) (hi : i < m) (v : Int) : Wb (w.setCell ⟨g, i, none⟩ (.int .u64 v)) g m (ds.set i v) := by
  obtain ⟨h0, cur, h1, h2⟩ := h
  have hc : i < cur.size := by
    rcases Nat.lt_or_ge i cur.size with h' | h'
    · exact h'
    · have := h2 i hi; rw [Array.getElem?_eq_none h'] at this; cases this
  refine ⟨by rw [List.length_set]; exact h0, cur.setIfInBounds i (.int .u64 v), ?_, fun j hj => ?_⟩
  · simp only [World.setCell]
    rw [Array.getElem?_modify, if_pos rfl, h1]
    simp
  · rw [List.getD_eq_getElem?_getD]
    by_cases e : i = j
    · subst e
      rw [Array.getElem?_setIfInBounds_self_of_lt hc, List.getElem?_set_self (by omega)]; rfl
    · rw [Array.getElem?_setIfInBounds_ne e, List.getElem?_set_ne e, ← List.getD_eq_getElem?_getD]; exact h2 j hj
theorem Wb.sl {w : World} {g m : Nat} {ds : List Int} (h : Wb w g m ds) (hL : Limbs ds) : Sl w (some ⟨g, 0, none⟩) m ds :=
  ⟨h.1, hL, fun _ => ⟨g, 0, rfl, fun i hi => by rw [Nat.zero_add]; exact h.cell i hi⟩⟩
theorem Wb.take {w : World} {g m : Nat} {ds : List Int} (h : Wb w g m ds) {n : Nat} (hn : n ≤ m) : Wb w g n (ds.take n) := by
  obtain ⟨h0, cur, h1, h2⟩ := h
  refine ⟨by rw [List.length_take]; omega, cur, h1, fun i hi => ?_⟩
  rw [h2 i (by omega), List.getD_eq_getElem?_getD, List.getD_eq_getElem?_getD, List.getElem?_take_of_lt hi]
theorem Wb.below {B : Nat} {w w' : World} {g m : Nat} {ds : List Int} (h : Wb w g m ds) (b : Below B w w') (hg : g < B) : Wb w' g m ds := by
  obtain ⟨h0, cur, h1, h2⟩ := h
  exact ⟨h0, cur, by rw [b.block g hg]; exact h1, h2⟩
theorem wb_of {w : World} {g m : Nat} {ds : List Int} {cur : Array Value} (h : Sl w (some ⟨g, 0, none⟩) m ds) (hh : w.heap[g]? = some (.cells cur 94 (0, 0))) : Wb w g m ds := by
  refine ⟨h.1, cur, hh, fun i hi => ?_⟩
  obtain ⟨b, off, e, hc⟩ := h.2.2 (by omega)
  cases e
  have := hc i hi
  simp only [World.cell?, hh, Nat.zero_add] at this
  simpa using this
theorem gr_only {g : Nat} {w w' : World} {B : Nat} {v : Value} {cs : List Int} (h : Gr w B v cs) (o : Only g w w') (hg : g < B) : Gr w' B v cs := by
  obtain ⟨h1, h2 | ⟨k, cap, cur, e, hB, hh, hc, hm, hs, ht⟩⟩ := h
  · exact ⟨h1, .inl h2⟩
  · exact ⟨h1, .inr ⟨k, cap, cur, e, hB, by rw [o.oth k (by omega)]; exact hh, hc, hm, hs, ht⟩⟩
set_option maxHeartbeats 1000000 in
theorem over9 (g m cap : Nat) (ds : List Int) (b : Int) (w : World) (h : Wb w g m ds) (hd : H.Limbs ds) (hm : m ≤ 16000000000000) (b0 : 0 < b) (b1 : b < 4294967296) :
    Calls Tryz.prog 148 #[.slice (some ⟨g, 0, none⟩) m cap, .int .u64 b] w fun e w' => ∃ cs r, e = .returned (.int .u64 r) ∧ Wb w' g m cs ∧ H.Limbs cs ∧ H.num ds = H.num cs * b + r ∧ 0 ≤ r ∧ r < b ∧ Only g w w' := by
  have gb : (b == 0) = false := by simp; omega
  have HLD : Hid (ds.length = m) := h.1
  have HW : Hid (Wb w g m ds) := h
  have I0 : Hid (RvInv ds ds b m 0) := by
    refine ⟨rfl, hd, ?_, by omega, b0⟩
    have e1 : ds.drop m = [] := List.drop_eq_nil_of_le (by rw [HLD.out]; exact Nat.le_refl _)
    rw [e1]; simp [H.num]
  clear h
  go_enter Tryz.func148, Tryz.ntmps148
  go_wp2_with fail
  go_loopw [5, 6] (fun rr ii wr => ∃ (k : Nat) (r : Int) (cs : List Int), ii = .int .i64 ((k : Int) - 1) ∧ rr = .int .u64 r ∧ k ≤ m ∧ Hid (RvInv ds cs b k r) ∧ Hid (Wb wr g m cs) ∧ Hid (∀ j, j < k → cs.getD j 0 = ds.getD j 0) ∧ Only g w wr) (fun _ ii _ => (intOf ii + 1).toNat)
  case atStart => exact ⟨m, 0, ds, rfl, rfl, Nat.le_refl _, I0, HW, fun _ _ => rfl, Only.refl _ _⟩
  case round =>
    obtain ⟨k, r, cs, rfl, rfl, hk, hI, hO, hE, ho⟩ := hrel
    by_cases h0 : k = 0
    · subst h0
      have HE : Hid (H.num ds = H.num cs * b + r) := rv_whole hI.out
      obtain ⟨i1, i2, i3, i4, i5⟩ := hI.out
      clear i1 i3
      go_wp2_with fail
      go_ret
      exact ⟨cs, r, rfl, hO.out, i2, HE.out, i4, i5, ho⟩
    · obtain ⟨j, rfl⟩ : ∃ j, k = j + 1 := ⟨k - 1, by omega⟩
      have hxw := hd.getD j
      have hstep := rv_step hd hI.out (by rw [HLD.out]; omega)
      have hcy := hO.out.cell j (by omega)
      rw [hE.out j (by omega)] at hcy
      have hfy := hO.out.frozen j
      have hr0 := hI.out.2.2.2.1
      have hr1 := hI.out.2.2.2.2
      obtain ⟨x, hx⟩ : ∃ x, ds.getD j 0 = x := ⟨_, rfl⟩
      rw [hx] at hcy hxw hstep
      obtain ⟨x1, x2⟩ := hxw
      rw [Int.mul_comm] at hstep
      obtain ⟨y, hy⟩ : ∃ y, r * 4294967296 + x = y := ⟨_, rfl⟩
      rw [hy] at hstep
      have y1 : 0 ≤ y := by omega
      have y2 : y < 18446744073709551616 := by omega
      have r2 : r < 4294967296 := by omega
      have HS : Hid (RvInv ds (cs.set j (y / b)) b j (y % b)) := hstep
      have jn : (j : Int) < m := by omega
      have HE2 : Hid (∀ i, i < j → (cs.set j (y / b)).getD i 0 = ds.getD i 0) := by
        intro i hi
        rw [← hE.out i (by omega), List.getD_eq_getElem?_getD, List.getD_eq_getElem?_getD, List.getElem?_set_ne (by omega)]
      rw [show (((j + 1 : Nat) : Int) - 1) = (j : Int) by omega]
      clear hstep hx h0
      go_wp2_with fail
      go_roundw
      case rel => exact ⟨j, _, _, rfl, rfl, by omega, HS, Wb.set hO.out j (by omega) _, HE2, ho.set j _⟩
      case measure => simp [intOf]
end Go.Proofs.YtebbblhafjaaiaaGreatDoor
namespace Go.Proofs.YtebbblhafjaaiaaGreatDoor
set_option linter.unusedVariables false

/-- k digits are done: what is carried. -/
structure OnI (ds cs : List Int) (p q : Int) (k : Nat) (c : Int) : Prop where
  len : cs.length = ds.length
  lim : H.Limbs cs
  val : H.num (cs.take k) + c * H.pw k = H.num (ds.take k) * p + q
  rst : ∀ j, k ≤ j → cs.getD j 0 = ds.getD j 0
  c0 : 0 ≤ c
  c1 : c < 4294967296
theorem OnI.start {ds : List Int} (h : H.Limbs ds) {p q : Int} (q0 : 0 ≤ q) (q1 : q < 4294967296) : OnI ds ds p q 0 q :=
  ⟨rfl, h, by simp [H.num, H.pw], fun _ _ => rfl, q0, q1⟩
theorem mul32_bd {a b : Int} (a0 : 0 ≤ a) (a1 : a < 4294967296) (b0 : 0 ≤ b) (b1 : b < 4294967296) : 0 ≤ a * b ∧ a * b ≤ 18446744065119617025 := by
  constructor
  · exact Int.mul_nonneg a0 b0
  · have h1 : a * b ≤ 4294967295 * b := Int.mul_le_mul_of_nonneg_right (by omega) b0
    omega
theorem OnI.step {ds cs : List Int} {p q c : Int} {k : Nat} (h : OnI ds cs p q k c) (hk : k < ds.length) (p0 : 0 ≤ p) (p1 : p < 4294967296) :
    OnI ds (cs.set k ((ds.getD k 0 * p + c) % 4294967296)) p q (k + 1) ((ds.getD k 0 * p + c) / 4294967296) := by
  obtain ⟨h1, h2, h3, h4, h5, h6⟩ := h
  have hd : 0 ≤ ds.getD k 0 ∧ ds.getD k 0 < 4294967296 := by rw [← h4 k (Nat.le_refl _)]; exact h2.getD k
  have hm := mul32_bd hd.1 hd.2 p0 p1
  generalize hs : ds.getD k 0 * p + c = s at *
  have s0 : 0 ≤ s := by omega
  have s1 : s ≤ 18446744069414584320 := by omega
  refine ⟨by rw [List.length_set]; exact h1, h2.set k ⟨by omega, by omega⟩, ?_, fun j hj => ?_, by omega, by omega⟩
  · rw [H.num_set_take cs k _ (by omega), H.num_take_succ ds k, H.pw]
    have e : s % 4294967296 + 4294967296 * (s / 4294967296) = s := by omega
    have e2 := H.carry_step (p := H.pw k) e
    have e3 : ds.getD k 0 * H.pw k * p = (s - c) * H.pw k := by rw [← hs]; grind
    grind
  · rw [← h4 j (by omega), List.getD_eq_getElem?_getD, List.getD_eq_getElem?_getD, List.getElem?_set_ne (by omega)]
/-- A row with no nought at its end. -/
def Tzr (ds : List Int) : Prop := ds ≠ [] → ds.getD (ds.length - 1) 0 ≠ 0
theorem Tzr.nil : Tzr [] := fun h => absurd rfl h
theorem tzr_used {ds : List Int} (hL : H.Limbs ds) (h : Tzr ds) : usedN ds = ds.length := by
  rcases Nat.eq_zero_or_pos ds.length with h0 | h0
  · have := usedN_le ds; omega
  · refine usedN_eq (Nat.le_refl _) (fun i h1 h2 => by omega) (Or.inr ?_)
    exact h (fun e => by rw [e] at h0; simp at h0)
/-- What onto leaves: the row, or the row and what is carried. -/
theorem OnI.end_ {ds cs : List Int} {p q c : Int} (h : OnI ds cs p q ds.length c) (hz : Tzr ds) (hL : H.Limbs ds) (p1 : 1 ≤ p) (q0 : 0 ≤ q) :
    H.num (if 0 < c then cs ++ [c] else cs) = H.num ds * p + q ∧ H.Limbs (if 0 < c then cs ++ [c] else cs) ∧ Tzr (if 0 < c then cs ++ [c] else cs) := by
  obtain ⟨h1, h2, h3, h4, h5, h6⟩ := h
  rw [List.take_of_length_le (by omega), List.take_of_length_le (Nat.le_refl _)] at h3
  by_cases hc : 0 < c
  · rw [if_pos hc]
    refine ⟨by rw [H.num_snoc, h1]; exact h3, h2.snoc ⟨h5, h6⟩, fun _ => ?_⟩
    rw [List.length_append, List.length_singleton, Nat.add_sub_cancel, List.getD_eq_getElem?_getD, List.getElem?_append_right (Nat.le_refl _), Nat.sub_self]
    simp; omega
  · rw [if_neg hc]
    have c0 : c = 0 := by omega
    subst c0
    rw [Int.zero_mul, Int.add_zero] at h3
    refine ⟨h3, h2, fun hne => ?_⟩
    have hds : ds ≠ [] := fun e => hne (List.length_eq_zero_iff.1 (by rw [h1, e]; rfl))
    have hp := List.length_pos_iff.2 hds
    -- the value is at least that of ds, so the row is as long as ds
    have hu := tzr_used hL hz
    have hge := H.num_ge_used hL (by rw [hu]; exact hp)
    have hnn := H.num_nonneg hL
    have hle : H.num ds ≤ H.num ds * p := by
      have := Int.mul_le_mul_of_nonneg_left p1 hnn
      omega
    have hlt := H.num_lt_used h2
    have hul := usedN_le cs
    have hueq : usedN cs = cs.length := by
      rcases Nat.lt_or_ge (usedN cs) cs.length with h' | h'
      · have := H.pw_mono (m := usedN cs) (n := usedN ds - 1) (by omega)
        omega
      · omega
    have ht := usedN_top cs
    rw [hueq] at ht
    exact ht (by omega)
theorem long32_iff {ds : List Int} (hL : H.Limbs ds) (hz : Tzr ds) : 8192 < ds.length ↔ pw 4096 ≤ H.num ds := by
  have hu := tzr_used hL hz
  have e := H.pw_two 4096
  constructor
  · intro h
    have h1 := H.num_ge_used hL (by omega)
    have h2 := H.pw_mono (m := 2 * 4096) (n := usedN ds - 1) (by omega)
    omega
  · intro h
    rcases Nat.lt_or_ge 8192 ds.length with h' | h'
    · exact h'
    · have h1 := H.num_lt hL
      have h2 := H.pw_mono (m := ds.length) (n := 2 * 4096) (by omega)
      omega
end Go.Proofs.YtebbblhafjaaiaaGreatDoor
namespace Go.Proofs.YtebbblhafjaaiaaGreatDoor
open Go.RowKit Go.Shelf
set_option linter.unusedVariables false

theorem pow_big32 {b n : Nat} (h2 : 2 ≤ b) (h : (b : Int) ^ n < 4294967296) : n ≤ 31 := by
  rcases Nat.lt_or_ge n 32 with h' | h'
  · omega
  · have h1 : 2 ^ 32 ≤ b ^ n := Nat.le_trans (Nat.pow_le_pow_right (by omega) h') (Nat.pow_le_pow_left h2 n)
    have h3 : (b : Int) ^ n = ((b ^ n : Nat) : Int) := by simp
    rw [h3] at h
    omega
/-- The greatest power below 2^32. -/
def PcB (b sz : Nat) (p : Int) : Prop := p = (b : Int) ^ sz ∧ 2 ≤ p ∧ p < 4294967296 ∧ 1 ≤ sz ∧ sz ≤ 31
set_option maxHeartbeats 1000000 in
theorem pieceB (b : Nat) (h2 : 2 ≤ b) (h36 : b ≤ 36) (w : World) : Calls Tryz.prog 146 #[.int .i64 b] w fun e w' => ∃ (sz : Nat) (p : Int), e = .returned (.tuple #[.int .u64 p, .int .i64 sz]) ∧ PcB b sz p ∧ w' = w := by
  go_enter Tryz.func146, Tryz.ntmps146
  go_wp2_with fail
  go_loop [4, 5] (fun pp nn => ∃ (n : Nat) (p : Int), pp = .int .u64 p ∧ nn = .int .i64 n ∧ Hid (p = (b : Int) ^ n) ∧ 1 ≤ p ∧ p < 4294967296 ∧ n ≤ 31 ∧ (n = 0 → p = 1) ∧ (0 < n → 2 ≤ p)) (fun _ nn => (40 - intOf nn).toNat)
  case atStart => exact ⟨0, 1, rfl, rfl, by show (1 : Int) = _; simp, by omega, by omega, by omega, fun _ => rfl, fun h => by omega⟩
  case round =>
    obtain ⟨n, p, rfl, rfl, HP, p1, p2, hn, hz, hp⟩ := hrel
    have HZ : Hid ((n = 0 → p = 1) ∧ (0 < n → 2 ≤ p)) := ⟨hz, hp⟩
    clear hz hp
    have wb : IntKind.u64.wrap (b : Int) = b := by rw [IntKind.wrap_u64]; omega
    obtain ⟨y, hy⟩ : ∃ y, p * (b : Int) = y := ⟨_, rfl⟩
    have yb := mul32_bd (a := p) (b := (b : Int)) (by omega) (by omega) (by omega) (by omega)
    have y2 : 2 ≤ y := by
      have : 1 * (b : Int) ≤ p * b := Int.mul_le_mul_of_nonneg_right p1 (by omega)
      omega
    rw [hy] at yb
    obtain ⟨y0, y1⟩ := yb
    have wy : IntKind.u64.wrap y = y := by rw [IntKind.wrap_u64]; omega
    by_cases hyw : y < 4294967296
    · have hpow : y = (b : Int) ^ (n + 1) := by rw [← hy, HP.out, Int.pow_succ]
      have hn31 := pow_big32 h2 (by rw [← hpow]; exact hyw)
      have HY : Hid (y = (b : Int) ^ (n + 1)) := hpow
      clear hpow
      go_wp2_with fail
      go_round
      case rel => exact ⟨n + 1, y, rfl, by go_num, HY, by omega, hyw, hn31, (fun h => by omega), fun _ => y2⟩
      case measure => simp [intOf]; omega
    · have hyd : decide (y < 4294967296) = false := by simpa using hyw
      have hn0 : 0 < n := by
        rcases Nat.eq_zero_or_pos n with h0 | h0
        · have := HZ.out.1 h0
          rw [this, Int.one_mul] at hy
          omega
        · exact h0
      have HF : Hid (PcB b n p) := ⟨HP.out, HZ.out.2 hn0, p2, hn0, hn⟩
      clear HZ HP
      go_wp2_with fail
      go_ret2
      exact ⟨n, p, rfl, HF.out, rfl⟩
def slenB : Value → Nat
  | .slice _ n _ => n
  | _ => 0
theorem DgI.limbs {b : Int} {os : List Int} (h : DgI b os) (hb : b ≤ 36) : Limbs os := fun z hz => by have := h z hz; omega
theorem Gr.lenB {w : World} {B : Nat} {v : Value} {cs : List Int} (h : Gr w B v cs) : slenB v = cs.length := by
  obtain ⟨h1, h2 | ⟨g, cap, cur, e, hB, hh, hc, hm, hs, ht⟩⟩ := h
  · obtain ⟨rfl, h0⟩ := h2
    rw [h0]; rfl
  · rw [e]; rfl
theorem gr_weakB {w : World} {B B' : Nat} {v : Value} {cs : List Int} (h : Gr w B v cs) (hB : B' ≤ B) : Gr w B' v cs := by
  obtain ⟨h1, h2 | ⟨g, cap, cur, e, hg, hh, hc, hm, hs, ht⟩⟩ := h
  · exact ⟨h1, .inl h2⟩
  · exact ⟨h1, .inr ⟨g, cap, cur, e, by omega, hh, hc, hm, hs, ht⟩⟩
/-- The digits that are left of the number. -/
def LfB (B0 B1 : Nat) (wr : World) (a : Option Addr) (m cap : Nat) (ds : List Int) : Prop :=
  m ≤ cap ∧ m ≤ 4000000 ∧ ds.length = m ∧ H.Limbs ds ∧ usedN ds = m ∧ (m ≠ 0 → ∃ g, a = some ⟨g, 0, none⟩ ∧ B0 ≤ g ∧ g < B1 ∧ Wb wr g m ds)
theorem LfB.pos {B0 B1 : Nat} {wr : World} {a : Option Addr} {m cap : Nat} {ds : List Int} (h : LfB B0 B1 wr a m cap ds) (hm : 0 < m) : 0 < H.num ds := by
  obtain ⟨-, -, h1, h2, h3, -⟩ := h
  have := H.num_ge_used h2 (show 0 < usedN ds by omega)
  have := H.pw_pos (usedN ds - 1)
  omega
theorem LfB.zero {B0 B1 : Nat} {wr : World} {a : Option Addr} {m cap : Nat} {ds : List Int} (h : LfB B0 B1 wr a m cap ds) (hm : m = 0) : H.num ds = 0 := by
  obtain ⟨-, -, h1, h2, h3, -⟩ := h
  have : ds = [] := List.eq_nil_of_length_eq_zero (by omega)
  rw [this]; rfl
theorem LfB.below {B0 B1 B : Nat} {wr w' : World} {a : Option Addr} {m cap : Nat} {ds : List Int} (h : LfB B0 B1 wr a m cap ds) (b : Below B wr w') (hB : B1 ≤ B) : LfB B0 B1 w' a m cap ds := by
  obtain ⟨h1, h2, h3, h4, h5, h6⟩ := h
  refine ⟨h1, h2, h3, h4, h5, fun h => ?_⟩
  obtain ⟨g, e, g1, g2, g3⟩ := h6 h
  exact ⟨g, e, g1, g2, g3.below b (by omega)⟩
/-- What Worths answers. -/
def WoR (b : Nat) (N : Int) (w : World) (e : Ending) (w' : World) : Prop := ∃ v os, e = .returned v ∧ Gr w' w.heap.size v os ∧ os ≠ [] ∧ DgI b os ∧ lvB b os = N ∧ os.length ≤ 300100 ∧ (os = [0] ∨ TpB os) ∧ Below w.heap.size w w'
set_option maxRecDepth 20000 in
set_option maxHeartbeats 4000000 in
theorem worthsB (b : Nat) (h2 : 2 ≤ b) (h36 : b ≤ 36) (a : Option Addr) (la ca : Nat) (zs : List Int) (w : World) (h : Sl w a la zs) (hl : la ≤ 1100000) (hM : ∀ n : Nat, (b : Int) ^ n ≤ num zs → n ≤ 300000) (hN0 : 0 ≤ num zs) :
    Calls Tryz.prog 102 #[.slice a la ca, .int .i64 b] w fun e w' => WoR b (num zs) w e w' := by
  obtain ⟨N, hNN⟩ : ∃ N, num zs = N := ⟨_, rfl⟩
  have hh := halves3 a la ca zs
  rw [hNN] at hM hN0 hh ⊢
  have HM : Hid (∀ n : Nat, (b : Int) ^ n ≤ N → n ≤ 300000) := hM
  clear hM
  have b1 : (1 : Int) ≤ b := by omega
  have wb : IntKind.u64.wrap (b : Int) = b := by rw [IntKind.wrap_u64]; omega
  go_enter Tryz.func102, Tryz.ntmps102
  go_wp2_with fail
  refine (pieceB b h2 h36 _).mono ?_
  rintro e w0 ⟨sz, p, rfl, HPC0, hw⟩
  have HPC : Hid (PcB b sz p) := HPC0
  have p2 := HPC0.2.1; have p3 := HPC0.2.2.1; have sz1 := HPC0.2.2.2.1; have sz2 := HPC0.2.2.2.2
  rw [hw]
  clear hw HPC0
  go_wp2_with fail
  refine (hh _ h (by omega)).mono ?_
  clear hh
  rintro e x1 ⟨a1, m1, c1, ds1, rfl, hc1, hm1, hs1, hL1, hu1, hn1, ho1, hb1⟩
  have HL0 : Hid (LfB w.heap.size x1.heap.size x1 a1 m1 c1 ds1) := by
    refine ⟨hc1, by omega, hs1.1, hL1, hu1, fun h0 => ?_⟩
    obtain ⟨g, cur, rfl, hg, hcur⟩ := ho1 h0
    have hwb := wb_of hs1 hcur
    exact ⟨g, rfl, hg, hwb.lt, hwb⟩
  have HO0 : Hid (OuB b N (H.num ds1) []) := by rw [hn1]; exact OuB.start b N
  clear hc1 hm1 hs1 hL1 hu1 hn1 ho1
  obtain ⟨B1, hB1⟩ : ∃ B1, B1 = x1.heap.size := ⟨_, rfl⟩
  have hbB : w.heap.size ≤ B1 := by rw [hB1]; exact hb1.size
  have hB2 : B1 ≤ x1.heap.size := by omega
  rw [← hB1] at HL0
  go_wp2_with fail
  go_loopw [7, 8] (fun d out wr => ∃ aa m cap ds os, d = .slice aa m cap ∧ Hid (LfB w.heap.size B1 wr aa m cap ds) ∧ Hid (OuB b N (H.num ds) os) ∧ Hid (Gr wr B1 out os) ∧ Below w.heap.size w wr ∧ B1 ≤ wr.heap.size ∧ os.length ≤ 300100) (fun _ out _ => 400000 - slenB out)
  case atStart => exact ⟨a1, m1, c1, ds1, [], rfl, HL0, HO0, Gr.nil _ _, hb1, hB2, by simp⟩
  case round =>
    obtain ⟨aa, m, cap, ds, os, rfl, HL, HO, HG, hbl, hsz, hole⟩ := hrel
    clear HL0 HO0 hB2 hB1 hb1
    by_cases hm0 : m = 0
    · subst hm0
      have hD := HL.out.zero rfl
      have hO := HO.out
      rw [hD] at hO
      have hv : lvB b os = N := by have := hO.val; rw [Int.mul_zero, Int.add_zero] at this; exact this.symm
      by_cases he : os = []
      · subst he
        have HN1 : Hid ((0 : Int) = N) := hv
        obtain ⟨a8, c8, hv8, hc8, hs8⟩ := HG.out.sl (hO.dig.limbs (by omega))
        subst hv8
        clear HG hs8 hO HO hv
        go_wp2_with fail
        go_ret
        exact ⟨_, [0], rfl, gr_of_own (cs := [0]) (heap_alloc_new _ _) hbl.size (by decide), by simp, fun z hz => by rw [List.mem_singleton.1 hz]; exact ⟨by decide, by omega⟩, by rw [← HN1.out]; simp [lvB], by decide, .inl rfl, hbl.alloc hbl.size _⟩
      · obtain ⟨a8, c8, hv8, hc8, hs8⟩ := HG.out.sl (hO.dig.limbs (by omega))
        have htop := (hO.top rfl).resolve_left he
        have hdig := hO.dig
        have hpos : 0 < os.length := List.length_pos_iff.2 he
        subst hv8
        have g0 : ((os.length : Int) == 0) = false := by simp; omega
        clear hs8 hO HO
        go_wp2_with fail
        go_ret
        exact ⟨_, os, rfl, gr_weakB HG.out hbB, he, hdig, hv, hole, .inr htop, hbl⟩
    · have hmi : (0 : Int) < m := by omega
      obtain ⟨g, rfl, hg0, hg1, hW⟩ := HL.out.2.2.2.2.2 hm0
      have hos := HM.out _ (HO.out.le b1 (HL.out.pos (by omega)))
      go_wp2_with fail
      refine (over9 g m cap ds p _ hW HL.out.2.2.2.1 (by have := HL.out.2.1; omega) (by omega) (by omega)).mono ?_
      rintro e x2 ⟨cs, r, rfl, hW2, hL2, hn2, hr0, hr1, ho2⟩
      have hG2 := gr_only HG.out ho2 hg1
      have hP : InB b N (H.num cs) sz os.length 0 os r := HO.out.piece (by rw [← HPC.out.1]; exact hn2) hr0 (by rw [← HPC.out.1]; exact hr1)
      go_wp2_with fail
      refine (cut3_any (some ⟨g, 0, none⟩) m cap cs _ (hW2.sl hL2.up) (by have := HL.out.2.1; omega) HL.out.1).mono ?_
      rintro e w3 ⟨rfl, hw⟩
      rw [hw]
      clear hw
      have hu := usedN_le cs
      have hlc := hW2.1
      have HL3 : Hid (LfB w.heap.size B1 x2 (some ⟨g, 0, none⟩) (usedN cs) cap (cs.take (usedN cs))) :=
        ⟨by have := HL.out.1; omega, by have := HL.out.2.1; omega, by rw [List.length_take]; omega, hL2.take _, usedN_take cs (Nat.le_refl _), fun _ => ⟨g, rfl, hg0, hg1, hW2.take (by omega)⟩⟩
      have HNc : H.num (cs.take (usedN cs)) = H.num cs := H.num_take_used cs (Nat.le_refl _)
      rw [← HNc] at hP hn2
      have hk0 : 0 < H.num (cs.take (usedN cs)) ∨ 0 < r := by
        have h1 := HL.out.pos (by omega)
        have h3 := H.num_nonneg (hL2.take (usedN cs))
        rcases Int.lt_or_eq_of_le h3 with h' | h'
        · exact .inl h'
        · right; rw [← h', Int.zero_mul] at hn2; omega
      have HP : Hid (InB b N (H.num (cs.take (usedN cs))) sz os.length 0 os r) := hP
      obtain ⟨ds3, hds3⟩ : ∃ d, cs.take (usedN cs) = d := ⟨_, rfl⟩
      obtain ⟨m3, hm3⟩ : ∃ d, usedN cs = d := ⟨_, rfl⟩
      rw [hds3] at HL3 HP hk0
      rw [hm3] at HL3 ⊢
      have hb2 : Below w.heap.size w x2 := hbl.trans (ho2.below hg0)
      have hsz2 : B1 ≤ x2.heap.size := Nat.le_trans hsz ho2.bel.size
      have HG2 : Hid (Gr x2 B1 _ os) := hG2
      have HK0 : Hid (0 < H.num ds3 ∨ 0 < r) := hk0
      have HLEN := HG.out.lenB
      clear HNc hP hk0 hds3 hm3 hu hlc hW hW2 hG2 hL2 hn2 hr0 hr1 ho2 HL HO HG hbl hsz
      go_wp2_with fail
      go_loopw [8, 9, 10] (fun out rest kk wr2 => ∃ (k : Nat) (os2 : List Int) (r2 : Int), kk = .int .i64 k ∧ rest = .int .u64 r2 ∧ r2 < 4294967296 ∧ Hid (InB b N (H.num ds3) sz os.length k os2 r2) ∧ Hid (Gr wr2 B1 out os2) ∧ Hid (LfB w.heap.size B1 wr2 (some ⟨g, 0, none⟩) m3 cap ds3) ∧ Hid (k = 0 → 0 < H.num ds3 ∨ 0 < r2) ∧ Below w.heap.size w wr2 ∧ B1 ≤ wr2.heap.size) (fun _ _ kk _ => sz - (intOf kk).toNat)
      case atStart => exact ⟨0, os, r, rfl, rfl, by have := HP.out.r1; rw [Nat.sub_zero, ← HPC.out.1] at this; omega, HP, HG2, HL3, fun _ => HK0.out, hb2, hsz2⟩
      case round =>
        obtain ⟨k, os2, r2, rfl, rfl, hr32, HI, HG3, HL4, HK, hb3, hsz3⟩ := hrel
        clear HP HG2 HL3 HK0 hb2 hsz2
        have hr0 := HI.out.r0
        have hr1 : r2 < 18446744073709551616 := by omega
        have hkl := HI.out.kl
        have hle2 : os2.length ≤ 300100 := by have := HI.out.len; omega
        have hD := H.num_nonneg HL4.out.2.2.2.1
        have bz : ((b : Int) == 0) = false := by simp; omega
        by_cases hk9 : k < sz
        · have hki : (k : Int) < sz := by omega
          have hq0 : 0 ≤ r2 / (b : Int) := Int.ediv_nonneg hr0 (by omega)
          have hq1 : r2 / (b : Int) ≤ r2 := Int.ediv_le_self _ hr0
          have hm0' : 0 ≤ r2 % (b : Int) := Int.emod_nonneg r2 (by omega)
          have hm1' : r2 % (b : Int) < b := Int.emod_lt_of_pos r2 (by omega)
          by_cases hm3 : 0 < m3
          · have hmi3 : (0 : Int) < m3 := by omega
            have HS : Hid (InB b N (H.num ds3) sz os.length (k + 1) (os2 ++ [r2 % b]) (r2 / b)) := HI.out.step (by omega) hD hk9 (.inl (HL4.out.pos hm3))
            have hw10 : Limbs [r2 % (b : Int)] := fun z hz => by rw [List.mem_singleton.1 hz]; omega
            have HC : Hid (Sl (wr.alloc (.cells #[.int .u64 (r2 % (b : Int))] 94)) (some ⟨wr.heap.size, 0, none⟩) 1 [r2 % (b : Int)]) := Own.sl (cs := [r2 % (b : Int)]) (heap_alloc_new _ _) hw10
            have HGa : Hid (Gr (wr.alloc (.cells #[.int .u64 (r2 % (b : Int))] 94)) B1 u8 os2) := HG3.out.alloc _
            have hszA : B1 ≤ (wr.alloc (.cells #[.int .u64 (r2 % (b : Int))] 94)).heap.size := by simp; omega
            go_wp2_with (at_builtin; refine wpList_app_sl rfl (.tmp 40) (.tmp 45) rfl B1 u8 os2 rfl HGa.out wr.heap.size 0 1 1 [r2 % (b : Int)] rfl HC.out (by omega) hszA ?_; intro v1 w1 HG1 hb1)
            have hb4 : Below w.heap.size w w1 := (hb3.alloc hb3.size _).trans (hb1.mono hbB)
            have HL5 : Hid (LfB w.heap.size B1 w1 (some ⟨g, 0, none⟩) m3 cap ds3) := (HL4.out.below ((Below.refl B1 wr).alloc hsz3 _) (Nat.le_refl _)).below hb1 (Nat.le_refl _)
            have hsz4 : B1 ≤ w1.heap.size := Nat.le_trans hszA hb1.size
            clear HC HGa hb1 HI HG3 HL4 HK hw10
            go_wp2_with fail
            go_roundw
            case rel => exact ⟨k + 1, _, _, by go_num, rfl, by omega, HS, HG1, HL5, fun h => by omega, hb4, hsz4⟩
            case measure => simp [intOf]; omega
          · have HMZ : Hid (m3 = 0) := by show _ = _; omega
            have hmi3 : ¬ (0 : Int) < m3 := by omega
            by_cases hr2 : 0 < r2
            · have HS : Hid (InB b N (H.num ds3) sz os.length (k + 1) (os2 ++ [r2 % b]) (r2 / b)) := HI.out.step (by omega) hD hk9 (.inr hr2)
              have hw10 : Limbs [r2 % (b : Int)] := fun z hz => by rw [List.mem_singleton.1 hz]; omega
              have HC : Hid (Sl (wr.alloc (.cells #[.int .u64 (r2 % (b : Int))] 94)) (some ⟨wr.heap.size, 0, none⟩) 1 [r2 % (b : Int)]) := Own.sl (cs := [r2 % (b : Int)]) (heap_alloc_new _ _) hw10
              have HGa : Hid (Gr (wr.alloc (.cells #[.int .u64 (r2 % (b : Int))] 94)) B1 u8 os2) := HG3.out.alloc _
              have hszA : B1 ≤ (wr.alloc (.cells #[.int .u64 (r2 % (b : Int))] 94)).heap.size := by simp; omega
              go_wp2_with (at_builtin; refine wpList_app_sl rfl (.tmp 40) (.tmp 45) rfl B1 u8 os2 rfl HGa.out wr.heap.size 0 1 1 [r2 % (b : Int)] rfl HC.out (by omega) hszA ?_; intro v1 w1 HG1 hb1)
              have hb4 : Below w.heap.size w w1 := (hb3.alloc hb3.size _).trans (hb1.mono hbB)
              have HL5 : Hid (LfB w.heap.size B1 w1 (some ⟨g, 0, none⟩) m3 cap ds3) := (HL4.out.below ((Below.refl B1 wr).alloc hsz3 _) (Nat.le_refl _)).below hb1 (Nat.le_refl _)
              have hsz4 : B1 ≤ w1.heap.size := Nat.le_trans hszA hb1.size
              clear HC HGa hb1 HI HG3 HL4 HK hw10
              go_wp2_with fail
              go_roundw
              case rel => exact ⟨k + 1, _, _, by go_num, rfl, by omega, HS, HG1, HL5, fun h => by omega, hb4, hsz4⟩
              case measure => simp [intOf]; omega
            · have HRZ : Hid (r2 = 0) := by show _ = _; omega
              have hk0' : 0 < k := by
                rcases Nat.eq_zero_or_pos k with h0 | h0
                · exfalso
                  have h1 := HK.out h0
                  have h3 := HL4.out.zero HMZ.out
                  have h4 := HRZ.out
                  omega
                · exact h0
              have HO3 : Hid (OuB b N (H.num ds3) os2) := HI.out.leave hk0' (.inr ⟨HL4.out.zero HMZ.out, HRZ.out⟩)
              go_wp2_with fail
              go_roundw
              case rel => exact ⟨_, m3, cap, ds3, os2, rfl, HL4, HO3, HG3, hb3, hsz3, hle2⟩
              case measure =>
                have h1 := HG3.out.lenB
                have h3 := HI.out.len
                simp
                omega
        · have hki : ¬ (k : Int) < sz := by omega
          have hk9e : k = sz := by omega
          have HO3 : Hid (OuB b N (H.num ds3) os2) := HI.out.leave (by omega) (.inl hk9e)
          go_wp2_with fail
          go_roundw
          case rel => exact ⟨_, m3, cap, ds3, os2, rfl, HL4, HO3, HG3, hb3, hsz3, hle2⟩
          case measure =>
            have h1 := HG3.out.lenB
            have h3 := HI.out.len
            simp
            omega
end Go.Proofs.YtebbblhafjaaiaaGreatDoor
