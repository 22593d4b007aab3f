/-
  Put together of: Order, Lists2.
-/
import Derived.Test.YthladfhjhanhlaaGreatDoorBsA
import Derived.Test.YthladfhjhanhlaaGreatDoorMgAb
namespace Go.Proofs.YthladfhjhanhlaaGreatDoor

/-- -1, 0 or 1. -/
def cmp3 (x y : Int) : Int := if x < y then -1 else if y < x then 1 else 0
theorem cmp3_lt {x y : Int} (h : x < y) : cmp3 x y = -1 := by simp [cmp3, h]
theorem cmp3_gt {x y : Int} (h : y < x) : cmp3 x y = 1 := by unfold cmp3; rw [if_neg (by omega), if_pos h]
theorem cmp3_eq {x y : Int} (h : x = y) : cmp3 x y = 0 := by subst h; simp [cmp3]
theorem cmp3_turn (x y : Int) : cmp3 y x = -cmp3 x y := by
  rcases Int.lt_trichotomy x y with h | h | h
  · rw [cmp3_lt h, cmp3_gt h]; rfl
  · rw [cmp3_eq h, cmp3_eq h.symm]; rfl
  · rw [cmp3_gt h, cmp3_lt h]
theorem cmp3_bd (x y : Int) : -1 ≤ cmp3 x y ∧ cmp3 x y ≤ 1 := by
  rcases Int.lt_trichotomy x y with h | h | h
  · rw [cmp3_lt h]; decide
  · rw [cmp3_eq h]; decide
  · rw [cmp3_gt h]; decide
theorem cmp3_self (x : Int) : cmp3 x x = 0 := cmp3_eq rfl
theorem cmp3_neg_iff (x y : Int) : cmp3 x y < 0 ↔ x < y := by
  rcases Int.lt_trichotomy x y with h | h | h
  · rw [cmp3_lt h]; omega
  · rw [cmp3_eq h]; omega
  · rw [cmp3_gt h]; omega

theorem num_above {a b : List Int} {t : Nat} (h : ∀ j, t ≤ j → a.getD j 0 = b.getD j 0) : ∀ k, num (a.take (t + k)) - num (a.take t) = num (b.take (t + k)) - num (b.take t)
  | 0 => by simp only [Nat.add_zero]; omega
  | k + 1 => by
    have ih := num_above h k
    rw [← Nat.add_assoc, num_take_succ, num_take_succ, h (t + k) (by omega)]; omega
theorem num_above' {a b : List Int} {t : Nat} (h : ∀ j, t ≤ j → a.getD j 0 = b.getD j 0) : num a - num (a.take t) = num b - num (b.take t) := by
  have e := num_above h (a.length + b.length)
  have e1 : a.take (t + (a.length + b.length)) = a := List.take_of_length_le (by omega)
  have e2 : b.take (t + (a.length + b.length)) = b := List.take_of_length_le (by omega)
  rw [e1, e2] at e; exact e
/-- The highest limb in which they differ decides. -/
theorem num_lt_at {a b : List Int} {t : Nat} (ha : Limbs a) (hb : Limbs b) (h : ∀ j, t < j → a.getD j 0 = b.getD j 0) (hlt : a.getD t 0 < b.getD t 0) : num a < num b := by
  have e := num_above' (t := t + 1) (fun j hj => h j (by omega))
  rw [num_take_succ, num_take_succ] at e
  have h1 := num_lt (ha.take t); have h2 := num_nonneg (hb.take t)
  have h3 : num (a.take t) < pw t := by
    refine Int.lt_of_lt_of_le h1 (pw_mono ?_)
    rw [List.length_take]; omega
  have h4 : (a.getD t 0 + 1) * pw t ≤ b.getD t 0 * pw t := Int.mul_le_mul_of_nonneg_right (by omega) (by have := pw_pos t; omega)
  rw [Int.add_mul, Int.one_mul] at h4
  omega
theorem num_lt_len {a b : List Int} (ha : Limbs a) (hb : Limbs b) (h : usedN a < usedN b) : num a < num b := by
  have h1 := num_lt_used ha; have h2 := num_ge_used hb (by omega)
  have := pw_mono (show usedN a ≤ usedN b - 1 by omega); omega
theorem num_eq_of {a b : List Int} (h : ∀ j, a.getD j 0 = b.getD j 0) : num a = num b := by
  have e := num_above' (a := a) (b := b) (t := 0) (fun j _ => h j)
  simp [num] at e; omega
end Go.Proofs.YthladfhjhanhlaaGreatDoor

namespace Go.Proofs.YthladfhjhanhlaaGreatDoor
open Go.RowKit Go.Shelf

theorem sign_any (b : Bool) (w : World) : Calls Tryz.prog 99 #[.bool b] w fun e w' => e = .returned (.int .i64 (if b then 1 else -1)) ∧ w' = w := by
  cases b
  all_goals
    go_enter Tryz.func99, Tryz.ntmps99
    go_wp2_with fail
    go_ret
    exact ⟨rfl, rfl⟩

theorem trim_any (a : Option Addr) (len cap : Nat) (zs : List Int) (w : World) (h : Sl w a len zs) (hl : len ≤ 20000000000000) (hcap : len ≤ cap) :
    Calls Tryz.prog 111 #[.slice a len cap] w fun e w' =>
      ∃ g, e = .returned (.slice (some ⟨g, 0, none⟩) (usedN zs) (usedN zs)) ∧ w.heap.size ≤ g ∧ Own w' g (zs.take (usedN zs)) ∧ Below w.heap.size w w' := by
  have hu := usedN_le zs
  have hz := h.1
  go_enter Tryz.func111, Tryz.ntmps111
  go_wp2_with fail
  refine (used_any a len cap zs _ h (by omega)).mono ?_
  rintro e w' ⟨rfl, rfl⟩
  go_wp2_with fail
  refine (widened_any a len cap (usedN zs) zs _ h hl hcap (Nat.le_refl _) (by omega)).mono ?_
  rintro e w' ⟨g, rfl, hg, ho, hb⟩
  go_wp2_with fail
  go_ret
  refine ⟨g, rfl, hg, ?_, hb⟩
  rw [Nat.sub_self, List.replicate_zero, List.append_nil] at ho
  exact ho

set_option maxHeartbeats 1000000 in
theorem compare_any (a b : Option Addr) (la ca lb cb : Nat) (xs ys : List Int) (w : World) (ha : Sl w a la xs) (hb : Sl w b lb ys) (h1 : la ≤ 40000000000000) (h2 : lb ≤ 40000000000000) :
    Calls Tryz.prog 85 #[.slice a la ca, .slice b lb cb] w fun e w' => e = .returned (.int .i64 (cmp3 (num xs) (num ys))) ∧ ∃ n, w' = w.drewN n := by
  have hux := usedN_le xs; have huy := usedN_le ys
  have hza := ha.1; have hzb := hb.1
  have hLx := ha.2.1; have hLy := hb.2.1
  have U := used_any a la ca xs w ha h1
  have V := used_any b lb cb ys w hb h2
  by_cases hne : usedN xs = usedN ys
  · by_cases h0 : usedN xs = 0
    · have e1 : cmp3 (num xs) (num ys) = 0 := cmp3_eq (by rw [(num_eq_zero hLx).2 h0, (num_eq_zero hLy).2 (by omega)])
      rw [e1]
      rw [h0] at U
      rw [← hne, h0] at V
      clear ha hb hne h0
      go_enter Tryz.func85, Tryz.ntmps85
      go_wp2_with fail
      refine U.mono ?_
      rintro e w' ⟨rfl, rfl⟩
      go_wp2_with fail
      refine V.mono ?_
      rintro e w' ⟨rfl, rfl⟩
      go_wp2_with fail
      refine wp_loop_rounds 1 ?_
      rw [rounds_succ]
      go_wp2_with fail
      go_ret
      exact ⟨rfl, 0, rfl⟩
    · obtain ⟨ba, oa, rfl, hca⟩ := ha.2.2 (by omega)
      obtain ⟨bb, ob, rfl, hcb⟩ := hb.2.2 (by omega)
      rw [← hne] at V
      obtain ⟨n, hn⟩ : ∃ n, usedN xs = n := ⟨_, rfl⟩
      rw [hn] at U V
      have hna : n ≤ la := by omega
      have hnb : n ≤ lb := by omega
      have HN : Hid (usedN xs = n) := hn
      have HE : Hid (usedN xs = usedN ys) := hne
      have g1 : ((n : Int) != n) = false := by simp
      clear hn hne h0 ha hb hux huy
      go_enter Tryz.func85, Tryz.ntmps85
      go_wp2_with fail
      refine U.mono ?_
      rintro e w' ⟨rfl, rfl⟩
      go_wp2_with fail
      refine V.mono ?_
      rintro e w' ⟨rfl, rfl⟩
      clear U V
      go_wp2_with fail
      go_loopw [21] (fun i wr => ∃ k : Nat, k ≤ n ∧ i = .int .i64 k ∧ Hid (∀ j, n - k ≤ j → j < n → xs.getD j 0 = ys.getD j 0) ∧ ∃ q, wr = w'.drewN q) (fun i _ => n - (intOf i).toNat)
      case atStart => exact ⟨0, Nat.zero_le _, rfl, fun j h1 h2 => absurd h1 (by omega), 0, rfl⟩
      case round =>
        obtain ⟨k, hk, rfl, hI, q, rfl⟩ := hrel
        by_cases hlt : k < n
        · have hcx := hca (n - 1 - k) (by omega)
          have hcy := hcb (n - 1 - k) (by omega)
          have ex : ((n : Int) - 1 - k).toNat = n - 1 - k := by omega
          obtain ⟨x, hx⟩ : ∃ x, xs.getD (n - 1 - k) 0 = x := ⟨_, rfl⟩
          obtain ⟨y, hy⟩ : ∃ y, ys.getD (n - 1 - k) 0 = y := ⟨_, rfl⟩
          rw [hx] at hcx
          rw [hy] at hcy
          have HX : Hid (xs.getD (n - 1 - k) 0 = x) := hx
          have HY : Hid (ys.getD (n - 1 - k) 0 = y) := hy
          clear hx hy
          by_cases hxy : x = y
          · have g2 : (x != y) = false := by simp [hxy]
            have HXY : Hid (x = y) := hxy
            clear hxy
            go_wp2_with fail
            go_quiet (fail)
            go_wp2_with fail
            go_roundw
            case rel =>
              refine ⟨k + 1, by omega, by go_num, ?_, q + nq, rfl⟩
              intro j h1 h2
              by_cases hj : j = n - 1 - k
              · rw [hj, HX.out, HY.out, HXY.out]
              · exact hI.out j (by omega) h2
            case measure => simp [intOf]; omega
          · have g2 : (x != y) = true := by simp [hxy]
            have g3 : Hid (∀ j, n - 1 - k < j → xs.getD j 0 = ys.getD j 0) := by
              intro j hj
              by_cases hjn : j < n
              · exact hI.out j (by omega) hjn
              · rw [usedN_beyond xs j (by rw [HN.out]; omega), usedN_beyond ys j (by rw [← HE.out, HN.out]; omega)]
            by_cases hyx : y < x
            · have e1 : cmp3 (num xs) (num ys) = 1 := cmp3_gt (num_lt_at hLy hLx (fun j hj => (g3.out j hj).symm) (by rw [HX.out, HY.out]; exact hyx))
              have E1 : Hid (cmp3 (num xs) (num ys) = 1) := e1
              clear e1 hxy
              go_wp2_with fail
              go_quiet (fail)
              go_wp2_with fail
              go_region_with (go_at_call 99; refine (sign_any _ _).mono ?_; rintro e w1 ⟨rfl, rfl⟩)
              all_goals
                go_wp2_with fail
                go_ret
                exact ⟨ret_int (by rw [E1.out]), _, rfl⟩
            · have e1 : cmp3 (num xs) (num ys) = -1 := cmp3_lt (num_lt_at hLx hLy g3.out (by rw [HX.out, HY.out]; omega))
              have E1 : Hid (cmp3 (num xs) (num ys) = -1) := e1
              clear e1 hxy
              go_wp2_with fail
              go_quiet (fail)
              go_wp2_with fail
              go_region_with (go_at_call 99; refine (sign_any _ _).mono ?_; rintro e w1 ⟨rfl, rfl⟩)
              all_goals
                go_wp2_with fail
                go_ret
                exact ⟨ret_int (by rw [E1.out]), _, rfl⟩
        · have e1 : cmp3 (num xs) (num ys) = 0 := by
            refine cmp3_eq (num_eq_of fun j => ?_)
            by_cases hjn : j < n
            · exact hI.out j (by omega) hjn
            · rw [usedN_beyond xs j (by rw [HN.out]; omega), usedN_beyond ys j (by rw [← HE.out, HN.out]; omega)]
          have E1 : Hid (cmp3 (num xs) (num ys) = 0) := e1
          clear e1
          go_wp2_with fail
          go_ret
          exact ⟨ret_int (by rw [E1.out]), q, rfl⟩
  · have g1 : ((usedN xs : Int) != usedN ys) = true := by simp; omega
    by_cases hgt : usedN ys < usedN xs
    · have e1 : cmp3 (num xs) (num ys) = 1 := cmp3_gt (num_lt_len hLy hLx hgt)
      rw [e1]
      clear ha hb hne e1
      go_enter Tryz.func85, Tryz.ntmps85
      go_wp2_with fail
      refine U.mono ?_
      rintro e w' ⟨rfl, rfl⟩
      go_wp2_with fail
      refine V.mono ?_
      rintro e w' ⟨rfl, rfl⟩
      go_wp2_with fail
      refine (sign_any _ _).mono ?_
      rintro e w' ⟨rfl, rfl⟩
      go_wp2_with fail
      go_ret
      exact ⟨rfl, 0, rfl⟩
    · have e1 : cmp3 (num xs) (num ys) = -1 := cmp3_lt (num_lt_len hLx hLy (by omega))
      rw [e1]
      clear ha hb hne e1
      go_enter Tryz.func85, Tryz.ntmps85
      go_wp2_with fail
      refine U.mono ?_
      rintro e w' ⟨rfl, rfl⟩
      go_wp2_with fail
      refine V.mono ?_
      rintro e w' ⟨rfl, rfl⟩
      go_wp2_with fail
      refine (sign_any _ _).mono ?_
      rintro e w' ⟨rfl, rfl⟩
      go_wp2_with fail
      go_ret
      exact ⟨rfl, 0, rfl⟩
end Go.Proofs.YthladfhjhanhlaaGreatDoor
namespace Go.Proofs.YthladfhjhanhlaaGreatDoor

theorem num_take_congr {a b : List Int} : ∀ (k : Nat), (∀ j, j < k → a.getD j 0 = b.getD j 0) → num (a.take k) = num (b.take k)
  | 0, _ => by simp
  | k + 1, h => by rw [num_take_succ, num_take_succ, h k (by omega), num_take_congr k (fun j hj => h j (by omega))]
theorem num_set {cs : List Int} {i : Nat} (v : Int) (h : i < cs.length) : num (cs.set i v) = num cs + (v - cs.getD i 0) * pw i := by
  have e := num_above' (a := cs.set i v) (b := cs) (t := i + 1) (fun j hj => getD_set_other _ _ _ _ (by omega))
  rw [num_set_take _ _ _ h, num_take_succ] at e
  grind
theorem getD_set_self (zs : List Int) (i : Nat) (v : Int) (h : i < zs.length) : (zs.set i v).getD i 0 = v := by
  rw [List.getD_eq_getElem?_getD, List.getElem?_set_self h]; rfl
theorem getD_drop (zs : List Int) (k j : Nat) : (zs.drop k).getD j 0 = zs.getD (k + j) 0 := by
  rw [List.getD_eq_getElem?_getD, List.getElem?_drop, ← List.getD_eq_getElem?_getD]
theorem getD_seg (zs : List Int) (k n j : Nat) (h : j < n) : ((zs.drop k).take n).getD j 0 = zs.getD (k + j) 0 := by
  rw [getD_take_lt _ _ _ h, getD_drop]
theorem num_drop_congr {a b : List Int} (k : Nat) (h : ∀ j, k ≤ j → a.getD j 0 = b.getD j 0) : num (a.drop k) = num (b.drop k) :=
  num_eq_of fun j => by rw [getD_drop, getD_drop]; exact h _ (by omega)
theorem seg_length (cs : List Int) (off n : Nat) (h : off + n ≤ cs.length) : ((cs.drop off).take n).length = n := by
  rw [List.length_take, List.length_drop]; omega
/-- A row is what lies below a piece, the piece, and what lies beyond. -/
theorem num_parts (cs : List Int) (off n : Nat) (h : off + n ≤ cs.length) : num cs = num (cs.take off) + num ((cs.drop off).take n) * pw off + num (cs.drop (off + n)) * pw (off + n) := by
  have h1 := num_take_drop cs off (by omega)
  have h2 := num_take_drop (cs.drop off) n (by rw [List.length_drop]; omega)
  rw [List.drop_drop] at h2
  rw [h1, h2, pw_add]
  grind
/-- Where a piece alone has changed, by how much the row has. -/
theorem num_piece {cs ds : List Int} {off n : Nat} (hl : cs.length = ds.length) (h : off + n ≤ cs.length) (hout : ∀ j, j < off ∨ off + n ≤ j → cs.getD j 0 = ds.getD j 0) :
    num cs - num ds = (num ((cs.drop off).take n) - num ((ds.drop off).take n)) * pw off := by
  have h1 := num_parts cs off n h
  have h2 := num_parts ds off n (by omega)
  rw [num_take_congr off (fun j hj => hout j (.inl hj)), num_drop_congr (off + n) (fun j hj => hout j (.inr hj))] at h1
  grind
theorem mul_cancel {a b p : Int} (hp : 0 < p) (h : a * p = b * p) : a = b := Int.eq_of_mul_eq_mul_right (by omega) h
theorem lt_cancel {a b p : Int} (hp : 0 < p) (h : a * p < b * p) : a < b := Int.lt_of_mul_lt_mul_right h (by omega)
theorem le_cancel {a b p : Int} (hp : 0 < p) (h : a * p ≤ b * p) : a ≤ b := Int.le_of_mul_le_mul_right h hp
theorem mul_le {a b p : Int} (hp : 0 ≤ p) (h : a ≤ b) : a * p ≤ b * p := Int.mul_le_mul_of_nonneg_right h hp
theorem num_top (cs : List Int) (n : Nat) (h : cs.length = n + 1) : num cs = num (cs.take n) + cs.getD n 0 * pw n := by
  have := num_take_succ cs n
  rw [List.take_of_length_le (by omega)] at this; exact this
theorem num_take_lt {cs : List Int} (h : Limbs cs) (n : Nat) : num (cs.take n) < pw n := by
  refine Int.lt_of_lt_of_le (num_lt (h.take n)) (pw_mono ?_)
  rw [List.length_take]; omega
theorem num_take_nonneg {cs : List Int} (h : Limbs cs) (n : Nat) : 0 ≤ num (cs.take n) := num_nonneg (h.take n)
end Go.Proofs.YthladfhjhanhlaaGreatDoor

namespace Go.Proofs.YthladfhjhanhlaaGreatDoor
open Go.RowKit Go.Shelf

/-- A variable of the program: one block. -/
def Va (w : World) (b : Nat) (t : TypeId) (cs : Array Value) : Prop := w.heap[b]? = some (.cells cs t (0, 0))
theorem Va.lt {w : World} {b : Nat} {t : TypeId} {cs : Array Value} (h : Va w b t cs) : b < w.heap.size := by
  unfold Va at h
  rcases Nat.lt_or_ge b w.heap.size with h' | h'
  · exact h'
  · rw [Array.getElem?_eq_none h'] at h; cases h
theorem Va.cell {w : World} {b : Nat} {t : TypeId} {v : Value} (h : Va w b t #[v]) : w.cell? ⟨b, 0, none⟩ = some v := by
  unfold Va at h; simp [World.cell?, h]
theorem Va.cellAt {w : World} {b : Nat} {t : TypeId} {cs : Array Value} (h : Va w b t cs) (i : Nat) : w.cell? ⟨b, i, none⟩ = cs[i]? := by
  unfold Va at h; simp [World.cell?, h]
theorem Va.frozen {w : World} {b : Nat} {t : TypeId} {cs : Array Value} (h : Va w b t cs) (i : Nat) : w.frozen? ⟨b, i, none⟩ = false := by
  unfold Va at h; simp [World.frozen?, h]
theorem Va.below {B : Nat} {w w' : World} {b : Nat} {t : TypeId} {cs : Array Value} (h : Va w b t cs) (hb : Below B w w') (hB : b < B) : Va w' b t cs := by
  unfold Va at *; rw [hb.block b hB]; exact h
theorem Va.kept {w w' : World} {b : Nat} {t : TypeId} {cs : Array Value} (h : Va w b t cs) (hb : Below w.heap.size w w') : Va w' b t cs := h.below hb h.lt
theorem Va.after {w w' : World} (hb : Below w.heap.size w w') {b : Nat} {t : TypeId} {cs : Array Value} (h : Va w b t cs) : Va w' b t cs := h.below hb h.lt
theorem Va.new (w : World) (t : TypeId) (cs : Array Value) : Va (w.alloc (.cells cs t)) w.heap.size t cs := heap_alloc_new w _
theorem Va.old {w : World} {b : Nat} {t : TypeId} {cs : Array Value} (h : Va w b t cs) (o : Obj) : Va (w.alloc o) b t cs := by
  unfold Va at *
  rw [Below.heap_alloc _ _ _ (Va.lt h)]; exact h
theorem Va.set {w : World} {b : Nat} {t : TypeId} {v : Value} (h : Va w b t #[v]) (v' : Value) : Va (w.setCell ⟨b, 0, none⟩ v') b t #[v'] := by
  unfold Va at *
  simp only [World.setCell]
  rw [Array.getElem?_modify, if_pos rfl, h]
  simp
theorem Va.other {w : World} {b : Nat} {t : TypeId} {cs : Array Value} (h : Va w b t cs) {p : Addr} (hp : b ≠ p.block) (v' : Value) : Va (w.setCell p v') b t cs := by
  unfold Va at *
  rw [Below.heap_setCell _ _ _ _ hp]; exact h
theorem size_set (w : World) (p : Addr) (v : Value) : (w.setCell p v).heap.size = w.heap.size := by simp [World.setCell]

/-- A store into a variable of one cell, all told. -/
theorem set_var {w : World} {b : Nat} {t : TypeId} {v : Value} (h : Va w b t #[v]) (v' : Value) {Q : World → Prop}
    (k : ∀ w', Below b w w' → w'.heap.size = w.heap.size → Va w' b t #[v'] → (∀ c, c ≠ b → w'.heap[c]? = w.heap[c]?) → Q w') : Q (w.setCell ⟨b, 0, none⟩ v') :=
  k _ ((Below.refl b w).setCell (p := ⟨b, 0, none⟩) (Nat.le_refl _) _) (size_set _ _ _) (h.set v') (fun _ hc => Below.heap_setCell _ _ _ _ hc)
theorem Va.stay {w w' : World} {b b' : Nat} {t : TypeId} {cs : Array Value} (h : Va w b t cs) (hk : ∀ c, c ≠ b' → w'.heap[c]? = w.heap[c]?) (hne : b ≠ b') : Va w' b t cs := by
  unfold Va at *; rw [hk b hne]; exact h

theorem ent1 (w : World) (t0 : TypeId) (c0 : Array Value) {Q : World → Prop}
    (h : ∀ w0, Below w.heap.size w w0 → w0.heap.size = w.heap.size + 1 → Va w0 (w.heap.size) t0 c0 → Q w0) : Q (w.alloc (.cells c0 t0)) := by
  refine h _ ((Below.refl _ _).alloc (Nat.le_refl _) _) (by simp) ?_
  · have := Va.new w t0 c0
    exact this
theorem ent2 (w : World) (t0 : TypeId) (c0 : Array Value) (t1 : TypeId) (c1 : Array Value) {Q : World → Prop}
    (h : ∀ w0, Below w.heap.size w w0 → w0.heap.size = w.heap.size + 2 → Va w0 (w.heap.size) t0 c0 → Va w0 (w.heap.size + 1) t1 c1 → Q w0) : Q ((w.alloc (.cells c0 t0)).alloc (.cells c1 t1)) := by
  refine h _ (((Below.refl _ _).alloc (Nat.le_refl _) _).alloc (by simp) _) (by simp) ?_ ?_
  · have := Va.new w t0 c0
    exact (Va.old this _)
  · have := Va.new (w.alloc (.cells c0 t0)) t1 c1
    simp only [World.alloc, Array.size_push] at this
    exact this
theorem ent3 (w : World) (t0 : TypeId) (c0 : Array Value) (t1 : TypeId) (c1 : Array Value) (t2 : TypeId) (c2 : Array Value) {Q : World → Prop}
    (h : ∀ w0, Below w.heap.size w w0 → w0.heap.size = w.heap.size + 3 → Va w0 (w.heap.size) t0 c0 → Va w0 (w.heap.size + 1) t1 c1 → Va w0 (w.heap.size + 1 + 1) t2 c2 → Q w0) : Q (((w.alloc (.cells c0 t0)).alloc (.cells c1 t1)).alloc (.cells c2 t2)) := by
  refine h _ ((((Below.refl _ _).alloc (Nat.le_refl _) _).alloc (by simp) _).alloc (by simp; omega) _) (by simp) ?_ ?_ ?_
  · have := Va.new w t0 c0
    exact (Va.old (Va.old this _) _)
  · have := Va.new (w.alloc (.cells c0 t0)) t1 c1
    simp only [World.alloc, Array.size_push] at this
    exact (Va.old this _)
  · have := Va.new ((w.alloc (.cells c0 t0)).alloc (.cells c1 t1)) t2 c2
    simp only [World.alloc, Array.size_push] at this
    exact this
theorem ent4 (w : World) (t0 : TypeId) (c0 : Array Value) (t1 : TypeId) (c1 : Array Value) (t2 : TypeId) (c2 : Array Value) (t3 : TypeId) (c3 : Array Value) {Q : World → Prop}
    (h : ∀ w0, Below w.heap.size w w0 → w0.heap.size = w.heap.size + 4 → Va w0 (w.heap.size) t0 c0 → Va w0 (w.heap.size + 1) t1 c1 → Va w0 (w.heap.size + 1 + 1) t2 c2 → Va w0 (w.heap.size + 1 + 1 + 1) t3 c3 → Q w0) : Q ((((w.alloc (.cells c0 t0)).alloc (.cells c1 t1)).alloc (.cells c2 t2)).alloc (.cells c3 t3)) := by
  refine h _ (((((Below.refl _ _).alloc (Nat.le_refl _) _).alloc (by simp) _).alloc (by simp; omega) _).alloc (by simp; omega) _) (by simp) ?_ ?_ ?_ ?_
  · have := Va.new w t0 c0
    exact (Va.old (Va.old (Va.old this _) _) _)
  · have := Va.new (w.alloc (.cells c0 t0)) t1 c1
    simp only [World.alloc, Array.size_push] at this
    exact (Va.old (Va.old this _) _)
  · have := Va.new ((w.alloc (.cells c0 t0)).alloc (.cells c1 t1)) t2 c2
    simp only [World.alloc, Array.size_push] at this
    exact (Va.old this _)
  · have := Va.new (((w.alloc (.cells c0 t0)).alloc (.cells c1 t1)).alloc (.cells c2 t2)) t3 c3
    simp only [World.alloc, Array.size_push] at this
    exact this
theorem ent5 (w : World) (t0 : TypeId) (c0 : Array Value) (t1 : TypeId) (c1 : Array Value) (t2 : TypeId) (c2 : Array Value) (t3 : TypeId) (c3 : Array Value) (t4 : TypeId) (c4 : Array Value) {Q : World → Prop}
    (h : ∀ w0, Below w.heap.size w w0 → w0.heap.size = w.heap.size + 5 → Va w0 (w.heap.size) t0 c0 → Va w0 (w.heap.size + 1) t1 c1 → Va w0 (w.heap.size + 1 + 1) t2 c2 → Va w0 (w.heap.size + 1 + 1 + 1) t3 c3 → Va w0 (w.heap.size + 1 + 1 + 1 + 1) t4 c4 → Q w0) : Q (((((w.alloc (.cells c0 t0)).alloc (.cells c1 t1)).alloc (.cells c2 t2)).alloc (.cells c3 t3)).alloc (.cells c4 t4)) := by
  refine h _ ((((((Below.refl _ _).alloc (Nat.le_refl _) _).alloc (by simp) _).alloc (by simp; omega) _).alloc (by simp; omega) _).alloc (by simp; omega) _) (by simp) ?_ ?_ ?_ ?_ ?_
  · have := Va.new w t0 c0
    exact (Va.old (Va.old (Va.old (Va.old this _) _) _) _)
  · have := Va.new (w.alloc (.cells c0 t0)) t1 c1
    simp only [World.alloc, Array.size_push] at this
    exact (Va.old (Va.old (Va.old this _) _) _)
  · have := Va.new ((w.alloc (.cells c0 t0)).alloc (.cells c1 t1)) t2 c2
    simp only [World.alloc, Array.size_push] at this
    exact (Va.old (Va.old this _) _)
  · have := Va.new (((w.alloc (.cells c0 t0)).alloc (.cells c1 t1)).alloc (.cells c2 t2)) t3 c3
    simp only [World.alloc, Array.size_push] at this
    exact (Va.old this _)
  · have := Va.new ((((w.alloc (.cells c0 t0)).alloc (.cells c1 t1)).alloc (.cells c2 t2)).alloc (.cells c3 t3)) t4 c4
    simp only [World.alloc, Array.size_push] at this
    exact this
theorem ent6 (w : World) (t0 : TypeId) (c0 : Array Value) (t1 : TypeId) (c1 : Array Value) (t2 : TypeId) (c2 : Array Value) (t3 : TypeId) (c3 : Array Value) (t4 : TypeId) (c4 : Array Value) (t5 : TypeId) (c5 : Array Value) {Q : World → Prop}
    (h : ∀ w0, Below w.heap.size w w0 → w0.heap.size = w.heap.size + 6 → Va w0 (w.heap.size) t0 c0 → Va w0 (w.heap.size + 1) t1 c1 → Va w0 (w.heap.size + 1 + 1) t2 c2 → Va w0 (w.heap.size + 1 + 1 + 1) t3 c3 → Va w0 (w.heap.size + 1 + 1 + 1 + 1) t4 c4 → Va w0 (w.heap.size + 1 + 1 + 1 + 1 + 1) t5 c5 → Q w0) : Q ((((((w.alloc (.cells c0 t0)).alloc (.cells c1 t1)).alloc (.cells c2 t2)).alloc (.cells c3 t3)).alloc (.cells c4 t4)).alloc (.cells c5 t5)) := by
  refine h _ (((((((Below.refl _ _).alloc (Nat.le_refl _) _).alloc (by simp) _).alloc (by simp; omega) _).alloc (by simp; omega) _).alloc (by simp; omega) _).alloc (by simp; omega) _) (by simp) ?_ ?_ ?_ ?_ ?_ ?_
  · have := Va.new w t0 c0
    exact (Va.old (Va.old (Va.old (Va.old (Va.old this _) _) _) _) _)
  · have := Va.new (w.alloc (.cells c0 t0)) t1 c1
    simp only [World.alloc, Array.size_push] at this
    exact (Va.old (Va.old (Va.old (Va.old this _) _) _) _)
  · have := Va.new ((w.alloc (.cells c0 t0)).alloc (.cells c1 t1)) t2 c2
    simp only [World.alloc, Array.size_push] at this
    exact (Va.old (Va.old (Va.old this _) _) _)
  · have := Va.new (((w.alloc (.cells c0 t0)).alloc (.cells c1 t1)).alloc (.cells c2 t2)) t3 c3
    simp only [World.alloc, Array.size_push] at this
    exact (Va.old (Va.old this _) _)
  · have := Va.new ((((w.alloc (.cells c0 t0)).alloc (.cells c1 t1)).alloc (.cells c2 t2)).alloc (.cells c3 t3)) t4 c4
    simp only [World.alloc, Array.size_push] at this
    exact (Va.old this _)
  · have := Va.new (((((w.alloc (.cells c0 t0)).alloc (.cells c1 t1)).alloc (.cells c2 t2)).alloc (.cells c3 t3)).alloc (.cells c4 t4)) t5 c5
    simp only [World.alloc, Array.size_push] at this
    exact this
theorem ent7 (w : World) (t0 : TypeId) (c0 : Array Value) (t1 : TypeId) (c1 : Array Value) (t2 : TypeId) (c2 : Array Value) (t3 : TypeId) (c3 : Array Value) (t4 : TypeId) (c4 : Array Value) (t5 : TypeId) (c5 : Array Value) (t6 : TypeId) (c6 : Array Value) {Q : World → Prop}
    (h : ∀ w0, Below w.heap.size w w0 → w0.heap.size = w.heap.size + 7 → Va w0 (w.heap.size) t0 c0 → Va w0 (w.heap.size + 1) t1 c1 → Va w0 (w.heap.size + 1 + 1) t2 c2 → Va w0 (w.heap.size + 1 + 1 + 1) t3 c3 → Va w0 (w.heap.size + 1 + 1 + 1 + 1) t4 c4 → Va w0 (w.heap.size + 1 + 1 + 1 + 1 + 1) t5 c5 → Va w0 (w.heap.size + 1 + 1 + 1 + 1 + 1 + 1) t6 c6 → Q w0) : Q (((((((w.alloc (.cells c0 t0)).alloc (.cells c1 t1)).alloc (.cells c2 t2)).alloc (.cells c3 t3)).alloc (.cells c4 t4)).alloc (.cells c5 t5)).alloc (.cells c6 t6)) := by
  refine h _ ((((((((Below.refl _ _).alloc (Nat.le_refl _) _).alloc (by simp) _).alloc (by simp; omega) _).alloc (by simp; omega) _).alloc (by simp; omega) _).alloc (by simp; omega) _).alloc (by simp; omega) _) (by simp) ?_ ?_ ?_ ?_ ?_ ?_ ?_
  · have := Va.new w t0 c0
    exact (Va.old (Va.old (Va.old (Va.old (Va.old (Va.old this _) _) _) _) _) _)
  · have := Va.new (w.alloc (.cells c0 t0)) t1 c1
    simp only [World.alloc, Array.size_push] at this
    exact (Va.old (Va.old (Va.old (Va.old (Va.old this _) _) _) _) _)
  · have := Va.new ((w.alloc (.cells c0 t0)).alloc (.cells c1 t1)) t2 c2
    simp only [World.alloc, Array.size_push] at this
    exact (Va.old (Va.old (Va.old (Va.old this _) _) _) _)
  · have := Va.new (((w.alloc (.cells c0 t0)).alloc (.cells c1 t1)).alloc (.cells c2 t2)) t3 c3
    simp only [World.alloc, Array.size_push] at this
    exact (Va.old (Va.old (Va.old this _) _) _)
  · have := Va.new ((((w.alloc (.cells c0 t0)).alloc (.cells c1 t1)).alloc (.cells c2 t2)).alloc (.cells c3 t3)) t4 c4
    simp only [World.alloc, Array.size_push] at this
    exact (Va.old (Va.old this _) _)
  · have := Va.new (((((w.alloc (.cells c0 t0)).alloc (.cells c1 t1)).alloc (.cells c2 t2)).alloc (.cells c3 t3)).alloc (.cells c4 t4)) t5 c5
    simp only [World.alloc, Array.size_push] at this
    exact (Va.old this _)
  · have := Va.new ((((((w.alloc (.cells c0 t0)).alloc (.cells c1 t1)).alloc (.cells c2 t2)).alloc (.cells c3 t3)).alloc (.cells c4 t4)).alloc (.cells c5 t5)) t6 c6
    simp only [World.alloc, Array.size_push] at this
    exact this
end Go.Proofs.YthladfhjhanhlaaGreatDoor

namespace Go.Proofs.YthladfhjhanhlaaGreatDoor
open Go.RowKit Go.Shelf

theorem results_c {fn : Func} {i b : Nat} {v : Value} {tmps : Array Value} {w : World} (h : fn.results = #[.cell i 48]) (hi : tmps.getD i undef = .pointer (some ⟨b, 0, none⟩)) (hv : Va w b 48 #[v]) :
    (results fn tmps).run Tryz.prog w = .ok (.agg #[v]) w := by
  have c := hv.cell
  rw [Array.getD_eq_getD_getElem?] at hi
  simp [results, h, hi, c, go_sem]
theorem results_ct {fn : Func} {i j b : Nat} {v : Value} {tmps : Array Value} {w : World} (h : fn.results = #[.cell i 48, .tmp j]) (hi : tmps.getD i undef = .pointer (some ⟨b, 0, none⟩)) (hv : Va w b 48 #[v]) :
    (results fn tmps).run Tryz.prog w = .ok (.tuple #[.agg #[v], tmps.getD j undef]) w := by
  have c := hv.cell
  rw [Array.getD_eq_getD_getElem?] at hi
  simp [results, h, hi, c, go_sem]
theorem results_cct {fn : Func} {i j k b c : Nat} {v u : Value} {tmps : Array Value} {w : World} (h : fn.results = #[.cell i 48, .cell j 48, .tmp k]) (hi : tmps.getD i undef = .pointer (some ⟨b, 0, none⟩)) (hv : Va w b 48 #[v])
    (hj : tmps.getD j undef = .pointer (some ⟨c, 0, none⟩)) (hu : Va w c 48 #[u]) :
    (results fn tmps).run Tryz.prog w = .ok (.tuple #[.agg #[v], .agg #[u], tmps.getD k undef]) w := by
  have c := hv.cell; have d := hu.cell
  rw [Array.getD_eq_getD_getElem?] at hi hj
  simp [results, h, hi, hj, c, d, go_sem]
theorem results_cc {fn : Func} {i j b c : Nat} {v u : Value} {tmps : Array Value} {w : World} (h : fn.results = #[.cell i 48, .cell j 48]) (hi : tmps.getD i undef = .pointer (some ⟨b, 0, none⟩)) (hv : Va w b 48 #[v])
    (hj : tmps.getD j undef = .pointer (some ⟨c, 0, none⟩)) (hu : Va w c 48 #[u]) :
    (results fn tmps).run Tryz.prog w = .ok (.tuple #[.agg #[v], .agg #[u]]) w := by
  have c := hv.cell; have d := hu.cell
  rw [Array.getD_eq_getD_getElem?] at hi hj
  simp [results, h, hi, hj, c, d, go_sem]
end Go.Proofs.YthladfhjhanhlaaGreatDoor
namespace Go.Proofs.YthladfhjhanhlaaGreatDoor
set_option linter.unusedVariables false
/-- What a byte is worth as a digit; 36: it is none. -/
def wv (c : UInt8) : Nat := if 48 ≤ c.toNat ∧ c.toNat ≤ 57 then c.toNat - 48 else if 97 ≤ c.toNat ∧ c.toNat ≤ 122 then c.toNat - 87 else 36
theorem wv_inj {c d : UInt8} (hc : wv c < 36) (h : wv c = wv d) : c = d := by
  have : c.toNat = d.toNat := by
    unfold wv at hc h
    repeat' split at hc
    all_goals (repeat' split at h)
    all_goals omega
  exact UInt8.toNat_inj.1 this
theorem wv_nought : wv 48 = 0 := by decide
theorem wv_zero {c : UInt8} (h : wv c = 0) : c = 48 := wv_inj (d := 48) (by omega) (by rw [h]; rfl)
/-- What digits say, to the base b. -/
def tv (b : Nat) (l : List UInt8) : Nat := l.foldl (fun s c => s * b + wv c) 0
theorem tv_nil (b : Nat) : tv b [] = 0 := rfl
theorem tv_snoc (b : Nat) (l : List UInt8) (c : UInt8) : tv b (l ++ [c]) = tv b l * b + wv c := by simp [tv]
theorem tv_fold (b : Nat) (m : List UInt8) : ∀ s, m.foldl (fun s c => s * b + wv c) s = s * b ^ m.length + tv b m := by
  induction m with
  | nil => intro s; simp [tv]
  | cons c m ih =>
    intro s
    have e : tv b (c :: m) = (0 * b + wv c) * b ^ m.length + tv b m := ih _
    rw [List.foldl_cons, ih, e, List.length_cons, Nat.pow_succ]
    grind
theorem tv_append (b : Nat) (l m : List UInt8) : tv b (l ++ m) = tv b l * b ^ m.length + tv b m := by
  rw [tv, List.foldl_append, tv_fold]; rfl
theorem tv_cons (b : Nat) (c : UInt8) (m : List UInt8) : tv b (c :: m) = wv c * b ^ m.length + tv b m := by
  rw [tv, List.foldl_cons, tv_fold]; simp
/-- All of them are digits to the base b. -/
def Dig (b : Nat) (l : List UInt8) : Prop := ∀ c ∈ l, wv c < b
theorem Dig.nil (b : Nat) : Dig b [] := fun c h => by simp at h
theorem Dig.cons {b : Nat} {c : UInt8} {l : List UInt8} (h : Dig b (c :: l)) : wv c < b ∧ Dig b l := ⟨h c (by simp), fun d hd => h d (by simp [hd])⟩
theorem Dig.append {b : Nat} {l m : List UInt8} (h : Dig b l) (k : Dig b m) : Dig b (l ++ m) := fun c hc => by
  rcases List.mem_append.1 hc with h' | h'
  · exact h c h'
  · exact k c h'
theorem tv_lt {b : Nat} : ∀ {l : List UInt8}, Dig b l → tv b l < b ^ l.length
  | [], _ => by simp [tv]
  | c :: l, h => by
    have h1 := h.cons.1
    have h2 := tv_lt h.cons.2
    rw [tv_cons, List.length_cons, Nat.pow_succ]
    have : (wv c + 1) * b ^ l.length ≤ b * b ^ l.length := Nat.mul_le_mul_right _ h1
    grind
/-- The text of a number: its digits, with no nought ahead. -/
structure Tx (b : Nat) (l : List UInt8) (v : Nat) : Prop where
  ne : l ≠ []
  dig : Dig b l
  val : tv b l = v
  nz : l.head? = some 48 → l.length = 1
theorem tv_len_inj {b : Nat} (hb : 2 ≤ b) (h36 : b ≤ 36) : ∀ {l m : List UInt8}, Dig b l → Dig b m → l.length = m.length → tv b l = tv b m → l = m
  | [], [], _, _, _, _ => rfl
  | [], _ :: _, _, _, h, _ => by simp at h
  | _ :: _, [], _, _, h, _ => by simp at h
  | c :: l, d :: m, hl, hm, h, e => by
    have h' : l.length = m.length := by simpa using h
    have l1 := tv_lt hl.cons.2
    have l2 := tv_lt hm.cons.2
    rw [tv_cons, tv_cons, h'] at e
    rw [h'] at l1
    have hp : 0 < b ^ m.length := Nat.pow_pos (by omega)
    have e1 : wv c = wv d := by
      have a1 : (wv c * b ^ m.length + tv b l) / b ^ m.length = wv c := by
        rw [Nat.mul_comm, Nat.mul_add_div hp, Nat.div_eq_of_lt l1, Nat.add_zero]
      have a2 : (wv d * b ^ m.length + tv b m) / b ^ m.length = wv d := by
        rw [Nat.mul_comm, Nat.mul_add_div hp, Nat.div_eq_of_lt l2, Nat.add_zero]
      rw [← a1, e, a2]
    rw [e1] at e
    have e2 : tv b l = tv b m := by omega
    have h1 := hl.cons.1
    rw [wv_inj (by omega) e1, tv_len_inj hb h36 hl.cons.2 hm.cons.2 h' e2]
theorem Tx.low {b : Nat} {l : List UInt8} {v : Nat} (h : Tx b l v) (h2 : 2 ≤ l.length) : b ^ (l.length - 1) ≤ v := by
  obtain ⟨ne, dig, val, nz⟩ := h
  match l, ne with
  | c :: l, _ =>
    have hc : wv c ≠ 0 := fun h0 => by
      have := nz (by rw [wv_zero h0]; rfl)
      omega
    rw [← val, tv_cons, List.length_cons, Nat.add_sub_cancel]
    have : 1 * b ^ l.length ≤ wv c * b ^ l.length := Nat.mul_le_mul_right _ (by omega)
    omega
theorem Tx.lt {b : Nat} {l : List UInt8} {v : Nat} (h : Tx b l v) : v < b ^ l.length := h.val ▸ tv_lt h.dig
theorem Tx.pos {b : Nat} {l : List UInt8} {v : Nat} (h : Tx b l v) : 0 < l.length := List.length_pos_iff.2 h.ne
theorem Tx.le {b : Nat} (hb : 2 ≤ b) {l : List UInt8} {v k : Nat} (h : Tx b l v) (hv : v < b ^ k) (hk : 1 ≤ k) : l.length ≤ k := by
  rcases Nat.lt_or_ge k l.length with h' | h'
  · have := h.low (by omega)
    have := Nat.pow_le_pow_right (show 0 < b by omega) (show k ≤ l.length - 1 by omega)
    omega
  · exact h'
theorem Tx.length_eq {b : Nat} (hb : 2 ≤ b) {l m : List UInt8} {v : Nat} (h : Tx b l v) (k : Tx b m v) : l.length = m.length := by
  have := h.le hb k.lt k.pos
  have := k.le hb h.lt h.pos
  omega
theorem Tx.unique {b : Nat} (hb : 2 ≤ b) (h36 : b ≤ 36) {l m : List UInt8} {v : Nat} (h : Tx b l v) (k : Tx b m v) : l = m :=
  tv_len_inj hb h36 h.dig k.dig (h.length_eq hb k) (h.val.trans k.val.symm)
theorem dig_noughts {b : Nat} (hb : 2 ≤ b) (n : Nat) : Dig b (List.replicate n 48) := fun c hc => by
  rw [(List.mem_replicate.1 hc).2, wv_nought]; omega
theorem tv_noughts (b n : Nat) : tv b (List.replicate n 48) = 0 := by
  induction n with
  | zero => rfl
  | succ n ih => rw [List.replicate_succ, tv_cons, ih, wv_nought]; omega
theorem tv_ahead (b n : Nat) (l : List UInt8) : tv b (List.replicate n 48 ++ l) = tv b l := by rw [tv_append, tv_noughts]; omega
theorem tv_behind (b n : Nat) (l : List UInt8) : tv b (l ++ List.replicate n 48) = tv b l * b ^ n := by rw [tv_append, tv_noughts]; simp
/-- More digits behind a number that is not 0. -/
theorem Tx.more {b : Nat} {l m : List UInt8} {v : Nat} (h : Tx b l v) (hv : v ≠ 0) (hm : Dig b m) : Tx b (l ++ m) (v * b ^ m.length + tv b m) := by
  refine ⟨by simp [h.ne], h.dig.append hm, by rw [tv_append, h.val], fun e => ?_⟩
  exfalso
  match l, h with
  | [], h => exact h.ne rfl
  | c :: l, h =>
    have h1 := h.nz (by simpa using e)
    have hl : l = [] := by simpa using h1
    subst hl
    have : c = 48 := by simpa using e
    subst this
    exact hv (by rw [← h.val, tv_cons, wv_nought]; simp [tv])
theorem Tx.zero {b : Nat} (hb : 2 ≤ b) : Tx b [48] 0 := ⟨by simp, fun c hc => by simp at hc; subst hc; rw [wv_nought]; omega, by rw [tv_cons, wv_nought]; simp [tv], fun _ => rfl⟩
theorem Tx.head_zero {b : Nat} {l : List UInt8} {v : Nat} (h : Tx b l v) (hz : v = 0) : l = [48] := by
  subst hz
  match l, h.ne with
  | c :: l, _ =>
    rcases Nat.lt_or_ge 1 (c :: l).length with h2 | h2
    · have := h.low (by omega)
      have hb : 0 < b := by have := h.dig.cons.1; omega
      have := Nat.pow_pos (n := (c :: l).length - 1) hb
      omega
    · have hl : l = [] := List.eq_nil_of_length_eq_zero (by simp at h2; simpa using h2)
      subst hl
      have := h.val
      rw [tv_cons] at this
      rw [wv_zero (c := c) (by simpa [tv] using this)]
end Go.Proofs.YthladfhjhanhlaaGreatDoor
