/-
  Put together of: Rowp, Vars, Vres.
-/
import Derived.Test.YtblafbbnplfpjaaGreatDoorMgAb
import Derived.Test.YtblafbbnplfpjaaGreatDoorBsA
import Derived.Test.YtblafbbnplfpjaaGreatDoorMgAa
import Derived.Deep.RegionWith
import Derived.Test.YtblafbbnplfpjaaGreatDoorMgAc
namespace Go.Proofs.YtblafbbnplfpjaaGreatDoor

theorem num_take_congr {a b : List Int} : ∀ (k : Nat), (∀ j, j < k → a.getD j 0 = b.getD j 0) → num (a.take k) = num (b.take k)
  | 0, _ => by simp
  | k + 1, h => by rw [num_take_succ, num_take_succ, h k (by omega), num_take_congr k (fun j hj => h j (by omega))]
theorem num_set {cs : List Int} {i : Nat} (v : Int) (h : i < cs.length) : num (cs.set i v) = num cs + (v - cs.getD i 0) * pw i := by
  have e := num_above' (a := cs.set i v) (b := cs) (t := i + 1) (fun j hj => getD_set_other _ _ _ _ (by omega))
  rw [num_set_take _ _ _ h, num_take_succ] at e
  grind
theorem getD_set_self (zs : List Int) (i : Nat) (v : Int) (h : i < zs.length) : (zs.set i v).getD i 0 = v := by
  rw [List.getD_eq_getElem?_getD, List.getElem?_set_self h]; rfl
theorem getD_drop (zs : List Int) (k j : Nat) : (zs.drop k).getD j 0 = zs.getD (k + j) 0 := by
  rw [List.getD_eq_getElem?_getD, List.getElem?_drop, ← List.getD_eq_getElem?_getD]
theorem getD_seg (zs : List Int) (k n j : Nat) (h : j < n) : ((zs.drop k).take n).getD j 0 = zs.getD (k + j) 0 := by
  rw [getD_take_lt _ _ _ h, getD_drop]
theorem num_drop_congr {a b : List Int} (k : Nat) (h : ∀ j, k ≤ j → a.getD j 0 = b.getD j 0) : num (a.drop k) = num (b.drop k) :=
  num_eq_of fun j => by rw [getD_drop, getD_drop]; exact h _ (by omega)
theorem seg_length (cs : List Int) (off n : Nat) (h : off + n ≤ cs.length) : ((cs.drop off).take n).length = n := by
  rw [List.length_take, List.length_drop]; omega
/-- A row is what lies below a piece, the piece, and what lies beyond. -/
theorem num_parts (cs : List Int) (off n : Nat) (h : off + n ≤ cs.length) : num cs = num (cs.take off) + num ((cs.drop off).take n) * pw off + num (cs.drop (off + n)) * pw (off + n) := by
  have h1 := num_take_drop cs off (by omega)
  have h2 := num_take_drop (cs.drop off) n (by rw [List.length_drop]; omega)
  rw [List.drop_drop] at h2
  rw [h1, h2, pw_add]
  grind
/-- Where a piece alone has changed, by how much the row has. -/
theorem num_piece {cs ds : List Int} {off n : Nat} (hl : cs.length = ds.length) (h : off + n ≤ cs.length) (hout : ∀ j, j < off ∨ off + n ≤ j → cs.getD j 0 = ds.getD j 0) :
    num cs - num ds = (num ((cs.drop off).take n) - num ((ds.drop off).take n)) * pw off := by
  have h1 := num_parts cs off n h
  have h2 := num_parts ds off n (by omega)
  rw [num_take_congr off (fun j hj => hout j (.inl hj)), num_drop_congr (off + n) (fun j hj => hout j (.inr hj))] at h1
  grind
theorem mul_cancel {a b p : Int} (hp : 0 < p) (h : a * p = b * p) : a = b := Int.eq_of_mul_eq_mul_right (by omega) h
theorem lt_cancel {a b p : Int} (hp : 0 < p) (h : a * p < b * p) : a < b := Int.lt_of_mul_lt_mul_right h (by omega)
theorem le_cancel {a b p : Int} (hp : 0 < p) (h : a * p ≤ b * p) : a ≤ b := Int.le_of_mul_le_mul_right h hp
theorem mul_le {a b p : Int} (hp : 0 ≤ p) (h : a ≤ b) : a * p ≤ b * p := Int.mul_le_mul_of_nonneg_right h hp
theorem num_top (cs : List Int) (n : Nat) (h : cs.length = n + 1) : num cs = num (cs.take n) + cs.getD n 0 * pw n := by
  have := num_take_succ cs n
  rw [List.take_of_length_le (by omega)] at this; exact this
theorem num_take_lt {cs : List Int} (h : Limbs cs) (n : Nat) : num (cs.take n) < pw n := by
  refine Int.lt_of_lt_of_le (num_lt (h.take n)) (pw_mono ?_)
  rw [List.length_take]; omega
theorem num_take_nonneg {cs : List Int} (h : Limbs cs) (n : Nat) : 0 ≤ num (cs.take n) := num_nonneg (h.take n)
end Go.Proofs.YtblafbbnplfpjaaGreatDoor

namespace Go.Proofs.YtblafbbnplfpjaaGreatDoor
open Go.RowKit Go.Shelf

/-- A variable of the program: one block. -/
def Va (w : World) (b : Nat) (t : TypeId) (cs : Array Value) : Prop := w.heap[b]? = some (.cells cs t (0, 0))
theorem Va.lt {w : World} {b : Nat} {t : TypeId} {cs : Array Value} (h : Va w b t cs) : b < w.heap.size := by
  unfold Va at h
  rcases Nat.lt_or_ge b w.heap.size with h' | h'
  · exact h'
  · rw [Array.getElem?_eq_none h'] at h; cases h
theorem Va.cell {w : World} {b : Nat} {t : TypeId} {v : Value} (h : Va w b t #[v]) : w.cell? ⟨b, 0, none⟩ = some v := by
  unfold Va at h; simp [World.cell?, h]
theorem Va.cellAt {w : World} {b : Nat} {t : TypeId} {cs : Array Value} (h : Va w b t cs) (i : Nat) : w.cell? ⟨b, i, none⟩ = cs[i]? := by
  unfold Va at h; simp [World.cell?, h]
theorem Va.frozen {w : World} {b : Nat} {t : TypeId} {cs : Array Value} (h : Va w b t cs) (i : Nat) : w.frozen? ⟨b, i, none⟩ = false := by
  unfold Va at h; simp [World.frozen?, h]
theorem Va.below {B : Nat} {w w' : World} {b : Nat} {t : TypeId} {cs : Array Value} (h : Va w b t cs) (hb : Below B w w') (hB : b < B) : Va w' b t cs := by
  unfold Va at *; rw [hb.block b hB]; exact h
theorem Va.kept {w w' : World} {b : Nat} {t : TypeId} {cs : Array Value} (h : Va w b t cs) (hb : Below w.heap.size w w') : Va w' b t cs := h.below hb h.lt
theorem Va.after {w w' : World} (hb : Below w.heap.size w w') {b : Nat} {t : TypeId} {cs : Array Value} (h : Va w b t cs) : Va w' b t cs := h.below hb h.lt
theorem Va.new (w : World) (t : TypeId) (cs : Array Value) : Va (w.alloc (.cells cs t)) w.heap.size t cs := heap_alloc_new w _
theorem Va.old {w : World} {b : Nat} {t : TypeId} {cs : Array Value} (h : Va w b t cs) (o : Obj) : Va (w.alloc o) b t cs := by
  unfold Va at *
  rw [Below.heap_alloc _ _ _ (Va.lt h)]; exact h
theorem Va.set {w : World} {b : Nat} {t : TypeId} {v : Value} (h : Va w b t #[v]) (v' : Value) : Va (w.setCell ⟨b, 0, none⟩ v') b t #[v'] := by
  unfold Va at *
  simp only [World.setCell]
  rw [Array.getElem?_modify, if_pos rfl, h]
  simp
theorem Va.other {w : World} {b : Nat} {t : TypeId} {cs : Array Value} (h : Va w b t cs) {p : Addr} (hp : b ≠ p.block) (v' : Value) : Va (w.setCell p v') b t cs := by
  unfold Va at *
  rw [Below.heap_setCell _ _ _ _ hp]; exact h
theorem size_set (w : World) (p : Addr) (v : Value) : (w.setCell p v).heap.size = w.heap.size := by simp [World.setCell]

theorem Va.stay {w w' : World} {b b' : Nat} {t : TypeId} {cs : Array Value} (h : Va w b t cs) (hk : ∀ c, c ≠ b' → w'.heap[c]? = w.heap[c]?) (hne : b ≠ b') : Va w' b t cs := by
  unfold Va at *; rw [hk b hne]; exact h

theorem ent1 (w : World) (t0 : TypeId) (c0 : Array Value) {Q : World → Prop}
    (h : ∀ w0, Below w.heap.size w w0 → w0.heap.size = w.heap.size + 1 → Va w0 (w.heap.size) t0 c0 → Q w0) : Q (w.alloc (.cells c0 t0)) := by
  refine h _ ((Below.refl _ _).alloc (Nat.le_refl _) _) (by simp) ?_
  · have := Va.new w t0 c0
    exact this
theorem ent2 (w : World) (t0 : TypeId) (c0 : Array Value) (t1 : TypeId) (c1 : Array Value) {Q : World → Prop}
    (h : ∀ w0, Below w.heap.size w w0 → w0.heap.size = w.heap.size + 2 → Va w0 (w.heap.size) t0 c0 → Va w0 (w.heap.size + 1) t1 c1 → Q w0) : Q ((w.alloc (.cells c0 t0)).alloc (.cells c1 t1)) := by
  refine h _ (((Below.refl _ _).alloc (Nat.le_refl _) _).alloc (by simp) _) (by simp) ?_ ?_
  · have := Va.new w t0 c0
    exact (Va.old this _)
  · have := Va.new (w.alloc (.cells c0 t0)) t1 c1
    simp only [World.alloc, Array.size_push] at this
    exact this
theorem ent3 (w : World) (t0 : TypeId) (c0 : Array Value) (t1 : TypeId) (c1 : Array Value) (t2 : TypeId) (c2 : Array Value) {Q : World → Prop}
    (h : ∀ w0, Below w.heap.size w w0 → w0.heap.size = w.heap.size + 3 → Va w0 (w.heap.size) t0 c0 → Va w0 (w.heap.size + 1) t1 c1 → Va w0 (w.heap.size + 1 + 1) t2 c2 → Q w0) : Q (((w.alloc (.cells c0 t0)).alloc (.cells c1 t1)).alloc (.cells c2 t2)) := by
  refine h _ ((((Below.refl _ _).alloc (Nat.le_refl _) _).alloc (by simp) _).alloc (by simp; omega) _) (by simp) ?_ ?_ ?_
  · have := Va.new w t0 c0
    exact (Va.old (Va.old this _) _)
  · have := Va.new (w.alloc (.cells c0 t0)) t1 c1
    simp only [World.alloc, Array.size_push] at this
    exact (Va.old this _)
  · have := Va.new ((w.alloc (.cells c0 t0)).alloc (.cells c1 t1)) t2 c2
    simp only [World.alloc, Array.size_push] at this
    exact this
theorem ent4 (w : World) (t0 : TypeId) (c0 : Array Value) (t1 : TypeId) (c1 : Array Value) (t2 : TypeId) (c2 : Array Value) (t3 : TypeId) (c3 : Array Value) {Q : World → Prop}
    (h : ∀ w0, Below w.heap.size w w0 → w0.heap.size = w.heap.size + 4 → Va w0 (w.heap.size) t0 c0 → Va w0 (w.heap.size + 1) t1 c1 → Va w0 (w.heap.size + 1 + 1) t2 c2 → Va w0 (w.heap.size + 1 + 1 + 1) t3 c3 → Q w0) : Q ((((w.alloc (.cells c0 t0)).alloc (.cells c1 t1)).alloc (.cells c2 t2)).alloc (.cells c3 t3)) := by
  refine h _ (((((Below.refl _ _).alloc (Nat.le_refl _) _).alloc (by simp) _).alloc (by simp; omega) _).alloc (by simp; omega) _) (by simp) ?_ ?_ ?_ ?_
  · have := Va.new w t0 c0
    exact (Va.old (Va.old (Va.old this _) _) _)
  · have := Va.new (w.alloc (.cells c0 t0)) t1 c1
    simp only [World.alloc, Array.size_push] at this
    exact (Va.old (Va.old this _) _)
  · have := Va.new ((w.alloc (.cells c0 t0)).alloc (.cells c1 t1)) t2 c2
    simp only [World.alloc, Array.size_push] at this
    exact (Va.old this _)
  · have := Va.new (((w.alloc (.cells c0 t0)).alloc (.cells c1 t1)).alloc (.cells c2 t2)) t3 c3
    simp only [World.alloc, Array.size_push] at this
    exact this
theorem ent5 (w : World) (t0 : TypeId) (c0 : Array Value) (t1 : TypeId) (c1 : Array Value) (t2 : TypeId) (c2 : Array Value) (t3 : TypeId) (c3 : Array Value) (t4 : TypeId) (c4 : Array Value) {Q : World → Prop}
    (h : ∀ w0, Below w.heap.size w w0 → w0.heap.size = w.heap.size + 5 → Va w0 (w.heap.size) t0 c0 → Va w0 (w.heap.size + 1) t1 c1 → Va w0 (w.heap.size + 1 + 1) t2 c2 → Va w0 (w.heap.size + 1 + 1 + 1) t3 c3 → Va w0 (w.heap.size + 1 + 1 + 1 + 1) t4 c4 → Q w0) : Q (((((w.alloc (.cells c0 t0)).alloc (.cells c1 t1)).alloc (.cells c2 t2)).alloc (.cells c3 t3)).alloc (.cells c4 t4)) := by
  refine h _ ((((((Below.refl _ _).alloc (Nat.le_refl _) _).alloc (by simp) _).alloc (by simp; omega) _).alloc (by simp; omega) _).alloc (by simp; omega) _) (by simp) ?_ ?_ ?_ ?_ ?_
  · have := Va.new w t0 c0
    exact (Va.old (Va.old (Va.old (Va.old this _) _) _) _)
  · have := Va.new (w.alloc (.cells c0 t0)) t1 c1
    simp only [World.alloc, Array.size_push] at this
    exact (Va.old (Va.old (Va.old this _) _) _)
  · have := Va.new ((w.alloc (.cells c0 t0)).alloc (.cells c1 t1)) t2 c2
    simp only [World.alloc, Array.size_push] at this
    exact (Va.old (Va.old this _) _)
  · have := Va.new (((w.alloc (.cells c0 t0)).alloc (.cells c1 t1)).alloc (.cells c2 t2)) t3 c3
    simp only [World.alloc, Array.size_push] at this
    exact (Va.old this _)
  · have := Va.new ((((w.alloc (.cells c0 t0)).alloc (.cells c1 t1)).alloc (.cells c2 t2)).alloc (.cells c3 t3)) t4 c4
    simp only [World.alloc, Array.size_push] at this
    exact this
end Go.Proofs.YtblafbbnplfpjaaGreatDoor

namespace Go.Proofs.YtblafbbnplfpjaaGreatDoor
open Go.RowKit Go.Shelf

theorem results_c {fn : Func} {i b : Nat} {v : Value} {tmps : Array Value} {w : World} (h : fn.results = #[.cell i 62]) (hi : tmps.getD i undef = .pointer (some ⟨b, 0, none⟩)) (hv : Va w b 62 #[v]) :
    (results fn tmps).run Tryz.prog w = .ok (.agg #[v]) w := by
  have c := hv.cell
  rw [Array.getD_eq_getD_getElem?] at hi
  simp [results, h, hi, c, go_sem]
theorem results_ct {fn : Func} {i j b : Nat} {v : Value} {tmps : Array Value} {w : World} (h : fn.results = #[.cell i 62, .tmp j]) (hi : tmps.getD i undef = .pointer (some ⟨b, 0, none⟩)) (hv : Va w b 62 #[v]) :
    (results fn tmps).run Tryz.prog w = .ok (.tuple #[.agg #[v], tmps.getD j undef]) w := by
  have c := hv.cell
  rw [Array.getD_eq_getD_getElem?] at hi
  simp [results, h, hi, c, go_sem]
theorem results_cct {fn : Func} {i j k b c : Nat} {v u : Value} {tmps : Array Value} {w : World} (h : fn.results = #[.cell i 62, .cell j 62, .tmp k]) (hi : tmps.getD i undef = .pointer (some ⟨b, 0, none⟩)) (hv : Va w b 62 #[v])
    (hj : tmps.getD j undef = .pointer (some ⟨c, 0, none⟩)) (hu : Va w c 62 #[u]) :
    (results fn tmps).run Tryz.prog w = .ok (.tuple #[.agg #[v], .agg #[u], tmps.getD k undef]) w := by
  have c := hv.cell; have d := hu.cell
  rw [Array.getD_eq_getD_getElem?] at hi hj
  simp [results, h, hi, hj, c, d, go_sem]
theorem results_cc {fn : Func} {i j b c : Nat} {v u : Value} {tmps : Array Value} {w : World} (h : fn.results = #[.cell i 62, .cell j 62]) (hi : tmps.getD i undef = .pointer (some ⟨b, 0, none⟩)) (hv : Va w b 62 #[v])
    (hj : tmps.getD j undef = .pointer (some ⟨c, 0, none⟩)) (hu : Va w c 62 #[u]) :
    (results fn tmps).run Tryz.prog w = .ok (.tuple #[.agg #[v], .agg #[u]]) w := by
  have c := hv.cell; have d := hu.cell
  rw [Array.getD_eq_getD_getElem?] at hi hj
  simp [results, h, hi, hj, c, d, go_sem]
end Go.Proofs.YtblafbbnplfpjaaGreatDoor
namespace Go.Proofs.YtblafbbnplfpjaaGreatDoor
open Go.RowKit Go.Shelf

end Go.Proofs.YtblafbbnplfpjaaGreatDoor

namespace Go.Proofs.YtblafbbnplfpjaaGreatDoor
open Go.RowKit Go.Shelf

end Go.Proofs.YtblafbbnplfpjaaGreatDoor

namespace Go.Proofs.YtblafbbnplfpjaaGreatDoor
open Go.RowKit Go.Shelf

/-- What holds where the places from t on are divided. -/
def OInv (xs cs : List Int) (b : Int) (n t : Nat) (r : Int) : Prop :=
  cs.length = n ∧ Limbs cs ∧ (∀ j, j < t → cs.getD j 0 = (xs.take (usedN xs)).getD j 0) ∧ num ((xs.take (usedN xs)).drop t) = num (cs.drop t) * b + r ∧ 0 ≤ r ∧ r < b

theorem oinv_start {xs : List Int} {b : Int} (hx : Limbs xs) (hb : 0 < b) : OInv xs (xs.take (usedN xs)) b (usedN xs) (usedN xs) 0 := by
  have hu := usedN_le xs
  have hl : (xs.take (usedN xs)).length = usedN xs := by rw [List.length_take]; omega
  refine ⟨hl, hx.take _, fun j _ => rfl, ?_, by omega, hb⟩
  have e : (xs.take (usedN xs)).drop (usedN xs) = [] := List.drop_eq_nil_of_le (by omega)
  rw [e]; simp [num]
theorem oinv_step {xs cs : List Int} {b : Int} {n t : Nat} {r : Int} (hn : n = usedN xs) (hb : b < 18446744073709551616) (I : OInv xs cs b n (t + 1) r) (h : t < n) :
    OInv xs (cs.set t ((r * 18446744073709551616 + cs.getD t 0) / b)) b n t ((r * 18446744073709551616 + cs.getD t 0) % b) := by
  obtain ⟨i1, i2, i3, i4, i5, i6⟩ := I
  have hu := usedN_le xs
  have hl : (xs.take (usedN xs)).length = n := by rw [List.length_take]; omega
  have b1 := i2.getD t
  have e := i3 t (by omega)
  have hm := Int.emod_nonneg (r * 18446744073709551616 + cs.getD t 0) (b := b) (by omega)
  have hml := Int.emod_lt_of_pos (r * 18446744073709551616 + cs.getD t 0) (b := b) (by omega)
  have hd0 : 0 ≤ (r * 18446744073709551616 + cs.getD t 0) / b := Int.ediv_nonneg (by omega) (by omega)
  have hd1 : (r * 18446744073709551616 + cs.getD t 0) / b < 18446744073709551616 := Int.ediv_lt_of_lt_mul (by omega) (by omega)
  refine ⟨by rw [List.length_set]; exact i1, i2.set t ⟨hd0, hd1⟩, fun j hj => by rw [getD_set_other _ _ _ _ (by omega)]; exact i3 j (by omega), ?_, hm, hml⟩
  have hdm := Int.mul_ediv_add_emod (r * 18446744073709551616 + cs.getD t 0) b
  rw [num_set_drop _ _ _ (by omega), num_drop_at _ _ (by omega), i4, ← e, Int.add_mul, Int.mul_assoc]
  rw [Int.mul_comm b] at hdm
  omega
theorem oinv_end {xs cs : List Int} {b : Int} {n : Nat} {r : Int} (I : OInv xs cs b n 0 r) : num xs = num cs * b + r := by
  have := I.2.2.2.1
  rw [List.drop_zero, List.drop_zero, num_take_used xs (Nat.le_refl _)] at this; exact this

set_option maxHeartbeats 1000000 in
theorem over_ok (a : Option Addr) (la ca : Nat) (xs : List Int) (b : Int) (w : World) (ha : Sl w a la xs) (h1 : la ≤ 20000000000000) (hca : la ≤ ca) (hb : Word b) (hb0 : 0 < b) :
    Calls Tryz.prog 160 #[.slice a la ca, .int .u64 b] w fun e w' =>
      ∃ g m c zs r, e = .returned (.tuple #[.slice (some ⟨g, 0, none⟩) m c, .int .u64 r, .int .i64 0]) ∧ w.heap.size ≤ g ∧ m ≤ c ∧ m ≤ la ∧ Sl w' (some ⟨g, 0, none⟩) m zs ∧ usedN zs = m ∧ num xs = num zs * b + r ∧ 0 ≤ r ∧ r < b ∧ Below w.heap.size w w' := by
  have hux := usedN_le xs
  have hza := ha.1
  have hLx := ha.2.1
  have T := trim_any a la ca xs w ha h1 hca
  have I0 := oinv_start hLx hb0
  obtain ⟨n, hn⟩ : ∃ n, usedN xs = n := ⟨_, rfl⟩
  rw [hn] at T I0
  have hnb : n ≤ la := by omega
  have HN : Hid (n = usedN xs) := hn.symm
  have HI0 : Hid (OInv xs (xs.take n) b n n 0) := I0
  have g0 : (b == 0) = false := by simp; omega
  have hb1 := hb.2
  clear hn hux I0
  go_enter Tryz.func160, Tryz.ntmps160
  go_wp2_with fail
  refine T.mono ?_
  rintro e w1 ⟨g, rfl, hg, hown, hbel⟩
  clear T ha
  go_wp2_with fail
  go_loopw [9, 19] (fun rr i wr => ∃ (k : Nat) (r : Int) (cs : List Int), k ≤ n ∧ i = .int .i64 k ∧ rr = .int .u64 r ∧ Hid (OInv xs cs b n (n - k) r) ∧ Hid (Own wr g cs) ∧ Below w.heap.size w wr) (fun _ i _ => n - (intOf i).toNat)
  case atStart => exact ⟨0, 0, _, Nat.zero_le _, rfl, rfl, HI0, hown, hbel⟩
  case round =>
    obtain ⟨k, r, cs, hk, rfl, rfl, hI, ho, hbl⟩ := hrel
    by_cases hlt : k < n
    · obtain ⟨t, ht⟩ : ∃ t, n - k = t + 1 := ⟨n - 1 - k, by omega⟩
      have hI' := hI.out
      rw [ht] at hI'
      have hcx := ho.out.cell t (by rw [hI'.1]; omega)
      have hfx := ho.out.frozen t
      have hw1 := hI'.2.1.getD t
      have hc0 := hI'.2.2.2.2.1
      have hc1 := hI'.2.2.2.2.2
      have hstep := oinv_step HN.out hb1 hI' (by omega)
      obtain ⟨x, hx⟩ : ∃ x, cs.getD t 0 = x := ⟨_, rfl⟩
      rw [hx] at hcx hw1 hstep
      have D := div_ok r x b ⟨hc0, by omega⟩ hw1 hb hc1 wr
      have ex : ((n : Int) - 1 - k).toNat = t := by omega
      have et : ((n : Int) - 1 - k) = (t : Int) := by omega
      have htn : t < n := by omega
      have ET : Hid (n - (k + 1) = t) := by show n - (k + 1) = t; omega
      obtain ⟨qq, hqq⟩ : ∃ q, (r * 18446744073709551616 + x) / b = q := ⟨_, rfl⟩
      obtain ⟨rr, hrr⟩ : ∃ q, (r * 18446744073709551616 + x) % b = q := ⟨_, rfl⟩
      rw [hqq, hrr] at hstep D
      have HS : Hid (OInv xs (cs.set t qq) b n t rr) := hstep
      clear hstep hx hI' ht hqq hrr ex
      go_wp2_with fail
      refine D.mono ?_
      rintro e w2 ⟨rfl, nq, rfl⟩
      go_wp2_with fail
      go_roundw
      case rel => exact ⟨k + 1, _, _, by omega, by go_num, rfl, by rw [ET.out]; exact HS, Own.set (w := wr.drewN nq) ho.out t _, (below_drewN hbl nq).setCell (by exact hg) _⟩
      case measure => simp [intOf]; omega
    · obtain rfl : k = n := by omega
      have hI' := hI.out
      rw [Nat.sub_self] at hI'
      have hlen := hI'.1
      have hsl := ho.out.sl hI'.2.1
      rw [hlen] at hsl
      have C := cut_any (some ⟨g, 0, none⟩) k k cs wr hsl (by omega) (Nat.le_refl _)
      have hcu := usedN_le cs
      have HE : Hid (num xs = num cs * b + r) := oinv_end hI'
      have HR : Hid (0 ≤ r ∧ r < b) := hI'.2.2.2.2
      clear hI'
      go_wp2_with fail
      refine C.mono ?_
      rintro e w2 ⟨rfl, rfl⟩
      go_wp2_with fail
      go_ret3
      refine ⟨g, usedN cs, k, cs.take (usedN cs), r, rfl, hg, by omega, by omega, hsl.take (by omega), usedN_take cs (Nat.le_refl _), ?_, HR.out.1, HR.out.2, hbl⟩
      rw [num_take_used cs (Nat.le_refl _)]
      exact HE.out
end Go.Proofs.YtblafbbnplfpjaaGreatDoor
namespace Go.Proofs.YtblafbbnplfpjaaGreatDoor
open Go.RowKit Go.Shelf

/-- A number that can be read: trimmed, not long. -/
def Nt (w : World) (a : Option Addr) (len cap : Nat) (zs : List Int) : Prop := Sl w a len zs ∧ usedN zs = len ∧ len ≤ cap ∧ len ≤ 4096
theorem Nt.below {w w' : World} {a : Option Addr} {len cap : Nat} {zs : List Int} {B : Nat} (h : Nt w a len cap zs) (b : Below B w w') (hB : w.heap.size ≤ B) : Nt w' a len cap zs := ⟨h.1.below b hB, h.2⟩
theorem Nt.after {w w' : World} (b : Below w.heap.size w w') {a : Option Addr} {len cap : Nat} {zs : List Int} (h : Nt w a len cap zs) : Nt w' a len cap zs := h.below b (Nat.le_refl _)
theorem Nt.limbs {w : World} {a : Option Addr} {len cap : Nat} {zs : List Int} (h : Nt w a len cap zs) : Limbs zs := h.1.2.1
theorem Nt.nil (w : World) : Nt w none 0 0 [] := ⟨⟨rfl, Limbs.nil, fun h => absurd h (by decide)⟩, rfl, Nat.le_refl _, by omega⟩

/-- A list of limbs is no variable: a store there leaves it. -/
theorem Sl.store {w : World} {a : Option Addr} {len : Nat} {zs : List Int} (h : Sl w a len zs) {b : Nat} {t : TypeId} {x : Option Addr} {y z : Nat} (V : Va w b t #[.slice x y z]) (v : Value) : Sl (w.setCell ⟨b, 0, none⟩ v) a len zs := by
  obtain ⟨h1, h2, h3⟩ := h
  refine ⟨h1, h2, fun h0 => ?_⟩
  obtain ⟨bb, off, rfl, hc⟩ := h3 h0
  refine ⟨bb, off, rfl, fun i hi => ?_⟩
  have hne : bb ≠ b := by
    rintro rfl
    have e := hc 0 h0
    rw [V.cellAt] at e
    rcases Nat.eq_zero_or_pos (off + 0) with h' | h'
    · rw [h'] at e; simp at e
    · rw [Array.getElem?_eq_none (by simp; omega)] at e; cases e
  rw [← hc i hi]
  exact World.cell?_of_block (w := w) (Below.heap_setCell _ _ _ _ hne)
theorem Nt.store {w : World} {a : Option Addr} {len cap : Nat} {zs : List Int} (h : Nt w a len cap zs) {b : Nat} {t : TypeId} {x : Option Addr} {y z : Nat} (V : Va w b t #[.slice x y z]) (v : Value) : Nt (w.setCell ⟨b, 0, none⟩ v) a len cap zs := ⟨h.1.store V v, h.2⟩

theorem isZero_any (a : Option Addr) (len cap : Nat) (w : World) :
    Calls Tryz.prog 102 #[.agg #[.slice a len cap]] w fun e w' => e = .returned (.bool ((len : Int) == 0)) ∧ Below w.heap.size w w' := by
  go_enter Tryz.func102, Tryz.ntmps102
  go_wp2_with fail
  go_ret
  exact ⟨rfl, (Below.refl _ _).alloc (Nat.le_refl _) _⟩

theorem small_any (x : Int) (hx : Word x) (w : World) :
    Calls Tryz.prog 103 #[.int .u64 x] w fun e w' => ∃ a len cap zs, e = .returned (.agg #[.slice a len cap]) ∧ Nt w' a len cap zs ∧ num zs = x ∧ Below w.heap.size w w' := by
  by_cases h0 : x = 0
  · subst h0
    go_enter Tryz.func103, Tryz.ntmps103
    go_wp2_with fail
    refine bodyPost_ret (results_c rfl rfl (Va.new w _ _)) rfl ?_
    exact ⟨_, _, _, [], rfl, Nt.nil _, rfl, (Below.refl _ _).alloc (Nat.le_refl _) _⟩
  · have g1 : (x == 0) = false := by simpa using h0
    go_enter Tryz.func103, Tryz.ntmps103
    go_wp2_with fail
    refine bodyPost_ret (results_c rfl rfl ((Va.new w _ _).old _)) rfl ?_
    have s := sl_one (w.alloc (Obj.cells #[Value.slice (some { block := w.heap.size + 1, off := 0 }) 1 1] 62)) x hx
    simp only [World.alloc, Array.size_push] at s
    refine ⟨_, _, _, [x], rfl, ⟨s, ?_, Nat.le_refl _, by omega⟩, by simp [num], ((Below.refl _ _).alloc (Nat.le_refl _) _).alloc (by simp) _⟩
    simp [usedN, h0]

theorem nbits_any (a : Option Addr) (len cap : Nat) (zs : List Int) (w : World) (h : Nt w a len cap zs) :
    Calls Tryz.prog 165 #[.agg #[.slice a len cap]] w fun e w' => e = .returned (.int .i64 (bitsN zs)) ∧ Below w.heap.size w w' := by
  obtain ⟨hs, hu, hc, hl⟩ := h
  go_enter Tryz.func165, Tryz.ntmps165
  go_wp2_with fail
  refine ent1 w _ _ (Q := fun W => Calls Tryz.prog _ _ W _) ?_
  intro w0 B0 hsz V0
  have T := bits_any a len cap zs w0 (hs.below B0 (Nat.le_refl _)) (by omega)
  refine T.mono ?_
  rintro e w' ⟨rfl, rfl⟩
  go_wp2_with fail
  go_ret
  exact ⟨rfl, B0⟩

/-- How many limbs so many binary digits take. -/
theorem bits_limbs {zs : List Int} (h : Limbs zs) : 0 ≤ bitsN zs ∧ (bitsN zs + 64 - 1) / 64 = usedN zs ∧ bitsN zs ≤ 64 * usedN zs := by
  rcases Nat.eq_zero_or_pos (usedN zs) with h0 | h0
  · have : bitsN zs = 0 := bits_nought h0
    rw [this, h0]; decide
  · have ht := usedN_top zs h0
    have hw := h.getD (usedN zs - 1)
    obtain ⟨p1, p2⟩ := bitLen_spec 64 (zs.getD (usedN zs - 1) 0).toNat (by omega) (by omega)
    have h1 : Lib.bitLen (zs.getD (usedN zs - 1) 0).toNat ≤ 64 := Lib.bitLen_le _ 64 (by omega) (by omega)
    have h2 : Lib.bitLen (zs.getD (usedN zs - 1) 0).toNat ≠ 0 := by
      intro e
      rw [e] at p1
      omega
    simp only [bitsN, if_neg (show usedN zs ≠ 0 by omega)]
    omega

theorem made_ok (a : Option Addr) (len cap : Nat) (zs : List Int) (w : World) (h : Sl w a len zs) (hl : len ≤ 40000000000000) (hc : len ≤ cap) (hu : usedN zs ≤ 4096) :
    Calls Tryz.prog 166 #[.slice a len cap] w fun e w' => e = .returned (.tuple #[.agg #[.slice a (usedN zs) cap], .int .i64 0]) ∧ Below w.heap.size w w' := by
  have hul := usedN_le zs
  have hz := h.1
  obtain ⟨q0, q1, q2⟩ := bits_limbs h.2.1
  have T := fun W h => bits_any a len cap zs W h hl
  have hT : ∀ w0, Below w.heap.size w w0 → Sl w0 a len zs := fun w0 B0 => h.below B0 (Nat.le_refl _)
  obtain ⟨b, hb⟩ : ∃ b, bitsN zs = b := ⟨_, rfl⟩
  rw [hb] at q0 q1 q2
  simp only [hb] at T
  obtain ⟨n, hn⟩ : ∃ n, usedN zs = n := ⟨_, rfl⟩
  rw [hn] at q1 q2 hu hul ⊢
  have q3 : n ≤ cap := by omega
  clear h hz hb hn
  go_enter Tryz.func166, Tryz.ntmps166
  go_wp2_with fail
  refine ent1 w _ _ (Q := fun W => Calls Tryz.prog _ _ W _) ?_
  intro w0 B0 hsz V0
  refine (T w0 (hT w0 B0)).mono ?_
  clear T hT
  rintro e w' ⟨rfl, rfl⟩
  have c0 := V0.cell
  have f0 := V0.frozen 0
  have B1 := B0.setCell (p := ⟨w.heap.size, 0, none⟩) (Nat.le_refl _)
  cases a with
  | none =>
    go_wp2_with fail
    refine bodyPost_ret (results_ct rfl rfl (V0.set _)) rfl ?_
    exact ⟨rfl, B1 _⟩
  | some a =>
    go_wp2_with fail
    refine bodyPost_ret (results_ct rfl rfl (V0.set _)) rfl ?_
    exact ⟨rfl, B1 _⟩

/-- made, told by the number. -/
theorem nt_made {w : World} {a : Option Addr} {len cap : Nat} {zs : List Int} (h : Sl w a len zs) (hc : len ≤ cap) (hu : usedN zs ≤ 4096) : Nt w a (usedN zs) cap (zs.take (usedN zs)) := by
  have hul := usedN_le zs
  have hz := h.1
  exact ⟨h.take (by omega), usedN_take zs (Nat.le_refl _), by omega, hu⟩
theorem used_of_lt {zs : List Int} (h : Limbs zs) {n : Nat} (hlt : num zs < pw n) : usedN zs ≤ n := by
  rcases Nat.lt_or_ge n (usedN zs) with h' | h'
  · have := num_ge_used h (by omega); have := pw_mono (show n ≤ usedN zs - 1 by omega); omega
  · exact h'
theorem lt_of_used {zs : List Int} (h : Limbs zs) {n : Nat} (hu : usedN zs ≤ n) : num zs < pw n := Int.lt_of_lt_of_le (num_lt_used h) (pw_mono hu)
theorem Nt.lt {w : World} {a : Option Addr} {len cap : Nat} {zs : List Int} (h : Nt w a len cap zs) : num zs < pw 4096 := lt_of_used h.limbs (by have := h.2; omega)
theorem Nt.nonneg {w : World} {a : Option Addr} {len cap : Nat} {zs : List Int} (h : Nt w a len cap zs) : 0 ≤ num zs := num_nonneg h.limbs
theorem Nt.zero {w : World} {a : Option Addr} {len cap : Nat} {zs : List Int} (h : Nt w a len cap zs) : ((len : Int) == 0) = decide (num zs = 0) := by
  have e := num_eq_zero h.limbs
  rw [h.2.1] at e
  rw [Bool.eq_iff_iff]; simp; omega
/-- One list a number. -/
theorem Nt.one {w w' : World} {a a' : Option Addr} {len len' cap cap' : Nat} {zs zs' : List Int} (h : Nt w a len cap zs) (h' : Nt w' a' len' cap' zs') (e : num zs = num zs') : len = len' ∧ zs = zs' := by
  obtain ⟨e1, e2⟩ := one_list h.limbs h'.limbs h.1.1 h.2.1 e
  have hz := h'.1.1
  rw [h'.2.1] at e1 e2
  rw [List.take_of_length_le (by omega)] at e2
  exact ⟨e1, e2⟩

theorem ncompare_any (a b : Option Addr) (la ca lb cb : Nat) (xs ys : List Int) (w : World) (ha : Nt w a la ca xs) (hb : Nt w b lb cb ys) :
    Calls Tryz.prog 99 #[.agg #[.slice a la ca], .agg #[.slice b lb cb]] w fun e w' => e = .returned (.int .i64 (cmp3 (num xs) (num ys))) ∧ Below w.heap.size w w' := by
  have l1 := ha.2; have l2 := hb.2
  go_enter Tryz.func99, Tryz.ntmps99
  go_wp2_with fail
  refine ent2 w _ _ _ _ (Q := fun W => Calls Tryz.prog _ _ W _) ?_
  intro w0 B0 hs V0 V1
  replace ha := ha.below B0 (Nat.le_refl _)
  replace hb := hb.below B0 (Nat.le_refl _)
  refine (compare_b a b la ca lb cb xs ys _ ha.1 hb.1 (by omega) (by omega)).mono ?_
  rintro e w1 ⟨rfl, hb1⟩
  replace B0 := step B0 hb1
  go_wp2_with fail
  go_ret
  exact ⟨rfl, B0⟩

end Go.Proofs.YtblafbbnplfpjaaGreatDoor

namespace Go.Proofs.YtblafbbnplfpjaaGreatDoor
open Go.RowKit Go.Shelf

/-- Block g alone may have turned. -/
structure Only (g : Nat) (w w' : World) : Prop where
  bel : Below g w w'
  oth : ∀ k, k ≠ g → w'.heap[k]? = w.heap[k]?
theorem Only.refl (g : Nat) (w : World) : Only g w w := ⟨Below.refl _ _, fun _ _ => rfl⟩
theorem Only.trans {g : Nat} {a b c : World} (h : Only g a b) (k : Only g b c) : Only g a c := ⟨h.bel.trans k.bel, fun i hi => (k.oth i hi).trans (h.oth i hi)⟩
theorem Only.drew {g : Nat} {a w : World} (h : Only g a w) : Only g a w.drew := ⟨h.bel.drew, h.oth⟩
theorem Only.drewN {g : Nat} {a w : World} (h : Only g a w) (n : Nat) : Only g a (w.drewN n) := ⟨below_drewN h.bel n, h.oth⟩
theorem Only.set {g : Nat} {a w : World} (h : Only g a w) (i : Nat) (v : Value) : Only g a (w.setCell ⟨g, i, none⟩ v) :=
  ⟨h.bel.setCell (p := ⟨g, i, none⟩) (Nat.le_refl _) v, fun k hk => (Below.heap_setCell _ _ _ _ hk).trans (h.oth k hk)⟩
theorem Only.below {g B : Nat} {a w : World} (h : Only g a w) (hB : B ≤ g) : Below B a w := h.bel.mono hB
theorem Va.only {g : Nat} {w w' : World} {b : Nat} {t : TypeId} {cs : Array Value} (h : Va w b t cs) (o : Only g w w') (hne : b ≠ g) : Va w' b t cs := by
  unfold Va at *; rw [o.oth b hne]; exact h

/-- A list that does not lie in block g. -/
def Sx (g : Nat) (w : World) (a : Option Addr) (len : Nat) (zs : List Int) : Prop := Sl w a len zs ∧ (0 < len → ∀ p, a = some p → p.block ≠ g)
theorem Sx.only {g : Nat} {w w' : World} {a : Option Addr} {len : Nat} {zs : List Int} (h : Sx g w a len zs) (o : Only g w w') : Sx g w' a len zs := by
  obtain ⟨⟨h1, h2, h3⟩, h4⟩ := h
  refine ⟨⟨h1, h2, fun h0 => ?_⟩, h4⟩
  obtain ⟨b, off, rfl, hc⟩ := h3 h0
  refine ⟨b, off, rfl, fun i hi => ?_⟩
  rw [← hc i hi]
  exact World.cell?_of_block (w := w) (o.oth b (h4 h0 _ rfl))
theorem Sl.lt {w : World} {a : Option Addr} {len : Nat} {zs : List Int} (h : Sl w a len zs) (h0 : 0 < len) {p : Addr} (hp : a = some p) : p.block < w.heap.size := by
  obtain ⟨b, off, rfl, hc⟩ := h.2.2 h0
  cases hp
  have hh := hc 0 h0
  rcases Nat.lt_or_ge b w.heap.size with h' | h'
  · exact h'
  · simp [World.cell?, Array.getElem?_eq_none h'] at hh
theorem Sl.apart {w w' : World} {a : Option Addr} {len : Nat} {zs : List Int} {g : Nat} (h : Sl w a len zs) (b : Below w.heap.size w w') (hg : w.heap.size ≤ g) : Sx g w' a len zs :=
  ⟨h.below b (Nat.le_refl _), fun h0 p hp => by have := h.lt h0 hp; omega⟩
theorem Own.only {g b : Nat} {w w' : World} {cs : List Int} (h : Own w b cs) (o : Only g w w') (hne : b ≠ g) : Own w' b cs := by
  unfold Own at *; rw [o.oth b hne]; exact h
theorem Own.piece {w : World} {g : Nat} {cs : List Int} (h : Own w g cs) (hL : Limbs cs) {off n : Nat} (hf : off + n ≤ cs.length) : Sl w (some ⟨g, off, none⟩) n ((cs.drop off).take n) :=
  ⟨seg_length cs off n hf, (hL.drop off).take n, fun _ => ⟨g, off, rfl, fun i hi => by rw [getD_seg _ _ _ _ hi]; exact h.cell (off + i) (by omega)⟩⟩
end Go.Proofs.YtblafbbnplfpjaaGreatDoor

namespace Go.Proofs.YtblafbbnplfpjaaGreatDoor
open Go.RowKit Go.Shelf

theorem nright_ok (a : Option Addr) (la ca : Nat) (xs : List Int) (t : Nat) (w : World) (ha : Nt w a la ca xs) (htb : t ≤ 9223372036854775807) :
    Calls Tryz.prog 195 #[.agg #[.slice a la ca], .int .i64 t] w fun e w' => ∃ a' l' c' zs, e = .returned (.tuple #[.agg #[.slice a' l' c'], .int .i64 0]) ∧ Nt w' a' l' c' zs ∧ num zs = num xs / 2 ^ t ∧ Below w.heap.size w w' := by
  have l1 := ha.2
  go_enter Tryz.func195, Tryz.ntmps195
  go_wp2_with fail
  refine ent2 w _ _ _ _ (Q := fun W => Calls Tryz.prog _ _ W _) ?_
  intro w0 B0 hs V0 V1
  replace ha := ha.below B0 (Nat.le_refl _)
  refine (right_val a la ca xs t w0 ha.1 (by omega) ha.2.2.1 htb).mono ?_
  rintro e w1 ⟨a', m, c, zs, rfl, hmc, hm2, hsl, hu, hn, hb1⟩
  replace V1 := V1.kept hb1
  replace B0 := step B0 hb1
  have c1 := V1.cell
  have f1 := V1.frozen 0
  go_wp2_with fail
  have B1 := B0.setCell (p := ⟨w.heap.size + 1, 0, none⟩) (by show _ ≤ w.heap.size + 1; omega)
  refine bodyPost_ret (results_ct rfl rfl (V1.set _)) rfl ?_
  exact ⟨_, _, _, zs, rfl, ⟨hsl.store V1 _, hu, hmc, by omega⟩, hn, B1 _⟩

theorem uint64_small (a : Option Addr) (la ca : Nat) (xs : List Int) (w : World) (ha : Nt w a la ca xs) (hlt : num xs < 18446744073709551616) :
    Calls Tryz.prog 159 #[.agg #[.slice a la ca]] w fun e w' => e = .returned (.tuple #[.int .u64 (num xs), .bool true]) ∧ Below w.heap.size w w' := by
  have hu1 : usedN xs ≤ 1 := used_of_lt ha.limbs (by simpa [pw] using hlt)
  obtain ⟨hs, hu, hc, hl⟩ := ha
  have hz := hs.1
  have hla : la = 0 ∨ la = 1 := by omega
  rcases hla with rfl | rfl
  · have e0 : num xs = 0 := (num_eq_zero hs.2.1).2 hu
    rw [e0]
    go_enter Tryz.func159, Tryz.ntmps159
    go_wp2_with fail
    go_ret2
    exact ⟨rfl, (Below.refl _ _).alloc (Nat.le_refl _) _⟩
  · obtain ⟨x, rfl⟩ : ∃ x, xs = [x] := by
      match xs, hz with
      | [x], _ => exact ⟨x, rfl⟩
    have e0 : num [x] = x := by simp [num]
    rw [e0]
    have sl := fun w0 (B0 : Below w.heap.size w w0) => hs.below B0 (Nat.le_refl _)
    obtain ⟨b, off, rfl, hc0⟩ := hs.2.2 (by omega)
    have hlt0 : b < w.heap.size := by
      have hh := hc0 0 (by omega)
      rcases Nat.lt_or_ge b w.heap.size with h' | h'
      · exact h'
      · simp [World.cell?, Array.getElem?_eq_none h'] at hh
    have hcx := ((Below.refl w.heap.size w).alloc (Nat.le_refl _) (.cells #[.slice (some ⟨b, off, none⟩) 1 ca] 62)).cell (p := ⟨b, off + 0, none⟩) hlt0
    rw [hc0 0 (by omega)] at hcx
    simp only [Nat.add_zero, List.getD_cons_zero] at hcx
    go_enter Tryz.func159, Tryz.ntmps159
    go_wp2_with fail
    go_ret2
    exact ⟨rfl, (Below.refl _ _).alloc (Nat.le_refl _) _⟩
theorem uint64_great (a : Option Addr) (la ca : Nat) (xs : List Int) (w : World) (ha : Nt w a la ca xs) (hge : 18446744073709551616 ≤ num xs) :
    Calls Tryz.prog 159 #[.agg #[.slice a la ca]] w fun e w' => e = .returned (.tuple #[.int .u64 0, .bool false]) ∧ Below w.heap.size w w' := by
  have hla : 1 < la := by
    rcases Nat.lt_or_ge 1 la with h | h
    · exact h
    · have := lt_of_used ha.limbs (n := 1) (by rw [ha.2.1]; exact h)
      simp [pw] at this; omega
  have g0 : ((la : Int) == 0) = false := by simp; omega
  have g1 : ((la : Int) == 1) = false := by simp; omega
  go_enter Tryz.func159, Tryz.ntmps159
  go_wp2_with fail
  go_ret2
  exact ⟨rfl, (Below.refl _ _).alloc (Nat.le_refl _) _⟩
end Go.Proofs.YtblafbbnplfpjaaGreatDoor
