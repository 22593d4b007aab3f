/-
  Put together of: Law2, Law3, Held, Held3, Trimr.
-/
import Derived.Test.YtblafbbnplfpjaaGreatDoorMgAc
import Derived.Test.YtblafbbnplfpjaaGreatDoorMgAd
import Derived.Deep.RegionHeld3
import Derived.Deep.RegionWith
namespace Go.Proofs.YtblafbbnplfpjaaGreatDoor
open Go.RowKit Go.Shelf

end Go.Proofs.YtblafbbnplfpjaaGreatDoor

namespace Go.Proofs.YtblafbbnplfpjaaGreatDoor
open Go.RowKit Go.Shelf

theorem Nt.only {g : Nat} {w w' : World} {a : Option Addr} {len cap : Nat} {zs : List Int} (h : Nt w a len cap zs) (o : Only g w w') (hne : 0 < len → ∀ p, a = some p → p.block ≠ g) : Nt w' a len cap zs := ⟨(Sx.only ⟨h.1, hne⟩ o).1, h.2⟩

/-- A block of so many cells at least. -/
def Blk (w : World) (g n : Nat) : Prop := ∃ cur t, w.heap[g]? = some (.cells cur t (0, 0)) ∧ n ≤ cur.size
theorem Blk.lt {w : World} {g n : Nat} (h : Blk w g n) : g < w.heap.size := by
  obtain ⟨cur, t, h, -⟩ := h
  rcases Nat.lt_or_ge g w.heap.size with h' | h'
  · exact h'
  · rw [Array.getElem?_eq_none h'] at h; cases h
theorem Blk.cell {w : World} {g n : Nat} (h : Blk w g n) {k : Nat} (hk : k < n) : ∃ x, w.cell? ⟨g, k, none⟩ = some x := by
  obtain ⟨cur, t, h, hn⟩ := h
  refine ⟨cur[k]'(by omega), ?_⟩
  simp only [World.cell?, h]
  exact Array.getElem?_eq_getElem (by omega)
theorem Blk.frozen {w : World} {g n : Nat} (h : Blk w g n) (k : Nat) : w.frozen? ⟨g, k, none⟩ = false := by
  obtain ⟨cur, t, h, -⟩ := h
  simp [World.frozen?, h]
theorem Blk.set {w : World} {g n : Nat} (h : Blk w g n) (k : Nat) (v : Value) : Blk (w.setCell ⟨g, k, none⟩ v) g n := by
  obtain ⟨cur, t, h, hn⟩ := h
  refine ⟨cur.setIfInBounds k v, t, ?_, by simpa using hn⟩
  simp only [World.setCell]
  rw [Array.getElem?_modify, if_pos rfl, h]
  rfl
theorem Blk.kept {w w' : World} {g n : Nat} (h : Blk w g n) (hb : Below w.heap.size w w') : Blk w' g n := by
  have hl := h.lt
  obtain ⟨cur, t, h, hn⟩ := h
  exact ⟨cur, t, by rw [hb.block g hl]; exact h, hn⟩
theorem Blk.only {w w' : World} {g b n : Nat} (h : Blk w b n) (o : Only g w w') (hne : b ≠ g) : Blk w' b n := by
  obtain ⟨cur, t, h, hn⟩ := h
  exact ⟨cur, t, by rw [o.oth b hne]; exact h, hn⟩
theorem Gr.parts {w : World} {B : Nat} {v : Value} {cs : List Int} (h : Gr w B v cs) (hL : Limbs cs) :
    ∃ a c gm, v = .slice a cs.length c ∧ cs.length ≤ c ∧ Sl w a cs.length cs ∧ B ≤ gm ∧ (a = none → cs.length = 0 ∧ c = 0) ∧ (0 < cs.length → a = some ⟨gm, 0, none⟩ ∧ Blk w gm cs.length) := by
  obtain ⟨a, c, e, hc, hs⟩ := h.sl hL
  obtain ⟨h1, h2 | ⟨g, cap, cur, e2, hBg, hh, hc2, hm, hsz, ht⟩⟩ := h
  · obtain ⟨e2, h0⟩ := h2
    rw [e2] at e
    obtain ⟨ea, -, ec⟩ := Value.slice.inj e
    rw [← ea] at hs
    exact ⟨none, 0, B, e2.trans (by rw [h0]), by omega, hs, Nat.le_refl _, fun _ => ⟨h0, rfl⟩, fun h => by omega⟩
  · rw [e2] at e
    obtain ⟨ea, -, ec⟩ := Value.slice.inj e
    rw [← ea] at hs
    exact ⟨_, _, g, e2, hc2, hs, hBg, (fun h => by cases h), fun _ => ⟨rfl, cur, 124, hh, by omega⟩⟩

end Go.Proofs.YtblafbbnplfpjaaGreatDoor

namespace Go.Proofs.YtblafbbnplfpjaaGreatDoor
open Go.RowKit Go.Shelf

/-- A variable with its number; nothing old has turned. -/
def HV (w : World) (b : Nat) (a : Option Addr) (l c : Nat) (zs : List Int) (W : World) : Prop := Va W b 62 #[.slice a l c] ∧ Nt W a l c zs ∧ Below w.heap.size w W
theorem Nt.al {w : World} {a : Option Addr} {l c : Nat} {zs : List Int} (h : Nt w a l c zs) (o : Obj) : Nt (w.alloc o) a l c zs := Nt.after ((Below.refl _ _).alloc (Nat.le_refl _) o) h
theorem Nt.st {w : World} {a : Option Addr} {l c : Nat} {zs : List Int} (h : Nt w a l c zs) {b : Nat} {t : TypeId} {x : Option Addr} {y z : Nat} (V : Va w b t #[.slice x y z]) (v : Value) : Nt (w.setCell ⟨b, 0, none⟩ v) a l c zs := h.store V v
theorem HV.alloc {w : World} {b : Nat} {a : Option Addr} {l c : Nat} {zs : List Int} {W : World} (h : W.cell? ⟨b, 0, none⟩ = some (.slice a l c) ∧ Hid (HV w b a l c zs W)) (o : Obj) : (W.alloc o).cell? ⟨b, 0, none⟩ = some (.slice a l c) ∧ Hid (HV w b a l c zs (W.alloc o)) := by
  obtain ⟨-, h1, h2, h3⟩ := h
  exact ⟨(h1.old o).cell, h1.old o, h2.al o, h3.alloc h3.size o⟩
theorem HV.call {w : World} {b : Nat} {a : Option Addr} {l c : Nat} {zs : List Int} {W W' : World} (hb : Below W.heap.size W W') (h : W.cell? ⟨b, 0, none⟩ = some (.slice a l c) ∧ Hid (HV w b a l c zs W)) : W'.cell? ⟨b, 0, none⟩ = some (.slice a l c) ∧ Hid (HV w b a l c zs W') := by
  obtain ⟨-, h1, h2, h3⟩ := h
  exact ⟨(Va.after hb h1).cell, Va.after hb h1, Nt.after hb h2, step h3 hb⟩
theorem HV.drew {w : World} {b : Nat} {a : Option Addr} {l c : Nat} {zs : List Int} {W : World} (h1 : Va W b 62 #[.slice a l c]) (h2 : Nt W a l c zs) (h3 : Below w.heap.size w W) : W.drew.cell? ⟨b, 0, none⟩ = some (.slice a l c) ∧ Hid (HV w b a l c zs W.drew) :=
  ⟨h1.cell, h1, h2, h3.drew⟩
theorem HV.nt {w : World} {b : Nat} {a : Option Addr} {l c : Nat} {zs : List Int} {W : World} (h : W.cell? ⟨b, 0, none⟩ = some (.slice a l c) ∧ Hid (HV w b a l c zs W)) : Nt W a l c zs := h.2.2.1
/-- A variable that is only read. -/
def Rd (w : World) (b : Nat) (v : Value) : Prop := w.cell? ⟨b, 0, none⟩ = some v
theorem Rd.lt {w : World} {b : Nat} {v : Value} (h : Rd w b v) : b < w.heap.size := by
  unfold Rd at h
  rcases Nat.lt_or_ge b w.heap.size with h' | h'
  · exact h'
  · simp [World.cell?, Array.getElem?_eq_none h'] at h
theorem Rd.after {w w' : World} (hb : Below w.heap.size w w') {b : Nat} {v : Value} (h : Rd w b v) : Rd w' b v := by
  have hl := h.lt
  unfold Rd at *
  rw [hb.cell (p := ⟨b, 0, none⟩) hl]; exact h
theorem cell_stc (w : World) (b c o : Nat) (v : Value) (h : ¬ (c = b ∧ o = 0)) : (w.setCell ⟨b, 0, none⟩ v).cell? ⟨c, o, none⟩ = w.cell? ⟨c, o, none⟩ := by
  by_cases hc : c = b
  · subst hc
    have ho : o ≠ 0 := fun e => h ⟨rfl, e⟩
    simp only [World.setCell, World.cell?, Array.getElem?_modify]
    cases hh : w.heap[c]? with
    | none => simp
    | some x =>
      cases x <;> simp
      rw [Array.getElem?_setIfInBounds]
      simp [ho.symm]
  · exact World.cell?_of_block (w := w) (Below.heap_setCell _ _ _ _ hc)
theorem HV.dr {w : World} {b : Nat} {a : Option Addr} {l c : Nat} {zs : List Int} {W : World} (h : W.cell? ⟨b, 0, none⟩ = some (.slice a l c) ∧ Hid (HV w b a l c zs W)) : W.drew.cell? ⟨b, 0, none⟩ = some (.slice a l c) ∧ Hid (HV w b a l c zs W.drew) :=
  ⟨h.1, h.2.1, h.2.2.1, h.2.2.2.drew⟩
end Go.Proofs.YtblafbbnplfpjaaGreatDoor

namespace Go.Proofs.YtblafbbnplfpjaaGreatDoor
open Go.RowKit Go.Shelf
theorem H3.n1 {w : World} {b1 b2 b3 : Nat} {a1 a2 a3 : Option Addr} {l1 l2 l3 c1 c2 c3 : Nat} {z1 z2 z3 : List Int} {W : World} (h : (W.cell? ⟨b1, 0, none⟩ = some (.slice a1 l1 c1) ∧ Hid (HV w b1 a1 l1 c1 z1 W)) ∧ (W.cell? ⟨b2, 0, none⟩ = some (.slice a2 l2 c2) ∧ Hid (HV w b2 a2 l2 c2 z2 W)) ∧ (W.cell? ⟨b3, 0, none⟩ = some (.slice a3 l3 c3) ∧ Hid (HV w b3 a3 l3 c3 z3 W))) : Nt W a1 l1 c1 z1 := HV.nt h.1
theorem H3.n2 {w : World} {b1 b2 b3 : Nat} {a1 a2 a3 : Option Addr} {l1 l2 l3 c1 c2 c3 : Nat} {z1 z2 z3 : List Int} {W : World} (h : (W.cell? ⟨b1, 0, none⟩ = some (.slice a1 l1 c1) ∧ Hid (HV w b1 a1 l1 c1 z1 W)) ∧ (W.cell? ⟨b2, 0, none⟩ = some (.slice a2 l2 c2) ∧ Hid (HV w b2 a2 l2 c2 z2 W)) ∧ (W.cell? ⟨b3, 0, none⟩ = some (.slice a3 l3 c3) ∧ Hid (HV w b3 a3 l3 c3 z3 W))) : Nt W a2 l2 c2 z2 := HV.nt h.2.1
theorem H3.n3 {w : World} {b1 b2 b3 : Nat} {a1 a2 a3 : Option Addr} {l1 l2 l3 c1 c2 c3 : Nat} {z1 z2 z3 : List Int} {W : World} (h : (W.cell? ⟨b1, 0, none⟩ = some (.slice a1 l1 c1) ∧ Hid (HV w b1 a1 l1 c1 z1 W)) ∧ (W.cell? ⟨b2, 0, none⟩ = some (.slice a2 l2 c2) ∧ Hid (HV w b2 a2 l2 c2 z2 W)) ∧ (W.cell? ⟨b3, 0, none⟩ = some (.slice a3 l3 c3) ∧ Hid (HV w b3 a3 l3 c3 z3 W))) : Nt W a3 l3 c3 z3 := HV.nt h.2.2
theorem H3.call {w : World} {b1 b2 b3 : Nat} {a1 a2 a3 : Option Addr} {l1 l2 l3 c1 c2 c3 : Nat} {z1 z2 z3 : List Int} {W W' : World} (hb : Below W.heap.size W W') (h : (W.cell? ⟨b1, 0, none⟩ = some (.slice a1 l1 c1) ∧ Hid (HV w b1 a1 l1 c1 z1 W)) ∧ (W.cell? ⟨b2, 0, none⟩ = some (.slice a2 l2 c2) ∧ Hid (HV w b2 a2 l2 c2 z2 W)) ∧ (W.cell? ⟨b3, 0, none⟩ = some (.slice a3 l3 c3) ∧ Hid (HV w b3 a3 l3 c3 z3 W))) :
    (W'.cell? ⟨b1, 0, none⟩ = some (.slice a1 l1 c1) ∧ Hid (HV w b1 a1 l1 c1 z1 W')) ∧ (W'.cell? ⟨b2, 0, none⟩ = some (.slice a2 l2 c2) ∧ Hid (HV w b2 a2 l2 c2 z2 W')) ∧ (W'.cell? ⟨b3, 0, none⟩ = some (.slice a3 l3 c3) ∧ Hid (HV w b3 a3 l3 c3 z3 W')) :=
  ⟨HV.call hb h.1, HV.call hb h.2.1, HV.call hb h.2.2⟩
end Go.Proofs.YtblafbbnplfpjaaGreatDoor

namespace Go.Proofs.YtblafbbnplfpjaaGreatDoor
open Go.RowKit Go.Shelf

end Go.Proofs.YtblafbbnplfpjaaGreatDoor
namespace Go.Proofs.YtblafbbnplfpjaaGreatDoor

/-- Behind k places of adding. -/
def BInv (cs0 ls : List Int) (b : Int) (off k : Nat) (c : Int) (cs : List Int) : Prop :=
  cs.length = cs0.length ∧ Limbs cs ∧ (∀ j, j < off ∨ off + k ≤ j → cs.getD j 0 = cs0.getD j 0) ∧ num cs + c * pw (off + k) = num cs0 + num (ls.take k) * b * pw off ∧ 0 ≤ c ∧ c < 18446744073709551616
/-- Behind k places of taking off. -/
def RInv (cs0 ls : List Int) (b : Int) (off k : Nat) (c : Int) (cs : List Int) : Prop :=
  cs.length = cs0.length ∧ Limbs cs ∧ (∀ j, j < off ∨ off + k ≤ j → cs.getD j 0 = cs0.getD j 0) ∧ num cs - c * pw (off + k) = num cs0 - num (ls.take k) * b * pw off ∧ 0 ≤ c ∧ c < 18446744073709551616
theorem binv_start {cs ls : List Int} {b : Int} {off : Nat} (h : Limbs cs) : BInv cs ls b off 0 0 cs := ⟨rfl, h, fun _ _ => rfl, by simp [num], by decide, by decide⟩
theorem rinv_start {cs ls : List Int} {b : Int} {off : Nat} (h : Limbs cs) : RInv cs ls b off 0 0 cs := ⟨rfl, h, fun _ _ => rfl, by simp [num], by decide, by decide⟩
theorem mul_word {x b : Int} (hx : 0 ≤ x ∧ x < 18446744073709551616) (hb : 0 ≤ b ∧ b < 18446744073709551616) : 0 ≤ x * b ∧ x * b ≤ 18446744073709551615 * 18446744073709551615 :=
  ⟨Int.mul_nonneg hx.1 hb.1, Int.mul_le_mul (by omega) (by omega) hb.1 (by decide)⟩
theorem ring_add {N N0 T v y c q x b po pk p : Int} (hd : v + 18446744073709551616 * q = x * b + y + c) (i4 : N + c * p = N0 + T * b * po) (hp : p = po * pk) :
    N + (v - y) * p + q * (18446744073709551616 * p) = N0 + (T + x * pk) * b * po := by grind
theorem ring_sub {N N0 T v y c q x b po pk p : Int} (hd : v + 18446744073709551616 * q = y - x * b - c) (i4 : N - c * p = N0 - T * b * po) (hp : p = po * pk) :
    N + (v - y) * p - -q * (18446744073709551616 * p) = N0 - (T + x * pk) * b * po := by grind
theorem binv_step {cs0 ls cs : List Int} {b : Int} {off k : Nat} {c : Int} (hl : Limbs ls) (hb : 0 ≤ b ∧ b < 18446744073709551616) (I : BInv cs0 ls b off k c cs) (h : off + k < cs0.length) :
    BInv cs0 ls b off (k + 1) ((ls.getD k 0 * b + cs.getD (off + k) 0 + c) / 18446744073709551616) (cs.set (off + k) ((ls.getD k 0 * b + cs.getD (off + k) 0 + c) % 18446744073709551616)) := by
  obtain ⟨i1, i2, i3, i4, i5, i6⟩ := I
  have b1 := i2.getD (off + k); have b2 := hl.getD k
  obtain ⟨p1, p2⟩ := mul_word b2 hb
  have hs := num_set (cs := cs) (i := off + k) ((ls.getD k 0 * b + cs.getD (off + k) 0 + c) % 18446744073709551616) (by omega)
  have ht := num_take_succ ls k
  have hpw : pw (off + (k + 1)) = 18446744073709551616 * pw (off + k) := rfl
  have hpa := pw_add off k
  generalize ls.getD k 0 = x at *
  generalize cs.getD (off + k) 0 = y at *
  have hd : (x * b + y + c) % 18446744073709551616 + 18446744073709551616 * ((x * b + y + c) / 18446744073709551616) = x * b + y + c := by omega
  refine ⟨by rw [List.length_set]; exact i1, i2.set _ ⟨by omega, by omega⟩, fun j hj => by rw [getD_set_other _ _ _ _ (by omega)]; exact i3 j (by omega), ?_, by omega, by omega⟩
  rw [hs, hpw, ht]
  exact ring_add hd i4 hpa
theorem rinv_step {cs0 ls cs : List Int} {b : Int} {off k : Nat} {c : Int} (hl : Limbs ls) (hb : 0 ≤ b ∧ b < 18446744073709551616) (I : RInv cs0 ls b off k c cs) (h : off + k < cs0.length) :
    RInv cs0 ls b off (k + 1) (-((cs.getD (off + k) 0 - ls.getD k 0 * b - c) / 18446744073709551616)) (cs.set (off + k) ((cs.getD (off + k) 0 - ls.getD k 0 * b - c) % 18446744073709551616)) := by
  obtain ⟨i1, i2, i3, i4, i5, i6⟩ := I
  have b1 := i2.getD (off + k); have b2 := hl.getD k
  obtain ⟨p1, p2⟩ := mul_word b2 hb
  have hs := num_set (cs := cs) (i := off + k) ((cs.getD (off + k) 0 - ls.getD k 0 * b - c) % 18446744073709551616) (by omega)
  have ht := num_take_succ ls k
  have hpw : pw (off + (k + 1)) = 18446744073709551616 * pw (off + k) := rfl
  have hpa := pw_add off k
  generalize ls.getD k 0 = x at *
  generalize cs.getD (off + k) 0 = y at *
  have hd : (y - x * b - c) % 18446744073709551616 + 18446744073709551616 * ((y - x * b - c) / 18446744073709551616) = y - x * b - c := by omega
  refine ⟨by rw [List.length_set]; exact i1, i2.set _ ⟨by omega, by omega⟩, fun j hj => by rw [getD_set_other _ _ _ _ (by omega)]; exact i3 j (by omega), ?_, by omega, by omega⟩
  rw [hs, hpw, ht]
  exact ring_sub hd i4 hpa
end Go.Proofs.YtblafbbnplfpjaaGreatDoor

namespace Go.Proofs.YtblafbbnplfpjaaGreatDoor
open Go.RowKit Go.Shelf

set_option maxHeartbeats 1000000 in
theorem addTimes_any (g off n cr cl : Nat) (cs0 ls : List Int) (l : Option Addr) (b : Int) (w : World) (ho : Own w g cs0) (hL : Limbs cs0) (hf : off + n ≤ cs0.length) (hl : Sx g w l n ls) (hn : n ≤ 40000000000000) (hb : Word b) :
    Calls Tryz.prog 187 #[.slice (some ⟨g, off, none⟩) n cr, .slice l n cl, .int .u64 b] w fun e w' =>
      ∃ c ds, e = .returned (.int .u64 c) ∧ Own w' g ds ∧ BInv cs0 ls b off n c ds ∧ Only g w w' := by
  have HI0 : Hid (BInv cs0 ls b off 0 0 cs0) := binv_start hL
  have HO0 : Hid (Own w g cs0) := ho
  have HSX : Hid (Sx g w l n ls) := hl
  have hLl := hl.1.2.1
  have HLL : Hid (Limbs ls) := hLl
  clear ho hl hLl
  go_enter Tryz.func187, Tryz.ntmps187
  go_wp2_with fail
  go_loopw [7, 16] (fun cc i wr => ∃ (k : Nat) (c : Int) (cs : List Int), k ≤ n ∧ i = .int .i64 k ∧ cc = .int .u64 c ∧ Hid (BInv cs0 ls b off k c cs) ∧ Hid (Own wr g cs) ∧ Hid (Only g w wr)) (fun _ i _ => n - (intOf i).toNat)
  case atStart => exact ⟨0, 0, _, Nat.zero_le _, rfl, rfl, HI0, HO0, Only.refl _ _⟩
  case round =>
    obtain ⟨k, c, cs, hk, rfl, rfl, hI, ho, hbl⟩ := hrel
    by_cases hlt : k < n
    · have hlen := hI.out.1
      have hcx := ho.out.cell (off + k) (by omega)
      have hfx := ho.out.frozen (off + k)
      obtain ⟨⟨hz, -, hs3⟩, -⟩ := HSX.out.only hbl.out
      obtain ⟨lb, lo, rfl, hcl⟩ := hs3 (by omega)
      have hcy := hcl k hlt
      have hw1 := hI.out.2.1.getD (off + k)
      have hw2 := HLL.out.getD k
      have hc0 := hI.out.2.2.2.2.1
      have hc1 := hI.out.2.2.2.2.2
      have hstep := binv_step HLL.out hb hI.out (show off + k < cs0.length by omega)
      obtain ⟨x, hx⟩ : ∃ x, ls.getD k 0 = x := ⟨_, rfl⟩
      obtain ⟨y, hy⟩ : ∃ y, cs.getD (off + k) 0 = y := ⟨_, rfl⟩
      rw [hx] at hcy hw2
      rw [hy] at hcx hw1
      rw [hx, hy] at hstep
      have M := mul_any x b hw2 hb wr
      obtain ⟨hh, hh1⟩ : ∃ h, x * b / 18446744073709551616 = h := ⟨_, rfl⟩
      obtain ⟨ll, ll1⟩ : ∃ l, x * b % 18446744073709551616 = l := ⟨_, rfl⟩
      have hxb : x * b = hh * 18446744073709551616 + ll := by omega
      rw [hh1, ll1] at M
      have hlw : Word ll := by rw [← ll1]; exact word_mod _
      have hlw' := hlw
      obtain ⟨l1, l2⟩ := hlw'
      have A := add_any ll y c hlw hw1 ⟨hc0, hc1⟩ wr
      have q1 : (x * b + y + c) % 18446744073709551616 = (ll + y + c) % 18446744073709551616 := by rw [hxb]; omega
      have q2 : (x * b + y + c) / 18446744073709551616 = hh + (ll + y + c) / 18446744073709551616 := by rw [hxb]; omega
      rw [q1, q2] at hstep
      have p1 := hstep.2.2.2.2.1
      have p2 := hstep.2.2.2.2.2
      have hh0 : 0 ≤ hh := by rw [← hh1]; exact Int.ediv_nonneg (Int.mul_nonneg hw2.1 hb.1) (by omega)
      obtain ⟨V, hV⟩ : ∃ V, (ll + y + c) % 18446744073709551616 = V := ⟨_, rfl⟩
      obtain ⟨E, hE⟩ : ∃ E, (ll + y + c) / 18446744073709551616 = E := ⟨_, rfl⟩
      rw [hV, hE] at A
      rw [hV] at hstep
      have hcc : hh + (ll + y + c) / 18446744073709551616 = hh + E := by omega
      rw [hcc] at hstep p1 p2
      have he0 : 0 ≤ E := by omega
      have HS : Hid (BInv cs0 ls b off (k + 1) (hh + E) (cs.set (off + k) V)) := hstep
      clear hstep hx hy hh1 ll1 hxb q1 q2 hV hE hcc hcl hs3 hz
      go_wp2_with fail
      refine M.mono ?_
      rintro e w2 ⟨rfl, rfl⟩
      go_wp2_with fail
      refine A.mono ?_
      rintro e w2 ⟨rfl, rfl⟩
      go_wp2_with fail
      go_roundw
      case rel => exact ⟨k + 1, _, _, by omega, by go_num, rfl, HS, Own.set ho.out (off + k) _, Only.set hbl.out (off + k) _⟩
      case measure => simp [intOf]; omega
    · obtain rfl : k = n := by omega
      go_wp2_with fail
      go_ret
      exact ⟨c, cs, rfl, ho.out, hI.out, hbl.out⟩
end Go.Proofs.YtblafbbnplfpjaaGreatDoor

namespace Go.Proofs.YtblafbbnplfpjaaGreatDoor
open Go.RowKit Go.Shelf

/-- Behind i limbs of the second list. -/
def PrInv (xs ys : List Int) (la lb i : Nat) (cs : List Int) : Prop :=
  cs.length = la + lb ∧ Limbs cs ∧ (∀ j, i + la ≤ j → cs.getD j 0 = 0) ∧ num cs = num xs * num (ys.take i)
theorem prinv_start {xs ys : List Int} {la lb : Nat} : PrInv xs ys la lb 0 (List.replicate (la + lb) 0) :=
  ⟨by simp, Limbs.zeros _, fun j _ => by rw [List.getD_eq_getElem?_getD, List.getElem?_replicate]; split <;> rfl, by rw [num_zeros]; simp [num]⟩
theorem prinv_step {xs ys cs ds : List Int} {la lb i : Nat} {c : Int} (hx : xs.length = la) (I : PrInv xs ys la lb i cs) (h : i < lb) (B : BInv cs xs (ys.getD i 0) i la c ds) : PrInv xs ys la lb (i + 1) (ds.set (i + la) c) := by
  obtain ⟨i1, i2, i3, i4⟩ := I
  obtain ⟨b1, b2, b3, b4, b5, b6⟩ := B
  have z : ds.getD (i + la) 0 = 0 := by rw [b3 _ (.inr (Nat.le_refl _))]; exact i3 _ (Nat.le_refl _)
  refine ⟨by rw [List.length_set]; omega, b2.set _ ⟨b5, b6⟩, fun j hj => ?_, ?_⟩
  · rw [getD_set_other _ _ _ _ (by omega), b3 j (.inr (by omega))]; exact i3 j (by omega)
  · rw [num_set c (by omega), z, num_take_succ]
    rw [List.take_of_length_le (by omega), i4] at b4
    rw [Int.sub_zero, b4]
    grind

set_option maxHeartbeats 1000000 in
theorem product_any (a b : Option Addr) (la ca lb cb : Nat) (xs ys : List Int) (w : World) (ha : Sl w a la xs) (hb : Sl w b lb ys) (h1 : la ≤ 10000000000000) (h2 : lb ≤ 10000000000000) :
    Calls Tryz.prog 167 #[.slice a la ca, .slice b lb cb] w fun e w' =>
      ∃ g cs, e = .returned (.slice (some ⟨g, 0, none⟩) (la + lb) (la + lb)) ∧ w.heap.size ≤ g ∧ Own w' g cs ∧ cs.length = la + lb ∧ Limbs cs ∧ num cs = num xs * num ys ∧ Below w.heap.size w w' := by
  have hmk := make_row (la + lb) (by omega)
  have en : ((la + lb : Nat) : Int) = (la : Int) + lb := by omega
  rw [en] at hmk
  have hza := ha.1
  have hzb := hb.1
  have HLB : Hid (Limbs ys) := hb.2.1
  have HA : Hid (Sl w a la xs) := ha
  have HB : Hid (Sl w b lb ys) := hb
  clear ha hb en
  go_enter Tryz.func167, Tryz.ntmps167
  go_wp2_with fail
  have B1 : Below w.heap.size w (w.alloc (Obj.cells (row (List.replicate (la + lb) 0)).toArray 124)) := (Below.refl _ _).alloc (Nat.le_refl _) _
  have XA : Hid (Sx w.heap.size (w.alloc (Obj.cells (row (List.replicate (la + lb) 0)).toArray 124)) a la xs) := HA.out.apart B1 (Nat.le_refl _)
  have XB : Hid (Sx w.heap.size (w.alloc (Obj.cells (row (List.replicate (la + lb) 0)).toArray 124)) b lb ys) := HB.out.apart B1 (Nat.le_refl _)
  have O1 : Hid (Own (w.alloc (Obj.cells (row (List.replicate (la + lb) 0)).toArray 124)) w.heap.size (List.replicate (la + lb) 0)) := heap_alloc_new w _
  generalize (w.alloc (Obj.cells (row (List.replicate (la + lb) 0)).toArray 124)) = w1 at *
  clear hmk HA HB
  go_loopw [16] (fun ii wr => ∃ (k : Nat) (cs : List Int), k ≤ lb ∧ ii = .int .i64 k ∧ Hid (PrInv xs ys la lb k cs) ∧ Hid (Own wr w.heap.size cs) ∧ Hid (Only w.heap.size w1 wr)) (fun ii _ => lb - (intOf ii).toNat)
  case atStart => exact ⟨0, _, Nat.zero_le _, rfl, prinv_start, O1, Only.refl _ _⟩
  case round =>
    obtain ⟨k, cs, hk, rfl, hI, ho, hbl⟩ := hrel
    by_cases hlt : k < lb
    · have hlen := hI.out.1
      obtain ⟨⟨-, -, hs3⟩, -⟩ := XB.out.only hbl.out
      obtain ⟨bb, bo, rfl, hcl⟩ := hs3 (by omega)
      have hcy := hcl k hlt
      have hw2 := HLB.out.getD k
      have HY : Hid (ys.getD k 0 = ys.getD k 0) := rfl
      have A := addTimes_any w.heap.size k la (la + lb - k) ca cs xs a (ys.getD k 0) wr ho.out hI.out.2.1 (by omega) (XA.out.only hbl.out) (by omega) hw2
      have ST := fun c ds => prinv_step (c := c) (ds := ds) hza hI.out hlt
      obtain ⟨y, hy⟩ : ∃ y, ys.getD k 0 = y := ⟨_, rfl⟩
      rw [hy] at hcy hw2 A
      simp only [hy] at ST
      clear hy HY hcl hs3
      have e2 : ((k : Int) + la).toNat = k + la := by omega
      have e3 : ((k : Int) + la).toNat - k = la := by omega
      go_wp2_with fail
      refine A.mono ?_
      rintro e w2 ⟨c, ds, rfl, ho2, hB, hon⟩
      have HI2 : Hid (PrInv xs ys la lb (k + 1) (ds.set (k + la) c)) := ST c ds hB
      have HO2 : Hid (Own w2 w.heap.size ds) := ho2
      have hcx := ho2.cell (k + la) (by rw [hB.1, hlen]; omega)
      have hfx := ho2.frozen (k + la)
      have HON : Hid (Only w.heap.size w1 w2) := hbl.out.trans hon
      clear A ST ho2 hB hon hI ho hbl
      go_wp2_with fail
      go_roundw
      case rel => exact ⟨k + 1, _, by omega, by go_num, HI2, Own.set HO2.out (k + la) _, Only.set HON.out (k + la) _⟩
      case measure => simp [intOf]; omega
    · obtain rfl : k = lb := by omega
      go_wp2_with fail
      go_ret
      refine ⟨_, cs, rfl, Nat.le_refl _, ho.out, hI.out.1, hI.out.2.1, ?_, B1.trans (hbl.out.below (Nat.le_refl _))⟩
      have := hI.out.2.2.2
      rw [List.take_of_length_le (by omega)] at this
      exact this

/-- What is long by more than one bit. -/
theorem long_by_bits {xs ys : List Int} (hx : Limbs xs) (hy : Limbs ys) (h : 262145 < bitsN xs + bitsN ys) (h1 : bitsN xs ≤ 262144) (h2 : bitsN ys ≤ 262144) : (2 : Int) ^ 262144 ≤ num xs * num ys := by
  have ux : 0 < usedN xs := by
    rcases Nat.eq_zero_or_pos (usedN xs) with h' | h'
    · have := bits_nought h'; omega
    · exact h'
  have uy : 0 < usedN ys := by
    rcases Nat.eq_zero_or_pos (usedN ys) with h' | h'
    · have := bits_nought h'; omega
    · exact h'
  obtain ⟨i, e1, i1, i2⟩ := bits_spec hx ux
  obtain ⟨j, e2, j1, j2⟩ := bits_spec hy uy
  have h3 : (2 : Int) ^ i * 2 ^ j ≤ num xs * num ys := Int.mul_le_mul i1 j1 (Int.le_of_lt (p2_pos _)) (num_nonneg hx)
  rw [← Int.pow_add] at h3
  exact Int.le_trans (p2_mono (by omega)) h3
theorem pw_4096 : pw 4096 = 2 ^ 262144 := by rw [pw_eq]

set_option maxRecDepth 20000 in
set_option maxHeartbeats 2000000 in
theorem nmul_ok (a b : Option Addr) (la ca lb cb : Nat) (xs ys : List Int) (w : World) (ha : Nt w a la ca xs) (hb : Nt w b lb cb ys) (hfit : num xs * num ys < pw 4096) :
    Calls Tryz.prog 140 #[.agg #[.slice a la ca], .agg #[.slice b lb cb]] w fun e w' => ∃ a' l' c' zs, e = .returned (.tuple #[.agg #[.slice a' l' c'], .int .i64 0]) ∧ Nt w' a' l' c' zs ∧ num zs = num xs * num ys ∧ Below w.heap.size w w' := by
  have l1 := ha.2; have l2 := hb.2
  have bx := bits_limbs ha.limbs; have byy := bits_limbs hb.limbs
  have hsum : bitsN xs + bitsN ys ≤ 262145 := by
    rcases Int.lt_or_le 262145 (bitsN xs + bitsN ys) with h | h
    · have := long_by_bits ha.limbs hb.limbs h (by omega) (by omega)
      rw [← pw_4096] at this; omega
    · exact h
  have A := fun W h => nbits_any a la ca xs W h
  have B := fun W h => nbits_any b lb cb ys W h
  have b0 := bx.1; have b1 := byy.1
  obtain ⟨p, hp⟩ : ∃ p, bitsN xs = p := ⟨_, rfl⟩
  obtain ⟨q, hq⟩ : ∃ q, bitsN ys = q := ⟨_, rfl⟩
  simp only [hp] at A
  simp only [hq] at B
  rw [hp, hq] at hsum
  rw [hp] at b0
  rw [hq] at b1
  have ew : IntKind.i64.wrap (p + q) = p + q := by rw [IntKind.wrap_i64]; omega
  have HF : ∀ cs, Limbs cs → num cs = num xs * num ys → usedN cs ≤ 4096 := fun cs h e => used_of_lt h (by rw [e]; exact hfit)
  clear hp hq bx byy hfit
  go_enter Tryz.func140, Tryz.ntmps140
  go_wp2_with fail
  refine ent3 w _ _ _ _ _ _ (Q := fun W => Code.wp Tryz.prog _ _ _ W) ?_
  intro w0 B0 hs V0 V1 V2
  replace ha := ha.below B0 (Nat.le_refl _)
  replace hb := hb.below B0 (Nat.le_refl _)
  have c0 := V0.cell
  have c1 := V1.cell
  go_region_with (first
    | (go_at_call 165; refine (A w0.drew ha).mono ?_; rintro e wa ⟨rfl, ba0⟩; have ba : Below w0.heap.size w0 wa := ⟨ba0.os, ba0.tape, ba0.output, ba0.size, ba0.block⟩; clear ba0; have B0a := step B0 ba; have V0a := Va.after ba V0; have V1a := Va.after ba V1; have V2a := Va.after ba V2; have c1a := V1a.cell; have haa := Nt.after ba ha; have hba := Nt.after ba hb)
    | (go_at_call 165; refine (B _ hba).mono ?_; rintro e wb ⟨rfl, bb0⟩; have bb : Below wa.heap.size wa wb := ⟨bb0.os, bb0.tape, bb0.output, bb0.size, bb0.block⟩; clear bb0; have B0b := step B0a bb; have V0b := Va.after bb V0a; have V1b := Va.after bb V1a; have V2b := Va.after bb V2a; have hab := Nt.after bb haa; have hbb := Nt.after bb hba))
  all_goals
    clear A B ba bb V0 V1 V2 V0a V1a V2a c0 c1 c1a ha hb haa hba B0 B0a
    have c0 := V0b.cell
    have c1 := V1b.cell
    have g1 : decide ((262145 : Int) < p + q) = false := by simp; omega
    clear hsum
    simp only [g1]
    go_wp2_with fail
    refine (product_any a b la ca lb cb xs ys wb hab.1 hbb.1 (by omega) (by omega)).mono ?_
    rintro e w3 ⟨g, cs, rfl, hg, ho, hlen, hL, hn, hb3⟩
    have hsl := ho.sl hL
    rw [hlen] at hsl
    have hm : usedN cs ≤ 4096 := HF cs hL hn
    replace V2b := V2b.kept hb3
    replace B0b := step B0b hb3
    go_wp2_with fail
    refine (made_ok _ (la + lb) (la + lb) cs w3 hsl (by omega) (Nat.le_refl _) hm).mono ?_
    rintro e w4 ⟨rfl, hb4⟩
    have hnt := nt_made (hsl.below hb4 (Nat.le_refl _)) (Nat.le_refl _) hm
    replace V2b := V2b.kept hb4
    replace B0b := step B0b hb4
    have c2 := V2b.cell
    have f2 := V2b.frozen 0
    go_wp2_with fail
    have B1 := B0b.setCell (p := ⟨w.heap.size + 1 + 1, 0, none⟩) (by show _ ≤ w.heap.size + 1 + 1; omega)
    refine bodyPost_ret (results_ct rfl rfl (V2b.set _)) rfl ?_
    exact ⟨_, _, _, _, rfl, hnt.store V2b _, (num_take_used cs (Nat.le_refl _)).trans hn, B1 _⟩
end Go.Proofs.YtblafbbnplfpjaaGreatDoor
