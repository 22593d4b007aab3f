import Derived.Test.YtblafbbnplfpjaaGreatDoorMgAd
import Derived.Test.YtblafbbnplfpjaaGreatDoorMgAc
import Derived.Deep.RegionWith
namespace Go.Proofs.YtblafbbnplfpjaaGreatDoor
open Go.RowKit Go.Shelf

def Nt (w : World) (a : Option Addr) (len cap : Nat) (zs : List Int) : Prop := Sl w a len zs ∧ usedN zs = len ∧ len ≤ cap ∧ len ≤ 4096
theorem Nt.below {w w' : World} {a : Option Addr} {len cap : Nat} {zs : List Int} {B : Nat} (h : Nt w a len cap zs) (b : Below B w w') (hB : w.heap.size ≤ B) : Nt w' a len cap zs := ⟨h.1.below b hB, h.2⟩
theorem Nt.after {w w' : World} (b : Below w.heap.size w w') {a : Option Addr} {len cap : Nat} {zs : List Int} (h : Nt w a len cap zs) : Nt w' a len cap zs := h.below b (Nat.le_refl _)
theorem Nt.a {w w' : World} (b : Below w.heap.size w w') {a : Option Addr} {len cap : Nat} {zs : List Int} (h : Nt w a len cap zs) : Nt w' a len cap zs := h.below b (Nat.le_refl _)
theorem Nt.limbs {w : World} {a : Option Addr} {len cap : Nat} {zs : List Int} (h : Nt w a len cap zs) : Limbs zs := h.1.2.1
theorem Nt.nil (w : World) : Nt w none 0 0 [] := ⟨⟨rfl, Limbs.nil, fun h => absurd h (by decide)⟩, rfl, Nat.le_refl _, by omega⟩

theorem Sl.store {w : World} {a : Option Addr} {len : Nat} {zs : List Int} (h : Sl w a len zs) {b : Nat} {t : TypeId} {x : Option Addr} {y z : Nat} (V : Va w b t #[.slice x y z]) (v : Value) : Sl (w.setCell ⟨b, 0, none⟩ v) a len zs := by
  obtain ⟨h1, h2, h3⟩ := h
  refine ⟨h1, h2, fun h0 => ?_⟩
  obtain ⟨bb, off, rfl, hc⟩ := h3 h0
  refine ⟨bb, off, rfl, fun i hi => ?_⟩
  have hne : bb ≠ b := by
    rintro rfl
    have e := hc 0 h0
    rw [V.cellAt] at e
    rcases Nat.eq_zero_or_pos (off + 0) with h' | h'
    · rw [h'] at e; simp at e
    · rw [Array.getElem?_eq_none (by simp; omega)] at e; cases e
  rw [← hc i hi]
  exact World.cell?_of_block (w := w) (Below.heap_setCell _ _ _ _ hne)
theorem Nt.store {w : World} {a : Option Addr} {len cap : Nat} {zs : List Int} (h : Nt w a len cap zs) {b : Nat} {t : TypeId} {x : Option Addr} {y z : Nat} (V : Va w b t #[.slice x y z]) (v : Value) : Nt (w.setCell ⟨b, 0, none⟩ v) a len cap zs := ⟨h.1.store V v, h.2⟩

theorem isZero_any (a : Option Addr) (len cap : Nat) (w : World) :
    Calls Tryz.prog 102 #[.agg #[.slice a len cap]] w fun e w' => e = .returned (.bool ((len : Int) == 0)) ∧ Below w.heap.size w w' := by
  go_enter Tryz.func102, Tryz.ntmps102
  go_wp2_with fail
  go_ret
  exact ⟨rfl, (Below.refl _ _).alloc (Nat.le_refl _) _⟩

theorem small_any (x : Int) (hx : Word x) (w : World) :
    Calls Tryz.prog 103 #[.int .u64 x] w fun e w' => ∃ a len cap zs, e = .returned (.agg #[.slice a len cap]) ∧ Nt w' a len cap zs ∧ num zs = x ∧ Below w.heap.size w w' := by
  by_cases h0 : x = 0
  · subst h0
    go_enter Tryz.func103, Tryz.ntmps103
    go_wp2_with fail
    refine bodyPost_ret (results_c rfl rfl (Va.new w _ _)) rfl ?_
    exact ⟨_, _, _, [], rfl, Nt.nil _, rfl, (Below.refl _ _).alloc (Nat.le_refl _) _⟩
  · have g1 : (x == 0) = false := by simpa using h0
    go_enter Tryz.func103, Tryz.ntmps103
    go_wp2_with fail
    refine bodyPost_ret (results_c rfl rfl ((Va.new w _ _).old _)) rfl ?_
    have s := sl_one (w.alloc (Obj.cells #[Value.slice (some { block := w.heap.size + 1, off := 0 }) 1 1] 62)) x hx
    simp only [World.alloc, Array.size_push] at s
    refine ⟨_, _, _, [x], rfl, ⟨s, ?_, Nat.le_refl _, by omega⟩, by simp [num], ((Below.refl _ _).alloc (Nat.le_refl _) _).alloc (by simp) _⟩
    simp [usedN, h0]

theorem nbits_any (a : Option Addr) (len cap : Nat) (zs : List Int) (w : World) (h : Nt w a len cap zs) :
    Calls Tryz.prog 165 #[.agg #[.slice a len cap]] w fun e w' => e = .returned (.int .i64 (bitsN zs)) ∧ Below w.heap.size w w' := by
  obtain ⟨hs, hu, hc, hl⟩ := h
  go_enter Tryz.func165, Tryz.ntmps165
  go_wp2_with fail
  refine ent1 w _ _ (Q := fun W => Calls Tryz.prog _ _ W _) ?_
  intro w0 B0 hsz V0
  have T := bits_any a len cap zs w0 (hs.below B0 (Nat.le_refl _)) (by omega)
  refine T.mono ?_
  rintro e w' ⟨rfl, rfl⟩
  go_wp2_with fail
  go_ret
  exact ⟨rfl, B0⟩

theorem bits_limbs {zs : List Int} (h : Limbs zs) : 0 ≤ bitsN zs ∧ (bitsN zs + 64 - 1) / 64 = usedN zs ∧ bitsN zs ≤ 64 * usedN zs := by
  rcases Nat.eq_zero_or_pos (usedN zs) with h0 | h0
  · have : bitsN zs = 0 := bits_nought h0
    rw [this, h0]; decide
  · have ht := usedN_top zs h0
    have hw := h.getD (usedN zs - 1)
    obtain ⟨p1, p2⟩ := bitLen_spec 64 (zs.getD (usedN zs - 1) 0).toNat (by omega) (by omega)
    have h1 : Lib.bitLen (zs.getD (usedN zs - 1) 0).toNat ≤ 64 := Lib.bitLen_le _ 64 (by omega) (by omega)
    have h2 : Lib.bitLen (zs.getD (usedN zs - 1) 0).toNat ≠ 0 := by
      intro e
      rw [e] at p1
      omega
    simp only [bitsN, if_neg (show usedN zs ≠ 0 by omega)]
    omega

theorem made_ok (a : Option Addr) (len cap : Nat) (zs : List Int) (w : World) (h : Sl w a len zs) (hl : len ≤ 40000000000000) (hc : len ≤ cap) (hu : usedN zs ≤ 4096) :
    Calls Tryz.prog 166 #[.slice a len cap] w fun e w' => e = .returned (.tuple #[.agg #[.slice a (usedN zs) cap], .int .i64 0]) ∧ Below w.heap.size w w' := by
  have hul := usedN_le zs
  have hz := h.1
  obtain ⟨q0, q1, q2⟩ := bits_limbs h.2.1
  have T := fun W h => bits_any a len cap zs W h hl
  have hT : ∀ w0, Below w.heap.size w w0 → Sl w0 a len zs := fun w0 B0 => h.below B0 (Nat.le_refl _)
  obtain ⟨b, hb⟩ : ∃ b, bitsN zs = b := ⟨_, rfl⟩
  rw [hb] at q0 q1 q2
  simp only [hb] at T
  obtain ⟨n, hn⟩ : ∃ n, usedN zs = n := ⟨_, rfl⟩
  rw [hn] at q1 q2 hu hul ⊢
  have q3 : n ≤ cap := by omega
  clear h hz hb hn
  go_enter Tryz.func166, Tryz.ntmps166
  go_wp2_with fail
  refine ent1 w _ _ (Q := fun W => Calls Tryz.prog _ _ W _) ?_
  intro w0 B0 hsz V0
  refine (T w0 (hT w0 B0)).mono ?_
  clear T hT
  rintro e w' ⟨rfl, rfl⟩
  have c0 := V0.cell
  have f0 := V0.frozen 0
  have B1 := B0.setCell (p := ⟨w.heap.size, 0, none⟩) (Nat.le_refl _)
  cases a with
  | none =>
    go_wp2_with fail
    refine bodyPost_ret (results_ct rfl rfl (V0.set _)) rfl ?_
    exact ⟨rfl, B1 _⟩
  | some a =>
    go_wp2_with fail
    refine bodyPost_ret (results_ct rfl rfl (V0.set _)) rfl ?_
    exact ⟨rfl, B1 _⟩

theorem nt_made {w : World} {a : Option Addr} {len cap : Nat} {zs : List Int} (h : Sl w a len zs) (hc : len ≤ cap) (hu : usedN zs ≤ 4096) : Nt w a (usedN zs) cap (zs.take (usedN zs)) := by
  have hul := usedN_le zs
  have hz := h.1
  exact ⟨h.take (by omega), usedN_take zs (Nat.le_refl _), by omega, hu⟩
theorem used_of_lt {zs : List Int} (h : Limbs zs) {n : Nat} (hlt : num zs < pw n) : usedN zs ≤ n := by
  rcases Nat.lt_or_ge n (usedN zs) with h' | h'
  · have := num_ge_used h (by omega); have := pw_mono (show n ≤ usedN zs - 1 by omega); omega
  · exact h'
theorem lt_of_used {zs : List Int} (h : Limbs zs) {n : Nat} (hu : usedN zs ≤ n) : num zs < pw n := Int.lt_of_lt_of_le (num_lt_used h) (pw_mono hu)
theorem Nt.lt {w : World} {a : Option Addr} {len cap : Nat} {zs : List Int} (h : Nt w a len cap zs) : num zs < pw 4096 := lt_of_used h.limbs (by have := h.2; omega)
theorem Nt.nonneg {w : World} {a : Option Addr} {len cap : Nat} {zs : List Int} (h : Nt w a len cap zs) : 0 ≤ num zs := num_nonneg h.limbs
theorem Nt.zero {w : World} {a : Option Addr} {len cap : Nat} {zs : List Int} (h : Nt w a len cap zs) : ((len : Int) == 0) = decide (num zs = 0) := by
  have e := num_eq_zero h.limbs
  rw [h.2.1] at e
  rw [Bool.eq_iff_iff]; simp; omega
theorem Nt.one {w w' : World} {a a' : Option Addr} {len len' cap cap' : Nat} {zs zs' : List Int} (h : Nt w a len cap zs) (h' : Nt w' a' len' cap' zs') (e : num zs = num zs') : len = len' ∧ zs = zs' := by
  obtain ⟨e1, e2⟩ := one_list h.limbs h'.limbs h.1.1 h.2.1 e
  have hz := h'.1.1
  rw [h'.2.1] at e1 e2
  rw [List.take_of_length_le (by omega)] at e2
  exact ⟨e1, e2⟩

theorem ncompare_any (a b : Option Addr) (la ca lb cb : Nat) (xs ys : List Int) (w : World) (ha : Nt w a la ca xs) (hb : Nt w b lb cb ys) :
    Calls Tryz.prog 99 #[.agg #[.slice a la ca], .agg #[.slice b lb cb]] w fun e w' => e = .returned (.int .i64 (cmp3 (num xs) (num ys))) ∧ Below w.heap.size w w' := by
  have l1 := ha.2; have l2 := hb.2
  go_enter Tryz.func99, Tryz.ntmps99
  go_wp2_with fail
  refine ent2 w _ _ _ _ (Q := fun W => Calls Tryz.prog _ _ W _) ?_
  intro w0 B0 hs V0 V1
  replace ha := ha.below B0 (Nat.le_refl _)
  replace hb := hb.below B0 (Nat.le_refl _)
  refine (compare_b a b la ca lb cb xs ys _ ha.1 hb.1 (by omega) (by omega)).mono ?_
  rintro e w1 ⟨rfl, hb1⟩
  replace B0 := step B0 hb1
  go_wp2_with fail
  go_ret
  exact ⟨rfl, B0⟩

end Go.Proofs.YtblafbbnplfpjaaGreatDoor

namespace Go.Proofs.YtblafbbnplfpjaaGreatDoor
open Go.RowKit Go.Shelf

structure Only (g : Nat) (w w' : World) : Prop where
  bel : Below g w w'
  oth : ∀ k, k ≠ g → w'.heap[k]? = w.heap[k]?
theorem Only.refl (g : Nat) (w : World) : Only g w w := ⟨Below.refl _ _, fun _ _ => rfl⟩
theorem Only.trans {g : Nat} {a b c : World} (h : Only g a b) (k : Only g b c) : Only g a c := ⟨h.bel.trans k.bel, fun i hi => (k.oth i hi).trans (h.oth i hi)⟩
theorem Only.drew {g : Nat} {a w : World} (h : Only g a w) : Only g a w.drew := ⟨h.bel.drew, h.oth⟩
theorem Only.drewN {g : Nat} {a w : World} (h : Only g a w) (n : Nat) : Only g a (w.drewN n) := ⟨below_drewN h.bel n, h.oth⟩
theorem Only.set {g : Nat} {a w : World} (h : Only g a w) (i : Nat) (v : Value) : Only g a (w.setCell ⟨g, i, none⟩ v) :=
  ⟨h.bel.setCell (p := ⟨g, i, none⟩) (Nat.le_refl _) v, fun k hk => (Below.heap_setCell _ _ _ _ hk).trans (h.oth k hk)⟩
theorem Only.below {g B : Nat} {a w : World} (h : Only g a w) (hB : B ≤ g) : Below B a w := h.bel.mono hB
theorem Va.only {g : Nat} {w w' : World} {b : Nat} {t : TypeId} {cs : Array Value} (h : Va w b t cs) (o : Only g w w') (hne : b ≠ g) : Va w' b t cs := by
  unfold Va at *; rw [o.oth b hne]; exact h

def Sx (g : Nat) (w : World) (a : Option Addr) (len : Nat) (zs : List Int) : Prop := Sl w a len zs ∧ (0 < len → ∀ p, a = some p → p.block ≠ g)
theorem Sx.only {g : Nat} {w w' : World} {a : Option Addr} {len : Nat} {zs : List Int} (h : Sx g w a len zs) (o : Only g w w') : Sx g w' a len zs := by
  obtain ⟨⟨h1, h2, h3⟩, h4⟩ := h
  refine ⟨⟨h1, h2, fun h0 => ?_⟩, h4⟩
  obtain ⟨b, off, rfl, hc⟩ := h3 h0
  refine ⟨b, off, rfl, fun i hi => ?_⟩
  rw [← hc i hi]
  exact World.cell?_of_block (w := w) (o.oth b (h4 h0 _ rfl))
theorem Sl.lt {w : World} {a : Option Addr} {len : Nat} {zs : List Int} (h : Sl w a len zs) (h0 : 0 < len) {p : Addr} (hp : a = some p) : p.block < w.heap.size := by
  obtain ⟨b, off, rfl, hc⟩ := h.2.2 h0
  cases hp
  have hh := hc 0 h0
  rcases Nat.lt_or_ge b w.heap.size with h' | h'
  · exact h'
  · simp [World.cell?, Array.getElem?_eq_none h'] at hh
theorem Sl.apart {w w' : World} {a : Option Addr} {len : Nat} {zs : List Int} {g : Nat} (h : Sl w a len zs) (b : Below w.heap.size w w') (hg : w.heap.size ≤ g) : Sx g w' a len zs :=
  ⟨h.below b (Nat.le_refl _), fun h0 p hp => by have := h.lt h0 hp; omega⟩
theorem Own.only {g b : Nat} {w w' : World} {cs : List Int} (h : Own w b cs) (o : Only g w w') (hne : b ≠ g) : Own w' b cs := by
  unfold Own at *; rw [o.oth b hne]; exact h
theorem Own.piece {w : World} {g : Nat} {cs : List Int} (h : Own w g cs) (hL : Limbs cs) {off n : Nat} (hf : off + n ≤ cs.length) : Sl w (some ⟨g, off, none⟩) n ((cs.drop off).take n) :=
  ⟨seg_length cs off n hf, (hL.drop off).take n, fun _ => ⟨g, off, rfl, fun i hi => by rw [getD_seg _ _ _ _ hi]; exact h.cell (off + i) (by omega)⟩⟩
end Go.Proofs.YtblafbbnplfpjaaGreatDoor

namespace Go.Proofs.YtblafbbnplfpjaaGreatDoor
open Go.RowKit Go.Shelf

theorem nright_ok (a : Option Addr) (la ca : Nat) (xs : List Int) (t : Nat) (w : World) (ha : Nt w a la ca xs) (htb : t ≤ 9223372036854775807) :
    Calls Tryz.prog 195 #[.agg #[.slice a la ca], .int .i64 t] w fun e w' => ∃ a' l' c' zs, e = .returned (.tuple #[.agg #[.slice a' l' c'], .int .i64 0]) ∧ Nt w' a' l' c' zs ∧ num zs = num xs / 2 ^ t ∧ Below w.heap.size w w' := by
  have l1 := ha.2
  go_enter Tryz.func195, Tryz.ntmps195
  go_wp2_with fail
  refine ent2 w _ _ _ _ (Q := fun W => Calls Tryz.prog _ _ W _) ?_
  intro w0 B0 hs V0 V1
  replace ha := ha.below B0 (Nat.le_refl _)
  refine (right_val a la ca xs t w0 ha.1 (by omega) ha.2.2.1 htb).mono ?_
  rintro e w1 ⟨a', m, c, zs, rfl, hmc, hm2, hsl, hu, hn, hb1⟩
  replace V1 := V1.kept hb1
  replace B0 := step B0 hb1
  have c1 := V1.cell
  have f1 := V1.frozen 0
  go_wp2_with fail
  have B1 := B0.setCell (p := ⟨w.heap.size + 1, 0, none⟩) (by show _ ≤ w.heap.size + 1; omega)
  refine bodyPost_ret (results_ct rfl rfl (V1.set _)) rfl ?_
  exact ⟨_, _, _, zs, rfl, ⟨hsl.store V1 _, hu, hmc, by omega⟩, hn, B1 _⟩

theorem uint64_small (a : Option Addr) (la ca : Nat) (xs : List Int) (w : World) (ha : Nt w a la ca xs) (hlt : num xs < 18446744073709551616) :
    Calls Tryz.prog 159 #[.agg #[.slice a la ca]] w fun e w' => e = .returned (.tuple #[.int .u64 (num xs), .bool true]) ∧ Below w.heap.size w w' := by
  have hu1 : usedN xs ≤ 1 := used_of_lt ha.limbs (by simpa [pw] using hlt)
  obtain ⟨hs, hu, hc, hl⟩ := ha
  have hz := hs.1
  have hla : la = 0 ∨ la = 1 := by omega
  rcases hla with rfl | rfl
  · have e0 : num xs = 0 := (num_eq_zero hs.2.1).2 hu
    rw [e0]
    go_enter Tryz.func159, Tryz.ntmps159
    go_wp2_with fail
    go_ret2
    exact ⟨rfl, (Below.refl _ _).alloc (Nat.le_refl _) _⟩
  · obtain ⟨x, rfl⟩ : ∃ x, xs = [x] := by
      match xs, hz with
      | [x], _ => exact ⟨x, rfl⟩
    have e0 : num [x] = x := by simp [num]
    rw [e0]
    have sl := fun w0 (B0 : Below w.heap.size w w0) => hs.below B0 (Nat.le_refl _)
    obtain ⟨b, off, rfl, hc0⟩ := hs.2.2 (by omega)
    have hlt0 : b < w.heap.size := by
      have hh := hc0 0 (by omega)
      rcases Nat.lt_or_ge b w.heap.size with h' | h'
      · exact h'
      · simp [World.cell?, Array.getElem?_eq_none h'] at hh
    have hcx := ((Below.refl w.heap.size w).alloc (Nat.le_refl _) (.cells #[.slice (some ⟨b, off, none⟩) 1 ca] 62)).cell (p := ⟨b, off + 0, none⟩) hlt0
    rw [hc0 0 (by omega)] at hcx
    simp only [Nat.add_zero, List.getD_cons_zero] at hcx
    go_enter Tryz.func159, Tryz.ntmps159
    go_wp2_with fail
    go_ret2
    exact ⟨rfl, (Below.refl _ _).alloc (Nat.le_refl _) _⟩
theorem uint64_great (a : Option Addr) (la ca : Nat) (xs : List Int) (w : World) (ha : Nt w a la ca xs) (hge : 18446744073709551616 ≤ num xs) :
    Calls Tryz.prog 159 #[.agg #[.slice a la ca]] w fun e w' => e = .returned (.tuple #[.int .u64 0, .bool false]) ∧ Below w.heap.size w w' := by
  have hla : 1 < la := by
    rcases Nat.lt_or_ge 1 la with h | h
    · exact h
    · have := lt_of_used ha.limbs (n := 1) (by rw [ha.2.1]; exact h)
      simp [pw] at this; omega
  have g0 : ((la : Int) == 0) = false := by simp; omega
  have g1 : ((la : Int) == 1) = false := by simp; omega
  go_enter Tryz.func159, Tryz.ntmps159
  go_wp2_with fail
  go_ret2
  exact ⟨rfl, (Below.refl _ _).alloc (Nat.le_refl _) _⟩
end Go.Proofs.YtblafbbnplfpjaaGreatDoor
namespace Go.Proofs.YtblafbbnplfpjaaGreatDoor

def BInv (cs0 ls : List Int) (b : Int) (off k : Nat) (c : Int) (cs : List Int) : Prop :=
  cs.length = cs0.length ∧ Limbs cs ∧ (∀ j, j < off ∨ off + k ≤ j → cs.getD j 0 = cs0.getD j 0) ∧ num cs + c * pw (off + k) = num cs0 + num (ls.take k) * b * pw off ∧ 0 ≤ c ∧ c < 18446744073709551616
def RInv (cs0 ls : List Int) (b : Int) (off k : Nat) (c : Int) (cs : List Int) : Prop :=
  cs.length = cs0.length ∧ Limbs cs ∧ (∀ j, j < off ∨ off + k ≤ j → cs.getD j 0 = cs0.getD j 0) ∧ num cs - c * pw (off + k) = num cs0 - num (ls.take k) * b * pw off ∧ 0 ≤ c ∧ c < 18446744073709551616
theorem binv_start {cs ls : List Int} {b : Int} {off : Nat} (h : Limbs cs) : BInv cs ls b off 0 0 cs := ⟨rfl, h, fun _ _ => rfl, by simp [num], by decide, by decide⟩
theorem rinv_start {cs ls : List Int} {b : Int} {off : Nat} (h : Limbs cs) : RInv cs ls b off 0 0 cs := ⟨rfl, h, fun _ _ => rfl, by simp [num], by decide, by decide⟩
theorem mul_word {x b : Int} (hx : 0 ≤ x ∧ x < 18446744073709551616) (hb : 0 ≤ b ∧ b < 18446744073709551616) : 0 ≤ x * b ∧ x * b ≤ 18446744073709551615 * 18446744073709551615 :=
  ⟨Int.mul_nonneg hx.1 hb.1, Int.mul_le_mul (by omega) (by omega) hb.1 (by decide)⟩
theorem ring_add {N N0 T v y c q x b po pk p : Int} (hd : v + 18446744073709551616 * q = x * b + y + c) (i4 : N + c * p = N0 + T * b * po) (hp : p = po * pk) :
    N + (v - y) * p + q * (18446744073709551616 * p) = N0 + (T + x * pk) * b * po := by grind
theorem ring_sub {N N0 T v y c q x b po pk p : Int} (hd : v + 18446744073709551616 * q = y - x * b - c) (i4 : N - c * p = N0 - T * b * po) (hp : p = po * pk) :
    N + (v - y) * p - -q * (18446744073709551616 * p) = N0 - (T + x * pk) * b * po := by grind
theorem binv_step {cs0 ls cs : List Int} {b : Int} {off k : Nat} {c : Int} (hl : Limbs ls) (hb : 0 ≤ b ∧ b < 18446744073709551616) (I : BInv cs0 ls b off k c cs) (h : off + k < cs0.length) :
    BInv cs0 ls b off (k + 1) ((ls.getD k 0 * b + cs.getD (off + k) 0 + c) / 18446744073709551616) (cs.set (off + k) ((ls.getD k 0 * b + cs.getD (off + k) 0 + c) % 18446744073709551616)) := by
  obtain ⟨i1, i2, i3, i4, i5, i6⟩ := I
  have b1 := i2.getD (off + k); have b2 := hl.getD k
  obtain ⟨p1, p2⟩ := mul_word b2 hb
  have hs := num_set (cs := cs) (i := off + k) ((ls.getD k 0 * b + cs.getD (off + k) 0 + c) % 18446744073709551616) (by omega)
  have ht := num_take_succ ls k
  have hpw : pw (off + (k + 1)) = 18446744073709551616 * pw (off + k) := rfl
  have hpa := pw_add off k
  generalize ls.getD k 0 = x at *
  generalize cs.getD (off + k) 0 = y at *
  have hd : (x * b + y + c) % 18446744073709551616 + 18446744073709551616 * ((x * b + y + c) / 18446744073709551616) = x * b + y + c := by omega
  refine ⟨by rw [List.length_set]; exact i1, i2.set _ ⟨by omega, by omega⟩, fun j hj => by rw [getD_set_other _ _ _ _ (by omega)]; exact i3 j (by omega), ?_, by omega, by omega⟩
  rw [hs, hpw, ht]
  exact ring_add hd i4 hpa
theorem rinv_step {cs0 ls cs : List Int} {b : Int} {off k : Nat} {c : Int} (hl : Limbs ls) (hb : 0 ≤ b ∧ b < 18446744073709551616) (I : RInv cs0 ls b off k c cs) (h : off + k < cs0.length) :
    RInv cs0 ls b off (k + 1) (-((cs.getD (off + k) 0 - ls.getD k 0 * b - c) / 18446744073709551616)) (cs.set (off + k) ((cs.getD (off + k) 0 - ls.getD k 0 * b - c) % 18446744073709551616)) := by
  obtain ⟨i1, i2, i3, i4, i5, i6⟩ := I
  have b1 := i2.getD (off + k); have b2 := hl.getD k
  obtain ⟨p1, p2⟩ := mul_word b2 hb
  have hs := num_set (cs := cs) (i := off + k) ((cs.getD (off + k) 0 - ls.getD k 0 * b - c) % 18446744073709551616) (by omega)
  have ht := num_take_succ ls k
  have hpw : pw (off + (k + 1)) = 18446744073709551616 * pw (off + k) := rfl
  have hpa := pw_add off k
  generalize ls.getD k 0 = x at *
  generalize cs.getD (off + k) 0 = y at *
  have hd : (y - x * b - c) % 18446744073709551616 + 18446744073709551616 * ((y - x * b - c) / 18446744073709551616) = y - x * b - c := by omega
  refine ⟨by rw [List.length_set]; exact i1, i2.set _ ⟨by omega, by omega⟩, fun j hj => by rw [getD_set_other _ _ _ _ (by omega)]; exact i3 j (by omega), ?_, by omega, by omega⟩
  rw [hs, hpw, ht]
  exact ring_sub hd i4 hpa
end Go.Proofs.YtblafbbnplfpjaaGreatDoor

namespace Go.Proofs.YtblafbbnplfpjaaGreatDoor
open Go.RowKit Go.Shelf

set_option maxHeartbeats 1000000 in
theorem addTimes_any (g off n cr cl : Nat) (cs0 ls : List Int) (l : Option Addr) (b : Int) (w : World) (ho : Own w g cs0) (hL : Limbs cs0) (hf : off + n ≤ cs0.length) (hl : Sx g w l n ls) (hn : n ≤ 40000000000000) (hb : Word b) :
    Calls Tryz.prog 187 #[.slice (some ⟨g, off, none⟩) n cr, .slice l n cl, .int .u64 b] w fun e w' =>
      ∃ c ds, e = .returned (.int .u64 c) ∧ Own w' g ds ∧ BInv cs0 ls b off n c ds ∧ Only g w w' := by
  have HI0 : Hid (BInv cs0 ls b off 0 0 cs0) := binv_start hL
  have HO0 : Hid (Own w g cs0) := ho
  have HSX : Hid (Sx g w l n ls) := hl
  have hLl := hl.1.2.1
  have HLL : Hid (Limbs ls) := hLl
  clear ho hl hLl
  go_enter Tryz.func187, Tryz.ntmps187
  go_wp2_with fail
  go_loopw [7, 16] (fun cc i wr => ∃ (k : Nat) (c : Int) (cs : List Int), k ≤ n ∧ i = .int .i64 k ∧ cc = .int .u64 c ∧ Hid (BInv cs0 ls b off k c cs) ∧ Hid (Own wr g cs) ∧ Hid (Only g w wr)) (fun _ i _ => n - (intOf i).toNat)
  case atStart => exact ⟨0, 0, _, Nat.zero_le _, rfl, rfl, HI0, HO0, Only.refl _ _⟩
  case round =>
    obtain ⟨k, c, cs, hk, rfl, rfl, hI, ho, hbl⟩ := hrel
    by_cases hlt : k < n
    · have hlen := hI.out.1
      have hcx := ho.out.cell (off + k) (by omega)
      have hfx := ho.out.frozen (off + k)
      obtain ⟨⟨hz, -, hs3⟩, -⟩ := HSX.out.only hbl.out
      obtain ⟨lb, lo, rfl, hcl⟩ := hs3 (by omega)
      have hcy := hcl k hlt
      have hw1 := hI.out.2.1.getD (off + k)
      have hw2 := HLL.out.getD k
      have hc0 := hI.out.2.2.2.2.1
      have hc1 := hI.out.2.2.2.2.2
      have hstep := binv_step HLL.out hb hI.out (show off + k < cs0.length by omega)
      obtain ⟨x, hx⟩ : ∃ x, ls.getD k 0 = x := ⟨_, rfl⟩
      obtain ⟨y, hy⟩ : ∃ y, cs.getD (off + k) 0 = y := ⟨_, rfl⟩
      rw [hx] at hcy hw2
      rw [hy] at hcx hw1
      rw [hx, hy] at hstep
      have M := mul_any x b hw2 hb wr
      obtain ⟨hh, hh1⟩ : ∃ h, x * b / 18446744073709551616 = h := ⟨_, rfl⟩
      obtain ⟨ll, ll1⟩ : ∃ l, x * b % 18446744073709551616 = l := ⟨_, rfl⟩
      have hxb : x * b = hh * 18446744073709551616 + ll := by omega
      rw [hh1, ll1] at M
      have hlw : Word ll := by rw [← ll1]; exact word_mod _
      have hlw' := hlw
      obtain ⟨l1, l2⟩ := hlw'
      have A := add_any ll y c hlw hw1 ⟨hc0, hc1⟩ wr
      have q1 : (x * b + y + c) % 18446744073709551616 = (ll + y + c) % 18446744073709551616 := by rw [hxb]; omega
      have q2 : (x * b + y + c) / 18446744073709551616 = hh + (ll + y + c) / 18446744073709551616 := by rw [hxb]; omega
      rw [q1, q2] at hstep
      have p1 := hstep.2.2.2.2.1
      have p2 := hstep.2.2.2.2.2
      have hh0 : 0 ≤ hh := by rw [← hh1]; exact Int.ediv_nonneg (Int.mul_nonneg hw2.1 hb.1) (by omega)
      obtain ⟨V, hV⟩ : ∃ V, (ll + y + c) % 18446744073709551616 = V := ⟨_, rfl⟩
      obtain ⟨E, hE⟩ : ∃ E, (ll + y + c) / 18446744073709551616 = E := ⟨_, rfl⟩
      rw [hV, hE] at A
      rw [hV] at hstep
      have hcc : hh + (ll + y + c) / 18446744073709551616 = hh + E := by omega
      rw [hcc] at hstep p1 p2
      have he0 : 0 ≤ E := by omega
      have HS : Hid (BInv cs0 ls b off (k + 1) (hh + E) (cs.set (off + k) V)) := hstep
      clear hstep hx hy hh1 ll1 hxb q1 q2 hV hE hcc hcl hs3 hz
      go_wp2_with fail
      refine M.mono ?_
      rintro e w2 ⟨rfl, rfl⟩
      go_wp2_with fail
      refine A.mono ?_
      rintro e w2 ⟨rfl, rfl⟩
      go_wp2_with fail
      go_roundw
      case rel => exact ⟨k + 1, _, _, by omega, by go_num, rfl, HS, Own.set ho.out (off + k) _, Only.set hbl.out (off + k) _⟩
      case measure => simp [intOf]; omega
    · obtain rfl : k = n := by omega
      go_wp2_with fail
      go_ret
      exact ⟨c, cs, rfl, ho.out, hI.out, hbl.out⟩
end Go.Proofs.YtblafbbnplfpjaaGreatDoor

namespace Go.Proofs.YtblafbbnplfpjaaGreatDoor
open Go.RowKit Go.Shelf

def PrInv (xs ys : List Int) (la lb i : Nat) (cs : List Int) : Prop :=
  cs.length = la + lb ∧ Limbs cs ∧ (∀ j, i + la ≤ j → cs.getD j 0 = 0) ∧ num cs = num xs * num (ys.take i)
theorem prinv_start {xs ys : List Int} {la lb : Nat} : PrInv xs ys la lb 0 (List.replicate (la + lb) 0) :=
  ⟨by simp, Limbs.zeros _, fun j _ => by rw [List.getD_eq_getElem?_getD, List.getElem?_replicate]; split <;> rfl, by rw [num_zeros]; simp [num]⟩
theorem prinv_step {xs ys cs ds : List Int} {la lb i : Nat} {c : Int} (hx : xs.length = la) (I : PrInv xs ys la lb i cs) (h : i < lb) (B : BInv cs xs (ys.getD i 0) i la c ds) : PrInv xs ys la lb (i + 1) (ds.set (i + la) c) := by
  obtain ⟨i1, i2, i3, i4⟩ := I
  obtain ⟨b1, b2, b3, b4, b5, b6⟩ := B
  have z : ds.getD (i + la) 0 = 0 := by rw [b3 _ (.inr (Nat.le_refl _))]; exact i3 _ (Nat.le_refl _)
  refine ⟨by rw [List.length_set]; omega, b2.set _ ⟨b5, b6⟩, fun j hj => ?_, ?_⟩
  · rw [getD_set_other _ _ _ _ (by omega), b3 j (.inr (by omega))]; exact i3 j (by omega)
  · rw [num_set c (by omega), z, num_take_succ]
    rw [List.take_of_length_le (by omega), i4] at b4
    rw [Int.sub_zero, b4]
    grind

set_option maxHeartbeats 1000000 in
theorem product_any (a b : Option Addr) (la ca lb cb : Nat) (xs ys : List Int) (w : World) (ha : Sl w a la xs) (hb : Sl w b lb ys) (h1 : la ≤ 10000000000000) (h2 : lb ≤ 10000000000000) :
    Calls Tryz.prog 167 #[.slice a la ca, .slice b lb cb] w fun e w' =>
      ∃ g cs, e = .returned (.slice (some ⟨g, 0, none⟩) (la + lb) (la + lb)) ∧ w.heap.size ≤ g ∧ Own w' g cs ∧ cs.length = la + lb ∧ Limbs cs ∧ num cs = num xs * num ys ∧ Below w.heap.size w w' := by
  have hmk := make_row (la + lb) (by omega)
  have en : ((la + lb : Nat) : Int) = (la : Int) + lb := by omega
  rw [en] at hmk
  have hza := ha.1
  have hzb := hb.1
  have HLB : Hid (Limbs ys) := hb.2.1
  have HA : Hid (Sl w a la xs) := ha
  have HB : Hid (Sl w b lb ys) := hb
  clear ha hb en
  go_enter Tryz.func167, Tryz.ntmps167
  go_wp2_with fail
  have B1 : Below w.heap.size w (w.alloc (Obj.cells (row (List.replicate (la + lb) 0)).toArray 124)) := (Below.refl _ _).alloc (Nat.le_refl _) _
  have XA : Hid (Sx w.heap.size (w.alloc (Obj.cells (row (List.replicate (la + lb) 0)).toArray 124)) a la xs) := HA.out.apart B1 (Nat.le_refl _)
  have XB : Hid (Sx w.heap.size (w.alloc (Obj.cells (row (List.replicate (la + lb) 0)).toArray 124)) b lb ys) := HB.out.apart B1 (Nat.le_refl _)
  have O1 : Hid (Own (w.alloc (Obj.cells (row (List.replicate (la + lb) 0)).toArray 124)) w.heap.size (List.replicate (la + lb) 0)) := heap_alloc_new w _
  generalize (w.alloc (Obj.cells (row (List.replicate (la + lb) 0)).toArray 124)) = w1 at *
  clear hmk HA HB
  go_loopw [16] (fun ii wr => ∃ (k : Nat) (cs : List Int), k ≤ lb ∧ ii = .int .i64 k ∧ Hid (PrInv xs ys la lb k cs) ∧ Hid (Own wr w.heap.size cs) ∧ Hid (Only w.heap.size w1 wr)) (fun ii _ => lb - (intOf ii).toNat)
  case atStart => exact ⟨0, _, Nat.zero_le _, rfl, prinv_start, O1, Only.refl _ _⟩
  case round =>
    obtain ⟨k, cs, hk, rfl, hI, ho, hbl⟩ := hrel
    by_cases hlt : k < lb
    · have hlen := hI.out.1
      obtain ⟨⟨-, -, hs3⟩, -⟩ := XB.out.only hbl.out
      obtain ⟨bb, bo, rfl, hcl⟩ := hs3 (by omega)
      have hcy := hcl k hlt
      have hw2 := HLB.out.getD k
      have HY : Hid (ys.getD k 0 = ys.getD k 0) := rfl
      have A := addTimes_any w.heap.size k la (la + lb - k) ca cs xs a (ys.getD k 0) wr ho.out hI.out.2.1 (by omega) (XA.out.only hbl.out) (by omega) hw2
      have ST := fun c ds => prinv_step (c := c) (ds := ds) hza hI.out hlt
      obtain ⟨y, hy⟩ : ∃ y, ys.getD k 0 = y := ⟨_, rfl⟩
      rw [hy] at hcy hw2 A
      simp only [hy] at ST
      clear hy HY hcl hs3
      have e2 : ((k : Int) + la).toNat = k + la := by omega
      have e3 : ((k : Int) + la).toNat - k = la := by omega
      go_wp2_with fail
      refine A.mono ?_
      rintro e w2 ⟨c, ds, rfl, ho2, hB, hon⟩
      have HI2 : Hid (PrInv xs ys la lb (k + 1) (ds.set (k + la) c)) := ST c ds hB
      have HO2 : Hid (Own w2 w.heap.size ds) := ho2
      have hcx := ho2.cell (k + la) (by rw [hB.1, hlen]; omega)
      have hfx := ho2.frozen (k + la)
      have HON : Hid (Only w.heap.size w1 w2) := hbl.out.trans hon
      clear A ST ho2 hB hon hI ho hbl
      go_wp2_with fail
      go_roundw
      case rel => exact ⟨k + 1, _, by omega, by go_num, HI2, Own.set HO2.out (k + la) _, Only.set HON.out (k + la) _⟩
      case measure => simp [intOf]; omega
    · obtain rfl : k = lb := by omega
      go_wp2_with fail
      go_ret
      refine ⟨_, cs, rfl, Nat.le_refl _, ho.out, hI.out.1, hI.out.2.1, ?_, B1.trans (hbl.out.below (Nat.le_refl _))⟩
      have := hI.out.2.2.2
      rw [List.take_of_length_le (by omega)] at this
      exact this

theorem long_by_bits {xs ys : List Int} (hx : Limbs xs) (hy : Limbs ys) (h : 262145 < bitsN xs + bitsN ys) (h1 : bitsN xs ≤ 262144) (h2 : bitsN ys ≤ 262144) : (2 : Int) ^ 262144 ≤ num xs * num ys := by
  have ux : 0 < usedN xs := by
    rcases Nat.eq_zero_or_pos (usedN xs) with h' | h'
    · have := bits_nought h'; omega
    · exact h'
  have uy : 0 < usedN ys := by
    rcases Nat.eq_zero_or_pos (usedN ys) with h' | h'
    · have := bits_nought h'; omega
    · exact h'
  obtain ⟨i, e1, i1, i2⟩ := bits_spec hx ux
  obtain ⟨j, e2, j1, j2⟩ := bits_spec hy uy
  have h3 : (2 : Int) ^ i * 2 ^ j ≤ num xs * num ys := Int.mul_le_mul i1 j1 (Int.le_of_lt (p2_pos _)) (num_nonneg hx)
  rw [← Int.pow_add] at h3
  exact Int.le_trans (p2_mono (by omega)) h3
theorem pw_4096 : pw 4096 = 2 ^ 262144 := by rw [pw_eq]

set_option maxRecDepth 20000 in
set_option maxHeartbeats 2000000 in
theorem nmul_ok (a b : Option Addr) (la ca lb cb : Nat) (xs ys : List Int) (w : World) (ha : Nt w a la ca xs) (hb : Nt w b lb cb ys) (hfit : num xs * num ys < pw 4096) :
    Calls Tryz.prog 140 #[.agg #[.slice a la ca], .agg #[.slice b lb cb]] w fun e w' => ∃ a' l' c' zs, e = .returned (.tuple #[.agg #[.slice a' l' c'], .int .i64 0]) ∧ Nt w' a' l' c' zs ∧ num zs = num xs * num ys ∧ Below w.heap.size w w' := by
  have l1 := ha.2; have l2 := hb.2
  have bx := bits_limbs ha.limbs; have byy := bits_limbs hb.limbs
  have hsum : bitsN xs + bitsN ys ≤ 262145 := by
    rcases Int.lt_or_le 262145 (bitsN xs + bitsN ys) with h | h
    · have := long_by_bits ha.limbs hb.limbs h (by omega) (by omega)
      rw [← pw_4096] at this; omega
    · exact h
  have A := fun W h => nbits_any a la ca xs W h
  have B := fun W h => nbits_any b lb cb ys W h
  have b0 := bx.1; have b1 := byy.1
  obtain ⟨p, hp⟩ : ∃ p, bitsN xs = p := ⟨_, rfl⟩
  obtain ⟨q, hq⟩ : ∃ q, bitsN ys = q := ⟨_, rfl⟩
  simp only [hp] at A
  simp only [hq] at B
  rw [hp, hq] at hsum
  rw [hp] at b0
  rw [hq] at b1
  have ew : IntKind.i64.wrap (p + q) = p + q := by rw [IntKind.wrap_i64]; omega
  have HF : ∀ cs, Limbs cs → num cs = num xs * num ys → usedN cs ≤ 4096 := fun cs h e => used_of_lt h (by rw [e]; exact hfit)
  clear hp hq bx byy hfit
  go_enter Tryz.func140, Tryz.ntmps140
  go_wp2_with fail
  refine ent3 w _ _ _ _ _ _ (Q := fun W => Code.wp Tryz.prog _ _ _ W) ?_
  intro w0 B0 hs V0 V1 V2
  replace ha := ha.below B0 (Nat.le_refl _)
  replace hb := hb.below B0 (Nat.le_refl _)
  have c0 := V0.cell
  have c1 := V1.cell
  go_region_with (first
    | (go_at_call 165; refine (A w0.drew ha).mono ?_; rintro e wa ⟨rfl, ba0⟩; have ba : Below w0.heap.size w0 wa := ⟨ba0.os, ba0.tape, ba0.output, ba0.size, ba0.block⟩; clear ba0; have B0a := step B0 ba; have V0a := Va.after ba V0; have V1a := Va.after ba V1; have V2a := Va.after ba V2; have c1a := V1a.cell; have haa := Nt.after ba ha; have hba := Nt.after ba hb)
    | (go_at_call 165; refine (B _ hba).mono ?_; rintro e wb ⟨rfl, bb0⟩; have bb : Below wa.heap.size wa wb := ⟨bb0.os, bb0.tape, bb0.output, bb0.size, bb0.block⟩; clear bb0; have B0b := step B0a bb; have V0b := Va.after bb V0a; have V1b := Va.after bb V1a; have V2b := Va.after bb V2a; have hab := Nt.after bb haa; have hbb := Nt.after bb hba))
  all_goals
    clear A B ba bb V0 V1 V2 V0a V1a V2a c0 c1 c1a ha hb haa hba B0 B0a
    have c0 := V0b.cell
    have c1 := V1b.cell
    have g1 : decide ((262145 : Int) < p + q) = false := by simp; omega
    clear hsum
    simp only [g1]
    go_wp2_with fail
    refine (product_any a b la ca lb cb xs ys wb hab.1 hbb.1 (by omega) (by omega)).mono ?_
    rintro e w3 ⟨g, cs, rfl, hg, ho, hlen, hL, hn, hb3⟩
    have hsl := ho.sl hL
    rw [hlen] at hsl
    have hm : usedN cs ≤ 4096 := HF cs hL hn
    replace V2b := V2b.kept hb3
    replace B0b := step B0b hb3
    go_wp2_with fail
    refine (made_ok _ (la + lb) (la + lb) cs w3 hsl (by omega) (Nat.le_refl _) hm).mono ?_
    rintro e w4 ⟨rfl, hb4⟩
    have hnt := nt_made (hsl.below hb4 (Nat.le_refl _)) (Nat.le_refl _) hm
    replace V2b := V2b.kept hb4
    replace B0b := step B0b hb4
    have c2 := V2b.cell
    have f2 := V2b.frozen 0
    go_wp2_with fail
    have B1 := B0b.setCell (p := ⟨w.heap.size + 1 + 1, 0, none⟩) (by show _ ≤ w.heap.size + 1 + 1; omega)
    refine bodyPost_ret (results_ct rfl rfl (V2b.set _)) rfl ?_
    exact ⟨_, _, _, _, rfl, hnt.store V2b _, (num_take_used cs (Nat.le_refl _)).trans hn, B1 _⟩
end Go.Proofs.YtblafbbnplfpjaaGreatDoor
