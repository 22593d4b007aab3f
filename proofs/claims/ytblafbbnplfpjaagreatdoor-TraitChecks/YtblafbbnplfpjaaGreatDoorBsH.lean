/-
  Put together of: Vals, Only, Vals2.
-/
import Derived.Test.YtblafbbnplfpjaaGreatDoorBsE
import Derived.Test.YtblafbbnplfpjaaGreatDoorBsF
import Derived.Test.YtblafbbnplfpjaaGreatDoorBsG
namespace Go.Proofs.YtblafbbnplfpjaaGreatDoor
open Go.RowKit Go.Shelf

/-- A number that can be read: trimmed, not long. -/
def Nt (w : World) (a : Option Addr) (len cap : Nat) (zs : List Int) : Prop := Sl w a len zs ∧ usedN zs = len ∧ len ≤ cap ∧ len ≤ 4096
theorem Nt.below {w w' : World} {a : Option Addr} {len cap : Nat} {zs : List Int} {B : Nat} (h : Nt w a len cap zs) (b : Below B w w') (hB : w.heap.size ≤ B) : Nt w' a len cap zs := ⟨h.1.below b hB, h.2⟩
theorem Nt.after {w w' : World} (b : Below w.heap.size w w') {a : Option Addr} {len cap : Nat} {zs : List Int} (h : Nt w a len cap zs) : Nt w' a len cap zs := h.below b (Nat.le_refl _)
theorem Nt.limbs {w : World} {a : Option Addr} {len cap : Nat} {zs : List Int} (h : Nt w a len cap zs) : Limbs zs := h.1.2.1
theorem Nt.nil (w : World) : Nt w none 0 0 [] := ⟨⟨rfl, Limbs.nil, fun h => absurd h (by decide)⟩, rfl, Nat.le_refl _, by omega⟩

/-- A list of limbs is no variable: a store there leaves it. -/
theorem Sl.store {w : World} {a : Option Addr} {len : Nat} {zs : List Int} (h : Sl w a len zs) {b : Nat} {t : TypeId} {x : Option Addr} {y z : Nat} (V : Va w b t #[.slice x y z]) (v : Value) : Sl (w.setCell ⟨b, 0, none⟩ v) a len zs := by
  obtain ⟨h1, h2, h3⟩ := h
  refine ⟨h1, h2, fun h0 => ?_⟩
  obtain ⟨bb, off, rfl, hc⟩ := h3 h0
  refine ⟨bb, off, rfl, fun i hi => ?_⟩
  have hne : bb ≠ b := by
    rintro rfl
    have e := hc 0 h0
    rw [V.cellAt] at e
    rcases Nat.eq_zero_or_pos (off + 0) with h' | h'
    · rw [h'] at e; simp at e
    · rw [Array.getElem?_eq_none (by simp; omega)] at e; cases e
  rw [← hc i hi]
  exact World.cell?_of_block (w := w) (Below.heap_setCell _ _ _ _ hne)
theorem Nt.store {w : World} {a : Option Addr} {len cap : Nat} {zs : List Int} (h : Nt w a len cap zs) {b : Nat} {t : TypeId} {x : Option Addr} {y z : Nat} (V : Va w b t #[.slice x y z]) (v : Value) : Nt (w.setCell ⟨b, 0, none⟩ v) a len cap zs := ⟨h.1.store V v, h.2⟩

theorem isZero_any (a : Option Addr) (len cap : Nat) (w : World) :
    Calls Tryz.prog 102 #[.agg #[.slice a len cap]] w fun e w' => e = .returned (.bool ((len : Int) == 0)) ∧ Below w.heap.size w w' := by
  go_enter Tryz.func102, Tryz.ntmps102
  go_wp2_with fail
  go_ret
  exact ⟨rfl, (Below.refl _ _).alloc (Nat.le_refl _) _⟩

theorem small_any (x : Int) (hx : Word x) (w : World) :
    Calls Tryz.prog 103 #[.int .u64 x] w fun e w' => ∃ a len cap zs, e = .returned (.agg #[.slice a len cap]) ∧ Nt w' a len cap zs ∧ num zs = x ∧ Below w.heap.size w w' := by
  by_cases h0 : x = 0
  · subst h0
    go_enter Tryz.func103, Tryz.ntmps103
    go_wp2_with fail
    refine bodyPost_ret (results_c rfl rfl (Va.new w _ _)) rfl ?_
    exact ⟨_, _, _, [], rfl, Nt.nil _, rfl, (Below.refl _ _).alloc (Nat.le_refl _) _⟩
  · have g1 : (x == 0) = false := by simpa using h0
    go_enter Tryz.func103, Tryz.ntmps103
    go_wp2_with fail
    refine bodyPost_ret (results_c rfl rfl ((Va.new w _ _).old _)) rfl ?_
    have s := sl_one (w.alloc (Obj.cells #[Value.slice (some { block := w.heap.size + 1, off := 0 }) 1 1] 62)) x hx
    simp only [World.alloc, Array.size_push] at s
    refine ⟨_, _, _, [x], rfl, ⟨s, ?_, Nat.le_refl _, by omega⟩, by simp [num], ((Below.refl _ _).alloc (Nat.le_refl _) _).alloc (by simp) _⟩
    simp [usedN, h0]

theorem nbits_any (a : Option Addr) (len cap : Nat) (zs : List Int) (w : World) (h : Nt w a len cap zs) :
    Calls Tryz.prog 165 #[.agg #[.slice a len cap]] w fun e w' => e = .returned (.int .i64 (bitsN zs)) ∧ Below w.heap.size w w' := by
  obtain ⟨hs, hu, hc, hl⟩ := h
  go_enter Tryz.func165, Tryz.ntmps165
  go_wp2_with fail
  refine ent1 w _ _ (Q := fun W => Calls Tryz.prog _ _ W _) ?_
  intro w0 B0 hsz V0
  have T := bits_any a len cap zs w0 (hs.below B0 (Nat.le_refl _)) (by omega)
  refine T.mono ?_
  rintro e w' ⟨rfl, rfl⟩
  go_wp2_with fail
  go_ret
  exact ⟨rfl, B0⟩

/-- How many limbs so many binary digits take. -/
theorem bits_limbs {zs : List Int} (h : Limbs zs) : 0 ≤ bitsN zs ∧ (bitsN zs + 64 - 1) / 64 = usedN zs ∧ bitsN zs ≤ 64 * usedN zs := by
  rcases Nat.eq_zero_or_pos (usedN zs) with h0 | h0
  · have : bitsN zs = 0 := bits_nought h0
    rw [this, h0]; decide
  · have ht := usedN_top zs h0
    have hw := h.getD (usedN zs - 1)
    obtain ⟨p1, p2⟩ := bitLen_spec 64 (zs.getD (usedN zs - 1) 0).toNat (by omega) (by omega)
    have h1 : Lib.bitLen (zs.getD (usedN zs - 1) 0).toNat ≤ 64 := Lib.bitLen_le _ 64 (by omega) (by omega)
    have h2 : Lib.bitLen (zs.getD (usedN zs - 1) 0).toNat ≠ 0 := by
      intro e
      rw [e] at p1
      omega
    simp only [bitsN, if_neg (show usedN zs ≠ 0 by omega)]
    omega

theorem made_ok (a : Option Addr) (len cap : Nat) (zs : List Int) (w : World) (h : Sl w a len zs) (hl : len ≤ 40000000000000) (hc : len ≤ cap) (hu : usedN zs ≤ 4096) :
    Calls Tryz.prog 166 #[.slice a len cap] w fun e w' => e = .returned (.tuple #[.agg #[.slice a (usedN zs) cap], .int .i64 0]) ∧ Below w.heap.size w w' := by
  have hul := usedN_le zs
  have hz := h.1
  obtain ⟨q0, q1, q2⟩ := bits_limbs h.2.1
  have T := fun W h => bits_any a len cap zs W h hl
  have hT : ∀ w0, Below w.heap.size w w0 → Sl w0 a len zs := fun w0 B0 => h.below B0 (Nat.le_refl _)
  obtain ⟨b, hb⟩ : ∃ b, bitsN zs = b := ⟨_, rfl⟩
  rw [hb] at q0 q1 q2
  simp only [hb] at T
  obtain ⟨n, hn⟩ : ∃ n, usedN zs = n := ⟨_, rfl⟩
  rw [hn] at q1 q2 hu hul ⊢
  have q3 : n ≤ cap := by omega
  clear h hz hb hn
  go_enter Tryz.func166, Tryz.ntmps166
  go_wp2_with fail
  refine ent1 w _ _ (Q := fun W => Calls Tryz.prog _ _ W _) ?_
  intro w0 B0 hsz V0
  refine (T w0 (hT w0 B0)).mono ?_
  clear T hT
  rintro e w' ⟨rfl, rfl⟩
  have c0 := V0.cell
  have f0 := V0.frozen 0
  have B1 := B0.setCell (p := ⟨w.heap.size, 0, none⟩) (Nat.le_refl _)
  cases a with
  | none =>
    go_wp2_with fail
    refine bodyPost_ret (results_ct rfl rfl (V0.set _)) rfl ?_
    exact ⟨rfl, B1 _⟩
  | some a =>
    go_wp2_with fail
    refine bodyPost_ret (results_ct rfl rfl (V0.set _)) rfl ?_
    exact ⟨rfl, B1 _⟩

theorem made_long (a : Option Addr) (len cap : Nat) (zs : List Int) (w : World) (h : Sl w a len zs) (hl : len ≤ 40000000000000) (hu : 4096 < usedN zs) :
    Calls Tryz.prog 166 #[.slice a len cap] w fun e w' => e = .returned (.tuple #[.agg #[.slice none 0 0], .int .i64 3]) ∧ Below w.heap.size w w' := by
  have hul := usedN_le zs
  have hz := h.1
  obtain ⟨q0, q1, q2⟩ := bits_limbs h.2.1
  have T := fun W h => bits_any a len cap zs W h hl
  have hT : ∀ w0, Below w.heap.size w w0 → Sl w0 a len zs := fun w0 B0 => h.below B0 (Nat.le_refl _)
  obtain ⟨b, hb⟩ : ∃ b, bitsN zs = b := ⟨_, rfl⟩
  rw [hb] at q0 q1 q2
  simp only [hb] at T
  obtain ⟨n, hn⟩ : ∃ n, usedN zs = n := ⟨_, rfl⟩
  rw [hn] at q1 q2 hu hul
  have hnl : n ≤ 40000000000000 := by omega
  clear h hz hb hn hul
  go_enter Tryz.func166, Tryz.ntmps166
  go_wp2_with fail
  refine ent1 w _ _ (Q := fun W => Calls Tryz.prog _ _ W _) ?_
  intro w0 B0 hsz V0
  refine (T w0 (hT w0 B0)).mono ?_
  clear T hT
  rintro e w' ⟨rfl, rfl⟩
  have c0 := V0.cell
  have f0 := V0.frozen 0
  have B1 := B0.setCell (p := ⟨w.heap.size, 0, none⟩) (Nat.le_refl _)
  go_wp2_with fail
  refine bodyPost_ret (results_ct rfl rfl (V0.set _)) rfl ?_
  exact ⟨rfl, B1 _⟩

/-- made, told by the number. -/
theorem nt_made {w : World} {a : Option Addr} {len cap : Nat} {zs : List Int} (h : Sl w a len zs) (hc : len ≤ cap) (hu : usedN zs ≤ 4096) : Nt w a (usedN zs) cap (zs.take (usedN zs)) := by
  have hul := usedN_le zs
  have hz := h.1
  exact ⟨h.take (by omega), usedN_take zs (Nat.le_refl _), by omega, hu⟩
theorem used_of_lt {zs : List Int} (h : Limbs zs) {n : Nat} (hlt : num zs < pw n) : usedN zs ≤ n := by
  rcases Nat.lt_or_ge n (usedN zs) with h' | h'
  · have := num_ge_used h (by omega); have := pw_mono (show n ≤ usedN zs - 1 by omega); omega
  · exact h'
theorem lt_of_used {zs : List Int} (h : Limbs zs) {n : Nat} (hu : usedN zs ≤ n) : num zs < pw n := Int.lt_of_lt_of_le (num_lt_used h) (pw_mono hu)
theorem Nt.lt {w : World} {a : Option Addr} {len cap : Nat} {zs : List Int} (h : Nt w a len cap zs) : num zs < pw 4096 := lt_of_used h.limbs (by have := h.2; omega)
theorem Nt.nonneg {w : World} {a : Option Addr} {len cap : Nat} {zs : List Int} (h : Nt w a len cap zs) : 0 ≤ num zs := num_nonneg h.limbs
theorem Nt.zero {w : World} {a : Option Addr} {len cap : Nat} {zs : List Int} (h : Nt w a len cap zs) : ((len : Int) == 0) = decide (num zs = 0) := by
  have e := num_eq_zero h.limbs
  rw [h.2.1] at e
  rw [Bool.eq_iff_iff]; simp; omega
/-- One list a number. -/
theorem Nt.one {w w' : World} {a a' : Option Addr} {len len' cap cap' : Nat} {zs zs' : List Int} (h : Nt w a len cap zs) (h' : Nt w' a' len' cap' zs') (e : num zs = num zs') : len = len' ∧ zs = zs' := by
  obtain ⟨e1, e2⟩ := one_list h.limbs h'.limbs h.1.1 h.2.1 e
  have hz := h'.1.1
  rw [h'.2.1] at e1 e2
  rw [List.take_of_length_le (by omega)] at e2
  exact ⟨e1, e2⟩

theorem ncompare_any (a b : Option Addr) (la ca lb cb : Nat) (xs ys : List Int) (w : World) (ha : Nt w a la ca xs) (hb : Nt w b lb cb ys) :
    Calls Tryz.prog 99 #[.agg #[.slice a la ca], .agg #[.slice b lb cb]] w fun e w' => e = .returned (.int .i64 (cmp3 (num xs) (num ys))) ∧ Below w.heap.size w w' := by
  have l1 := ha.2; have l2 := hb.2
  go_enter Tryz.func99, Tryz.ntmps99
  go_wp2_with fail
  refine ent2 w _ _ _ _ (Q := fun W => Calls Tryz.prog _ _ W _) ?_
  intro w0 B0 hs V0 V1
  replace ha := ha.below B0 (Nat.le_refl _)
  replace hb := hb.below B0 (Nat.le_refl _)
  refine (compare_b a b la ca lb cb xs ys _ ha.1 hb.1 (by omega) (by omega)).mono ?_
  rintro e w1 ⟨rfl, hb1⟩
  replace B0 := step B0 hb1
  go_wp2_with fail
  go_ret
  exact ⟨rfl, B0⟩

end Go.Proofs.YtblafbbnplfpjaaGreatDoor

namespace Go.Proofs.YtblafbbnplfpjaaGreatDoor
open Go.RowKit Go.Shelf

/-- Block g alone may have turned. -/
structure Only (g : Nat) (w w' : World) : Prop where
  bel : Below g w w'
  oth : ∀ k, k ≠ g → w'.heap[k]? = w.heap[k]?
theorem Only.refl (g : Nat) (w : World) : Only g w w := ⟨Below.refl _ _, fun _ _ => rfl⟩
theorem Only.trans {g : Nat} {a b c : World} (h : Only g a b) (k : Only g b c) : Only g a c := ⟨h.bel.trans k.bel, fun i hi => (k.oth i hi).trans (h.oth i hi)⟩
theorem Only.drew {g : Nat} {a w : World} (h : Only g a w) : Only g a w.drew := ⟨h.bel.drew, h.oth⟩
theorem Only.drewN {g : Nat} {a w : World} (h : Only g a w) (n : Nat) : Only g a (w.drewN n) := ⟨below_drewN h.bel n, h.oth⟩
theorem Only.set {g : Nat} {a w : World} (h : Only g a w) (i : Nat) (v : Value) : Only g a (w.setCell ⟨g, i, none⟩ v) :=
  ⟨h.bel.setCell (p := ⟨g, i, none⟩) (Nat.le_refl _) v, fun k hk => (Below.heap_setCell _ _ _ _ hk).trans (h.oth k hk)⟩
theorem Only.below {g B : Nat} {a w : World} (h : Only g a w) (hB : B ≤ g) : Below B a w := h.bel.mono hB
theorem Va.only {g : Nat} {w w' : World} {b : Nat} {t : TypeId} {cs : Array Value} (h : Va w b t cs) (o : Only g w w') (hne : b ≠ g) : Va w' b t cs := by
  unfold Va at *; rw [o.oth b hne]; exact h

/-- A list that does not lie in block g. -/
def Sx (g : Nat) (w : World) (a : Option Addr) (len : Nat) (zs : List Int) : Prop := Sl w a len zs ∧ (0 < len → ∀ p, a = some p → p.block ≠ g)
theorem Sx.only {g : Nat} {w w' : World} {a : Option Addr} {len : Nat} {zs : List Int} (h : Sx g w a len zs) (o : Only g w w') : Sx g w' a len zs := by
  obtain ⟨⟨h1, h2, h3⟩, h4⟩ := h
  refine ⟨⟨h1, h2, fun h0 => ?_⟩, h4⟩
  obtain ⟨b, off, rfl, hc⟩ := h3 h0
  refine ⟨b, off, rfl, fun i hi => ?_⟩
  rw [← hc i hi]
  exact World.cell?_of_block (w := w) (o.oth b (h4 h0 _ rfl))
theorem Sl.lt {w : World} {a : Option Addr} {len : Nat} {zs : List Int} (h : Sl w a len zs) (h0 : 0 < len) {p : Addr} (hp : a = some p) : p.block < w.heap.size := by
  obtain ⟨b, off, rfl, hc⟩ := h.2.2 h0
  cases hp
  have hh := hc 0 h0
  rcases Nat.lt_or_ge b w.heap.size with h' | h'
  · exact h'
  · simp [World.cell?, Array.getElem?_eq_none h'] at hh
theorem Sl.apart {w w' : World} {a : Option Addr} {len : Nat} {zs : List Int} {g : Nat} (h : Sl w a len zs) (b : Below w.heap.size w w') (hg : w.heap.size ≤ g) : Sx g w' a len zs :=
  ⟨h.below b (Nat.le_refl _), fun h0 p hp => by have := h.lt h0 hp; omega⟩
theorem Own.only {g b : Nat} {w w' : World} {cs : List Int} (h : Own w b cs) (o : Only g w w') (hne : b ≠ g) : Own w' b cs := by
  unfold Own at *; rw [o.oth b hne]; exact h
theorem Own.piece {w : World} {g : Nat} {cs : List Int} (h : Own w g cs) (hL : Limbs cs) {off n : Nat} (hf : off + n ≤ cs.length) : Sl w (some ⟨g, off, none⟩) n ((cs.drop off).take n) :=
  ⟨seg_length cs off n hf, (hL.drop off).take n, fun _ => ⟨g, off, rfl, fun i hi => by rw [getD_seg _ _ _ _ hi]; exact h.cell (off + i) (by omega)⟩⟩
end Go.Proofs.YtblafbbnplfpjaaGreatDoor

namespace Go.Proofs.YtblafbbnplfpjaaGreatDoor
open Go.RowKit Go.Shelf

theorem nright_ok (a : Option Addr) (la ca : Nat) (xs : List Int) (t : Nat) (w : World) (ha : Nt w a la ca xs) (htb : t ≤ 9223372036854775807) :
    Calls Tryz.prog 195 #[.agg #[.slice a la ca], .int .i64 t] w fun e w' => ∃ a' l' c' zs, e = .returned (.tuple #[.agg #[.slice a' l' c'], .int .i64 0]) ∧ Nt w' a' l' c' zs ∧ num zs = num xs / 2 ^ t ∧ Below w.heap.size w w' := by
  have l1 := ha.2
  go_enter Tryz.func195, Tryz.ntmps195
  go_wp2_with fail
  refine ent2 w _ _ _ _ (Q := fun W => Calls Tryz.prog _ _ W _) ?_
  intro w0 B0 hs V0 V1
  replace ha := ha.below B0 (Nat.le_refl _)
  refine (right_val a la ca xs t w0 ha.1 (by omega) ha.2.2.1 htb).mono ?_
  rintro e w1 ⟨a', m, c, zs, rfl, hmc, hm2, hsl, hu, hn, hb1⟩
  replace V1 := V1.kept hb1
  replace B0 := step B0 hb1
  have c1 := V1.cell
  have f1 := V1.frozen 0
  go_wp2_with fail
  have B1 := B0.setCell (p := ⟨w.heap.size + 1, 0, none⟩) (by show _ ≤ w.heap.size + 1; omega)
  refine bodyPost_ret (results_ct rfl rfl (V1.set _)) rfl ?_
  exact ⟨_, _, _, zs, rfl, ⟨hsl.store V1 _, hu, hmc, by omega⟩, hn, B1 _⟩

theorem nright_neg (a : Option Addr) (la ca : Nat) (xs : List Int) (t : Int) (w : World) (ha : Nt w a la ca xs) (ht : t < 0) :
    Calls Tryz.prog 195 #[.agg #[.slice a la ca], .int .i64 t] w fun e w' => e = .returned (.tuple #[.agg #[.slice none 0 0], .int .i64 2]) ∧ Below w.heap.size w w' := by
  have l1 := ha.2
  go_enter Tryz.func195, Tryz.ntmps195
  go_wp2_with fail
  refine ent2 w _ _ _ _ (Q := fun W => Calls Tryz.prog _ _ W _) ?_
  intro w0 B0 hs V0 V1
  replace ha := ha.below B0 (Nat.le_refl _)
  refine (right_neg a la ca t w0 ht).mono ?_
  rintro e w1 ⟨rfl, hw1⟩
  have hb1 : Below w0.heap.size w0 w1 := by rw [hw1]; exact Below.refl _ _
  clear hw1
  replace V1 := V1.kept hb1
  replace B0 := step B0 hb1
  have c1 := V1.cell
  have f1 := V1.frozen 0
  go_wp2_with fail
  have B1 := B0.setCell (p := ⟨w.heap.size + 1, 0, none⟩) (by show _ ≤ w.heap.size + 1; omega)
  refine bodyPost_ret (results_ct rfl rfl (V1.set _)) rfl ?_
  exact ⟨rfl, B1 _⟩

theorem uint64_small (a : Option Addr) (la ca : Nat) (xs : List Int) (w : World) (ha : Nt w a la ca xs) (hlt : num xs < 18446744073709551616) :
    Calls Tryz.prog 159 #[.agg #[.slice a la ca]] w fun e w' => e = .returned (.tuple #[.int .u64 (num xs), .bool true]) ∧ Below w.heap.size w w' := by
  have hu1 : usedN xs ≤ 1 := used_of_lt ha.limbs (by simpa [pw] using hlt)
  obtain ⟨hs, hu, hc, hl⟩ := ha
  have hz := hs.1
  have hla : la = 0 ∨ la = 1 := by omega
  rcases hla with rfl | rfl
  · have e0 : num xs = 0 := (num_eq_zero hs.2.1).2 hu
    rw [e0]
    go_enter Tryz.func159, Tryz.ntmps159
    go_wp2_with fail
    go_ret2
    exact ⟨rfl, (Below.refl _ _).alloc (Nat.le_refl _) _⟩
  · obtain ⟨x, rfl⟩ : ∃ x, xs = [x] := by
      match xs, hz with
      | [x], _ => exact ⟨x, rfl⟩
    have e0 : num [x] = x := by simp [num]
    rw [e0]
    have sl := fun w0 (B0 : Below w.heap.size w w0) => hs.below B0 (Nat.le_refl _)
    obtain ⟨b, off, rfl, hc0⟩ := hs.2.2 (by omega)
    have hlt0 : b < w.heap.size := by
      have hh := hc0 0 (by omega)
      rcases Nat.lt_or_ge b w.heap.size with h' | h'
      · exact h'
      · simp [World.cell?, Array.getElem?_eq_none h'] at hh
    have hcx := ((Below.refl w.heap.size w).alloc (Nat.le_refl _) (.cells #[.slice (some ⟨b, off, none⟩) 1 ca] 62)).cell (p := ⟨b, off + 0, none⟩) hlt0
    rw [hc0 0 (by omega)] at hcx
    simp only [Nat.add_zero, List.getD_cons_zero] at hcx
    go_enter Tryz.func159, Tryz.ntmps159
    go_wp2_with fail
    go_ret2
    exact ⟨rfl, (Below.refl _ _).alloc (Nat.le_refl _) _⟩
theorem uint64_great (a : Option Addr) (la ca : Nat) (xs : List Int) (w : World) (ha : Nt w a la ca xs) (hge : 18446744073709551616 ≤ num xs) :
    Calls Tryz.prog 159 #[.agg #[.slice a la ca]] w fun e w' => e = .returned (.tuple #[.int .u64 0, .bool false]) ∧ Below w.heap.size w w' := by
  have hla : 1 < la := by
    rcases Nat.lt_or_ge 1 la with h | h
    · exact h
    · have := lt_of_used ha.limbs (n := 1) (by rw [ha.2.1]; exact h)
      simp [pw] at this; omega
  have g0 : ((la : Int) == 0) = false := by simp; omega
  have g1 : ((la : Int) == 1) = false := by simp; omega
  go_enter Tryz.func159, Tryz.ntmps159
  go_wp2_with fail
  go_ret2
  exact ⟨rfl, (Below.refl _ _).alloc (Nat.le_refl _) _⟩
end Go.Proofs.YtblafbbnplfpjaaGreatDoor
