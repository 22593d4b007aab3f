/-
  Left, Right, Uint64 of layer nat.
-/
import Derived.Test.YtckfgolijlggbaaVals
namespace Go.Proofs.Ytckfgolijlggbaa
open Go.RowKit Go.Shelf

theorem nleft_ok (a : Option Addr) (la ca : Nat) (xs : List Int) (t : Nat) (w : World) (ha : Nt w a la ca xs) (hfit : num xs = 0 ∨ bitsN xs + t ≤ 262144) :
    Calls Try.prog 14 #[.agg #[.slice a la ca], .int .i64 t] w fun e w' => ∃ a' l' c' zs, e = .returned (.tuple #[.agg #[.slice a' l' c'], .int .i64 0]) ∧ Nt w' a' l' c' zs ∧ num zs = num xs * 2 ^ t ∧ Below w.heap.size w w' := by
  have l1 := ha.2
  go_enter Try.func14, Try.ntmps14
  go_wp2_with fail
  refine ent2 w _ _ _ _ (Q := fun W => Calls Try.prog _ _ W _) ?_
  intro w0 B0 hs V0 V1
  replace ha := ha.below B0 (Nat.le_refl _)
  refine (left_val a la ca xs t w0 ha.1 (by omega) ha.2.2.1 (hfit.imp (fun h => (num_eq_zero ha.limbs).1 h) id)).mono ?_
  rintro e w1 ⟨a', m, c, zs, rfl, hmc, hm2, hsl, hu, hn, hb1⟩
  have hm : m ≤ 4096 := by
    rcases hfit with h0 | h0
    · have : num zs = 0 := by rw [hn, h0, Int.zero_mul]
      have := (num_eq_zero hsl.2.1).1 this; omega
    · rcases Nat.eq_zero_or_pos (usedN xs) with hz | hz
      · have : num zs = 0 := by rw [hn, (num_eq_zero ha.limbs).2 hz, Int.zero_mul]
        have := (num_eq_zero hsl.2.1).1 this; omega
      · have hbm := bits_moved ha.limbs hsl.2.1 hz hn
        have hbl := bits_limbs hsl.2.1
        omega
  replace V1 := V1.kept hb1
  replace B0 := step B0 hb1
  have c1 := V1.cell
  have f1 := V1.frozen 0
  go_wp2_with fail
  have B1 := B0.setCell (p := ⟨w.heap.size + 1, 0, none⟩) (by show _ ≤ w.heap.size + 1; omega)
  refine bodyPost_ret (results_ct rfl rfl (V1.set _)) rfl ?_
  exact ⟨_, _, _, zs, rfl, ⟨hsl.store V1 _, hu, hmc, hm⟩, hn, B1 _⟩

theorem nleft_neg (a : Option Addr) (la ca : Nat) (xs : List Int) (t : Int) (w : World) (ha : Nt w a la ca xs) (ht : t < 0) :
    Calls Try.prog 14 #[.agg #[.slice a la ca], .int .i64 t] w fun e w' => e = .returned (.tuple #[.agg #[.slice none 0 0], .int .i64 2]) ∧ Below w.heap.size w w' := by
  have l1 := ha.2
  go_enter Try.func14, Try.ntmps14
  go_wp2_with fail
  refine ent2 w _ _ _ _ (Q := fun W => Calls Try.prog _ _ W _) ?_
  intro w0 B0 hs V0 V1
  replace ha := ha.below B0 (Nat.le_refl _)
  refine (left_neg a la ca t w0 ht).mono ?_
  rintro e w1 ⟨rfl, hw1⟩
  have hb1 : Below w0.heap.size w0 w1 := by rw [hw1]; exact Below.refl _ _
  clear hw1
  replace V1 := V1.kept hb1
  replace B0 := step B0 hb1
  have c1 := V1.cell
  have f1 := V1.frozen 0
  go_wp2_with fail
  have B1 := B0.setCell (p := ⟨w.heap.size + 1, 0, none⟩) (by show _ ≤ w.heap.size + 1; omega)
  refine bodyPost_ret (results_ct rfl rfl (V1.set _)) rfl ?_
  exact ⟨rfl, B1 _⟩

theorem nleft_long (a : Option Addr) (la ca : Nat) (xs : List Int) (t : Int) (w : World) (ha : Nt w a la ca xs) (ht : 0 ≤ t) (h0 : num xs ≠ 0) (hlong : 262144 < bitsN xs + t) :
    Calls Try.prog 14 #[.agg #[.slice a la ca], .int .i64 t] w fun e w' => e = .returned (.tuple #[.agg #[.slice none 0 0], .int .i64 3]) ∧ Below w.heap.size w w' := by
  have l1 := ha.2
  go_enter Try.func14, Try.ntmps14
  go_wp2_with fail
  refine ent2 w _ _ _ _ (Q := fun W => Calls Try.prog _ _ W _) ?_
  intro w0 B0 hs V0 V1
  replace ha := ha.below B0 (Nat.le_refl _)
  refine (left_long a la ca xs t w0 ha.1 (by omega) ht (by rcases Nat.eq_zero_or_pos (usedN xs) with h | h; exact absurd ((num_eq_zero ha.limbs).2 h) h0; exact h) hlong).mono ?_
  rintro e w1 ⟨rfl, hw1⟩
  have hb1 : Below w0.heap.size w0 w1 := by rw [hw1]; exact Below.refl _ _
  clear hw1
  replace V1 := V1.kept hb1
  replace B0 := step B0 hb1
  have c1 := V1.cell
  have f1 := V1.frozen 0
  go_wp2_with fail
  have B1 := B0.setCell (p := ⟨w.heap.size + 1, 0, none⟩) (by show _ ≤ w.heap.size + 1; omega)
  refine bodyPost_ret (results_ct rfl rfl (V1.set _)) rfl ?_
  exact ⟨rfl, B1 _⟩

theorem nright_ok (a : Option Addr) (la ca : Nat) (xs : List Int) (t : Nat) (w : World) (ha : Nt w a la ca xs) (htb : t ≤ 9223372036854775807) :
    Calls Try.prog 15 #[.agg #[.slice a la ca], .int .i64 t] w fun e w' => ∃ a' l' c' zs, e = .returned (.tuple #[.agg #[.slice a' l' c'], .int .i64 0]) ∧ Nt w' a' l' c' zs ∧ num zs = num xs / 2 ^ t ∧ Below w.heap.size w w' := by
  have l1 := ha.2
  go_enter Try.func15, Try.ntmps15
  go_wp2_with fail
  refine ent2 w _ _ _ _ (Q := fun W => Calls Try.prog _ _ W _) ?_
  intro w0 B0 hs V0 V1
  replace ha := ha.below B0 (Nat.le_refl _)
  refine (right_val a la ca xs t w0 ha.1 (by omega) ha.2.2.1 htb).mono ?_
  rintro e w1 ⟨a', m, c, zs, rfl, hmc, hm2, hsl, hu, hn, hb1⟩
  replace V1 := V1.kept hb1
  replace B0 := step B0 hb1
  have c1 := V1.cell
  have f1 := V1.frozen 0
  go_wp2_with fail
  have B1 := B0.setCell (p := ⟨w.heap.size + 1, 0, none⟩) (by show _ ≤ w.heap.size + 1; omega)
  refine bodyPost_ret (results_ct rfl rfl (V1.set _)) rfl ?_
  exact ⟨_, _, _, zs, rfl, ⟨hsl.store V1 _, hu, hmc, by omega⟩, hn, B1 _⟩

theorem nright_neg (a : Option Addr) (la ca : Nat) (xs : List Int) (t : Int) (w : World) (ha : Nt w a la ca xs) (ht : t < 0) :
    Calls Try.prog 15 #[.agg #[.slice a la ca], .int .i64 t] w fun e w' => e = .returned (.tuple #[.agg #[.slice none 0 0], .int .i64 2]) ∧ Below w.heap.size w w' := by
  have l1 := ha.2
  go_enter Try.func15, Try.ntmps15
  go_wp2_with fail
  refine ent2 w _ _ _ _ (Q := fun W => Calls Try.prog _ _ W _) ?_
  intro w0 B0 hs V0 V1
  replace ha := ha.below B0 (Nat.le_refl _)
  refine (right_neg a la ca t w0 ht).mono ?_
  rintro e w1 ⟨rfl, hw1⟩
  have hb1 : Below w0.heap.size w0 w1 := by rw [hw1]; exact Below.refl _ _
  clear hw1
  replace V1 := V1.kept hb1
  replace B0 := step B0 hb1
  have c1 := V1.cell
  have f1 := V1.frozen 0
  go_wp2_with fail
  have B1 := B0.setCell (p := ⟨w.heap.size + 1, 0, none⟩) (by show _ ≤ w.heap.size + 1; omega)
  refine bodyPost_ret (results_ct rfl rfl (V1.set _)) rfl ?_
  exact ⟨rfl, B1 _⟩

theorem uint64_small (a : Option Addr) (la ca : Nat) (xs : List Int) (w : World) (ha : Nt w a la ca xs) (hlt : num xs < 18446744073709551616) :
    Calls Try.prog 31 #[.agg #[.slice a la ca]] w fun e w' => e = .returned (.tuple #[.int .u64 (num xs), .bool true]) ∧ Below w.heap.size w w' := by
  have hu1 : usedN xs ≤ 1 := used_of_lt ha.limbs (by simpa [pw] using hlt)
  obtain ⟨hs, hu, hc, hl⟩ := ha
  have hz := hs.1
  have hla : la = 0 ∨ la = 1 := by omega
  rcases hla with rfl | rfl
  · have e0 : num xs = 0 := (num_eq_zero hs.2.1).2 hu
    rw [e0]
    go_enter Try.func31, Try.ntmps31
    go_wp2_with fail
    go_ret2
    exact ⟨rfl, (Below.refl _ _).alloc (Nat.le_refl _) _⟩
  · obtain ⟨x, rfl⟩ : ∃ x, xs = [x] := by
      match xs, hz with
      | [x], _ => exact ⟨x, rfl⟩
    have e0 : num [x] = x := by simp [num]
    rw [e0]
    have sl := fun w0 (B0 : Below w.heap.size w w0) => hs.below B0 (Nat.le_refl _)
    obtain ⟨b, off, rfl, hc0⟩ := hs.2.2 (by omega)
    have hlt0 : b < w.heap.size := by
      have hh := hc0 0 (by omega)
      rcases Nat.lt_or_ge b w.heap.size with h' | h'
      · exact h'
      · simp [World.cell?, Array.getElem?_eq_none h'] at hh
    have hcx := ((Below.refl w.heap.size w).alloc (Nat.le_refl _) (.cells #[.slice (some ⟨b, off, none⟩) 1 ca] 27)).cell (p := ⟨b, off + 0, none⟩) hlt0
    rw [hc0 0 (by omega)] at hcx
    simp only [Nat.add_zero, List.getD_cons_zero] at hcx
    go_enter Try.func31, Try.ntmps31
    go_wp2_with fail
    go_ret2
    exact ⟨rfl, (Below.refl _ _).alloc (Nat.le_refl _) _⟩
theorem uint64_great (a : Option Addr) (la ca : Nat) (xs : List Int) (w : World) (ha : Nt w a la ca xs) (hge : 18446744073709551616 ≤ num xs) :
    Calls Try.prog 31 #[.agg #[.slice a la ca]] w fun e w' => e = .returned (.tuple #[.int .u64 0, .bool false]) ∧ Below w.heap.size w w' := by
  have hla : 1 < la := by
    rcases Nat.lt_or_ge 1 la with h | h
    · exact h
    · have := lt_of_used ha.limbs (n := 1) (by rw [ha.2.1]; exact h)
      simp [pw] at this; omega
  have g0 : ((la : Int) == 0) = false := by simp; omega
  have g1 : ((la : Int) == 1) = false := by simp; omega
  go_enter Try.func31, Try.ntmps31
  go_wp2_with fail
  go_ret2
  exact ⟨rfl, (Below.refl _ _).alloc (Nat.le_refl _) _⟩
end Go.Proofs.Ytckfgolijlggbaa
