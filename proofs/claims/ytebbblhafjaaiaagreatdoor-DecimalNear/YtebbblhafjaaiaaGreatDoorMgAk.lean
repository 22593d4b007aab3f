/-
  CopyLimbs.
-/
import Derived.Test.YtebbblhafjaaiaaGreatDoorBsI
import Derived.Test.YtebbblhafjaaiaaGreatDoorMgAi
import Derived.Test.YtebbblhafjaaiaaGreatDoorMgAg
import Derived.Test.YtebbblhafjaaiaaGreatDoorMgAj
import Derived.Test.YtebbblhafjaaiaaGreatDoorMgAf
import Derived.Test.YtebbblhafjaaiaaGreatDoorBsM
import Derived.Test.YtebbblhafjaaiaaGreatDoorMgAp
import Derived.Deep.QuietTactic
import Derived.BigQuiet
import Derived.Test.YtebbblhafjaaiaaGreatDoorMgAa
import Derived.Test.YtebbblhafjaaiaaGreatDoorMgAr
namespace Go.Proofs.YtebbblhafjaaiaaGreatDoor
open Go.RowKit Go.Shelf
set_option linter.unusedVariables false

end Go.Proofs.YtebbblhafjaaiaaGreatDoor
namespace Go.Proofs.YtebbblhafjaaiaaGreatDoor
set_option linter.unusedVariables false
theorem ex_xcross {z D : Int} (hD : 0 < D) : z * ((Rat.divInt z D).den : Int) = (Rat.divInt z D).num * D := by
  have h1 : Rat.divInt (Rat.divInt z D).num ((Rat.divInt z D).den : Int) = Rat.divInt z D := Rat.num_divInt_den _
  have h2 := (Rat.divInt_eq_divInt_iff (n₁ := (Rat.divInt z D).num) (d₁ := ((Rat.divInt z D).den : Int)) (n₂ := z) (d₂ := D) (by have := (Rat.divInt z D).den_nz; omega) (by omega)).1 h1
  exact h2.symm
theorem ex_nat {N : Nat} {D : Nat} {v : Rat} {z : Int} (hD : 0 < D) (hz : z.natAbs = N) (hv : v = Rat.divInt z (D : Int)) : N * v.den = v.num.natAbs * D := by
  have h := ex_xcross (z := z) (D := (D : Int)) (by omega)
  rw [← hv] at h
  have h2 := congrArg Int.natAbs h
  rw [Int.natAbs_mul, Int.natAbs_mul, hz] at h2
  simpa using h2
theorem ex_sign {D : Nat} {v : Rat} {z : Int} {neg : Bool} {N : Nat} (hD : 0 < D) (hz : z = sgn neg N) (hv : v = Rat.divInt z (D : Int)) : v.num = sgn neg v.num.natAbs := by
  have h := ex_xcross (z := z) (D := (D : Int)) (by omega)
  rw [← hv] at h
  have hd : 0 < v.den := Nat.pos_of_ne_zero v.den_nz
  unfold sgn at hz ⊢
  cases neg
  · simp only [Bool.false_eq_true, if_false] at hz ⊢
    have h1 : 0 ≤ v.num * (D : Int) := by rw [← h, hz]; exact Int.mul_nonneg (by omega) (by omega)
    have h2 : 0 ≤ v.num := by
      rcases Int.lt_or_le v.num 0 with h' | h'
      · exfalso; have := Int.mul_neg_of_neg_of_pos h' (show (0 : Int) < D by omega); omega
      · exact h'
    omega
  · simp only [if_true] at hz ⊢
    have h1 : v.num * (D : Int) ≤ 0 := by
      rw [← h, hz, Int.neg_mul]
      have := Int.mul_nonneg (show (0 : Int) ≤ N by omega) (show (0 : Int) ≤ v.den by omega)
      omega
    have h2 : v.num ≤ 0 := by
      rcases Int.lt_or_le 0 v.num with h' | h'
      · exfalso; have := Int.mul_pos h' (show (0 : Int) < D by omega); omega
      · exact h'
    omega
/-- The text of a number told to K places. -/
def exT (v : Rat) (K : Nat) : List UInt8 := textL (decide (v.num < 0)) K (Go.Lib.decDigits (v.num.natAbs * 10 ^ K / v.den))
/-- Was nothing cut off? -/
def exB (v : Rat) (K : Nat) : Bool := decide (v.num.natAbs * 10 ^ K % v.den = 0)
theorem ex_cross {N D p : Nat} {v : Rat} {z : Int} (hD : 0 < D) (hz : z.natAbs = N) (hv : v = Rat.divInt z (D : Int)) : (N * 10 ^ p) * v.den = (v.num.natAbs * 10 ^ p) * D := by
  have hx := ex_nat hD hz hv
  calc (N * 10 ^ p) * v.den = (N * v.den) * 10 ^ p := by rw [Nat.mul_assoc, Nat.mul_comm (10 ^ p), Nat.mul_assoc]
    _ = (v.num.natAbs * D) * 10 ^ p := by rw [hx]
    _ = (v.num.natAbs * 10 ^ p) * D := by rw [Nat.mul_assoc, Nat.mul_comm D, Nat.mul_assoc]
theorem ex_quot {N D p : Nat} {v : Rat} {z : Int} (hD : 0 < D) (hz : z.natAbs = N) (hv : v = Rat.divInt z (D : Int)) : (N * 10 ^ p) / D = v.num.natAbs * 10 ^ p / v.den := by
  have hx := ex_cross (p := p) hD hz hv
  have hd : 0 < v.den := Nat.pos_of_ne_zero v.den_nz
  rw [← Nat.mul_div_mul_right (N * 10 ^ p) D hd, hx, Nat.mul_comm D v.den, Nat.mul_div_mul_right _ _ hD]
theorem ex_mod {N D p : Nat} {v : Rat} {z : Int} (hD : 0 < D) (hz : z.natAbs = N) (hv : v = Rat.divInt z (D : Int)) : ((N * 10 ^ p) % D = 0) ↔ (v.num.natAbs * 10 ^ p % v.den = 0) := by
  have hx := ex_cross (p := p) hD hz hv
  have hd : 0 < v.den := Nat.pos_of_ne_zero v.den_nz
  have h1 := Nat.mul_mod_mul_right v.den (N * 10 ^ p) D
  have h2 := Nat.mul_mod_mul_right D (v.num.natAbs * 10 ^ p) v.den
  rw [hx, Nat.mul_comm D v.den, h2] at h1
  constructor
  · intro h
    rw [h, Nat.zero_mul] at h1
    rcases Nat.mul_eq_zero.1 h1 with h' | h'
    · exact h'
    · omega
  · intro h
    rw [h, Nat.zero_mul] at h1
    rcases Nat.mul_eq_zero.1 h1.symm with h' | h'
    · exact h'
    · omega
theorem ex_neg {D N : Nat} {v : Rat} {z : Int} {neg : Bool} (hD : 0 < D) (hz : z = sgn neg N) (hv : v = Rat.divInt z (D : Int)) : (neg && !decide (N = 0)) = decide (v.num < 0) := by
  have h1 := ex_sign hD hz hv
  have h2 := ex_nat (N := N) hD (by rw [hz]; unfold sgn; cases neg <;> simp) hv
  have hd : 0 < v.den := Nat.pos_of_ne_zero v.den_nz
  have h3 : N = 0 ↔ v.num.natAbs = 0 := by
    constructor
    · intro h
      rw [h, Nat.zero_mul] at h2
      rcases Nat.mul_eq_zero.1 h2.symm with h' | h'
      · exact h'
      · omega
    · intro h
      rw [h, Nat.zero_mul] at h2
      rcases Nat.mul_eq_zero.1 h2 with h' | h'
      · exact h'
      · omega
  unfold sgn at h1
  cases neg
  · simp only [Bool.false_eq_true, if_false] at h1
    rw [Bool.false_and, decide_eq_false (show ¬ v.num < 0 by omega)]
  · simp only [if_true] at h1
    rw [Bool.true_and]
    by_cases hN : N = 0
    · have := h3.1 hN
      rw [decide_eq_true hN, decide_eq_false (show ¬ v.num < 0 by omega)]; rfl
    · have : v.num.natAbs ≠ 0 := fun h => hN (h3.2 h)
      rw [decide_eq_false hN, decide_eq_true (show v.num < 0 by omega)]; rfl
theorem hM_any {m n : Nat} {N : Int} (hlt : N < 2 ^ m) (h : ((10 : Nat) : Int) ^ n ≤ N) : n ≤ m := by
  rcases Nat.lt_or_ge m n with h' | h'
  · exfalso
    have h1 : 2 ^ m ≤ 10 ^ n := Nat.le_trans (Nat.pow_le_pow_right (by omega) (Nat.le_of_lt h')) (Nat.pow_le_pow_left (by omega) n)
    have h2 : (2 : Int) ^ m ≤ ((10 : Nat) : Int) ^ n := by exact_mod_cast h1
    omega
  · exact h'
theorem hM6 {N : Int} (hlt : N < pw 4096) (n : Nat) (h : ((10 : Nat) : Int) ^ n ≤ N) : n ≤ 300000 := by
  rw [pw_eq] at hlt
  have := hM_any hlt h
  omega
theorem pw_less {m n : Nat} (h : m < n) : pw m < pw n := by
  have h1 : pw (m + 1) ≤ pw n := pw_mono h
  have h2 := pw_pos m
  have h3 : pw (m + 1) = pw m * 18446744073709551616 := by rw [pw_add]; rfl
  omega
theorem ten_two {K m : Nat} (h : 4 * K ≤ m) : (10 : Int) ^ K ≤ 2 ^ m := by
  have h1 : 10 ^ K ≤ 16 ^ K := Nat.pow_le_pow_left (by omega) K
  have h2 : 16 ^ K = 2 ^ (4 * K) := by rw [Nat.pow_mul]
  have h3 : 2 ^ (4 * K) ≤ 2 ^ m := Nat.pow_le_pow_right (by omega) h
  have h4 : 10 ^ K ≤ 2 ^ m := by rw [h2] at h1; exact Nat.le_trans h1 h3
  exact_mod_cast h4
theorem ten_pw {K : Nat} (hK : K ≤ 4096) : (10 : Int) ^ K ≤ pw 256 := by
  rw [pw_eq]
  exact ten_two (by omega)
end Go.Proofs.YtebbblhafjaaiaaGreatDoor
namespace Go.Proofs.YtebbblhafjaaiaaGreatDoor
set_option linter.unusedVariables false
theorem ten_ne (P : Nat) : (10 : Int) ^ P ≠ 0 := Int.ne_of_gt (Int.pow_pos (by omega))
theorem cross {U : Int} {P : Nat} {v : Rat} (hv : v = Rat.divInt U (10 ^ P)) : v.num * 10 ^ P = U * v.den := by
  have h := Rat.num_divInt_den v
  rw [hv] at h
  have := (Rat.divInt_eq_divInt_iff (by have := (Rat.divInt U (10 ^ P)).den_nz; omega) (ten_ne P)).1 h
  rw [← hv] at this
  exact this
/-- The fewest places at which a number of 10^-P parts is whole. -/
theorem few {U : Int} {P : Nat} {v : Rat} (hv : v = Rat.divInt U (10 ^ P)) (hc : 0 < P → U.natAbs % 10 ≠ 0) {p t : Nat} (hp : p ≤ P) (h : 10 ^ p = v.den * t) : p = P ∧ v.num * t = U := by
  have hx := cross hv
  have hd : (v.den : Int) ≠ 0 := by have := v.den_nz; omega
  obtain ⟨d, rfl⟩ : ∃ d, P = p + d := ⟨P - p, by omega⟩
  have h' : ((10 : Int)) ^ p = v.den * t := by exact_mod_cast h
  have e : U = v.num * t * 10 ^ d := by
    rw [Int.pow_add, h'] at hx
    have h3 : U * v.den = (v.num * t * 10 ^ d) * v.den := by rw [← hx]; grind
    exact Int.eq_of_mul_eq_mul_right hd h3
  rcases Nat.eq_zero_or_pos d with h0 | h0
  · subst h0
    exact ⟨rfl, by rw [e]; simp⟩
  · exfalso
    obtain ⟨f, rfl⟩ : ∃ f, d = f + 1 := ⟨d - 1, by omega⟩
    have h10 : (10 : Int) ∣ U := ⟨v.num * t * 10 ^ f, by rw [e, Int.pow_succ]; grind⟩
    exact hc (by omega) (by omega)
end Go.Proofs.YtebbblhafjaaiaaGreatDoor
namespace Go.Proofs.YtebbblhafjaaiaaGreatDoor
set_option linter.unusedVariables false
/-- It may be. -/
def Can (U : Int) (P : Nat) : Prop := P ≤ 9 ∧ (0 < P → U.natAbs % 10 ≠ 0)
theorem tmod_iff (U : Int) : U.tmod 10 = 0 ↔ U.natAbs % 10 = 0 := by rw [← Int.dvd_iff_tmod_eq_zero]; omega
end Go.Proofs.YtebbblhafjaaiaaGreatDoor
namespace Go.Proofs.YtebbblhafjaaiaaGreatDoor
open Go.RowKit Go.Shelf
set_option linter.unusedVariables false

theorem isPlaces_yes (P : Int) (h0 : 0 ≤ P) (h9 : P ≤ 9) (w : World) : Calls Tryz.prog 45 #[.int .i64 P] w fun e w' => e = .returned (.bool true) ∧ w' = w := by
  go_enter Tryz.func45, Tryz.ntmps45
  go_wp2_with fail
  go_ret
  exact ⟨rfl, rfl⟩
theorem isPlaces_no (P : Int) (h : ¬ (0 ≤ P ∧ P ≤ 9)) (w : World) : Calls Tryz.prog 45 #[.int .i64 P] w fun e w' => e = .returned (.bool false) ∧ w' = w := by
  by_cases h0 : 0 ≤ P
  · have h9 : ¬ P ≤ 9 := fun h9 => h ⟨h0, h9⟩
    go_enter Tryz.func45, Tryz.ntmps45
    go_wp2_with fail
    go_ret
    exact ⟨rfl, rfl⟩
  · go_enter Tryz.func45, Tryz.ntmps45
    go_wp2_with fail
    go_ret
    exact ⟨rfl, rfl⟩
/-- A decimal that may be, its places being any int. -/
def CanI (U P : Int) : Prop := 0 ≤ P ∧ P ≤ 9 ∧ (0 < P → U.tmod 10 ≠ 0)
theorem canI_iff (U : Int) (P : Nat) : CanI U P ↔ Can U P := by
  unfold CanI Can
  constructor
  · rintro ⟨h1, h2, h3⟩
    exact ⟨by omega, fun h => by have := h3 (by omega); rwa [Ne, tmod_iff] at this⟩
  · rintro ⟨h1, h2⟩
    exact ⟨by omega, by omega, fun h => by rw [Ne, tmod_iff]; exact h2 (by omega)⟩
set_option maxHeartbeats 1000000 in
theorem check_ok (U P : Int) (h : CanI U P) (w : World) : Calls Tryz.prog 11 #[.agg #[.int .i64 U, .int .i64 P]] w fun e w' => e = .returned (.int .i64 0) ∧ Below w.heap.size w w' := by
  obtain ⟨h0, h9, h3⟩ := h
  by_cases hp : 0 < P
  · obtain ⟨m, hm⟩ : ∃ m, U.tmod 10 = m := ⟨_, rfl⟩
    have hm0 : (m == 0) = false := by have := h3 hp; rw [hm] at this; simpa using this
    go_enter Tryz.func11, Tryz.ntmps11
    go_wp2_with (go_at_call 45; refine (isPlaces_yes P h0 h9 _).mono ?_; rintro e w' ⟨rfl, rfl⟩)
    go_ret
    exact ⟨rfl, (Below.refl _ _).alloc (Nat.le_refl _) _⟩
  · go_enter Tryz.func11, Tryz.ntmps11
    go_wp2_with (go_at_call 45; refine (isPlaces_yes P h0 h9 _).mono ?_; rintro e w' ⟨rfl, rfl⟩)
    go_ret
    exact ⟨rfl, (Below.refl _ _).alloc (Nat.le_refl _) _⟩
set_option maxHeartbeats 1000000 in
theorem check_no (U P : Int) (h : ¬ CanI U P) (w : World) : Calls Tryz.prog 11 #[.agg #[.int .i64 U, .int .i64 P]] w fun e w' => e = .returned (.int .i64 60) ∧ Below w.heap.size w w' := by
  by_cases h1 : 0 ≤ P ∧ P ≤ 9
  · have hp : 0 < P := by
      rcases Int.lt_or_le 0 P with h' | h'
      · exact h'
      · exact absurd ⟨h1.1, h1.2, fun hh => by omega⟩ h
    have hm : U.tmod 10 = 0 := by
      rcases Decidable.em (U.tmod 10 = 0) with h' | h'
      · exact h'
      · exact absurd ⟨h1.1, h1.2, fun _ => h'⟩ h
    go_enter Tryz.func11, Tryz.ntmps11
    go_wp2_with (go_at_call 45; refine (isPlaces_yes P h1.1 h1.2 _).mono ?_; rintro e w' ⟨rfl, rfl⟩)
    go_ret
    exact ⟨rfl, (Below.refl _ _).alloc (Nat.le_refl _) _⟩
  · go_enter Tryz.func11, Tryz.ntmps11
    go_wp2_with (go_at_call 45; refine (isPlaces_no P h1 _).mono ?_; rintro e w' ⟨rfl, rfl⟩)
    go_ret
    exact ⟨rfl, (Below.refl _ _).alloc (Nat.le_refl _) _⟩
theorem results_dt {fn : Func} {i j b : Nat} {v u : Value} {tmps : Array Value} {w : World} (h : fn.results = #[.cell i 23, .tmp j]) (hi : tmps.getD i undef = .pointer (some ⟨b, 0, none⟩)) (hv : Va w b 23 #[v, u]) :
    (results fn tmps).run Tryz.prog w = .ok (.tuple #[.agg #[v, u], tmps.getD j undef]) w := by
  have c := hv.c0; have d := hv.c1
  rw [Array.getD_eq_getD_getElem?] at hi
  simp [results, h, hi, c, d, go_sem]
end Go.Proofs.YtebbblhafjaaiaaGreatDoor
namespace Go.Proofs.YtebbblhafjaaiaaGreatDoor
set_option linter.unusedVariables false

def tvI (b : Int) (l : List Int) : Int := l.foldl (fun s z => s * b + z) 0
theorem tvI_snoc (b : Int) (l : List Int) (z : Int) : tvI b (l ++ [z]) = tvI b l * b + z := by simp [tvI]
theorem tvI_fold (b : Int) (m : List Int) : ∀ s, m.foldl (fun s z => s * b + z) s = s * b ^ m.length + tvI b m := by
  induction m with
  | nil => intro s; simp [tvI]
  | cons z m ih =>
    intro s
    have e : tvI b (z :: m) = m.foldl (fun s z => s * b + z) (0 * b + z) := rfl
    rw [List.foldl_cons, ih, e, ih, List.length_cons, Int.pow_succ]
    grind
theorem tvI_append (b : Int) (l m : List Int) : tvI b (l ++ m) = tvI b l * b ^ m.length + tvI b m := by
  have : tvI b (l ++ m) = m.foldl (fun s z => s * b + z) (tvI b l) := by unfold tvI; rw [List.foldl_append]
  rw [this, tvI_fold]
/-- Each is a digit to that base. -/
def DgI (b : Int) (l : List Int) : Prop := ∀ z ∈ l, 0 ≤ z ∧ z < b
theorem DgI.take {b : Int} {l : List Int} (h : DgI b l) (n : Nat) : DgI b (l.take n) := fun z hz => h z (List.mem_of_mem_take hz)
theorem DgI.drop {b : Int} {l : List Int} (h : DgI b l) (n : Nat) : DgI b (l.drop n) := fun z hz => h z (List.mem_of_mem_drop hz)
theorem DgI.getD {b : Int} {l : List Int} (h : DgI b l) {i : Nat} (hi : i < l.length) : 0 ≤ l.getD i 0 ∧ l.getD i 0 < b := by
  rw [List.getD_eq_getElem?_getD, List.getElem?_eq_getElem hi]; exact h _ (List.getElem_mem hi)
theorem tvI_nonneg {b : Int} (hb : 1 ≤ b) : ∀ {l : List Int}, DgI b l → ∀ s, 0 ≤ s → 0 ≤ l.foldl (fun s z => s * b + z) s
  | [], _, s, hs => hs
  | z :: l, h, s, hs => by
    rw [List.foldl_cons]
    have hz := h z (by simp)
    exact tvI_nonneg hb (fun x hx => h x (by simp [hx])) _ (by have := Int.mul_nonneg hs (show 0 ≤ b by omega); omega)
theorem tvI_pos {b : Int} (hb : 1 ≤ b) {l : List Int} (h : DgI b l) : 0 ≤ tvI b l := tvI_nonneg hb h 0 (by omega)
theorem ipow_pos {b : Int} (hb : 1 ≤ b) : ∀ n : Nat, 1 ≤ b ^ n
  | 0 => by simp
  | n + 1 => by
    have h1 := ipow_pos hb n
    rw [Int.pow_succ]
    have h2 : b ^ n * 1 ≤ b ^ n * b := Int.mul_le_mul_of_nonneg_left hb (by omega)
    omega
/-- One more digit. -/
theorem take_snocI (l : List Int) (k : Nat) (h : k < l.length) : l.take (k + 1) = l.take k ++ [l.getD k 0] := by
  rw [List.take_succ_eq_append_getElem h, List.getD_eq_getElem?_getD, List.getElem?_eq_getElem h]; rfl
theorem drop_take_snoc (l : List Int) (k j : Nat) (h : k + j < l.length) : (l.drop k).take (j + 1) = (l.drop k).take j ++ [l.getD (k + j) 0] := by
  rw [take_snocI _ _ (by rw [List.length_drop]; omega)]
  congr 2
  rw [List.getD_eq_getElem?_getD, List.getD_eq_getElem?_getD, List.getElem?_drop]
theorem take_more (l : List Int) (k j : Nat) : l.take (k + j) = l.take k ++ (l.drop k).take j := by rw [List.take_add]
/-- Digits are below the power. -/
theorem tvI_lt {b : Int} (hb : 1 ≤ b) {l : List Int} (h : DgI b l) : tvI b l < b ^ l.length := by
  induction l with
  | nil => simp [tvI]
  | cons z l ih =>
    have hz := h z (by simp)
    have ih' := ih (fun x hx => h x (by simp [hx]))
    have e : tvI b (z :: l) = z * b ^ l.length + tvI b l := by
      have := tvI_append b [z] l
      rw [List.singleton_append] at this
      rw [this]; simp [tvI]
    have hp := ipow_pos hb l.length
    rw [e, List.length_cons, Int.pow_succ, Int.mul_comm (b ^ l.length) b]
    have h1 : z * b ^ l.length ≤ (b - 1) * b ^ l.length := Int.mul_le_mul_of_nonneg_right (by omega) (by omega)
    have h2 : (b - 1) * b ^ l.length = b * b ^ l.length - b ^ l.length := by grind
    omega
/-- A text's digits. -/
def txI (s : List UInt8) : List Int := s.map (fun c => (wv c : Int))
theorem txI_val (b : Nat) : ∀ s : List UInt8, tvI b (txI s) = (tv b s : Int) := by
  intro s
  unfold tvI txI tv
  rw [List.foldl_map]
  have : ∀ (l : List UInt8) (n : Nat), l.foldl (fun (x : Int) c => x * b + (wv c : Int)) (n : Int) = ((l.foldl (fun s c => s * b + wv c) n : Nat) : Int) := by
    intro l
    induction l with
    | nil => intro n; rfl
    | cons c l ih =>
      intro n
      rw [List.foldl_cons, List.foldl_cons, ← ih]
      congr 1
  exact this s 0
end Go.Proofs.YtebbblhafjaaiaaGreatDoor
namespace Go.Proofs.YtebbblhafjaaiaaGreatDoor
set_option linter.unusedVariables false

/-- What digits come to, the lowest first. -/
def lvB (b : Int) : List Int → Int
  | [] => 0
  | z :: t => z + b * lvB b t
theorem lvB_app (b x : Int) : ∀ os : List Int, lvB b (os ++ [x]) = lvB b os + b ^ os.length * x
  | [] => by simp [lvB]
  | z :: t => by
    rw [List.cons_append]
    simp only [lvB, List.length_cons]
    rw [lvB_app b x t, Int.pow_succ]
    grind
theorem lvB_rev (b : Int) : ∀ os : List Int, tvI b os.reverse = lvB b os
  | [] => rfl
  | z :: t => by
    rw [List.reverse_cons, tvI_snoc, lvB_rev b t]
    simp only [lvB]
    grind
theorem DgI.app {b : Int} {os : List Int} (h : DgI b os) {x : Int} (hx : 0 ≤ x ∧ x < b) : DgI b (os ++ [x]) := fun z hz => by
  rcases List.mem_append.1 hz with h' | h'
  · exact h z h'
  · rw [List.mem_singleton.1 h']; exact hx
/-- The highest is not 0. -/
def TpB (os : List Int) : Prop := os ≠ [] ∧ os.getD (os.length - 1) 0 ≠ 0
theorem tpB_app {os : List Int} {x : Int} (hx : x ≠ 0) : TpB (os ++ [x]) := by
  refine ⟨by simp, ?_⟩
  rw [List.length_append, List.length_singleton, Nat.add_sub_cancel, List.getD_eq_getElem?_getD, List.getElem?_append_right (Nat.le_refl _), Nat.sub_self]
  simpa using hx
structure InB (b N C : Int) (sz l0 k : Nat) (os : List Int) (r : Int) : Prop where
  dig : DgI b os
  val : N = lvB b os + b ^ os.length * (r + C * b ^ (sz - k))
  len : os.length = l0 + k
  kl : k ≤ sz
  r0 : 0 ≤ r
  r1 : r < b ^ (sz - k)
  top : 0 < k → C = 0 → r = 0 → TpB os
theorem InB.step {b N C : Int} {sz l0 k : Nat} {os : List Int} {r : Int} (h : InB b N C sz l0 k os r) (hb : 2 ≤ b) (hC : 0 ≤ C) (hk : k < sz) (hc : 0 < C ∨ 0 < r) : InB b N C sz l0 (k + 1) (os ++ [r % b]) (r / b) := by
  obtain ⟨h1, h2, h3, h4, h5, h6, h7⟩ := h
  have hm0 := Int.emod_nonneg r (b := b) (by omega)
  have hm1 := Int.emod_lt_of_pos r (b := b) (by omega)
  have hdm := Int.mul_ediv_add_emod r b
  obtain ⟨t, ht⟩ : ∃ t, sz - k = t + 1 := ⟨sz - k - 1, by omega⟩
  have ht2 : sz - (k + 1) = t := by omega
  rw [ht, Int.pow_succ] at h2 h6
  refine ⟨h1.app ⟨hm0, hm1⟩, ?_, by rw [List.length_append, List.length_singleton]; omega, by omega, Int.ediv_nonneg h5 (by omega), ?_, fun _ c0 r0 => ?_⟩
  · rw [ht2, lvB_app, List.length_append, List.length_singleton, Int.pow_succ, h2]
    generalize b ^ os.length = X
    generalize b ^ t = Y
    generalize hq : r / b = q at *
    generalize hs : r % b = s at *
    rw [← hdm]
    grind
  · rw [ht2]
    exact Int.ediv_lt_of_lt_mul (by omega) h6
  · refine tpB_app ?_
    have hrp : 0 < r := by omega
    rw [r0] at hdm
    omega
structure OuB (b N D : Int) (os : List Int) : Prop where
  dig : DgI b os
  val : N = lvB b os + b ^ os.length * D
  top : D = 0 → os = [] ∨ TpB os
theorem OuB.start (b N : Int) : OuB b N N [] := ⟨fun z hz => (by cases hz), by simp [lvB], fun _ => .inl rfl⟩
theorem OuB.piece {b N D C r : Int} {sz : Nat} {os : List Int} (h : OuB b N D os) (e : D = C * b ^ sz + r) (r0 : 0 ≤ r) (r1 : r < b ^ sz) : InB b N C sz os.length 0 os r :=
  ⟨h.dig, by rw [h.val, e, Nat.sub_zero]; grind, by omega, by omega, r0, by rw [Nat.sub_zero]; exact r1, fun h => by omega⟩
theorem InB.leave {b N C r : Int} {sz l0 k : Nat} {os : List Int} (h : InB b N C sz l0 k os r) (hk : 0 < k) (he : k = sz ∨ (C = 0 ∧ r = 0)) : OuB b N C os := by
  obtain ⟨h1, h2, h3, h4, h5, h6, h7⟩ := h
  rcases he with rfl | ⟨rfl, rfl⟩
  · rw [Nat.sub_self, Int.pow_zero] at h2 h6
    have r0 : r = 0 := by omega
    subst r0
    exact ⟨h1, by rw [h2]; grind, fun c0 => .inr (h7 hk c0 rfl)⟩
  · exact ⟨h1, by rw [h2]; grind, fun _ => .inr (h7 hk rfl rfl)⟩
theorem lvB_nonneg {b : Int} (hb : 1 ≤ b) {os : List Int} (h : DgI b os) : 0 ≤ lvB b os := by
  rw [← lvB_rev]; exact tvI_pos hb (fun z hz => h z (List.mem_reverse.1 hz))
theorem OuB.le {b N D : Int} {os : List Int} (h : OuB b N D os) (hb : 1 ≤ b) (hD : 0 < D) : b ^ os.length ≤ N := by
  have h1 := lvB_nonneg hb h.dig
  have h2 := ipow_pos hb os.length
  have h3 : b ^ os.length * 1 ≤ b ^ os.length * D := Int.mul_le_mul_of_nonneg_left (by omega) (by omega)
  rw [h.val]
  omega
end Go.Proofs.YtebbblhafjaaiaaGreatDoor
namespace Go.Proofs.YtebbblhafjaaiaaGreatDoor
open Go.RowKit Go.Shelf
set_option linter.unusedVariables false

theorem below_dN {B : Nat} {a w : World} (h : Below B a w) (n : Nat) : Below B a (w.drewN n) := below_drewN h n
set_option maxHeartbeats 4000000 in
theorem written_a (neg : Bool) (P : Nat) (hP : P ≤ 4096) (a : Option Addr) (l c : Nat) (w : World) (t : List UInt8) (hl : t.length ≤ 1000000) (hl1 : 0 < t.length)
    (hX : ∀ W, Below w.heap.size w W → Calls Tryz.prog 103 #[.agg #[.slice a l c], .int .i64 10] W fun e W' => e = .returned (.tuple #[.string ⟨List.toArray t⟩, .int .i64 0]) ∧ Below W.heap.size W W') :
    Calls Tryz.prog 50 #[.bool neg, .agg #[.slice a l c], .int .i64 P] w fun e W' => e = .returned (.string ⟨(textL neg P t).toArray⟩) ∧ Below w.heap.size w W' := by
  have HX : Hid _ := hX
  clear hX
  go_enter Tryz.func50, Tryz.ntmps50
  go_wp2_with fail
  refine ent1 w _ _ (Q := fun W => Calls Tryz.prog _ _ W _) ?_
  intro w0 B0 hs V0
  refine (HX.out w0 B0).mono ?_
  rintro e w1 ⟨rfl, hb1⟩
  replace B0 := step B0 hb1
  clear hb1 V0 hs HX
  have hct := cat
  by_cases hz : (0 : Int) < (P : Int) + 1 - t.length
  · obtain ⟨Z, hZ⟩ : ∃ Z : Nat, (P : Int) + 1 - t.length = Z := ⟨P + 1 - t.length, by omega⟩
    have HZ : Hid (Z = P + 1 - t.length) := by show Z = _; omega
    have hz6 : Z ≤ 5000 := by omega
    have hzp : (0 : Int) < Z := by omega
    have HPD : Hid (padL P t = List.replicate Z 48 ++ t) := by show padL P t = _; unfold padL; rw [HZ.out]
    have hL : Hid ((List.replicate Z (48 : UInt8) ++ t).length = P + 1) := by have := HZ.out; show _ = _; simp; omega
    have hL2 : (List.replicate Z (48 : UInt8) ++ t).length ≤ 1000000 := by rw [hL.out]; omega
    have c0 := cat (List.replicate Z 48) t
    clear hz
    go_wp2_with fail
    refine (zrep Z (by omega) _).mono ?_
    rintro e w2 ⟨rfl, hb2⟩
    replace B0 := step B0 hb2
    clear hb2 hZ hzp
    generalize hTT : List.replicate Z (48 : UInt8) ++ t = T at *
    by_cases hp : 0 < P
    · have hpi : (0 : Int) < P := by omega
      have hlT : P < (T).length := by have := hL.out; omega
      have s1 := slice_hi (T) (((T).length : Int) - P) ((T).length - P) (by omega) (by omega)
      have s2 := slice_lo (T) (((T).length : Int) - P) ((T).length - P) (by omega) (by omega)
      have c1 := cat ((T).take ((T).length - P)) [46]
      have c2 := cat ((T).take ((T).length - P) ++ [46]) ((T).drop ((T).length - P))
      have c3 := cat [45] ((T).take ((T).length - P) ++ [46] ++ (T).drop ((T).length - P))
      have HE : Hid (ptL P (T) = (T).take ((T).length - P) ++ 46 :: (T).drop ((T).length - P)) := by show ptL P _ = _; unfold ptL; rw [if_neg (by omega)]
      cases neg
      · go_wp2_with fail
        go_quiet (fail)
        go_wp2_with fail
        go_ret
        refine ⟨?_, below_dN B0 _⟩
        have e : textL false P t = ((T).take ((T).length - P) ++ 46 :: (T).drop ((T).length - P)) := by unfold textL sgL; rw [HPD.out, HE.out]; rfl
        rw [e]
        rfl
      · go_wp2_with fail
        go_quiet (fail)
        go_wp2_with fail
        go_ret
        refine ⟨?_, below_dN B0 _⟩
        have e : textL true P t = 45 :: ((T).take ((T).length - P) ++ 46 :: (T).drop ((T).length - P)) := by unfold textL sgL; rw [HPD.out, HE.out]; rfl
        rw [e]
        rfl
    · have hpi : ¬ (0 : Int) < P := by omega
      have HP0 : Hid (P = 0) := by show P = 0; omega
      have c3 := cat [45] (T)
      cases neg
      · go_wp2_with fail
        go_ret
        refine ⟨?_, B0⟩
        have e : textL false P t = (T) := by unfold textL sgL; rw [HPD.out]; unfold ptL; rw [if_pos HP0.out]; rfl
        rw [e]
        rfl
      · go_wp2_with fail
        go_ret
        refine ⟨?_, B0⟩
        have e : textL true P t = 45 :: (T) := by unfold textL sgL; rw [HPD.out]; unfold ptL; rw [if_pos HP0.out]; rfl
        rw [e]
        rfl
  · have HPD : Hid (padL P t = t) := by show padL P t = _; unfold padL; rw [show P + 1 - t.length = 0 by omega]; rfl
    have hL : Hid (P + 1 ≤ t.length) := by show P + 1 ≤ _; omega
    by_cases hp : 0 < P
    · have hpi : (0 : Int) < P := by omega
      have hlT : P < (t).length := by have := hL.out; omega
      have s1 := slice_hi (t) (((t).length : Int) - P) ((t).length - P) (by omega) (by omega)
      have s2 := slice_lo (t) (((t).length : Int) - P) ((t).length - P) (by omega) (by omega)
      have c1 := cat ((t).take ((t).length - P)) [46]
      have c2 := cat ((t).take ((t).length - P) ++ [46]) ((t).drop ((t).length - P))
      have c3 := cat [45] ((t).take ((t).length - P) ++ [46] ++ (t).drop ((t).length - P))
      have HE : Hid (ptL P (t) = (t).take ((t).length - P) ++ 46 :: (t).drop ((t).length - P)) := by show ptL P _ = _; unfold ptL; rw [if_neg (by omega)]
      cases neg
      · go_wp2_with fail
        go_quiet (fail)
        go_wp2_with fail
        go_ret
        refine ⟨?_, below_dN B0 _⟩
        have e : textL false P t = ((t).take ((t).length - P) ++ 46 :: (t).drop ((t).length - P)) := by unfold textL sgL; rw [HPD.out, HE.out]; rfl
        rw [e]
        rfl
      · go_wp2_with fail
        go_quiet (fail)
        go_wp2_with fail
        go_ret
        refine ⟨?_, below_dN B0 _⟩
        have e : textL true P t = 45 :: ((t).take ((t).length - P) ++ 46 :: (t).drop ((t).length - P)) := by unfold textL sgL; rw [HPD.out, HE.out]; rfl
        rw [e]
        rfl
    · have hpi : ¬ (0 : Int) < P := by omega
      have HP0 : Hid (P = 0) := by show P = 0; omega
      have c3 := cat [45] (t)
      cases neg
      · go_wp2_with fail
        go_ret
        refine ⟨?_, B0⟩
        have e : textL false P t = (t) := by unfold textL sgL; rw [HPD.out]; unfold ptL; rw [if_pos HP0.out]; rfl
        rw [e]
        rfl
      · go_wp2_with fail
        go_ret
        refine ⟨?_, B0⟩
        have e : textL true P t = 45 :: (t) := by unfold textL sgL; rw [HPD.out]; unfold ptL; rw [if_pos HP0.out]; rfl
        rw [e]
        rfl
end Go.Proofs.YtebbblhafjaaiaaGreatDoor
namespace Go.Proofs.YtebbblhafjaaiaaGreatDoor
open Go.RowKit Go.Shelf
set_option linter.unusedVariables false

theorem text_dec (a : Option Addr) (l c : Nat) (xs : List Int) (w : World) (h : Nt w a l c xs) (hlt : num xs < 10000000000000000000) (hT : Pt w) :
    Calls Tryz.prog 103 #[.agg #[.slice a l c], .int .i64 10] w fun e W' => e = .returned (.tuple #[.string ⟨(Go.Lib.decDigits (num xs).toNat).toArray⟩, .int .i64 0]) ∧ Below w.heap.size w W' := by
  refine (text_small a l c xs w h hlt hT).mono ?_
  rintro e W' ⟨t, rfl, ht, hb⟩
  rw [ht.unique (by omega) (by omega) (dec_tx _)]
  exact ⟨rfl, hb⟩
theorem dec_len {n : Nat} (h : n < 10 ^ 19) : 0 < (Go.Lib.decDigits n).length ∧ (Go.Lib.decDigits n).length ≤ 19 := ⟨(dec_tx n).pos, (dec_tx n).le (by omega) h (by omega)⟩
/-- The text of a decimal that may be. -/
def dtx (U : Int) (P : Nat) : List UInt8 := textL (decide (U < 0)) P (Go.Lib.decDigits U.natAbs)
set_option maxHeartbeats 4000000 in
theorem dtext_ok (U : Int) (P : Nat) (h1 : -9223372036854775808 ≤ U) (h2 : U ≤ 9223372036854775807) (hc : Can U P) (w : World) (hT : Pt w) :
  Calls Tryz.prog 14 #[.agg #[.int .i64 U, .int .i64 P]] w fun e W' => e = .returned (.tuple #[.string ⟨(dtx U P).toArray⟩, .int .i64 0]) ∧ Below w.heap.size w W' := by
 have HC : Hid (CanI U P) := (canI_iff U P).2 hc; have hP := hc.1; clear hc; have B0 : Below w.heap.size w w := Below.refl _ _
 go_enter Tryz.func14, Tryz.ntmps14
 (go_wp2_with fail); refine ent1 w _ _ (Q := fun W => Calls Tryz.prog _ _ W _) ?_; intro x1 hb hs_x1 V0; replace B0 := step B0 hb; clear hb hs_x1; refine (check_ok U P HC.out _).mono ?_; rintro e x2 ⟨rfl, hb⟩; replace V0 := Va.after hb V0; replace B0 := step B0 hb; clear hb; have c_V0 := V0.c0; have f0_V0 := V0.frozen 0; have d_V0 := V0.c1; have f1_V0 := V0.frozen 1; have l_V0 := V0.lt; have m_V0 := Nat.le_of_lt l_V0; (go_wp2_with fail); clear c_V0 f0_V0 d_V0 f1_V0 l_V0 m_V0; refine wp_region_noPanic ?_; replace V0 : Va x2.drew _ _ _ := V0; replace B0 := Below.drew B0; refine wp_region_held_drew (S := (fun W => W.cell? ⟨w.heap.size, 0, none⟩ = some (.int .i64 U) ∧ W.cell? ⟨w.heap.size, 1, none⟩ = some (.int .i64 P))) (by kernel_rfl) ⟨V0.c0, V0.c1⟩ (fun hHeld => ?_); (obtain ⟨x3, hxd⟩ : ∃ xd, xd = x2.drew := ⟨_, rfl⟩); rw [← hxd] at V0 B0 hHeld ⊢; clear hxd; refine tk 0 rfl hHeld ?_; simp only [gA, gB, Act.put, gD, gE, gF]; refine tk 1 rfl hHeld ?_
 simp only [gA, gB, gC, Act.put, gD, gE, gF]; refine tk 2 rfl hHeld ?_; simp only [gA, gB, gC, Act.put, gD, gE, gF]; refine tk 3 rfl hHeld ?_; simp only [gA, gB, gC, Act.put, gD, gE, gF]; refine tk 4 rfl hHeld ?_; simp only [gA, gB, gC, Act.put, gD, gE, gF]; refine tk 7 rfl hHeld ?_; simp only [gA, gB, gC, Act.put, gD, gE, gF]; refine tk 8 rfl hHeld ?_; simp only [gA, gB, gC, Act.put, gD, gE, gF]; refine wpAnyH_ready (rs := [5]) (by kernel_rfl) (by simp) ?_; refine AllReadyH.cons rfl (fun K hK => ?_) AllReadyH.nil; simp only [gA, gB, gC]; (go_simp); refine (wsmall_any U h1 h2 _).mono ?_; rintro e x4 ⟨s, a, l, c, zs, rfl, hI, hv, hb⟩; replace V0 := Va.after hb V0; replace B0 := step B0 hb; clear hb; (try go_wp2_with fail); refine hK.out _ _ ⟨V0.c0, V0.c1⟩ (fun hHeld => ?_); clear hK K; refine wpAnyH_ready (rs := [6]) (by kernel_rfl) (by simp) ?_; refine AllReadyH.cons rfl (fun K hK => ?_) AllReadyH.nil; simp only [gA, gB, gC]; (go_simp); refine (wabs_any s a l c _).mono ?_
 rintro e x5 ⟨rfl, hb⟩; replace V0 := Va.after hb V0; replace hI := It.after hb hI; replace B0 := step B0 hb; clear hb; (try go_wp2_with fail); refine hK.out _ _ ⟨V0.c0, V0.c1⟩ (fun hHeld => ?_); clear hK K; (have HV : Hid (num zs = U.natAbs) := by have := hI.abs; rw [hv] at this; exact this); refine wpAnyH_ready (rs := [9]) (by kernel_rfl) (by simp) ?_; refine AllReadyH.cons rfl (fun K hK => ?_) AllReadyH.nil; simp only [gA, gB, gC]; (go_simp); refine (written_a (decide (U < 0)) P (by omega) a l c _ (Go.Lib.decDigits U.natAbs) (by have := (dec_len (n := U.natAbs) (by omega)).2; omega) (dec_len (n := U.natAbs) (by omega)).1 (fun W hb => by have := text_dec a l c zs W (Nt.after hb hI.1) (by rw [HV.out]; omega) (hT.to (step B0 hb)); rw [show (num zs).toNat = U.natAbs by rw [HV.out]; rfl] at this; exact this)).mono ?_; rintro e x6 ⟨rfl, hb⟩; replace V0 := Va.after hb V0; replace hI := It.after hb hI; replace B0 := step B0 hb
 clear hb; (try go_wp2_with fail); refine hK.out _ _ ⟨V0.c0, V0.c1⟩ (fun hHeld => ?_); clear hK K; refine tk 10 rfl hHeld ?_; simp only [gA, gB, gC, Act.put, gD, gE, gF]; refine tk 11 rfl hHeld ?_; simp only [gA, gB, gC, Act.put, gD, gE, gF]; refine wpAnyH_done (by kernel_rfl) ?_ _; refine NoPanic.normal ?_; clear hHeld; (go_wp2_with fail)
 go_ret2
 exact ⟨rfl, B0⟩
end Go.Proofs.YtebbblhafjaaiaaGreatDoor
namespace Go.Proofs.YtebbblhafjaaiaaGreatDoor
open Go.RowKit Go.Shelf
set_option linter.unusedVariables false

/-- What Ten answers. -/
def TnR (w : World) (e : Ending) (w' : World) (V : Int) : Prop :=
  (∃ a l c zs, e = .returned (.tuple #[.agg #[.slice a l c], .int .i64 0]) ∧ Nt w' a l c zs ∧ num zs = V ∧ Below w.heap.size w w') ∨ (e = .returned (.tuple #[.agg #[.slice none 0 0], .int .i64 3]) ∧ Big V ∧ Below w.heap.size w w')
set_option maxHeartbeats 2000000 in
theorem ten_any (k : Nat) (hk : k ≤ 9223372036854775807) (w : World) : Calls Tryz.prog 31 #[.int .i64 k] w fun e w' => TnR w e w' (10 ^ k) := by
  have B0 : Below w.heap.size w w := Below.refl _ _
  go_enter Tryz.func31, Tryz.ntmps31
  go_wp2_with fail
  refine ent1 w _ _ (Q := fun W => Calls Tryz.prog _ _ W _) ?_
  intro x1 hb hs_x1 V0
  replace B0 := step B0 hb
  clear hb hs_x1
  refine (small_any 10 ⟨by omega, by omega⟩ _).mono ?_
  rintro e x2 ⟨a1, l1, c1, z1, rfl, h1, e1, hb⟩
  replace V0 := Va.after hb V0
  replace B0 := step B0 hb
  clear hb
  have c_V0 := V0.cell
  have f0_V0 := V0.frozen 0
  have l_V0 := V0.lt
  have m_V0 := Nat.le_of_lt l_V0
  have pa := pow_any a1 l1 c1 z1 k x2 h1 hk
  rw [e1] at pa
  clear e1 h1
  go_wp2_with fail
  refine pa.mono ?_
  rintro e x3 (⟨a2, l2, c2, z2, rfl, h2, e2, hb⟩ | ⟨rfl, hbig, hb⟩)
  · replace V0 := Va.after hb V0
    replace B0 := step B0 hb
    have E2 : Hid (num z2 = 10 ^ k) := e2
    clear e2 hb pa c_V0 f0_V0 l_V0 m_V0
    have c_V0 := V0.cell
    have f0_V0 := V0.frozen 0
    have l_V0 := V0.lt
    have m_V0 := Nat.le_of_lt l_V0
    go_wp2_with fail
    refine bodyPost_ret (results_ct rfl rfl (V0.set _)) rfl ?_
    exact .inl ⟨a2, l2, c2, z2, rfl, h2.store V0 _, E2.out, B0.setCell (p := ⟨w.heap.size, 0, none⟩) (Nat.le_refl _) _⟩
  · replace V0 := Va.after hb V0
    replace B0 := step B0 hb
    have HBIG : Hid (Big (10 ^ k)) := hbig
    clear hbig hb pa c_V0 f0_V0 l_V0 m_V0
    have c_V0 := V0.cell
    have f0_V0 := V0.frozen 0
    have l_V0 := V0.lt
    have m_V0 := Nat.le_of_lt l_V0
    go_wp2_with fail
    refine bodyPost_ret (results_ct rfl rfl (V0.set _)) rfl ?_
    exact .inr ⟨rfl, HBIG.out, B0.setCell (p := ⟨w.heap.size, 0, none⟩) (Nat.le_refl _) _⟩
end Go.Proofs.YtebbblhafjaaiaaGreatDoor
