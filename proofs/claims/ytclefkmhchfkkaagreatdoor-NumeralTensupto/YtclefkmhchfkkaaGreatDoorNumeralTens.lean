/-
  NumeralTens (P3.3), the second form: for every k the power of ten, the number times that power, and the number cut at its last k digits are what the document has them, with its errors; the number stays. For every list of limbs and every k that hold together at most 1048576 values; under the condition that the listed variables (the powers of ten of strconv, the tables of math/bits, among others) hold what the program's text lays.
-/
import Derived.Test.YtclefkmhchfkkaaGreatDoorTxP
import Derived.Test.YtclefkmhchfkkaaGreatDoorBsJ
import Derived.Test.YtclefkmhchfkkaaGreatDoorWt9
import Derived.Test.YtclefkmhchfkkaaGreatDoorGrU
import Derived.Test.YtclefkmhchfkkaaGreatDoorBsK
import Derived.Test.YtclefkmhchfkkaaGreatDoorBsL
import Derived.Test.YtclefkmhchfkkaaGreatDoorTextB
import Derived.Test.YtclefkmhchfkkaaGreatDoorNBackW
import Derived.Test.YtclefkmhchfkkaaGreatDoorBsE
import Derived.Test.YtclefkmhchfkkaaGreatDoorPow
import Derived.Test.YtclefkmhchfkkaaGreatDoorBsN
import Derived.Test.YtclefkmhchfkkaaGreatDoorBsO
import Derived.Test.YtclefkmhchfkkaaGreatDoorCards
import Derived.Test.YtclefkmhchfkkaaGreatDoorTie
import Derived.Lay
import Derived.LaidLaws
import Derived.MakeChecks
import Derived.SevenTiedAt
import Derived.WalkKit
import Derived.Deep.DeepHandedRow
import Derived.SizedLaws
import Derived.Test.YtclefkmhchfkkaaGreatDoorLaidP
import Derived.Test.YtclefkmhchfkkaaGreatDoorLaidZ
import Derived.ProofKit
import Derived.OpenShut
import Derived.ShutString
import Derived.ChangeOld
import Derived.Test.YtclefkmhchfkkaaGreatDoorBulk
namespace Go.Proofs.YtclefkmhchfkkaaGreatDoor
set_option linter.unusedVariables false

def tvI (b : Int) (l : List Int) : Int := l.foldl (fun s z => s * b + z) 0
theorem tvI_nil (b : Int) : tvI b [] = 0 := rfl
theorem tvI_snoc (b : Int) (l : List Int) (z : Int) : tvI b (l ++ [z]) = tvI b l * b + z := by simp [tvI]
theorem tvI_fold (b : Int) (m : List Int) : ∀ s, m.foldl (fun s z => s * b + z) s = s * b ^ m.length + tvI b m := by
  induction m with
  | nil => intro s; simp [tvI]
  | cons z m ih =>
    intro s
    have e : tvI b (z :: m) = m.foldl (fun s z => s * b + z) (0 * b + z) := rfl
    rw [List.foldl_cons, ih, e, ih, List.length_cons, Int.pow_succ]
    grind
theorem tvI_append (b : Int) (l m : List Int) : tvI b (l ++ m) = tvI b l * b ^ m.length + tvI b m := by
  have : tvI b (l ++ m) = m.foldl (fun s z => s * b + z) (tvI b l) := by unfold tvI; rw [List.foldl_append]
  rw [this, tvI_fold]
/-- Each is a digit to that base. -/
def DgI (b : Int) (l : List Int) : Prop := ∀ z ∈ l, 0 ≤ z ∧ z < b
theorem DgI.take {b : Int} {l : List Int} (h : DgI b l) (n : Nat) : DgI b (l.take n) := fun z hz => h z (List.mem_of_mem_take hz)
theorem DgI.drop {b : Int} {l : List Int} (h : DgI b l) (n : Nat) : DgI b (l.drop n) := fun z hz => h z (List.mem_of_mem_drop hz)
theorem DgI.getD {b : Int} {l : List Int} (h : DgI b l) {i : Nat} (hi : i < l.length) : 0 ≤ l.getD i 0 ∧ l.getD i 0 < b := by
  rw [List.getD_eq_getElem?_getD, List.getElem?_eq_getElem hi]; exact h _ (List.getElem_mem hi)
theorem tvI_nonneg {b : Int} (hb : 1 ≤ b) : ∀ {l : List Int}, DgI b l → ∀ s, 0 ≤ s → 0 ≤ l.foldl (fun s z => s * b + z) s
  | [], _, s, hs => hs
  | z :: l, h, s, hs => by
    rw [List.foldl_cons]
    have hz := h z (by simp)
    exact tvI_nonneg hb (fun x hx => h x (by simp [hx])) _ (by have := Int.mul_nonneg hs (show 0 ≤ b by omega); omega)
theorem tvI_pos {b : Int} (hb : 1 ≤ b) {l : List Int} (h : DgI b l) : 0 ≤ tvI b l := tvI_nonneg hb h 0 (by omega)
theorem ipow_pos {b : Int} (hb : 1 ≤ b) : ∀ n : Nat, 1 ≤ b ^ n
  | 0 => by simp
  | n + 1 => by
    have h1 := ipow_pos hb n
    rw [Int.pow_succ]
    have h2 : b ^ n * 1 ≤ b ^ n * b := Int.mul_le_mul_of_nonneg_left hb (by omega)
    omega
theorem tvI_mono {b : Int} (hb : 1 ≤ b) {l : List Int} (h : DgI b l) (k : Nat) : tvI b (l.take k) ≤ tvI b l := by
  have e : tvI b l = tvI b (l.take k) * b ^ (l.drop k).length + tvI b (l.drop k) := by rw [← tvI_append, List.take_append_drop]
  have h1 := tvI_pos hb (h.take k)
  have h2 := tvI_pos hb (h.drop k)
  have h3 := ipow_pos hb (l.drop k).length
  have h4 : tvI b (l.take k) * 1 ≤ tvI b (l.take k) * b ^ (l.drop k).length := Int.mul_le_mul_of_nonneg_left h3 h1
  omega
/-- One more digit. -/
theorem take_snocI (l : List Int) (k : Nat) (h : k < l.length) : l.take (k + 1) = l.take k ++ [l.getD k 0] := by
  rw [List.take_succ_eq_append_getElem h, List.getD_eq_getElem?_getD, List.getElem?_eq_getElem h]; rfl
theorem drop_take_snoc (l : List Int) (k j : Nat) (h : k + j < l.length) : (l.drop k).take (j + 1) = (l.drop k).take j ++ [l.getD (k + j) 0] := by
  rw [take_snocI _ _ (by rw [List.length_drop]; omega)]
  congr 2
  rw [List.getD_eq_getElem?_getD, List.getD_eq_getElem?_getD, List.getElem?_drop]
theorem take_more (l : List Int) (k j : Nat) : l.take (k + j) = l.take k ++ (l.drop k).take j := by rw [List.take_add]
/-- Digits are below the power. -/
theorem tvI_lt {b : Int} (hb : 1 ≤ b) {l : List Int} (h : DgI b l) : tvI b l < b ^ l.length := by
  induction l with
  | nil => simp [tvI]
  | cons z l ih =>
    have hz := h z (by simp)
    have ih' := ih (fun x hx => h x (by simp [hx]))
    have e : tvI b (z :: l) = z * b ^ l.length + tvI b l := by
      have := tvI_append b [z] l
      rw [List.singleton_append] at this
      rw [this]; simp [tvI]
    have hp := ipow_pos hb l.length
    rw [e, List.length_cons, Int.pow_succ, Int.mul_comm (b ^ l.length) b]
    have h1 : z * b ^ l.length ≤ (b - 1) * b ^ l.length := Int.mul_le_mul_of_nonneg_right (by omega) (by omega)
    have h2 : (b - 1) * b ^ l.length = b * b ^ l.length - b ^ l.length := by grind
    omega
/-- A text's digits. -/
def txI (s : List UInt8) : List Int := s.map (fun c => (wv c : Int))
theorem txI_val (b : Nat) : ∀ s : List UInt8, tvI b (txI s) = (tv b s : Int) := by
  intro s
  unfold tvI txI tv
  rw [List.foldl_map]
  have : ∀ (l : List UInt8) (n : Nat), l.foldl (fun (x : Int) c => x * b + (wv c : Int)) (n : Int) = ((l.foldl (fun s c => s * b + wv c) n : Nat) : Int) := by
    intro l
    induction l with
    | nil => intro n; rfl
    | cons c l ih =>
      intro n
      rw [List.foldl_cons, List.foldl_cons, ← ih]
      congr 1
  exact this s 0
theorem txI_dig {b : Nat} {s : List UInt8} (h : Dig b s) : DgI b (txI s) := by
  intro z hz
  unfold txI at hz
  obtain ⟨c, hc, rfl⟩ := List.mem_map.1 hz
  have := h c hc
  exact ⟨by omega, by omega⟩
theorem txI_len (s : List UInt8) : (txI s).length = s.length := by simp [txI]
end Go.Proofs.YtclefkmhchfkkaaGreatDoor
namespace Go.Proofs.YtclefkmhchfkkaaGreatDoor
set_option linter.unusedVariables false

/-- What digits come to, the lowest first. -/
def lvB (b : Int) : List Int → Int
  | [] => 0
  | z :: t => z + b * lvB b t
theorem lvB_app (b x : Int) : ∀ os : List Int, lvB b (os ++ [x]) = lvB b os + b ^ os.length * x
  | [] => by simp [lvB]
  | z :: t => by
    rw [List.cons_append]
    simp only [lvB, List.length_cons]
    rw [lvB_app b x t, Int.pow_succ]
    grind
theorem lvB_rev (b : Int) : ∀ os : List Int, tvI b os.reverse = lvB b os
  | [] => rfl
  | z :: t => by
    rw [List.reverse_cons, tvI_snoc, lvB_rev b t]
    simp only [lvB]
    grind
theorem DgI.app {b : Int} {os : List Int} (h : DgI b os) {x : Int} (hx : 0 ≤ x ∧ x < b) : DgI b (os ++ [x]) := fun z hz => by
  rcases List.mem_append.1 hz with h' | h'
  · exact h z h'
  · rw [List.mem_singleton.1 h']; exact hx
/-- The highest is not 0. -/
def TpB (os : List Int) : Prop := os ≠ [] ∧ os.getD (os.length - 1) 0 ≠ 0
theorem tpB_app {os : List Int} {x : Int} (hx : x ≠ 0) : TpB (os ++ [x]) := by
  refine ⟨by simp, ?_⟩
  rw [List.length_append, List.length_singleton, Nat.add_sub_cancel, List.getD_eq_getElem?_getD, List.getElem?_append_right (Nat.le_refl _), Nat.sub_self]
  simpa using hx
structure InB (b N C : Int) (sz l0 k : Nat) (os : List Int) (r : Int) : Prop where
  dig : DgI b os
  val : N = lvB b os + b ^ os.length * (r + C * b ^ (sz - k))
  len : os.length = l0 + k
  kl : k ≤ sz
  r0 : 0 ≤ r
  r1 : r < b ^ (sz - k)
  top : 0 < k → C = 0 → r = 0 → TpB os
theorem InB.step {b N C : Int} {sz l0 k : Nat} {os : List Int} {r : Int} (h : InB b N C sz l0 k os r) (hb : 2 ≤ b) (hC : 0 ≤ C) (hk : k < sz) (hc : 0 < C ∨ 0 < r) : InB b N C sz l0 (k + 1) (os ++ [r % b]) (r / b) := by
  obtain ⟨h1, h2, h3, h4, h5, h6, h7⟩ := h
  have hm0 := Int.emod_nonneg r (b := b) (by omega)
  have hm1 := Int.emod_lt_of_pos r (b := b) (by omega)
  have hdm := Int.mul_ediv_add_emod r b
  obtain ⟨t, ht⟩ : ∃ t, sz - k = t + 1 := ⟨sz - k - 1, by omega⟩
  have ht2 : sz - (k + 1) = t := by omega
  rw [ht, Int.pow_succ] at h2 h6
  refine ⟨h1.app ⟨hm0, hm1⟩, ?_, by rw [List.length_append, List.length_singleton]; omega, by omega, Int.ediv_nonneg h5 (by omega), ?_, fun _ c0 r0 => ?_⟩
  · rw [ht2, lvB_app, List.length_append, List.length_singleton, Int.pow_succ, h2]
    generalize b ^ os.length = X
    generalize b ^ t = Y
    generalize hq : r / b = q at *
    generalize hs : r % b = s at *
    rw [← hdm]
    grind
  · rw [ht2]
    exact Int.ediv_lt_of_lt_mul (by omega) h6
  · refine tpB_app ?_
    have hrp : 0 < r := by omega
    rw [r0] at hdm
    omega
structure OuB (b N D : Int) (os : List Int) : Prop where
  dig : DgI b os
  val : N = lvB b os + b ^ os.length * D
  top : D = 0 → os = [] ∨ TpB os
theorem OuB.start (b N : Int) : OuB b N N [] := ⟨fun z hz => (by cases hz), by simp [lvB], fun _ => .inl rfl⟩
theorem OuB.piece {b N D C r : Int} {sz : Nat} {os : List Int} (h : OuB b N D os) (e : D = C * b ^ sz + r) (r0 : 0 ≤ r) (r1 : r < b ^ sz) : InB b N C sz os.length 0 os r :=
  ⟨h.dig, by rw [h.val, e, Nat.sub_zero]; grind, by omega, by omega, r0, by rw [Nat.sub_zero]; exact r1, fun h => by omega⟩
theorem InB.leave {b N C r : Int} {sz l0 k : Nat} {os : List Int} (h : InB b N C sz l0 k os r) (hk : 0 < k) (he : k = sz ∨ (C = 0 ∧ r = 0)) : OuB b N C os := by
  obtain ⟨h1, h2, h3, h4, h5, h6, h7⟩ := h
  rcases he with rfl | ⟨rfl, rfl⟩
  · rw [Nat.sub_self, Int.pow_zero] at h2 h6
    have r0 : r = 0 := by omega
    subst r0
    exact ⟨h1, by rw [h2]; grind, fun c0 => .inr (h7 hk c0 rfl)⟩
  · exact ⟨h1, by rw [h2]; grind, fun _ => .inr (h7 hk rfl rfl)⟩
theorem lvB_nonneg {b : Int} (hb : 1 ≤ b) {os : List Int} (h : DgI b os) : 0 ≤ lvB b os := by
  rw [← lvB_rev]; exact tvI_pos hb (fun z hz => h z (List.mem_reverse.1 hz))
theorem OuB.le {b N D : Int} {os : List Int} (h : OuB b N D os) (hb : 1 ≤ b) (hD : 0 < D) : b ^ os.length ≤ N := by
  have h1 := lvB_nonneg hb h.dig
  have h2 := ipow_pos hb os.length
  have h3 : b ^ os.length * 1 ≤ b ^ os.length * D := Int.mul_le_mul_of_nonneg_left (by omega) (by omega)
  rw [h.val]
  omega
end Go.Proofs.YtclefkmhchfkkaaGreatDoor
namespace Go.Proofs.YtclefkmhchfkkaaGreatDoor
set_option linter.unusedVariables false

def ltr (x : Int) : UInt8 := UInt8.ofNat (if x < 10 then 48 + x.toNat else 87 + x.toNat)
theorem ltr_val {x : Int} (h0 : 0 ≤ x) (h : x < 36) : ((ltr x).toNat : Int) = if x < 10 then 48 + x else 87 + x := by
  unfold ltr
  split <;> simp <;> omega
theorem wv_ltr {x : Int} (h0 : 0 ≤ x) (h : x < 36) : (wv (ltr x) : Int) = x := by
  have e := ltr_val h0 h
  unfold wv
  split at e
  · rw [if_pos (by omega)]; omega
  · rw [if_neg (by omega), if_pos (by omega)]; omega
/-- The text of digits, the lowest first. -/
def tB3 (os : List Int) : List UInt8 := (os.map ltr).reverse
theorem tB3_len (os : List Int) : (tB3 os).length = os.length := by simp [tB3]
theorem tB3_dig {b : Nat} (h36 : b ≤ 36) {os : List Int} (h : DgI b os) : Dig b (tB3 os) := by
  intro c hc
  obtain ⟨x, hx, rfl⟩ := List.mem_map.1 (List.mem_reverse.1 hc)
  have hb := h x hx
  have := wv_ltr hb.1 (by omega)
  omega
theorem tB3_txI {b : Nat} (h36 : b ≤ 36) {os : List Int} (h : DgI b os) : txI (tB3 os) = os.reverse := by
  unfold txI tB3
  rw [List.map_reverse, List.map_map]
  congr 1
  have : ∀ l : List Int, DgI b l → l.map ((fun c => (wv c : Int)) ∘ ltr) = l := by
    intro l
    induction l with
    | nil => intro _; rfl
    | cons x t ih =>
      intro hl
      rw [List.map_cons, ih (fun z hz => hl z (List.mem_cons_of_mem _ hz))]
      have hx := hl x (List.mem_cons_self ..)
      simp only [Function.comp]
      rw [wv_ltr hx.1 (by omega)]
  exact this os h
theorem tB3_tx {b : Nat} (h2 : 2 ≤ b) (h36 : b ≤ 36) {os : List Int} {N : Int} (h : DgI b os) (he : os ≠ []) (hv : lvB b os = N) (ht : os = [0] ∨ TpB os) : Tx b (tB3 os) N.toNat := by
  refine ⟨fun e => he (List.length_eq_zero_iff.1 (by rw [← tB3_len, e]; rfl)), tB3_dig h36 h, ?_, fun hh => ?_⟩
  · have e := txI_val b (tB3 os)
    rw [tB3_txI h36 h, lvB_rev, hv] at e
    omega
  · rcases ht with rfl | ⟨_, ht⟩
    · rfl
    · exfalso
      have hp := List.length_pos_iff.2 he
      have e1 : (tB3 os).head? = some (ltr (os.getD (os.length - 1) 0)) := by
        unfold tB3
        rw [List.head?_reverse, List.getLast?_eq_getElem?, List.length_map, List.getElem?_map, List.getD_eq_getElem?_getD, List.getElem?_eq_getElem (by omega)]
        rfl
      rw [e1] at hh
      have hd := h.getD (i := os.length - 1) (by omega)
      have e2 := ltr_val hd.1 (by omega)
      have e3 : ltr (os.getD (os.length - 1) 0) = 48 := by simpa using hh
      rw [e3] at e2
      have e4 : ((48 : UInt8).toNat : Int) = 48 := rfl
      rw [e4] at e2
      split at e2 <;> omega
/-- One more letter. -/
theorem tB3_drop (os : List Int) {k : Nat} (h : k < os.length) : tB3 (os.drop k) = tB3 (os.drop (k + 1)) ++ [ltr (os.getD k 0)] := by
  unfold tB3
  rw [List.drop_eq_getElem_cons h, List.map_cons, List.reverse_cons, List.getD_eq_getElem?_getD, List.getElem?_eq_getElem h]
  rfl
/-- The sum of digits. -/
def sumI (l : List Int) : Int := l.foldl (fun s z => s + z) 0
theorem sumI_snoc (l : List Int) (z : Int) : sumI (l ++ [z]) = sumI l + z := by simp [sumI]
theorem sumI_fold : ∀ (l : List Int) (s : Int), l.foldl (fun s z => s + z) s = s + sumI l
  | [], s => by simp [sumI]
  | z :: l, s => by
    rw [List.foldl_cons, sumI_fold l, show sumI (z :: l) = l.foldl (fun s z => s + z) (0 + z) from rfl, sumI_fold l]
    omega
theorem sumI_cons (z : Int) (l : List Int) : sumI (z :: l) = z + sumI l := by
  rw [show sumI (z :: l) = l.foldl (fun s z => s + z) (0 + z) from rfl, sumI_fold l]; omega
theorem sumI_rev : ∀ l : List Int, sumI l.reverse = sumI l
  | [] => rfl
  | z :: l => by rw [List.reverse_cons, sumI_snoc, sumI_rev l, sumI_cons]; omega
theorem sumI_bd {b : Int} (hb : b ≤ 36) : ∀ {l : List Int}, DgI b l → 0 ≤ sumI l ∧ sumI l ≤ 36 * l.length
  | [], _ => by simp [sumI]
  | z :: l, h => by
    have h1 := sumI_bd hb (l := l) (fun x hx => h x (List.mem_cons_of_mem _ hx))
    have h2 := h z (List.mem_cons_self ..)
    rw [sumI_cons, List.length_cons]
    omega
theorem sumI_take {l : List Int} {k : Nat} (h : k < l.length) : sumI (l.take (k + 1)) = sumI (l.take k) + l.getD k 0 := by rw [take_snocI l k h, sumI_snoc]
end Go.Proofs.YtclefkmhchfkkaaGreatDoor
namespace Go.Proofs.YtclefkmhchfkkaaGreatDoor
set_option linter.unusedVariables false

/-- k digits are done: what is carried. -/
structure OnI (ds cs : List Int) (p q : Int) (k : Nat) (c : Int) : Prop where
  len : cs.length = ds.length
  lim : H.Limbs cs
  val : H.num (cs.take k) + c * H.pw k = H.num (ds.take k) * p + q
  rst : ∀ j, k ≤ j → cs.getD j 0 = ds.getD j 0
  c0 : 0 ≤ c
  c1 : c < 4294967296
theorem OnI.start {ds : List Int} (h : H.Limbs ds) {p q : Int} (q0 : 0 ≤ q) (q1 : q < 4294967296) : OnI ds ds p q 0 q :=
  ⟨rfl, h, by simp [H.num, H.pw], fun _ _ => rfl, q0, q1⟩
theorem mul32_bd {a b : Int} (a0 : 0 ≤ a) (a1 : a < 4294967296) (b0 : 0 ≤ b) (b1 : b < 4294967296) : 0 ≤ a * b ∧ a * b ≤ 18446744065119617025 := by
  constructor
  · exact Int.mul_nonneg a0 b0
  · have h1 : a * b ≤ 4294967295 * b := Int.mul_le_mul_of_nonneg_right (by omega) b0
    omega
theorem OnI.step {ds cs : List Int} {p q c : Int} {k : Nat} (h : OnI ds cs p q k c) (hk : k < ds.length) (p0 : 0 ≤ p) (p1 : p < 4294967296) :
    OnI ds (cs.set k ((ds.getD k 0 * p + c) % 4294967296)) p q (k + 1) ((ds.getD k 0 * p + c) / 4294967296) := by
  obtain ⟨h1, h2, h3, h4, h5, h6⟩ := h
  have hd : 0 ≤ ds.getD k 0 ∧ ds.getD k 0 < 4294967296 := by rw [← h4 k (Nat.le_refl _)]; exact h2.getD k
  have hm := mul32_bd hd.1 hd.2 p0 p1
  generalize hs : ds.getD k 0 * p + c = s at *
  have s0 : 0 ≤ s := by omega
  have s1 : s ≤ 18446744069414584320 := by omega
  refine ⟨by rw [List.length_set]; exact h1, h2.set k ⟨by omega, by omega⟩, ?_, fun j hj => ?_, by omega, by omega⟩
  · rw [H.num_set_take cs k _ (by omega), H.num_take_succ ds k, H.pw]
    have e : s % 4294967296 + 4294967296 * (s / 4294967296) = s := by omega
    have e2 := H.carry_step (p := H.pw k) e
    have e3 : ds.getD k 0 * H.pw k * p = (s - c) * H.pw k := by rw [← hs]; grind
    grind
  · rw [← h4 j (by omega), List.getD_eq_getElem?_getD, List.getD_eq_getElem?_getD, List.getElem?_set_ne (by omega)]
/-- A row with no nought at its end. -/
def Tzr (ds : List Int) : Prop := ds ≠ [] → ds.getD (ds.length - 1) 0 ≠ 0
theorem Tzr.nil : Tzr [] := fun h => absurd rfl h
theorem tzr_used {ds : List Int} (hL : H.Limbs ds) (h : Tzr ds) : usedN ds = ds.length := by
  rcases Nat.eq_zero_or_pos ds.length with h0 | h0
  · have := usedN_le ds; omega
  · refine usedN_eq (Nat.le_refl _) (fun i h1 h2 => by omega) (Or.inr ?_)
    exact h (fun e => by rw [e] at h0; simp at h0)
/-- What onto leaves: the row, or the row and what is carried. -/
theorem OnI.end_ {ds cs : List Int} {p q c : Int} (h : OnI ds cs p q ds.length c) (hz : Tzr ds) (hL : H.Limbs ds) (p1 : 1 ≤ p) (q0 : 0 ≤ q) :
    H.num (if 0 < c then cs ++ [c] else cs) = H.num ds * p + q ∧ H.Limbs (if 0 < c then cs ++ [c] else cs) ∧ Tzr (if 0 < c then cs ++ [c] else cs) := by
  obtain ⟨h1, h2, h3, h4, h5, h6⟩ := h
  rw [List.take_of_length_le (by omega), List.take_of_length_le (Nat.le_refl _)] at h3
  by_cases hc : 0 < c
  · rw [if_pos hc]
    refine ⟨by rw [H.num_snoc, h1]; exact h3, h2.snoc ⟨h5, h6⟩, fun _ => ?_⟩
    rw [List.length_append, List.length_singleton, Nat.add_sub_cancel, List.getD_eq_getElem?_getD, List.getElem?_append_right (Nat.le_refl _), Nat.sub_self]
    simp; omega
  · rw [if_neg hc]
    have c0 : c = 0 := by omega
    subst c0
    rw [Int.zero_mul, Int.add_zero] at h3
    refine ⟨h3, h2, fun hne => ?_⟩
    have hds : ds ≠ [] := fun e => hne (List.length_eq_zero_iff.1 (by rw [h1, e]; rfl))
    have hp := List.length_pos_iff.2 hds
    -- the value is at least that of ds, so the row is as long as ds
    have hu := tzr_used hL hz
    have hge := H.num_ge_used hL (by rw [hu]; exact hp)
    have hnn := H.num_nonneg hL
    have hle : H.num ds ≤ H.num ds * p := by
      have := Int.mul_le_mul_of_nonneg_left p1 hnn
      omega
    have hlt := H.num_lt_used h2
    have hul := usedN_le cs
    have hueq : usedN cs = cs.length := by
      rcases Nat.lt_or_ge (usedN cs) cs.length with h' | h'
      · have := H.pw_mono (m := usedN cs) (n := usedN ds - 1) (by omega)
        omega
      · omega
    have ht := usedN_top cs
    rw [hueq] at ht
    exact ht (by omega)
theorem long32_iff {ds : List Int} (hL : H.Limbs ds) (hz : Tzr ds) : 8192 < ds.length ↔ pw 4096 ≤ H.num ds := by
  have hu := tzr_used hL hz
  have e := H.pw_two 4096
  constructor
  · intro h
    have h1 := H.num_ge_used hL (by omega)
    have h2 := H.pw_mono (m := 2 * 4096) (n := usedN ds - 1) (by omega)
    omega
  · intro h
    rcases Nat.lt_or_ge 8192 ds.length with h' | h'
    · exact h'
    · have h1 := H.num_lt hL
      have h2 := H.pw_mono (m := ds.length) (n := 2 * 4096) (by omega)
      omega
end Go.Proofs.YtclefkmhchfkkaaGreatDoor
namespace Go.Proofs.YtclefkmhchfkkaaGreatDoor
open Go.RowKit Go.Shelf
set_option linter.unusedVariables false

theorem pow_big32 {b n : Nat} (h2 : 2 ≤ b) (h : (b : Int) ^ n < 4294967296) : n ≤ 31 := by
  rcases Nat.lt_or_ge n 32 with h' | h'
  · omega
  · have h1 : 2 ^ 32 ≤ b ^ n := Nat.le_trans (Nat.pow_le_pow_right (by omega) h') (Nat.pow_le_pow_left h2 n)
    have h3 : (b : Int) ^ n = ((b ^ n : Nat) : Int) := by simp
    rw [h3] at h
    omega
/-- The greatest power below 2^32. -/
def PcB (b sz : Nat) (p : Int) : Prop := p = (b : Int) ^ sz ∧ 2 ≤ p ∧ p < 4294967296 ∧ 1 ≤ sz ∧ sz ≤ 31
set_option maxHeartbeats 1000000 in
theorem pieceB (b : Nat) (h2 : 2 ≤ b) (h36 : b ≤ 36) (w : World) : Calls Tryz.prog 52 #[.int .i64 b] w fun e w' => ∃ (sz : Nat) (p : Int), e = .returned (.tuple #[.int .u64 p, .int .i64 sz]) ∧ PcB b sz p ∧ w' = w := by
  go_enter Tryz.func52, Tryz.ntmps52
  go_wp2_with fail
  go_loop [4, 5] (fun pp nn => ∃ (n : Nat) (p : Int), pp = .int .u64 p ∧ nn = .int .i64 n ∧ Hid (p = (b : Int) ^ n) ∧ 1 ≤ p ∧ p < 4294967296 ∧ n ≤ 31 ∧ (n = 0 → p = 1) ∧ (0 < n → 2 ≤ p)) (fun _ nn => (40 - intOf nn).toNat)
  case atStart => exact ⟨0, 1, rfl, rfl, by show (1 : Int) = _; simp, by omega, by omega, by omega, fun _ => rfl, fun h => by omega⟩
  case round =>
    obtain ⟨n, p, rfl, rfl, HP, p1, p2, hn, hz, hp⟩ := hrel
    have HZ : Hid ((n = 0 → p = 1) ∧ (0 < n → 2 ≤ p)) := ⟨hz, hp⟩
    clear hz hp
    have wb : IntKind.u64.wrap (b : Int) = b := by rw [IntKind.wrap_u64]; omega
    obtain ⟨y, hy⟩ : ∃ y, p * (b : Int) = y := ⟨_, rfl⟩
    have yb := mul32_bd (a := p) (b := (b : Int)) (by omega) (by omega) (by omega) (by omega)
    have y2 : 2 ≤ y := by
      have : 1 * (b : Int) ≤ p * b := Int.mul_le_mul_of_nonneg_right p1 (by omega)
      omega
    rw [hy] at yb
    obtain ⟨y0, y1⟩ := yb
    have wy : IntKind.u64.wrap y = y := by rw [IntKind.wrap_u64]; omega
    by_cases hyw : y < 4294967296
    · have hpow : y = (b : Int) ^ (n + 1) := by rw [← hy, HP.out, Int.pow_succ]
      have hn31 := pow_big32 h2 (by rw [← hpow]; exact hyw)
      have HY : Hid (y = (b : Int) ^ (n + 1)) := hpow
      clear hpow
      go_wp2_with fail
      go_round
      case rel => exact ⟨n + 1, y, rfl, by go_num, HY, by omega, hyw, hn31, (fun h => by omega), fun _ => y2⟩
      case measure => simp [intOf]; omega
    · have hyd : decide (y < 4294967296) = false := by simpa using hyw
      have hn0 : 0 < n := by
        rcases Nat.eq_zero_or_pos n with h0 | h0
        · have := HZ.out.1 h0
          rw [this, Int.one_mul] at hy
          omega
        · exact h0
      have HF : Hid (PcB b n p) := ⟨HP.out, HZ.out.2 hn0, p2, hn0, hn⟩
      clear HZ HP
      go_wp2_with fail
      go_ret2
      exact ⟨n, p, rfl, HF.out, rfl⟩
def slenB : Value → Nat
  | .slice _ n _ => n
  | _ => 0
theorem DgI.limbs {b : Int} {os : List Int} (h : DgI b os) (hb : b ≤ 36) : Limbs os := fun z hz => by have := h z hz; omega
theorem Gr.lenB {w : World} {B : Nat} {v : Value} {cs : List Int} (h : Gr w B v cs) : slenB v = cs.length := by
  obtain ⟨h1, h2 | ⟨g, cap, cur, e, hB, hh, hc, hm, hs, ht⟩⟩ := h
  · obtain ⟨rfl, h0⟩ := h2
    rw [h0]; rfl
  · rw [e]; rfl
theorem gr_weakB {w : World} {B B' : Nat} {v : Value} {cs : List Int} (h : Gr w B v cs) (hB : B' ≤ B) : Gr w B' v cs := by
  obtain ⟨h1, h2 | ⟨g, cap, cur, e, hg, hh, hc, hm, hs, ht⟩⟩ := h
  · exact ⟨h1, .inl h2⟩
  · exact ⟨h1, .inr ⟨g, cap, cur, e, by omega, hh, hc, hm, hs, ht⟩⟩
/-- The digits that are left of the number. -/
def LfB (B0 B1 : Nat) (wr : World) (a : Option Addr) (m cap : Nat) (ds : List Int) : Prop :=
  m ≤ cap ∧ m ≤ 4000000 ∧ ds.length = m ∧ H.Limbs ds ∧ usedN ds = m ∧ (m ≠ 0 → ∃ g, a = some ⟨g, 0, none⟩ ∧ B0 ≤ g ∧ g < B1 ∧ Wb wr g m ds)
theorem LfB.pos {B0 B1 : Nat} {wr : World} {a : Option Addr} {m cap : Nat} {ds : List Int} (h : LfB B0 B1 wr a m cap ds) (hm : 0 < m) : 0 < H.num ds := by
  obtain ⟨-, -, h1, h2, h3, -⟩ := h
  have := H.num_ge_used h2 (show 0 < usedN ds by omega)
  have := H.pw_pos (usedN ds - 1)
  omega
theorem LfB.zero {B0 B1 : Nat} {wr : World} {a : Option Addr} {m cap : Nat} {ds : List Int} (h : LfB B0 B1 wr a m cap ds) (hm : m = 0) : H.num ds = 0 := by
  obtain ⟨-, -, h1, h2, h3, -⟩ := h
  have : ds = [] := List.eq_nil_of_length_eq_zero (by omega)
  rw [this]; rfl
theorem LfB.below {B0 B1 B : Nat} {wr w' : World} {a : Option Addr} {m cap : Nat} {ds : List Int} (h : LfB B0 B1 wr a m cap ds) (b : Below B wr w') (hB : B1 ≤ B) : LfB B0 B1 w' a m cap ds := by
  obtain ⟨h1, h2, h3, h4, h5, h6⟩ := h
  refine ⟨h1, h2, h3, h4, h5, fun h => ?_⟩
  obtain ⟨g, e, g1, g2, g3⟩ := h6 h
  exact ⟨g, e, g1, g2, g3.below b (by omega)⟩
/-- What Worths answers. -/
def WoR (b : Nat) (N : Int) (w : World) (e : Ending) (w' : World) : Prop := ∃ v os, e = .returned v ∧ Gr w' w.heap.size v os ∧ os ≠ [] ∧ DgI b os ∧ lvB b os = N ∧ os.length ≤ 300100 ∧ (os = [0] ∨ TpB os) ∧ Below w.heap.size w w'
set_option maxRecDepth 20000 in
set_option maxHeartbeats 4000000 in
theorem worthsB (b : Nat) (h2 : 2 ≤ b) (h36 : b ≤ 36) (a : Option Addr) (la ca : Nat) (zs : List Int) (w : World) (h : Sl w a la zs) (hl : la ≤ 1100000) (hM : ∀ n : Nat, (b : Int) ^ n ≤ num zs → n ≤ 300000) (hN0 : 0 ≤ num zs) :
    Calls Tryz.prog 24 #[.slice a la ca, .int .i64 b] w fun e w' => WoR b (num zs) w e w' := by
  obtain ⟨N, hNN⟩ : ∃ N, num zs = N := ⟨_, rfl⟩
  have hh := halves3 a la ca zs
  rw [hNN] at hM hN0 hh ⊢
  have HM : Hid (∀ n : Nat, (b : Int) ^ n ≤ N → n ≤ 300000) := hM
  clear hM
  have b1 : (1 : Int) ≤ b := by omega
  have wb : IntKind.u64.wrap (b : Int) = b := by rw [IntKind.wrap_u64]; omega
  go_enter Tryz.func24, Tryz.ntmps24
  go_wp2_with fail
  refine (pieceB b h2 h36 _).mono ?_
  rintro e w0 ⟨sz, p, rfl, HPC0, hw⟩
  have HPC : Hid (PcB b sz p) := HPC0
  have p2 := HPC0.2.1; have p3 := HPC0.2.2.1; have sz1 := HPC0.2.2.2.1; have sz2 := HPC0.2.2.2.2
  rw [hw]
  clear hw HPC0
  go_wp2_with fail
  refine (hh _ h (by omega)).mono ?_
  clear hh
  rintro e x1 ⟨a1, m1, c1, ds1, rfl, hc1, hm1, hs1, hL1, hu1, hn1, ho1, hb1⟩
  have HL0 : Hid (LfB w.heap.size x1.heap.size x1 a1 m1 c1 ds1) := by
    refine ⟨hc1, by omega, hs1.1, hL1, hu1, fun h0 => ?_⟩
    obtain ⟨g, cur, rfl, hg, hcur⟩ := ho1 h0
    have hwb := wb_of hs1 hcur
    exact ⟨g, rfl, hg, hwb.lt, hwb⟩
  have HO0 : Hid (OuB b N (H.num ds1) []) := by rw [hn1]; exact OuB.start b N
  clear hc1 hm1 hs1 hL1 hu1 hn1 ho1
  obtain ⟨B1, hB1⟩ : ∃ B1, B1 = x1.heap.size := ⟨_, rfl⟩
  have hbB : w.heap.size ≤ B1 := by rw [hB1]; exact hb1.size
  have hB2 : B1 ≤ x1.heap.size := by omega
  rw [← hB1] at HL0
  go_wp2_with fail
  go_loopw [7, 8] (fun d out wr => ∃ aa m cap ds os, d = .slice aa m cap ∧ Hid (LfB w.heap.size B1 wr aa m cap ds) ∧ Hid (OuB b N (H.num ds) os) ∧ Hid (Gr wr B1 out os) ∧ Below w.heap.size w wr ∧ B1 ≤ wr.heap.size ∧ os.length ≤ 300100) (fun _ out _ => 400000 - slenB out)
  case atStart => exact ⟨a1, m1, c1, ds1, [], rfl, HL0, HO0, Gr.nil _ _, hb1, hB2, by simp⟩
  case round =>
    obtain ⟨aa, m, cap, ds, os, rfl, HL, HO, HG, hbl, hsz, hole⟩ := hrel
    clear HL0 HO0 hB2 hB1 hb1
    by_cases hm0 : m = 0
    · subst hm0
      have hD := HL.out.zero rfl
      have hO := HO.out
      rw [hD] at hO
      have hv : lvB b os = N := by have := hO.val; rw [Int.mul_zero, Int.add_zero] at this; exact this.symm
      by_cases he : os = []
      · subst he
        have HN1 : Hid ((0 : Int) = N) := hv
        obtain ⟨a8, c8, hv8, hc8, hs8⟩ := HG.out.sl (hO.dig.limbs (by omega))
        subst hv8
        clear HG hs8 hO HO hv
        go_wp2_with fail
        go_ret
        exact ⟨_, [0], rfl, gr_of_own (cs := [0]) (heap_alloc_new _ _) hbl.size (by decide), by simp, fun z hz => by rw [List.mem_singleton.1 hz]; exact ⟨by decide, by omega⟩, by rw [← HN1.out]; simp [lvB], by decide, .inl rfl, hbl.alloc hbl.size _⟩
      · obtain ⟨a8, c8, hv8, hc8, hs8⟩ := HG.out.sl (hO.dig.limbs (by omega))
        have htop := (hO.top rfl).resolve_left he
        have hdig := hO.dig
        have hpos : 0 < os.length := List.length_pos_iff.2 he
        subst hv8
        have g0 : ((os.length : Int) == 0) = false := by simp; omega
        clear hs8 hO HO
        go_wp2_with fail
        go_ret
        exact ⟨_, os, rfl, gr_weakB HG.out hbB, he, hdig, hv, hole, .inr htop, hbl⟩
    · have hmi : (0 : Int) < m := by omega
      obtain ⟨g, rfl, hg0, hg1, hW⟩ := HL.out.2.2.2.2.2 hm0
      have hos := HM.out _ (HO.out.le b1 (HL.out.pos (by omega)))
      go_wp2_with fail
      refine (over9 g m cap ds p _ hW HL.out.2.2.2.1 (by have := HL.out.2.1; omega) (by omega) (by omega)).mono ?_
      rintro e x2 ⟨cs, r, rfl, hW2, hL2, hn2, hr0, hr1, ho2⟩
      have hG2 := gr_only HG.out ho2 hg1
      have hP : InB b N (H.num cs) sz os.length 0 os r := HO.out.piece (by rw [← HPC.out.1]; exact hn2) hr0 (by rw [← HPC.out.1]; exact hr1)
      go_wp2_with fail
      refine (cut3_any (some ⟨g, 0, none⟩) m cap cs _ (hW2.sl hL2.up) (by have := HL.out.2.1; omega) HL.out.1).mono ?_
      rintro e w3 ⟨rfl, hw⟩
      rw [hw]
      clear hw
      have hu := usedN_le cs
      have hlc := hW2.1
      have HL3 : Hid (LfB w.heap.size B1 x2 (some ⟨g, 0, none⟩) (usedN cs) cap (cs.take (usedN cs))) :=
        ⟨by have := HL.out.1; omega, by have := HL.out.2.1; omega, by rw [List.length_take]; omega, hL2.take _, usedN_take cs (Nat.le_refl _), fun _ => ⟨g, rfl, hg0, hg1, hW2.take (by omega)⟩⟩
      have HNc : H.num (cs.take (usedN cs)) = H.num cs := H.num_take_used cs (Nat.le_refl _)
      rw [← HNc] at hP hn2
      have hk0 : 0 < H.num (cs.take (usedN cs)) ∨ 0 < r := by
        have h1 := HL.out.pos (by omega)
        have h3 := H.num_nonneg (hL2.take (usedN cs))
        rcases Int.lt_or_eq_of_le h3 with h' | h'
        · exact .inl h'
        · right; rw [← h', Int.zero_mul] at hn2; omega
      have HP : Hid (InB b N (H.num (cs.take (usedN cs))) sz os.length 0 os r) := hP
      obtain ⟨ds3, hds3⟩ : ∃ d, cs.take (usedN cs) = d := ⟨_, rfl⟩
      obtain ⟨m3, hm3⟩ : ∃ d, usedN cs = d := ⟨_, rfl⟩
      rw [hds3] at HL3 HP hk0
      rw [hm3] at HL3 ⊢
      have hb2 : Below w.heap.size w x2 := hbl.trans (ho2.below hg0)
      have hsz2 : B1 ≤ x2.heap.size := Nat.le_trans hsz ho2.bel.size
      have HG2 : Hid (Gr x2 B1 _ os) := hG2
      have HK0 : Hid (0 < H.num ds3 ∨ 0 < r) := hk0
      have HLEN := HG.out.lenB
      clear HNc hP hk0 hds3 hm3 hu hlc hW hW2 hG2 hL2 hn2 hr0 hr1 ho2 HL HO HG hbl hsz
      go_wp2_with fail
      go_loopw [8, 9, 10] (fun out rest kk wr2 => ∃ (k : Nat) (os2 : List Int) (r2 : Int), kk = .int .i64 k ∧ rest = .int .u64 r2 ∧ r2 < 4294967296 ∧ Hid (InB b N (H.num ds3) sz os.length k os2 r2) ∧ Hid (Gr wr2 B1 out os2) ∧ Hid (LfB w.heap.size B1 wr2 (some ⟨g, 0, none⟩) m3 cap ds3) ∧ Hid (k = 0 → 0 < H.num ds3 ∨ 0 < r2) ∧ Below w.heap.size w wr2 ∧ B1 ≤ wr2.heap.size) (fun _ _ kk _ => sz - (intOf kk).toNat)
      case atStart => exact ⟨0, os, r, rfl, rfl, by have := HP.out.r1; rw [Nat.sub_zero, ← HPC.out.1] at this; omega, HP, HG2, HL3, fun _ => HK0.out, hb2, hsz2⟩
      case round =>
        obtain ⟨k, os2, r2, rfl, rfl, hr32, HI, HG3, HL4, HK, hb3, hsz3⟩ := hrel
        clear HP HG2 HL3 HK0 hb2 hsz2
        have hr0 := HI.out.r0
        have hr1 : r2 < 18446744073709551616 := by omega
        have hkl := HI.out.kl
        have hle2 : os2.length ≤ 300100 := by have := HI.out.len; omega
        have hD := H.num_nonneg HL4.out.2.2.2.1
        have bz : ((b : Int) == 0) = false := by simp; omega
        by_cases hk9 : k < sz
        · have hki : (k : Int) < sz := by omega
          have hq0 : 0 ≤ r2 / (b : Int) := Int.ediv_nonneg hr0 (by omega)
          have hq1 : r2 / (b : Int) ≤ r2 := Int.ediv_le_self _ hr0
          have hm0' : 0 ≤ r2 % (b : Int) := Int.emod_nonneg r2 (by omega)
          have hm1' : r2 % (b : Int) < b := Int.emod_lt_of_pos r2 (by omega)
          by_cases hm3 : 0 < m3
          · have hmi3 : (0 : Int) < m3 := by omega
            have HS : Hid (InB b N (H.num ds3) sz os.length (k + 1) (os2 ++ [r2 % b]) (r2 / b)) := HI.out.step (by omega) hD hk9 (.inl (HL4.out.pos hm3))
            have hw10 : Limbs [r2 % (b : Int)] := fun z hz => by rw [List.mem_singleton.1 hz]; omega
            have HC : Hid (Sl (wr.alloc (.cells #[.int .u64 (r2 % (b : Int))] 55)) (some ⟨wr.heap.size, 0, none⟩) 1 [r2 % (b : Int)]) := Own.sl (cs := [r2 % (b : Int)]) (heap_alloc_new _ _) hw10
            have HGa : Hid (Gr (wr.alloc (.cells #[.int .u64 (r2 % (b : Int))] 55)) B1 u8 os2) := HG3.out.alloc _
            have hszA : B1 ≤ (wr.alloc (.cells #[.int .u64 (r2 % (b : Int))] 55)).heap.size := by simp; omega
            go_wp2_with (at_builtin; refine wpList_app_sl rfl (.tmp 40) (.tmp 45) rfl B1 u8 os2 rfl HGa.out wr.heap.size 0 1 1 [r2 % (b : Int)] rfl HC.out (by omega) hszA ?_; intro v1 w1 HG1 hb1)
            have hb4 : Below w.heap.size w w1 := (hb3.alloc hb3.size _).trans (hb1.mono hbB)
            have HL5 : Hid (LfB w.heap.size B1 w1 (some ⟨g, 0, none⟩) m3 cap ds3) := (HL4.out.below ((Below.refl B1 wr).alloc hsz3 _) (Nat.le_refl _)).below hb1 (Nat.le_refl _)
            have hsz4 : B1 ≤ w1.heap.size := Nat.le_trans hszA hb1.size
            clear HC HGa hb1 HI HG3 HL4 HK hw10
            go_wp2_with fail
            go_roundw
            case rel => exact ⟨k + 1, _, _, by go_num, rfl, by omega, HS, HG1, HL5, fun h => by omega, hb4, hsz4⟩
            case measure => simp [intOf]; omega
          · have HMZ : Hid (m3 = 0) := by show _ = _; omega
            have hmi3 : ¬ (0 : Int) < m3 := by omega
            by_cases hr2 : 0 < r2
            · have HS : Hid (InB b N (H.num ds3) sz os.length (k + 1) (os2 ++ [r2 % b]) (r2 / b)) := HI.out.step (by omega) hD hk9 (.inr hr2)
              have hw10 : Limbs [r2 % (b : Int)] := fun z hz => by rw [List.mem_singleton.1 hz]; omega
              have HC : Hid (Sl (wr.alloc (.cells #[.int .u64 (r2 % (b : Int))] 55)) (some ⟨wr.heap.size, 0, none⟩) 1 [r2 % (b : Int)]) := Own.sl (cs := [r2 % (b : Int)]) (heap_alloc_new _ _) hw10
              have HGa : Hid (Gr (wr.alloc (.cells #[.int .u64 (r2 % (b : Int))] 55)) B1 u8 os2) := HG3.out.alloc _
              have hszA : B1 ≤ (wr.alloc (.cells #[.int .u64 (r2 % (b : Int))] 55)).heap.size := by simp; omega
              go_wp2_with (at_builtin; refine wpList_app_sl rfl (.tmp 40) (.tmp 45) rfl B1 u8 os2 rfl HGa.out wr.heap.size 0 1 1 [r2 % (b : Int)] rfl HC.out (by omega) hszA ?_; intro v1 w1 HG1 hb1)
              have hb4 : Below w.heap.size w w1 := (hb3.alloc hb3.size _).trans (hb1.mono hbB)
              have HL5 : Hid (LfB w.heap.size B1 w1 (some ⟨g, 0, none⟩) m3 cap ds3) := (HL4.out.below ((Below.refl B1 wr).alloc hsz3 _) (Nat.le_refl _)).below hb1 (Nat.le_refl _)
              have hsz4 : B1 ≤ w1.heap.size := Nat.le_trans hszA hb1.size
              clear HC HGa hb1 HI HG3 HL4 HK hw10
              go_wp2_with fail
              go_roundw
              case rel => exact ⟨k + 1, _, _, by go_num, rfl, by omega, HS, HG1, HL5, fun h => by omega, hb4, hsz4⟩
              case measure => simp [intOf]; omega
            · have HRZ : Hid (r2 = 0) := by show _ = _; omega
              have hk0' : 0 < k := by
                rcases Nat.eq_zero_or_pos k with h0 | h0
                · exfalso
                  have h1 := HK.out h0
                  have h3 := HL4.out.zero HMZ.out
                  have h4 := HRZ.out
                  omega
                · exact h0
              have HO3 : Hid (OuB b N (H.num ds3) os2) := HI.out.leave hk0' (.inr ⟨HL4.out.zero HMZ.out, HRZ.out⟩)
              go_wp2_with fail
              go_roundw
              case rel => exact ⟨_, m3, cap, ds3, os2, rfl, HL4, HO3, HG3, hb3, hsz3, hle2⟩
              case measure =>
                have h1 := HG3.out.lenB
                have h3 := HI.out.len
                simp
                omega
        · have hki : ¬ (k : Int) < sz := by omega
          have hk9e : k = sz := by omega
          have HO3 : Hid (OuB b N (H.num ds3) os2) := HI.out.leave (by omega) (.inl hk9e)
          go_wp2_with fail
          go_roundw
          case rel => exact ⟨_, m3, cap, ds3, os2, rfl, HL4, HO3, HG3, hb3, hsz3, hle2⟩
          case measure =>
            have h1 := HG3.out.lenB
            have h3 := HI.out.len
            simp
            omega
end Go.Proofs.YtclefkmhchfkkaaGreatDoor
namespace Go.Proofs.YtclefkmhchfkkaaGreatDoor
open Go.RowKit Go.Shelf
set_option linter.unusedVariables false

theorem Gr.shape {w : World} {B : Nat} {v : Value} {cs : List Int} (h : Gr w B v cs) : (v = .slice none 0 0 ∧ cs = []) ∨ ∃ g cap, v = .slice (some ⟨g, 0, none⟩) cs.length cap ∧ B ≤ g ∧ g < w.heap.size ∧ cs.length ≤ cap ∧ Wb w g cs.length cs := by
  obtain ⟨h1, h2 | ⟨g, cap, cur, rfl, hB, hh, hc, hm, hs, ht⟩⟩ := h
  · obtain ⟨rfl, h0⟩ := h2
    exact .inl ⟨rfl, List.length_eq_zero_iff.1 h0⟩
  · refine .inr ⟨g, cap, rfl, hB, ?_, hc, rfl, cur, hh, fun i hi => ?_⟩
    · rcases Nat.lt_or_ge g w.heap.size with h' | h'
      · exact h'
      · rw [Array.getElem?_eq_none h'] at hh; cases hh
    · have hr := row_getElem? cs i hi
      rw [← ht, Nat.mul_one, List.getElem?_take_of_lt hi] at hr
      simpa using hr
theorem row_set (cs : List Int) (i : Nat) (x : Int) : row (cs.set i x) = (row cs).set i (.int .u64 x) := by simp [row, List.map_set]
theorem Gr.seti {w : World} {B g cap : Nat} {cs : List Int} (h : Gr w B (.slice (some ⟨g, 0, none⟩) cs.length cap) cs) (i : Nat) (hi : i < cs.length) (x : Int) : Gr (w.setCell ⟨g, i, none⟩ (.int .u64 x)) B (.slice (some ⟨g, 0, none⟩) cs.length cap) (cs.set i x) := by
  obtain ⟨h1, h2 | ⟨g', cap', cur, e, hB, hh, hc, hm, hs, ht⟩⟩ := h
  · obtain ⟨e, h0⟩ := h2; cases e
  · cases e
    refine ⟨by rw [row_length, List.length_set, Nat.mul_one], .inr ⟨g, cap, cur.setIfInBounds i (.int .u64 x), by rw [List.length_set], hB, ?_, by rw [List.length_set]; exact hc, hm, by rw [Array.size_setIfInBounds]; exact hs, ?_⟩⟩
    · simp only [World.setCell]
      rw [Array.getElem?_modify, if_pos rfl, hh]
      simp
    · rw [List.length_set, Array.toList_setIfInBounds, List.take_set, ht, row_set]
def OnR (B : Nat) (ds : List Int) (p q : Int) (w : World) (e : Ending) (w' : World) : Prop := ∃ v' cs, e = .returned v' ∧ Gr w' B v' cs ∧ H.Limbs cs ∧ Tzr cs ∧ H.num cs = H.num ds * p + q ∧ cs.length ≤ ds.length + 1 ∧ Below B w w'
set_option maxHeartbeats 2000000 in
theorem onto_any (B : Nat) (v : Value) (ds : List Int) (p q : Int) (w : World) (h : Gr w B v ds) (hL : H.Limbs ds) (hz : Tzr ds) (hB : B ≤ w.heap.size) (hlen : ds.length ≤ 1000000) (p1 : 1 ≤ p) (p2 : p < 4294967296) (q0 : 0 ≤ q) (q1 : q < 4294967296) :
    Calls Tryz.prog 43 #[v, .int .u64 p, .int .u64 q] w fun e w' => OnR B ds p q w e w' := by
  have HG0 : Hid (Gr w B v ds) := h
  have I0 : Hid (OnI ds ds p q 0 q) := OnI.start hL q0 q1
  obtain ⟨m, hm⟩ : ∃ m, ds.length = m := ⟨_, rfl⟩
  obtain ⟨a, cap, hv⟩ : ∃ a cap, v = .slice a m cap := by
    rw [← hm]
    obtain ⟨a, cap, e, -⟩ := h.sl hL.up
    exact ⟨a, cap, e⟩
  subst hv
  rw [hm] at hlen
  have HM : Hid (ds.length = m) := hm
  have HL : Hid (H.Limbs ds ∧ Tzr ds) := ⟨hL, hz⟩
  clear h hL hz hm
  go_enter Tryz.func43, Tryz.ntmps43
  go_wp2_with fail
  go_loopw [7, 8] (fun cc ii wr => ∃ (k : Nat) (c : Int) (cs : List Int), ii = .int .i64 k ∧ cc = .int .u64 c ∧ k ≤ m ∧ Hid (OnI ds cs p q k c) ∧ Hid (Gr wr B (.slice a m cap) cs) ∧ Hid (Below B w wr)) (fun _ ii _ => ((m : Int) - intOf ii).toNat)
  case atStart => exact ⟨0, q, ds, rfl, rfl, by omega, I0, HG0, Below.refl _ _⟩
  case round =>
    obtain ⟨k, c, cs, rfl, rfl, hk, HI, HG, HB⟩ := hrel
    have hcl : cs.length = m := by rw [HI.out.len]; exact HM.out
    have c0 := HI.out.c0
    have c1 := HI.out.c1
    clear I0 HG0
    by_cases hlt : k < m
    · have hki : (k : Int) < m := by omega
      obtain ⟨g, cap', e, hBg, hgl, hcc, hWb⟩ : ∃ g cap', Value.slice a m cap = .slice (some ⟨g, 0, none⟩) cs.length cap' ∧ B ≤ g ∧ g < wr.heap.size ∧ cs.length ≤ cap' ∧ Wb wr g cs.length cs := by
        rcases HG.out.shape with ⟨e, e2⟩ | h
        · rw [e2] at hcl; simp at hcl; omega
        · exact h
      rw [hcl] at e
      cases e
      have hstep := HI.out.step (by rw [HM.out]; exact hlt) (by omega) p2
      have hd0 := HI.out.lim.getD k
      have hcell := hWb.cell k (by omega)
      have hfz := hWb.frozen k
      rw [HI.out.rst k (Nat.le_refl _)] at hcell hd0
      have hG2 := HG.out
      rw [← hcl] at hG2
      have hset := fun x => hG2.seti k (by omega) x
      rw [hcl] at hset
      obtain ⟨x, hx⟩ : ∃ x, ds.getD k 0 = x := ⟨_, rfl⟩
      rw [hx] at hstep hcell hd0
      have hmb := mul32_bd hd0.1 hd0.2 (show 0 ≤ p by omega) p2
      obtain ⟨y, hy⟩ : ∃ y, x * p = y := ⟨_, rfl⟩
      rw [hy] at hstep hmb
      obtain ⟨s, hs⟩ : ∃ s, y + c = s := ⟨_, rfl⟩
      rw [hs] at hstep
      have s0 : 0 ≤ s := by omega
      have s1 : s < 18446744073709551616 := by omega
      have y1 : y < 18446744073709551616 := by omega
      have y0 : 0 ≤ y := hmb.1
      have wy : IntKind.u64.wrap y = y := by rw [IntKind.wrap_u64]; omega
      have ws : IntKind.u64.wrap s = s := by rw [IntKind.wrap_u64]; omega
      have HST : Hid (OnI ds (cs.set k (s % 4294967296)) p q (k + 1) (s / 4294967296)) := hstep
      have HSET : Hid (∀ x : Int, Gr (wr.setCell ⟨g, k, none⟩ (.int .u64 x)) B (.slice (some ⟨g, 0, none⟩) m cap) (cs.set k x)) := hset
      clear hstep hset hG2 hWb hx hmb HI HG
      go_wp2_with fail
      go_roundw
      case rel => exact ⟨k + 1, _, _, by go_num, rfl, by omega, HST, HSET.out _, HB.out.setCell (p := ⟨g, k, none⟩) hBg _⟩
      case measure => simp [intOf]; omega
    · have hki : ¬ (k : Int) < m := by omega
      obtain rfl : k = m := by omega
      have hI := HI.out
      rw [← HM.out] at hI
      have hend := hI.end_ HL.out.2 HL.out.1 p1 q0
      by_cases hc : 0 < c
      · rw [if_pos hc] at hend
        have HE : Hid (H.num (cs ++ [c]) = H.num ds * p + q ∧ H.Limbs (cs ++ [c]) ∧ Tzr (cs ++ [c])) := hend
        have hBw : B ≤ wr.heap.size := Nat.le_trans hB HB.out.size
        clear hI hend HI
        have hal : B ≤ (wr.alloc (.cells #[.int .u64 c] 55)).heap.size := by simp; omega
        have HAL : Hid (Below B w (wr.alloc (.cells #[.int .u64 c] 55))) := HB.out.alloc hBw _
        go_wp2_with (at_builtin; refine wpList_app rfl (.tmp 34) (.tmp 36) rfl B (.slice a k cap) cs rfl (HG.out.alloc _) wr.heap.size 1 1 [c] rfl rfl (heap_alloc_new _ _) (by omega) hal ?_; intro v1 w1 hG1 hb1)
        go_ret
        exact ⟨_, cs ++ [c], rfl, hG1.out, HE.out.2.1, HE.out.2.2, HE.out.1, by rw [HM.out]; simp; omega, HAL.out.trans hb1⟩
      · rw [if_neg hc] at hend
        have HE : Hid (H.num cs = H.num ds * p + q ∧ H.Limbs cs ∧ Tzr cs) := hend
        clear hI hend HI
        go_wp2_with fail
        go_ret
        exact ⟨_, cs, rfl, HG.out, HE.out.2.1, HE.out.2.2, HE.out.1, by rw [HM.out]; omega, HB.out⟩
end Go.Proofs.YtclefkmhchfkkaaGreatDoor
namespace Go.Proofs.YtclefkmhchfkkaaGreatDoor
open Go.RowKit Go.Shelf
set_option linter.unusedVariables false

theorem rletter3 (x : Int) (h0 : 0 ≤ x) (h : x < 36) (w : World) : Calls Tryz.prog 25 #[.int .u64 x] w fun e w' => e = .returned (.int .u8 ((ltr x).toNat : Int)) ∧ w' = w := by
  have e := ltr_val h0 h
  by_cases h10 : x < 10
  · rw [if_pos h10] at e
    rw [e]
    clear e
    go_enter Tryz.func25, Tryz.ntmps25
    go_wp2_with fail
    go_ret
    exact ⟨rfl, rfl⟩
  · rw [if_neg h10] at e
    rw [e]
    clear e
    go_enter Tryz.func25, Tryz.ntmps25
    go_wp2_with fail
    go_ret
    exact ⟨ret_int (by omega), rfl⟩
theorem rbadt_no (b : Int) (h2 : 2 ≤ b) (h36 : b ≤ 36) (w : World) : Calls Tryz.prog 23 #[.int .i64 b] w fun e w' => e = .returned (.bool false) ∧ w' = w := by
  go_enter Tryz.func23, Tryz.ntmps23
  go_wp2_with fail
  go_ret
  exact ⟨by first | rfl | (congr 2; simp; omega), rfl⟩
theorem rbadt_yes (b : Int) (h : b < 2 ∨ 36 < b) (w : World) : Calls Tryz.prog 23 #[.int .i64 b] w fun e w' => e = .returned (.bool true) ∧ w' = w := by
  rcases h with h | h
  · go_enter Tryz.func23, Tryz.ntmps23
    go_wp2_with fail
    go_ret
    exact ⟨by first | rfl | (congr 2; simp; omega), rfl⟩
  · have h' : ¬ b < 2 := by omega
    go_enter Tryz.func23, Tryz.ntmps23
    go_wp2_with fail
    go_ret
    exact ⟨by first | rfl | (congr 2; simp; omega), rfl⟩
/-- What Text answers: THE text. -/
def TxR (b : Nat) (N : Int) (w : World) (e : Ending) (w' : World) : Prop := ∃ t, e = .returned (.tuple #[.string ⟨t.toArray⟩, .int .i64 0]) ∧ Tx b t N.toNat ∧ Below w.heap.size w w'
set_option maxRecDepth 20000 in
set_option maxHeartbeats 2000000 in
theorem rtext3 (b : Nat) (h2 : 2 ≤ b) (h36 : b ≤ 36) (a : Option Addr) (la ca : Nat) (zs : List Int) (w : World) (h : Sl w a la zs) (hl : la ≤ 1100000) (hM : ∀ n : Nat, (b : Int) ^ n ≤ num zs → n ≤ 300000) (hN0 : 0 ≤ num zs) :
    Calls Tryz.prog 6 #[.slice a la ca, .int .i64 b] w fun e w' => TxR b (num zs) w e w' := by
  have bn := rbadt_no (b : Int) (by omega) (by omega) w
  have wo := worthsB b h2 h36 a la ca zs w h hl hM hN0
  generalize num zs = N at *
  clear h hM
  go_enter Tryz.func6, Tryz.ntmps6
  go_wp2_with (go_at_call 23; refine bn.mono ?_; rintro e w2 ⟨rfl, hw2⟩; rw [hw2]; clear hw2)
  go_at_call 24
  refine wo.mono ?_
  rintro e x1 ⟨v, os, rfl, hG, hne, hdg, hlv, hlen, htp, hb1⟩
  have hTx := tB3_tx h2 h36 hdg hne hlv htp
  have HTX : Hid (Tx b (tB3 os) N.toNat) := hTx
  have HNE : Hid (os ≠ []) := hne
  have HDG : Hid (DgI b os) := hdg
  obtain ⟨g, cap, rfl, hg0, hg1, hcc, hWb⟩ : ∃ g cap, v = .slice (some ⟨g, 0, none⟩) os.length cap ∧ w.heap.size ≤ g ∧ g < x1.heap.size ∧ os.length ≤ cap ∧ Wb x1 g os.length os := by
    rcases hG.shape with ⟨-, e2⟩ | h
    · exact absurd e2 hne
    · exact h
  obtain ⟨L, hL⟩ : ∃ L, os.length = L := ⟨_, rfl⟩
  have HLN : Hid (os.length = L) := hL
  have HW : Hid (Wb x1 g os.length os) := hWb
  have L1 : 1 ≤ L := by rw [← hL]; exact List.length_pos_iff.2 hne
  rw [hL] at hlen hcc ⊢
  clear hTx hne hdg hlv htp hG hWb hL bn wo
  go_wp2_with fail
  have U0 : Hid (GrU x1 x1.heap.size (.slice none 0 0) (tB3 (os.drop L))) := by rw [← HLN.out, List.drop_length]; exact GrU.nil _ _
  go_loopw [7, 8] (fun bv ii wr => ∃ k : Nat, k ≤ L ∧ ii = .int .i64 ((k : Int) - 1) ∧ Hid (GrU wr x1.heap.size bv (tB3 (os.drop k))) ∧ Hid (Below x1.heap.size x1 wr)) (fun _ ii _ => (intOf ii + 1).toNat)
  case atStart => exact ⟨L, Nat.le_refl _, rfl, U0, Below.refl _ _⟩
  case round =>
    obtain ⟨k, hk, rfl, HU, HB⟩ := hrel
    clear U0
    by_cases hk0 : k = 0
    · subst hk0
      have hki : ¬ (0 : Int) ≤ ((0 : Nat) : Int) - 1 := by omega
      have hU := HU.out
      rw [List.drop_zero] at hU
      have hcv := hU.conv (by intro e; have := tB3_len os; rw [e] at this; simp at this; have := HLN.out; omega)
      have HB2 : Hid (Below w.heap.size w wr) := step hb1 HB.out
      clear hU HU HB HNE HDG
      generalize tB3 os = T at *
      go_wp2_with fail
      go_ret2
      exact ⟨T, rfl, HTX.out, HB2.out⟩
    · obtain ⟨j, rfl⟩ : ∃ j, k = j + 1 := ⟨k - 1, by omega⟩
      have hki : (0 : Int) ≤ ((j + 1 : Nat) : Int) - 1 := by omega
      have hlt : j < os.length := by rw [HLN.out]; omega
      have hd := HDG.out.getD hlt
      have hc := (HW.out.below HB.out hg1).cell j hlt
      have hst := tB3_drop os hlt
      obtain ⟨x, hx⟩ : ∃ x, os.getD j 0 = x := ⟨_, rfl⟩
      rw [hx] at hd hc hst
      have le := rletter3 x hd.1 (by omega) wr
      have HST : Hid (tB3 (os.drop j) = tB3 (os.drop (j + 1)) ++ [ltr x]) := hst
      have jL : (j : Int) < L := by rw [← HLN.out]; omega
      obtain ⟨x0, x1b⟩ := hd
      have hlen2 : (tB3 (os.drop (j + 1))).length + 1 ≤ 17592186044416 := by rw [tB3_len, List.length_drop]; have := HLN.out; omega
      rw [show (((j + 1 : Nat) : Int) - 1) = (j : Int) by omega] at *
      clear hst hx hki
      have hji : (0 : Int) ≤ j := by omega
      go_wp2_with fail
      go_at_call 25
      refine le.mono ?_
      rintro e w3 ⟨rfl, hw3⟩
      rw [hw3]
      clear hw3 le
      obtain ⟨c, hcc2⟩ : ∃ c, ltr x = c := ⟨_, rfl⟩
      have HLT : Hid (ltr x = c) := hcc2
      rw [hcc2]
      clear hcc2
      have hsA : x1.heap.size ≤ (wr.alloc (.cells #[.int .u8 (c.toNat : Int)] 5)).heap.size := by have := HB.out.size; simp; omega
      have HUa : Hid (GrU (wr.alloc (.cells #[.int .u8 (c.toNat : Int)] 5)) x1.heap.size u7 (tB3 (os.drop (j + 1)))) := HU.out.alloc _
      have HC1 : Hid ((wr.alloc (.cells #[.int .u8 (c.toNat : Int)] 5)).cell? ⟨wr.heap.size, 0, none⟩ = some (.int .u8 (c.toNat : Int))) := (Va.new wr 5 #[.int .u8 (c.toNat : Int)]).cell
      have HBa : Hid (Below x1.heap.size x1 (wr.alloc (.cells #[.int .u8 (c.toNat : Int)] 5))) := HB.out.alloc HB.out.size _
      clear HU HB
      go_wp2_with (at_builtin; refine wpList_appU rfl (.tmp 21) (.tmp 27) rfl x1.heap.size u7 _ rfl HUa.out wr.heap.size c rfl HC1.out hlen2 hsA ?_; intro v2 w2 HG2 hb2)
      have HB3 : Hid (Below x1.heap.size x1 w2) := HBa.out.trans hb2
      have HG3 : Hid (GrU w2 x1.heap.size v2 (tB3 (os.drop j))) := by rw [HST.out, HLT.out]; exact HG2.out
      clear hb2 HG2 HUa HC1 HBa
      go_wp2_with fail
      go_roundw
      case rel => exact ⟨j, by omega, rfl, HG3, HB3⟩
      case measure => simp [intOf]
theorem rtext3_bad (b : Int) (hb : b < 2 ∨ 36 < b) (a : Option Addr) (la ca : Nat) (w : World) :
    Calls Tryz.prog 6 #[.slice a la ca, .int .i64 b] w fun e w' => e = .returned (.tuple #[.string ⟨#[]⟩, .int .i64 30]) ∧ w' = w := by
  have bn := rbadt_yes b hb w
  go_enter Tryz.func6, Tryz.ntmps6
  go_wp2_with (go_at_call 23; refine bn.mono ?_; rintro e w2 ⟨rfl, rfl⟩)
  go_ret2
  exact ⟨rfl, rfl⟩
theorem rdigits3_bad (b : Int) (hb : b < 2 ∨ 36 < b) (a : Option Addr) (la ca : Nat) (w : World) :
    Calls Tryz.prog 7 #[.slice a la ca, .int .i64 b] w fun e w' => e = .returned (.tuple #[.int .i64 0, .int .i64 30]) ∧ w' = w := by
  have bn := rbadt_yes b hb w
  go_enter Tryz.func7, Tryz.ntmps7
  go_wp2_with (go_at_call 23; refine bn.mono ?_; rintro e w2 ⟨rfl, rfl⟩)
  go_ret2
  exact ⟨rfl, rfl⟩
theorem rsum3_bad (b : Int) (hb : b < 2 ∨ 36 < b) (a : Option Addr) (la ca : Nat) (w : World) :
    Calls Tryz.prog 8 #[.slice a la ca, .int .i64 b] w fun e w' => e = .returned (.tuple #[.slice none 0 0, .int .i64 30]) ∧ w' = w := by
  have bn := rbadt_yes b hb w
  go_enter Tryz.func8, Tryz.ntmps8
  go_wp2_with (go_at_call 23; refine bn.mono ?_; rintro e w2 ⟨rfl, rfl⟩)
  go_ret2
  exact ⟨rfl, rfl⟩
/-- What Digits answers: the length of THE text. -/
def DiR (b : Nat) (N : Int) (w : World) (e : Ending) (w' : World) : Prop := ∃ t : List UInt8, e = .returned (.tuple #[.int .i64 (t.length : Int), .int .i64 0]) ∧ Tx b t N.toNat ∧ Below w.heap.size w w'
set_option maxRecDepth 20000 in
set_option maxHeartbeats 2000000 in
theorem rdigits3 (b : Nat) (h2 : 2 ≤ b) (h36 : b ≤ 36) (a : Option Addr) (la ca : Nat) (zs : List Int) (w : World) (h : Sl w a la zs) (hl : la ≤ 1100000) (hM : ∀ n : Nat, (b : Int) ^ n ≤ num zs → n ≤ 300000) (hN0 : 0 ≤ num zs) :
    Calls Tryz.prog 7 #[.slice a la ca, .int .i64 b] w fun e w' => DiR b (num zs) w e w' := by
  have bn := rbadt_no (b : Int) (by omega) (by omega) w
  have wo := worthsB b h2 h36 a la ca zs w h hl hM hN0
  generalize num zs = N at *
  clear h hM
  go_enter Tryz.func7, Tryz.ntmps7
  go_wp2_with (go_at_call 23; refine bn.mono ?_; rintro e w2 ⟨rfl, hw2⟩; rw [hw2]; clear hw2)
  go_at_call 24
  refine wo.mono ?_
  rintro e x1 ⟨v, os, rfl, hG, hne, hdg, hlv, hlen, htp, hb1⟩
  have hTx := tB3_tx h2 h36 hdg hne hlv htp
  have HTX : Hid (Tx b (tB3 os) N.toNat ∧ (tB3 os).length = os.length) := ⟨hTx, tB3_len os⟩
  obtain ⟨a8, c8, rfl, hc8, hs8⟩ := hG.sl (hdg.limbs (by omega))
  clear hTx hdg hlv htp hG hs8 bn wo
  go_wp2_with fail
  go_ret2
  exact ⟨tB3 os, by rw [HTX.out.2]; rfl, HTX.out.1, hb1⟩
theorem rsmall_nil (x : Int) (hx : Word x) (w : World) :
    Calls Tryz.prog 26 #[.int .u64 x] w fun e w' => ∃ a m c zs, e = .returned (.slice a m c) ∧ m ≤ c ∧ m ≤ 1 ∧ Sl w' a m zs ∧ num zs = x ∧ (a = none → m = 0 ∧ c = 0) ∧ Below w.heap.size w w' := by
  have hm1 : usedN [x] ≤ 1 := usedN_le [x]
  have HA : Hid (Below w.heap.size w (w.alloc (.cells #[.int .u64 x] 55))) := (Below.refl _ _).alloc (Nat.le_refl _) _
  have hL : Limbs [x] := fun z hz => by rw [List.mem_singleton.1 hz]; exact hx
  have tr := rtrim_nil (some ⟨w.heap.size, 0, none⟩) 1 1 [x] (w.alloc (.cells #[.int .u64 x] 55)) (Own.sl (cs := [x]) (heap_alloc_new _ _) hL) (fun h => by cases h) (by omega) (by omega)
  have HN : Hid (num ([x].take (usedN [x])) = x) := by show _ = _; rw [num_take_used _ (Nat.le_refl _)]; simp [num]
  generalize [x].take (usedN [x]) = zs at *
  generalize usedN [x] = m at *
  go_enter Tryz.func26, Tryz.ntmps26
  go_wp2_with fail
  go_at_call 20
  refine tr.mono ?_
  rintro e w2 ⟨a', c', rfl, hs, hc, hn, hb⟩
  have HB : Hid (Below w.heap.size w w2) := step HA.out hb
  clear tr hb HA
  go_wp2_with fail
  go_ret
  exact ⟨a', m, c', zs, rfl, hc, hm1, hs, HN.out, hn, HB.out⟩
/-- What Sum answers: the sum of the digits of THE text. -/
def SuR (b : Nat) (N : Int) (w : World) (e : Ending) (w' : World) : Prop := ∃ (t : List UInt8) (a : Option Addr) (m c : Nat) (zs : List Int), e = .returned (.tuple #[.slice a m c, .int .i64 0]) ∧ Tx b t N.toNat ∧ m ≤ c ∧ m ≤ 1 ∧ Sl w' a m zs ∧ num zs = sumI (txI t) ∧ (a = none → m = 0 ∧ c = 0) ∧ Below w.heap.size w w'
set_option maxRecDepth 20000 in
set_option maxHeartbeats 2000000 in
theorem rsum3 (b : Nat) (h2 : 2 ≤ b) (h36 : b ≤ 36) (a : Option Addr) (la ca : Nat) (zs : List Int) (w : World) (h : Sl w a la zs) (hl : la ≤ 1100000) (hM : ∀ n : Nat, (b : Int) ^ n ≤ num zs → n ≤ 300000) (hN0 : 0 ≤ num zs) :
    Calls Tryz.prog 8 #[.slice a la ca, .int .i64 b] w fun e w' => SuR b (num zs) w e w' := by
  have bn := rbadt_no (b : Int) (by omega) (by omega) w
  have wo := worthsB b h2 h36 a la ca zs w h hl hM hN0
  generalize num zs = N at *
  clear h hM
  go_enter Tryz.func8, Tryz.ntmps8
  go_wp2_with (go_at_call 23; refine bn.mono ?_; rintro e w2 ⟨rfl, hw2⟩; rw [hw2]; clear hw2)
  go_at_call 24
  refine wo.mono ?_
  rintro e x1 ⟨v, os, rfl, hG, hne, hdg, hlv, hlen, htp, hb1⟩
  have hTx := tB3_tx h2 h36 hdg hne hlv htp
  have HTX : Hid (Tx b (tB3 os) N.toNat ∧ sumI (txI (tB3 os)) = sumI os) := ⟨hTx, by rw [tB3_txI h36 hdg, sumI_rev]⟩
  have HDG : Hid (DgI b os) := hdg
  obtain ⟨g, cap, rfl, hg0, hg1, hcc, hWb⟩ : ∃ g cap, v = .slice (some ⟨g, 0, none⟩) os.length cap ∧ w.heap.size ≤ g ∧ g < x1.heap.size ∧ os.length ≤ cap ∧ Wb x1 g os.length os := by
    rcases hG.shape with ⟨-, e2⟩ | h
    · exact absurd e2 hne
    · exact h
  obtain ⟨L, hL⟩ : ∃ L, os.length = L := ⟨_, rfl⟩
  have HLN : Hid (os.length = L) := hL
  have HW : Hid (Wb x1 g os.length os) := hWb
  rw [hL] at hlen hcc ⊢
  clear hTx hne hdg hlv htp hG hWb hL bn wo
  go_wp2_with fail
  go_loop [7, 8] (fun ss ii => ∃ k : Nat, k ≤ L ∧ ii = .int .i64 k ∧ ss = .int .u64 (sumI (os.take k))) (fun _ ii => ((L : Int) - intOf ii).toNat)
  case atStart => exact ⟨0, by omega, rfl, rfl⟩
  case round =>
    obtain ⟨k, hk, rfl, rfl⟩ := hrel
    have sb := sumI_bd (b := (b : Int)) (by omega) (HDG.out.take k)
    have hlk : (os.take k).length ≤ k := List.length_take_le _ _
    by_cases hlt : k < L
    · have hki : (k : Int) < L := by omega
      have hlo : k < os.length := by rw [HLN.out]; exact hlt
      have hd := HDG.out.getD hlo
      have hc := HW.out.cell k hlo
      have hst := sumI_take hlo
      obtain ⟨x, hx⟩ : ∃ x, os.getD k 0 = x := ⟨_, rfl⟩
      rw [hx] at hd hc hst
      obtain ⟨S, hS⟩ : ∃ S, sumI (os.take k) = S := ⟨_, rfl⟩
      rw [hS] at sb hst ⊢
      have HST : Hid (sumI (os.take (k + 1)) = S + x) := hst
      obtain ⟨x0, x1b⟩ := hd
      obtain ⟨s0, s1⟩ := sb
      clear hst hx hS
      go_wp2_with fail
      go_round
      case rel => exact ⟨k + 1, by omega, by go_num, by rw [HST.out]⟩
      case measure => simp [intOf]; omega
    · have hki : ¬ (k : Int) < L := by omega
      have hall : os.take k = os := List.take_of_length_le (by rw [HLN.out]; omega)
      rw [hall] at sb ⊢
      have HX := HTX.out
      obtain ⟨S, hS⟩ : ∃ S, sumI os = S := ⟨_, rfl⟩
      rw [hS] at sb ⊢
      have HSS : Hid (sumI (txI (tB3 os)) = S) := by rw [HX.2, hS]; exact rfl
      have HLo := HLN.out
      have sm := rsmall_nil S ⟨sb.1, by omega⟩ x1
      clear HX hS hall sb
      go_wp2_with fail
      go_at_call 26
      refine sm.mono ?_
      rintro e w3 ⟨a2, m2, c2, zs2, rfl, hmc, hmo, hs2, hn2, hnl, hb2⟩
      have HR : Hid (SuR b N w (.returned (.tuple #[.slice a2 m2 c2, .int .i64 0])) w3) := ⟨tB3 os, a2, m2, c2, zs2, rfl, HTX.out.1, hmc, hmo, hs2, by rw [HSS.out]; exact hn2, hnl, step hb1 hb2⟩
      clear hs2 hn2 hb2 hnl sm
      go_wp2_with fail
      go_ret2
      exact HR.out
end Go.Proofs.YtclefkmhchfkkaaGreatDoor
namespace Go.Proofs.YtclefkmhchfkkaaGreatDoor
open Go.RowKit Go.Shelf
set_option linter.unusedVariables false

set_option maxHeartbeats 2000000 in
set_option maxRecDepth 20000 in
theorem sum_b (b : Nat) (h2 : 2 ≤ b) (h36 : b ≤ 36) (a : Option Addr) (l c : Nat) (xs : List Int) (w : World) (h : Nt w a l c xs) (hT : Tb w) (hlong : ∀ t : List UInt8, Tx b t (num xs).toNat → t.length ≤ 262144) :
    Calls Tryz.prog 11 #[.agg #[.slice a l c], .int .i64 b] w fun e W' => ∃ (t : List UInt8) (a' : Option Addr) (l' c' : Nat) (zs : List Int), e = .returned (.tuple #[.agg #[.slice a' l' c'], .int .i64 0]) ∧ Tx b t (num xs).toNat ∧ Nt W' a' l' c' zs ∧ num zs = sumI (txI t) ∧ Below w.heap.size w W' := by
  have tx := fun W (hb : Below w.heap.size w W) => text_b b h2 h36 a l c xs W (Nt.after hb h) (hT.to hb)
  generalize (num xs).toNat = N at *
  clear h hT
  go_enter Tryz.func11, Tryz.ntmps11
  go_wp2_with fail
  refine ent2 w _ _ _ _ (Q := fun W => Calls Tryz.prog _ _ W _) ?_
  intro w0 B0 hs0 V0 V1
  refine (tx w0 B0).mono ?_
  rintro e x1 ⟨t, rfl, hTx, hb1⟩
  have B1 := step B0 hb1
  have VR := Va.after hb1 V1
  have hn := hlong t hTx
  have HTX : Hid (Tx b t N) := hTx
  clear V0 V1 B0 hb1 hs0 tx hlong hTx
  obtain ⟨s, hs⟩ : ∃ s : ByteArray, s = ⟨t.toArray⟩ := ⟨_, rfl⟩
  have hsz : s.size = t.length := by rw [hs, Go.Lib.size_eq]
  have HST : Hid (s = ⟨t.toArray⟩) := hs
  rw [← hs]
  clear hs
  go_wp2_with fail
  go_loopw [8] (fun ss wr => ∃ pos : Nat, pos ≤ t.length ∧ ss = .int .u64 (sumI ((txI t).take pos)) ∧ wr.heap[x1.heap.size]? = some (.stringIter s pos) ∧ Hid (Below x1.heap.size x1 wr)) (fun _ wr => t.length - wr.iterPos x1.heap.size)
  case atStart => exact ⟨0, by omega, by simp [sumI], World.iter_heap x1 _ _, (Below.refl _ _).alloc (Nat.le_refl _) _⟩
  case round =>
    obtain ⟨pos, hpos, rfl, hit, HB⟩ := hrel
    have hdt : DgI b (txI t) := txI_dig HTX.out.dig
    have sb := sumI_bd (b := (b : Int)) (by omega) (hdt.take pos)
    have hlk : ((txI t).take pos).length ≤ pos := List.length_take_le _ _
    by_cases hlt : pos < t.length
    · have hls : pos < s.size := by omega
      have hbyte : s[pos] = t.getD pos 0 := by
        have e := HST.out
        subst e
        rw [List.getD_eq_getElem?_getD, List.getElem?_eq_getElem hlt]; rfl
      have hwv : wv (t.getD pos 0) < b := HTX.out.dig _ (by rw [List.getD_eq_getElem?_getD, List.getElem?_eq_getElem hlt]; exact List.getElem_mem hlt)
      have hst := sumI_take (l := txI t) (k := pos) (by rw [txI_len]; exact hlt)
      have hgd : (txI t).getD pos 0 = (wv (t.getD pos 0) : Int) := by
        unfold txI
        rw [List.getD_eq_getElem?_getD, List.getElem?_map, List.getD_eq_getElem?_getD, List.getElem?_eq_getElem hlt]; rfl
      rw [hgd, ← hbyte] at hst
      rw [← hbyte] at hwv
      have hc : s[pos].toNat < 128 := by
        unfold wv at hwv
        repeat' split at hwv
        all_goals omega
      have hnx := fun ty => Go.Lib.run_next_ascii_at (P := Tryz.prog) wr x1.heap.size s pos ty hit hls hc
      have hit2 := Go.Lib.iterAt_heap wr x1.heap.size s pos (pos + 1) hit
      have HB2 : Hid (Below x1.heap.size x1 (wr.iterAt x1.heap.size s (pos + 1))) := Go.Lib.below_iterAt HB.out (Nat.le_refl _) _ _
      obtain ⟨x, hx⟩ : ∃ x : Nat, wv s[pos] = x := ⟨_, rfl⟩
      have hW : ∀ w, Calls Tryz.prog 38 #[.int .i32 (s[pos].toNat : Int)] w fun e w' => e = .returned (.int .i64 (x : Int)) ∧ w' = w := fun w => by
        have := worth_any (s[pos].toNat : Int) (by omega) (by omega) w
        rw [wvI_byte, hx] at this
        exact this
      rw [hx] at hst hwv
      obtain ⟨S, hS⟩ : ∃ S, sumI ((txI t).take pos) = S := ⟨_, rfl⟩
      rw [hS] at sb hst ⊢
      have HSN : Hid (sumI ((txI t).take (pos + 1)) = S + x) := hst
      have wx : IntKind.u64.wrap (x : Int) = x := by rw [IntKind.wrap_u64]; omega
      have HIP : Hid (wr.iterPos x1.heap.size = pos) := pos_of hit
      obtain ⟨s0, s1⟩ := sb
      generalize hW2 : wr.iterAt x1.heap.size s (pos + 1) = W2 at hnx hit2 HB2
      clear HB hbyte hgd hst hx hS hW2 hdt hit
      go_wp2_with fail
      refine (hW _).mono ?_
      rintro e w' ⟨rfl, rfl⟩
      go_wp2_with fail
      go_roundw
      case rel => exact ⟨pos + 1, by omega, by rw [HSN.out], hit2, HB2⟩
      case measure => rw [HIP.out, pos_of hit2]; omega
    · have hps : pos = t.length := by omega
      have hnx := fun ty => Go.Lib.run_next_end_at (P := Tryz.prog) wr x1.heap.size s pos ty hit (by omega)
      have hall : (txI t).take pos = txI t := List.take_of_length_le (by rw [txI_len]; omega)
      rw [hall] at sb ⊢
      obtain ⟨S, hS⟩ : ∃ S, sumI (txI t) = S := ⟨_, rfl⟩
      have hlt2 := txI_len t
      rw [hS] at sb ⊢
      have HSS : Hid (sumI (txI t) = S) := hS
      have sm := fun W => small_any S ⟨sb.1, by omega⟩ W
      have HBw : Hid (Below w.heap.size w wr) := step B1 HB.out
      have VR2 := VR.below HB.out VR.lt
      clear hS hall sb hit HB
      go_wp2_with fail
      refine (sm _).mono ?_
      rintro e w3 ⟨a', l', c', zs, rfl, hnt, hnum, hb3⟩
      have VR3 := Va.after hb3 VR2
      have HNT : Hid (Nt w3 a' l' c' zs) := hnt
      have HNU : Hid (num zs = S) := hnum
      have HB4 : Hid (Below w.heap.size w w3) := step HBw.out hb3
      have c0 := VR3.cell
      have f0 := VR3.frozen 0
      have l0 := VR3.lt
      have m0 := Nat.le_of_lt l0
      have HVR : Hid (Va w3 (w.heap.size + 1) 24 #[.slice none 0 0]) := VR3
      clear hnt hnum hb3 VR3 VR2 VR sm HBw hnx
      go_wp2_with fail
      refine bodyPost_ret (results_ct rfl rfl (HVR.out.set _)) rfl ?_
      exact ⟨t, a', l', c', zs, rfl, HTX.out, HNT.out.store HVR.out _, by rw [HSS.out]; exact HNU.out, HB4.out.setCell (p := ⟨w.heap.size + 1, 0, none⟩) (Nat.le_succ _) _⟩
theorem sum_bad (b : Int) (hb : b < 2 ∨ 36 < b) (a : Option Addr) (l c : Nat) (w : World) :
    Calls Tryz.prog 11 #[.agg #[.slice a l c], .int .i64 b] w fun e W' => ∃ (a' : Option Addr) (l' c' : Nat) (zs : List Int), e = .returned (.tuple #[.agg #[.slice a' l' c'], .int .i64 30]) ∧ Nt W' a' l' c' zs ∧ num zs = 0 ∧ Below w.heap.size w W' := by
  have tx := fun W => text_bad b hb a l c W
  go_enter Tryz.func11, Tryz.ntmps11
  go_wp2_with fail
  refine ent2 w _ _ _ _ (Q := fun W => Calls Tryz.prog _ _ W _) ?_
  intro w0 B0 hs0 V0 V1
  refine (tx w0).mono ?_
  rintro e x1 ⟨rfl, hb1⟩
  have B1 := step B0 hb1
  have VR := Va.after hb1 V1
  clear V0 V1 B0 hb1 hs0 tx
  have hnx := fun ty => Go.Lib.run_next_end_at (P := Tryz.prog) (x1.iter ⟨#[]⟩ 0) x1.heap.size ⟨#[]⟩ 0 ty (World.iter_heap x1 _ _) (by decide)
  have HB : Hid (Below x1.heap.size x1 (x1.iter ⟨#[]⟩ 0)) := (Below.refl _ _).alloc (Nat.le_refl _) _
  have VR2 := VR.below HB.out VR.lt
  have HBw : Hid (Below w.heap.size w (x1.iter ⟨#[]⟩ 0)) := step B1 HB.out
  have sm := fun W => small_any 0 ⟨by decide, by decide⟩ W
  generalize hW : x1.iter ⟨#[]⟩ 0 = X at *
  clear HB
  go_wp2_with fail
  refine wp_loop_rounds 1 ?_
  rw [rounds_succ]
  go_wp2_with fail
  refine (sm _).mono ?_
  rintro e w3 ⟨a', l', c', zs, rfl, hnt, hnum, hb3⟩
  have VR3 := Va.after hb3 VR2
  have HNT : Hid (Nt w3 a' l' c' zs) := hnt
  have HNU : Hid (num zs = 0) := hnum
  have HB4 : Hid (Below w.heap.size w w3) := step HBw.out hb3
  have c0 := VR3.cell
  have f0 := VR3.frozen 0
  have l0 := VR3.lt
  have m0 := Nat.le_of_lt l0
  have HVR : Hid (Va w3 (w.heap.size + 1) 24 #[.slice none 0 0]) := VR3
  clear hnt hnum hb3 VR3 VR2 VR sm HBw hnx hW
  go_wp2_with fail
  refine bodyPost_ret (results_ct rfl rfl (HVR.out.set _)) rfl ?_
  exact ⟨a', l', c', zs, rfl, HNT.out.store HVR.out _, HNU.out, HB4.out.setCell (p := ⟨w.heap.size + 1, 0, none⟩) (Nat.le_succ _) _⟩
end Go.Proofs.YtclefkmhchfkkaaGreatDoor
namespace Go.Proofs.YtclefkmhchfkkaaGreatDoor
open Go.RowKit Go.Shelf
set_option linter.unusedVariables false

set_option maxHeartbeats 4000000 in
theorem number_val3 (a : Option Addr) (len cap : Nat) (zs : List Int) (w : World) (h : Sl w a len zs) (hl : len ≤ 17592186044416) (hc : len ≤ cap) (hn : a = none → len = 0 ∧ cap = 0) (hu : usedN zs ≤ 4096) :
    Calls Tryz.prog 5 #[.slice a len cap] w fun e w' => ∃ a' l' c' zs', e = .returned (.tuple #[.agg #[.slice a' l' c'], .bool true]) ∧ Nt w' a' l' c' zs' ∧ num zs' = num zs ∧ Below w.heap.size w w' := by
  go_enter Tryz.func5, Tryz.ntmps5
  go_wp2_with fail
  refine ent1 w _ _ (Q := fun W => Calls Tryz.prog _ _ W _) ?_
  intro w0 B0 hs V0
  clear hs
  refine (rtrim_n a len cap zs w0 (h.below B0 (Nat.le_refl _)) hl hc).mono ?_
  rintro e w1 ⟨a1, c1, rfl, -, -, -, hb1⟩
  replace V0 := Va.after hb1 V0
  replace B0 := step B0 hb1
  clear hb1
  have hui : ¬ (4096 : Int) < usedN zs := by omega
  go_wp2_with fail
  refine (copyl_any a len cap zs w1 (h.below B0 (Nat.le_refl _)) hn hl).mono ?_
  rintro e w2 ⟨a2, c2, rfl, h2, hc2, -, hb2⟩
  replace V0 := Va.after hb2 V0
  replace B0 := step B0 hb2
  clear hb2
  go_wp2_with fail
  refine (of_ok a2 len c2 zs w2 h2 (by omega) hc2 hu).mono ?_
  rintro e w3 ⟨g, l', c', zs', rfl, -, h3, hn3, hb3⟩
  replace V0 := Va.after hb3 V0
  replace B0 := step B0 hb3
  clear hb3 h2
  have q0 := V0.cell
  have f0 := V0.frozen 0
  have l0 := V0.lt
  have m0 := Nat.le_of_lt l0
  go_wp2_with fail
  have B1 := B0.setCell (p := ⟨w.heap.size, 0, none⟩) (Nat.le_refl _) (.slice (some ⟨g, 0, none⟩) l' c')
  refine bodyPost_ret (results_ct rfl rfl ((V0.set _).old _)) rfl ?_
  exact ⟨_, _, _, zs', rfl, (h3.store V0 _).al' _, hn3, B1.alloc B1.size _⟩
theorem digits_bad3 (b : Int) (hb : b < 2 ∨ 36 < b) (a : Option Addr) (l c : Nat) (w : World) :
    Calls Tryz.prog 10 #[.agg #[.slice a l c], .int .i64 b] w fun e W' => e = .returned (.tuple #[.int .i64 0, .int .i64 30]) ∧ Below w.heap.size w W' := by
  go_enter Tryz.func10, Tryz.ntmps10
  go_wp2_with fail
  refine ent1 w _ _ (Q := fun W => Calls Tryz.prog _ _ W _) ?_
  intro w0 B0 hs V0
  refine (text_bad b hb a l c w0).mono ?_
  rintro e w1 ⟨rfl, hb1⟩
  go_wp2_with fail
  go_ret2
  exact ⟨rfl, step B0 hb1⟩
set_option maxHeartbeats 1000000 in
theorem sameW3 (a b : Option Addr) (la ca cb : Nat) (xs : List Int) (w : World) (ha : Sl w a la xs) (hb : Sl w b la xs) (h1 : la ≤ 40000000000000) :
    Calls Tryz.prog 39 #[.slice a la ca, .slice b la cb] w fun e w' => e = .returned (.bool true) ∧ ∃ n, w' = w.drewN n := by
  have hza := ha.1
  have g1 : ((la : Int) != la) = false := by simp
  by_cases h0 : la = 0
  · subst h0
    clear ha hb
    go_enter Tryz.func39, Tryz.ntmps39
    go_wp2_with fail
    refine wp_loop_rounds 1 ?_
    rw [rounds_succ]
    go_wp2_with fail
    go_ret
    exact ⟨rfl, 0, rfl⟩
  · obtain ⟨ba, oa, rfl, hca⟩ := ha.2.2 (by omega)
    obtain ⟨bb, ob, rfl, hcb⟩ := hb.2.2 (by omega)
    clear ha hb
    go_enter Tryz.func39, Tryz.ntmps39
    go_wp2_with fail
    go_loopw [5] (fun i wr => ∃ k : Nat, k ≤ la ∧ i = .int .i64 k ∧ ∃ q, wr = w.drewN q) (fun i _ => la - (intOf i).toNat)
    case atStart => exact ⟨0, Nat.zero_le _, rfl, 0, rfl⟩
    case round =>
      obtain ⟨k, hk, rfl, q, rfl⟩ := hrel
      by_cases hlt : k < la
      · have hcx := hca k (by omega)
        have hcy := hcb k (by omega)
        obtain ⟨x, hx⟩ : ∃ x, xs.getD k 0 = x := ⟨_, rfl⟩
        rw [hx] at hcx hcy
        clear hx
        have g2 : (x != x) = false := by simp
        go_wp2_with fail
        go_quiet (fail)
        go_wp2_with fail
        go_roundw
        case rel => exact ⟨k + 1, by omega, by go_num, q + nq, rfl⟩
        case measure => simp [intOf]; omega
      · go_wp2_with fail
        go_ret
        exact ⟨rfl, q, rfl⟩
theorem isg3 (a b : Option Addr) (la ca m cb : Nat) (zs ds : List Int) (w : World) (h : Nt w a la ca zs) (s : Sl w b m ds) (e : num ds = num zs) (hc : m ≤ cb) (hn : b = none → m = 0 ∧ cb = 0) (hm : m ≤ 17592186044416) :
    Calls Tryz.prog 12 #[.agg #[.slice a la ca], .slice b m cb] w fun e w' => e = .returned (.bool true) ∧ Below w.heap.size w w' := by
  have hz := h.1.1
  have l1 := h.2
  have hu : usedN ds = la := by rw [used_of_num s.2.1 h.limbs e]; exact h.2.1
  have htk : ds.take (usedN ds) = zs := by
    rw [trim_eq s.2.1 h.limbs e, h.2.1]
    exact List.take_of_length_le (by omega)
  go_enter Tryz.func12, Tryz.ntmps12
  go_wp2_with fail
  refine ent1 w _ _ (Q := fun W => Calls Tryz.prog _ _ W _) ?_
  intro w0 B0 hs V0
  replace h := Nt.after B0 h
  replace s := s.below B0 (Nat.le_refl _)
  refine (limbs_any a la ca zs w0 h).mono ?_
  rintro e w1 ⟨g, rfl, hg, ho, hb1⟩
  replace s := s.below hb1 (Nat.le_refl _)
  replace h := Nt.after hb1 h
  have B1 := step B0 hb1
  clear hb1 hs V0
  go_wp2_with fail
  refine (rtrim_any b m cb ds w1 s hn hm hc).mono ?_
  rintro e w2 ⟨a2, c2, rfl, s2, hc2, hb2⟩
  have s1 := (ho.sl h.limbs).below hb2 (Nat.le_refl _)
  rw [hz] at s1
  rw [htk] at s2
  rw [hu] at hc2 s2 ⊢
  have B2 := step B1 hb2
  clear hb2 B1 B0 htk hu
  go_wp2_with fail
  refine (sameW3 (some ⟨g, 0, none⟩) a2 la la c2 zs w2 s1 s2 (by omega)).mono ?_
  rintro e w3 ⟨rfl, nn, rfl⟩
  go_wp2_with fail
  go_ret
  exact ⟨rfl, below_drewN B2 nn⟩
theorem two_mul_pow (n k : Nat) : (2 : Int) ^ n ≤ 2 ^ (n + k) := by
  rw [Int.pow_add]
  have h1 : (1 : Int) ≤ 2 ^ n := ipow_pos (by omega) n
  have h2 : (1 : Int) ≤ 2 ^ k := ipow_pos (by omega) k
  have h3 : (2 : Int) ^ n * 1 ≤ 2 ^ n * 2 ^ k := Int.mul_le_mul_of_nonneg_left h2 (by omega)
  omega
theorem hM_of {b : Nat} (h2 : 2 ≤ b) {N : Int} (hlt : N < pw 4096) (n : Nat) (h : (b : Int) ^ n ≤ N) : n ≤ 300000 := by
  rcases Nat.lt_or_ge 300000 n with h' | h'
  · exfalso
    obtain ⟨k, rfl⟩ := Nat.exists_eq_add_of_le (show 262144 ≤ n by omega)
    have h3 := two_le_pow (b := (b : Int)) (by omega) (262144 + k)
    have h4 := two_mul_pow 262144 k
    rw [pw_eq, show 64 * 4096 = 262144 from rfl] at hlt
    generalize (2 : Int) ^ 262144 = X at *
    generalize (2 : Int) ^ (262144 + k) = Y at *
    generalize (b : Int) ^ (262144 + k) = Z at *
    omega
  · exact h'
set_option maxHeartbeats 2000000 in
set_option maxRecDepth 20000 in
theorem texts_long (a0 : Option Addr) (len0 cap0 : Nat) (z0 : List Int) (b : Int) (w : World) (h0 : Sl w a0 len0 z0) (c0 : len0 ≤ cap0) (b0 : cap0 ≤ 1048576) (e0 : a0 = none → len0 = 0 ∧ cap0 = 0) (hT : Tb w) (hu : 4096 < usedN z0) :
    Calls Tryz.prog 3 #[.slice a0 len0 cap0, .int .i64 b] w fun e w' => e = .returned (.bool true) ∧ Below w.heap.size w w' := by
  have nl := number_long a0 len0 cap0 z0 w h0 (by omega) c0 hu
  go_enter Tryz.func3, Tryz.ntmps3
  go_wp2_with fail
  go_at_call 5
  refine nl.mono ?_
  rintro e w1 ⟨rfl, hb1⟩
  clear nl
  go_wp2_with fail
  go_ret
  exact ⟨rfl, hb1.alloc hb1.size _⟩
set_option maxHeartbeats 4000000 in
set_option maxRecDepth 20000 in
theorem texts_good (a0 : Option Addr) (len0 cap0 : Nat) (z0 : List Int) (b : Int) (w : World) (h0 : Sl w a0 len0 z0) (c0 : len0 ≤ cap0) (b0 : cap0 ≤ 1048576) (e0 : a0 = none → len0 = 0 ∧ cap0 = 0) (hT : Tb w) (hu : usedN z0 ≤ 4096) (B : Nat) (hB : b = B) (h2 : 2 ≤ B) (h36 : B ≤ 36) :
    Calls Tryz.prog 3 #[.slice a0 len0 cap0, .int .i64 b] w fun e w' => e = .returned (.bool true) ∧ Below w.heap.size w w' := by
  subst hB
  have hlt : num z0 < pw 4096 := Int.lt_of_lt_of_le (num_lt_used h0.2.1) (pw_mono hu)
  have hN0 := num_nonneg h0.2.1
  have hM := hM_of h2 hlt
  have HLE : Hid (∀ t : List UInt8, Tx B t (num z0).toNat → t.length ≤ 262144) := fun t ht => len_b h2 ht hN0 hlt
  have R1 : Hid (∀ W, Below w.heap.size w W → Calls Tryz.prog 6 #[.slice a0 len0 cap0, .int .i64 B] W fun e w' => TxR B (num z0) W e w') := fun W hW => rtext3 B h2 h36 a0 len0 cap0 z0 W (h0.below hW (Nat.le_refl _)) (by omega) hM hN0
  have R2 : Hid (∀ W, Below w.heap.size w W → Calls Tryz.prog 7 #[.slice a0 len0 cap0, .int .i64 B] W fun e w' => DiR B (num z0) W e w') := fun W hW => rdigits3 B h2 h36 a0 len0 cap0 z0 W (h0.below hW (Nat.le_refl _)) (by omega) hM hN0
  have R3 : Hid (∀ W, Below w.heap.size w W → Calls Tryz.prog 8 #[.slice a0 len0 cap0, .int .i64 B] W fun e w' => SuR B (num z0) W e w') := fun W hW => rsum3 B h2 h36 a0 len0 cap0 z0 W (h0.below hW (Nat.le_refl _)) (by omega) hM hN0
  clear hlt hM hN0
  have nv := number_val3 a0 len0 cap0 z0 w h0 (by omega) c0 e0 hu
  have HS0 : Hid (Sl w a0 len0 z0) := h0
  have HT : Hid (Tb w) := hT
  have HE0 : Hid (a0 = none → len0 = 0 ∧ cap0 = 0) := e0
  clear h0 hT e0 hu
  go_enter Tryz.func3, Tryz.ntmps3
  go_wp2_with fail
  go_at_call 5
  refine nv.mono ?_
  rintro e w1 ⟨a1, l1, c1, z1, rfl, hnt1, hn1, hb1⟩
  clear nv
  have HB1 : Hid (Below w.heap.size w w1) := hb1
  have HNT : Hid (Nt w1 a1 l1 c1 z1) := hnt1
  have HN1 : Hid (num z1 = num z0) := hn1
  clear hb1 hnt1 hn1
  go_wp2_with fail
  refine ent1 w1 _ _ (Q := fun W => Calls Tryz.prog _ _ W _) ?_
  intro x1 hb hs V1
  replace HB1 : Hid (Below w.heap.size w x1) := step HB1.out hb
  replace HNT : Hid (Nt x1 a1 l1 c1 z1) := Nt.after hb HNT.out
  obtain ⟨q1, hq1⟩ : ∃ q, w1.heap.size = q := ⟨_, rfl⟩
  rw [hq1] at V1 ⊢
  have HV1 : Hid (Va x1 q1 24 #[.slice a1 l1 c1]) := V1
  clear hb hs V1 hq1
  refine (R1.out x1 HB1.out).mono ?_
  rintro e x2 ⟨t1, rfl, ht1, hb⟩
  have HX1 : Hid (Tx B t1 (num z0).toNat) := ht1
  clear ht1
  replace HV1 : Hid (Va x2 q1 24 #[.slice a1 l1 c1]) := Va.after hb HV1.out
  replace HNT : Hid (Nt x2 a1 l1 c1 z1) := Nt.after hb HNT.out
  replace HB1 : Hid (Below w.heap.size w x2) := step HB1.out hb
  clear hb
  have cv := HV1.out.cell
  go_wp2_with fail
  refine (R2.out x2 HB1.out).mono ?_
  rintro e x3 ⟨t2, rfl, ht2, hb⟩
  obtain rfl : t1 = t2 := HX1.out.unique h2 h36 ht2
  clear ht2
  replace HV1 : Hid (Va x3 q1 24 #[.slice a1 l1 c1]) := Va.after hb HV1.out
  replace HNT : Hid (Nt x3 a1 l1 c1 z1) := Nt.after hb HNT.out
  replace HB1 : Hid (Below w.heap.size w x3) := step HB1.out hb
  clear hb
  have cv := HV1.out.cell
  go_wp2_with fail
  refine (R3.out x3 HB1.out).mono ?_
  rintro e x4 ⟨t3, a3, m3, c3, y3, rfl, ht3, hm3, hmo3, hs3, hn3, hl3, hb⟩
  obtain rfl : t1 = t3 := HX1.out.unique h2 h36 ht3
  have HS3 : Hid (Sl x4 a3 m3 y3) := hs3
  have HN3 : Hid (num y3 = sumI (txI t1)) := hn3
  have HL3 : Hid (a3 = none → m3 = 0 ∧ c3 = 0) := hl3
  clear ht3 hs3 hn3 hl3
  replace HV1 : Hid (Va x4 q1 24 #[.slice a1 l1 c1]) := Va.after hb HV1.out
  replace HNT : Hid (Nt x4 a1 l1 c1 z1) := Nt.after hb HNT.out
  replace HB1 : Hid (Below w.heap.size w x4) := step HB1.out hb
  clear hb
  have cv := HV1.out.cell
  go_wp2_with fail
  refine (text_b B h2 h36 a1 l1 c1 z1 x4 HNT.out (HT.out.to HB1.out)).mono ?_
  rintro e x5 ⟨t4, rfl, ht4, hb⟩
  rw [HN1.out] at ht4
  obtain rfl : t1 = t4 := HX1.out.unique h2 h36 ht4
  clear ht4
  replace HS3 : Hid (Sl x5 a3 m3 y3) := HS3.out.below hb (Nat.le_refl _)
  replace HV1 : Hid (Va x5 q1 24 #[.slice a1 l1 c1]) := Va.after hb HV1.out
  replace HNT : Hid (Nt x5 a1 l1 c1 z1) := Nt.after hb HNT.out
  replace HB1 : Hid (Below w.heap.size w x5) := step HB1.out hb
  clear hb
  have cv := HV1.out.cell
  go_wp2_with fail
  refine (digits_b B h2 h36 a1 l1 c1 z1 x5 HNT.out (HT.out.to HB1.out)).mono ?_
  rintro e x6 ⟨t5, rfl, ht5, hb⟩
  rw [HN1.out] at ht5
  obtain rfl : t1 = t5 := HX1.out.unique h2 h36 ht5
  clear ht5
  replace HS3 : Hid (Sl x6 a3 m3 y3) := HS3.out.below hb (Nat.le_refl _)
  replace HV1 : Hid (Va x6 q1 24 #[.slice a1 l1 c1]) := Va.after hb HV1.out
  replace HNT : Hid (Nt x6 a1 l1 c1 z1) := Nt.after hb HNT.out
  replace HB1 : Hid (Below w.heap.size w x6) := step HB1.out hb
  clear hb
  have cv := HV1.out.cell
  go_wp2_with fail
  refine (sum_b B h2 h36 a1 l1 c1 z1 x6 HNT.out (HT.out.to HB1.out) (by rw [HN1.out]; exact HLE.out)).mono ?_
  rintro e x7 ⟨t6, a6, l6, c6, z6, rfl, ht6, hnt6, hn6, hb⟩
  rw [HN1.out] at ht6
  obtain rfl : t1 = t6 := HX1.out.unique h2 h36 ht6
  clear ht6
  have HT6 : Hid (Nt x7 a6 l6 c6 z6) := hnt6
  have HN6 : Hid (num z6 = sumI (txI t1)) := hn6
  clear hnt6 hn6
  replace HS3 : Hid (Sl x7 a3 m3 y3) := HS3.out.below hb (Nat.le_refl _)
  replace HV1 : Hid (Va x7 q1 24 #[.slice a1 l1 c1]) := Va.after hb HV1.out
  replace HNT : Hid (Nt x7 a1 l1 c1 z1) := Nt.after hb HNT.out
  replace HB1 : Hid (Below w.heap.size w x7) := step HB1.out hb
  clear hb
  have cv := HV1.out.cell
  go_wp2_with fail
  have al : Below x7.heap.size x7 (x7.alloc (Obj.cells #[.slice a6 l6 c6] 24)) := (Below.refl _ _).alloc (Nat.le_refl _) _
  have is1 := isg3 a6 a3 l6 c6 m3 c3 z6 y3 _ (Nt.after al HT6.out) (HS3.out.below al (Nat.le_refl _)) (by rw [HN3.out, HN6.out]) hm3 HL3.out (by omega)
  have hb := al
  replace HV1 : Hid (Va (x7.alloc (Obj.cells #[.slice a6 l6 c6] 24)) q1 24 #[.slice a1 l1 c1]) := Va.after hb HV1.out
  replace HNT : Hid (Nt (x7.alloc (Obj.cells #[.slice a6 l6 c6] 24)) a1 l1 c1 z1) := Nt.after hb HNT.out
  replace HB1 : Hid (Below w.heap.size w (x7.alloc (Obj.cells #[.slice a6 l6 c6] 24))) := step HB1.out hb
  clear hb
  have cv := HV1.out.cell
  clear al
  refine is1.mono ?_
  rintro e x8 ⟨rfl, hb⟩
  clear is1
  replace HV1 : Hid (Va x8 q1 24 #[.slice a1 l1 c1]) := Va.after hb HV1.out
  replace HNT : Hid (Nt x8 a1 l1 c1 z1) := Nt.after hb HNT.out
  replace HB1 : Hid (Below w.heap.size w x8) := step HB1.out hb
  clear hb
  have cv := HV1.out.cell
  go_wp2_with fail
  have is2 := isg3 a1 a0 l1 c1 len0 cap0 z1 z0 x8 HNT.out (HS0.out.below HB1.out (Nat.le_refl _)) HN1.out.symm c0 HE0.out (by omega)
  refine is2.mono ?_
  rintro e x9 ⟨rfl, hb⟩
  clear is2
  replace HV1 : Hid (Va x9 q1 24 #[.slice a1 l1 c1]) := Va.after hb HV1.out
  replace HNT : Hid (Nt x9 a1 l1 c1 z1) := Nt.after hb HNT.out
  replace HB1 : Hid (Below w.heap.size w x9) := step HB1.out hb
  clear hb
  have cv := HV1.out.cell
  go_wp2_with fail
  refine (awake3 _ (HT.out.to HB1.out)).mono ?_
  rintro e x10 ⟨rfl, hb⟩
  replace HV1 : Hid (Va x10 q1 24 #[.slice a1 l1 c1]) := Va.after hb HV1.out
  replace HNT : Hid (Nt x10 a1 l1 c1 z1) := Nt.after hb HNT.out
  replace HB1 : Hid (Below w.heap.size w x10) := step HB1.out hb
  clear hb
  have cv := HV1.out.cell
  go_wp2_with fail
  go_ret
  exact ⟨rfl, HB1.out⟩
set_option maxHeartbeats 4000000 in
set_option maxRecDepth 20000 in
theorem texts_bad (a0 : Option Addr) (len0 cap0 : Nat) (z0 : List Int) (b : Int) (w : World) (h0 : Sl w a0 len0 z0) (c0 : len0 ≤ cap0) (b0 : cap0 ≤ 1048576) (e0 : a0 = none → len0 = 0 ∧ cap0 = 0) (hT : Tb w) (hu : usedN z0 ≤ 4096) (hb : b < 2 ∨ 36 < b) :
    Calls Tryz.prog 3 #[.slice a0 len0 cap0, .int .i64 b] w fun e w' => e = .returned (.bool true) ∧ Below w.heap.size w w' := by
  have R1 : Hid (∀ W, Below w.heap.size w W → Calls Tryz.prog 6 #[.slice a0 len0 cap0, .int .i64 b] W fun e w' => e = .returned (.tuple #[.string ⟨#[]⟩, .int .i64 30]) ∧ Below W.heap.size W w') := fun W hW => (rtext3_bad b hb a0 len0 cap0 W).mono (by rintro e w' ⟨rfl, rfl⟩; exact ⟨rfl, Below.refl _ _⟩)
  have R2 : Hid (∀ W, Below w.heap.size w W → Calls Tryz.prog 7 #[.slice a0 len0 cap0, .int .i64 b] W fun e w' => e = .returned (.tuple #[.int .i64 0, .int .i64 30]) ∧ Below W.heap.size W w') := fun W hW => (rdigits3_bad b hb a0 len0 cap0 W).mono (by rintro e w' ⟨rfl, rfl⟩; exact ⟨rfl, Below.refl _ _⟩)
  have R3 : Hid (∀ W, Below w.heap.size w W → Calls Tryz.prog 8 #[.slice a0 len0 cap0, .int .i64 b] W fun e w' => e = .returned (.tuple #[.slice none 0 0, .int .i64 30]) ∧ Below W.heap.size W w') := fun W hW => (rsum3_bad b hb a0 len0 cap0 W).mono (by rintro e w' ⟨rfl, rfl⟩; exact ⟨rfl, Below.refl _ _⟩)
  have nv := number_val3 a0 len0 cap0 z0 w h0 (by omega) c0 e0 hu
  have HS0 : Hid (Sl w a0 len0 z0) := h0
  have HT : Hid (Tb w) := hT
  have HE0 : Hid (a0 = none → len0 = 0 ∧ cap0 = 0) := e0
  clear h0 hT e0 hu
  have HBB : Hid (b < 2 ∨ 36 < b) := hb
  clear hb
  go_enter Tryz.func3, Tryz.ntmps3
  go_wp2_with fail
  go_at_call 5
  refine nv.mono ?_
  rintro e w1 ⟨a1, l1, c1, z1, rfl, hnt1, hn1, hb1⟩
  clear nv
  have HB1 : Hid (Below w.heap.size w w1) := hb1
  have HNT : Hid (Nt w1 a1 l1 c1 z1) := hnt1
  have HN1 : Hid (num z1 = num z0) := hn1
  clear hb1 hnt1 hn1
  go_wp2_with fail
  refine ent1 w1 _ _ (Q := fun W => Calls Tryz.prog _ _ W _) ?_
  intro x1 hb hs V1
  replace HB1 : Hid (Below w.heap.size w x1) := step HB1.out hb
  replace HNT : Hid (Nt x1 a1 l1 c1 z1) := Nt.after hb HNT.out
  obtain ⟨q1, hq1⟩ : ∃ q, w1.heap.size = q := ⟨_, rfl⟩
  rw [hq1] at V1 ⊢
  have HV1 : Hid (Va x1 q1 24 #[.slice a1 l1 c1]) := V1
  clear hb hs V1 hq1
  refine (R1.out x1 HB1.out).mono ?_
  rintro e x2 ⟨rfl, hb⟩
  replace HV1 : Hid (Va x2 q1 24 #[.slice a1 l1 c1]) := Va.after hb HV1.out
  replace HNT : Hid (Nt x2 a1 l1 c1 z1) := Nt.after hb HNT.out
  replace HB1 : Hid (Below w.heap.size w x2) := step HB1.out hb
  clear hb
  have cv := HV1.out.cell
  go_wp2_with fail
  refine (R2.out x2 HB1.out).mono ?_
  rintro e x3 ⟨rfl, hb⟩
  replace HV1 : Hid (Va x3 q1 24 #[.slice a1 l1 c1]) := Va.after hb HV1.out
  replace HNT : Hid (Nt x3 a1 l1 c1 z1) := Nt.after hb HNT.out
  replace HB1 : Hid (Below w.heap.size w x3) := step HB1.out hb
  clear hb
  have cv := HV1.out.cell
  go_wp2_with fail
  refine (R3.out x3 HB1.out).mono ?_
  rintro e x4 ⟨rfl, hb⟩
  replace HV1 : Hid (Va x4 q1 24 #[.slice a1 l1 c1]) := Va.after hb HV1.out
  replace HNT : Hid (Nt x4 a1 l1 c1 z1) := Nt.after hb HNT.out
  replace HB1 : Hid (Below w.heap.size w x4) := step HB1.out hb
  clear hb
  have cv := HV1.out.cell
  go_wp2_with fail
  refine (text_bad b HBB.out a1 l1 c1 x4).mono ?_
  rintro e x5 ⟨rfl, hb⟩
  replace HV1 : Hid (Va x5 q1 24 #[.slice a1 l1 c1]) := Va.after hb HV1.out
  replace HNT : Hid (Nt x5 a1 l1 c1 z1) := Nt.after hb HNT.out
  replace HB1 : Hid (Below w.heap.size w x5) := step HB1.out hb
  clear hb
  have cv := HV1.out.cell
  go_wp2_with fail
  refine (digits_bad3 b HBB.out a1 l1 c1 x5).mono ?_
  rintro e x6 ⟨rfl, hb⟩
  replace HV1 : Hid (Va x6 q1 24 #[.slice a1 l1 c1]) := Va.after hb HV1.out
  replace HNT : Hid (Nt x6 a1 l1 c1 z1) := Nt.after hb HNT.out
  replace HB1 : Hid (Below w.heap.size w x6) := step HB1.out hb
  clear hb
  have cv := HV1.out.cell
  go_wp2_with fail
  refine (sum_bad b HBB.out a1 l1 c1 x6).mono ?_
  rintro e x7 ⟨a6, l6, c6, z6, rfl, hnt6, hn6, hb⟩
  have HT6 : Hid (Nt x7 a6 l6 c6 z6) := hnt6
  have HN6 : Hid (num z6 = 0) := hn6
  clear hnt6 hn6
  replace HV1 : Hid (Va x7 q1 24 #[.slice a1 l1 c1]) := Va.after hb HV1.out
  replace HNT : Hid (Nt x7 a1 l1 c1 z1) := Nt.after hb HNT.out
  replace HB1 : Hid (Below w.heap.size w x7) := step HB1.out hb
  clear hb
  have cv := HV1.out.cell
  go_wp2_with fail
  have al : Below x7.heap.size x7 (x7.alloc (Obj.cells #[.slice a6 l6 c6] 24)) := (Below.refl _ _).alloc (Nat.le_refl _) _
  have is1 := isg3 a6 none l6 c6 0 0 z6 [] _ (Nt.after al HT6.out) ⟨rfl, Limbs.nil, fun h => absurd h (by decide)⟩ (by rw [HN6.out]; rfl) (Nat.le_refl _) (fun _ => ⟨rfl, rfl⟩) (by omega)
  have hb := al
  replace HV1 : Hid (Va (x7.alloc (Obj.cells #[.slice a6 l6 c6] 24)) q1 24 #[.slice a1 l1 c1]) := Va.after hb HV1.out
  replace HNT : Hid (Nt (x7.alloc (Obj.cells #[.slice a6 l6 c6] 24)) a1 l1 c1 z1) := Nt.after hb HNT.out
  replace HB1 : Hid (Below w.heap.size w (x7.alloc (Obj.cells #[.slice a6 l6 c6] 24))) := step HB1.out hb
  clear hb
  have cv := HV1.out.cell
  clear al
  refine is1.mono ?_
  rintro e x8 ⟨rfl, hb⟩
  clear is1
  replace HV1 : Hid (Va x8 q1 24 #[.slice a1 l1 c1]) := Va.after hb HV1.out
  replace HNT : Hid (Nt x8 a1 l1 c1 z1) := Nt.after hb HNT.out
  replace HB1 : Hid (Below w.heap.size w x8) := step HB1.out hb
  clear hb
  have cv := HV1.out.cell
  go_wp2_with fail
  have is2 := isg3 a1 a0 l1 c1 len0 cap0 z1 z0 x8 HNT.out (HS0.out.below HB1.out (Nat.le_refl _)) HN1.out.symm c0 HE0.out (by omega)
  refine is2.mono ?_
  rintro e x9 ⟨rfl, hb⟩
  clear is2
  replace HV1 : Hid (Va x9 q1 24 #[.slice a1 l1 c1]) := Va.after hb HV1.out
  replace HNT : Hid (Nt x9 a1 l1 c1 z1) := Nt.after hb HNT.out
  replace HB1 : Hid (Below w.heap.size w x9) := step HB1.out hb
  clear hb
  have cv := HV1.out.cell
  go_wp2_with fail
  refine (awake3 _ (HT.out.to HB1.out)).mono ?_
  rintro e x10 ⟨rfl, hb⟩
  replace HV1 : Hid (Va x10 q1 24 #[.slice a1 l1 c1]) := Va.after hb HV1.out
  replace HNT : Hid (Nt x10 a1 l1 c1 z1) := Nt.after hb HNT.out
  replace HB1 : Hid (Below w.heap.size w x10) := step HB1.out hb
  clear hb
  have cv := HV1.out.cell
  go_wp2_with fail
  go_ret
  exact ⟨rfl, HB1.out⟩
theorem ntexts_walk (a0 : Option Addr) (len0 cap0 : Nat) (z0 : List Int) (b : Int) (w : World) (h0 : Sl w a0 len0 z0) (c0 : len0 ≤ cap0) (b0 : cap0 ≤ 1048576) (e0 : a0 = none → len0 = 0 ∧ cap0 = 0) (hT : Tb w) :
    Calls Tryz.prog 3 #[.slice a0 len0 cap0, .int .i64 b] w fun e w' => e = .returned (.bool true) ∧ Below w.heap.size w w' := by
  by_cases hu : usedN z0 ≤ 4096
  · by_cases hb : b < 2 ∨ 36 < b
    · exact texts_bad a0 len0 cap0 z0 b w h0 c0 b0 e0 hT hu hb
    · exact texts_good a0 len0 cap0 z0 b w h0 c0 b0 e0 hT hu b.toNat (by omega) (by omega) (by omega)
  · exact texts_long a0 len0 cap0 z0 b w h0 c0 b0 e0 hT (by omega)
end Go.Proofs.YtclefkmhchfkkaaGreatDoor
namespace Go.Proofs.YtclefkmhchfkkaaGreatDoor
open Go.RowKit Go.Shelf
set_option linter.unusedVariables false

/-- What Of answers: the number, or that it is long. -/
def OfR (w w' : World) (e : Ending) (V : Int) : Prop :=
  ((V < pw 4096 ∧ ∃ a m c zs, e = .returned (.tuple #[.slice a m c, .bool true]) ∧ m ≤ c ∧ Sl w' a m zs ∧ usedN zs = m ∧ num zs = V ∧ (a = none → m = 0 ∧ c = 0)) ∨ (pw 4096 ≤ V ∧ e = .returned (.tuple #[.slice none 0 0, .bool false]))) ∧ Below w.heap.size w w'
/-- Between two pieces: k digits are taken. -/
def OfS (w : World) (b : Nat) (rs : List Int) (k : Nat) (d : Value) (cs : List Int) (W : World) : Prop :=
  Gr W w.heap.size d cs ∧ H.Limbs cs ∧ Tzr cs ∧ H.num cs = tvI b (rs.take k) ∧ cs.length ≤ 8192 ∧ Below w.heap.size w W
/-- Inside a piece: j more digits are taken. -/
def OfI (b : Nat) (rs : List Int) (k j : Nat) (p q : Int) : Prop := p = (b : Int) ^ j ∧ q = tvI b ((rs.drop k).take j) ∧ 1 ≤ p ∧ p < 4294967296 ∧ 0 ≤ q ∧ q < p
theorem OfI.start (b : Nat) (rs : List Int) (k : Nat) : OfI b rs k 0 1 0 := ⟨by simp, by simp [tvI], by omega, by omega, by omega, by omega⟩
theorem OfI.step {b : Nat} {rs : List Int} {k j : Nat} {p q : Int} (h : OfI b rs k j p q) (h2 : 2 ≤ b) (hd : DgI b rs) (hj : k + j < rs.length) (hp : p * b < 4294967296) : OfI b rs k (j + 1) (p * b) (q * b + rs.getD (k + j) 0) := by
  obtain ⟨rfl, rfl, p1, p2, q0, q1⟩ := h
  have hz := hd.getD hj
  have hb : (1 : Int) ≤ b := by omega
  have e : tvI b ((rs.drop k).take (j + 1)) = tvI b ((rs.drop k).take j) * b + rs.getD (k + j) 0 := by rw [drop_take_snoc rs k j hj, tvI_snoc]
  have hn := tvI_pos hb ((hd.drop k).take (j + 1))
  have hl := tvI_lt hb ((hd.drop k).take (j + 1))
  have hlen : ((rs.drop k).take (j + 1)).length = j + 1 := by simp; omega
  rw [hlen, e, Int.pow_succ] at hl
  rw [e] at hn
  have h1 : (b : Int) ^ j * 1 ≤ (b : Int) ^ j * b := Int.mul_le_mul_of_nonneg_left hb (by omega)
  exact ⟨by rw [Int.pow_succ], e.symm, by omega, hp, hn, hl⟩
theorem OfS.next {w : World} {b : Nat} {rs : List Int} {k j : Nat} {d d' : Value} {cs cs' : List Int} {W W' : World} {p q : Int} (hk : k + j ≤ rs.length) (h : OfS w b rs k d cs W) (hi : OfI b rs k j p q) (hG : Gr W' w.heap.size d' cs') (hL : H.Limbs cs') (hz : Tzr cs') (hn : H.num cs' = H.num cs * p + q) (hl : cs'.length ≤ 8192) (hb : Below w.heap.size W W') : OfS w b rs (k + j) d' cs' W' := by
  obtain ⟨h1, h2, h3, h4, h5, h6⟩ := h
  obtain ⟨rfl, rfl, -⟩ := hi
  refine ⟨hG, hL, hz, ?_, hl, h6.trans hb⟩
  rw [hn, h4, take_more, tvI_append]
  have : ((rs.drop k).take j).length = j := by simp; omega
  rw [this]
theorem ofs_val {b : Nat} {rs : List Int} {k j : Nat} {cs cs' : List Int} {p q : Int} (hk : k + j ≤ rs.length) (h4 : H.num cs = tvI b (rs.take k)) (hi : OfI b rs k j p q) (hn : H.num cs' = H.num cs * p + q) : H.num cs' = tvI b (rs.take (k + j)) := by
  obtain ⟨rfl, rfl, -⟩ := hi
  rw [hn, h4, take_more, tvI_append]
  have : ((rs.drop k).take j).length = j := by simp; omega
  rw [this]
theorem of3_long {b : Nat} {rs cs' : List Int} {k : Nat} (h2 : 2 ≤ b) (hd : DgI b rs) (hL : H.Limbs cs') (hz : Tzr cs') (hlong : 8192 < cs'.length) (hnv : H.num cs' = tvI b (rs.take k)) : pw 4096 ≤ tvI b rs := by
  have h1 := (long32_iff hL hz).1 hlong
  rw [hnv] at h1
  exact Int.le_trans h1 (tvI_mono (b := b) (by omega) hd k)
theorem of3_short {cs : List Int} {V : Int} (hL : H.Limbs cs) (hz : Tzr cs) (h : cs.length ≤ 8192) (e : H.num cs = V) : V < pw 4096 := by
  rcases Int.lt_or_le V (pw 4096) with h' | h'
  · exact h'
  · rw [← e] at h'
    have := (long32_iff hL hz).2 h'
    omega
theorem rtrim_none (w : World) : Calls Tryz.prog 20 #[.slice none 0 0] w fun e w' => e = .returned (.slice none 0 0) ∧ w' = w := by
  go_enter Tryz.func20, Tryz.ntmps20
  go_wp2_with fail
  refine wp_loop_rounds 1 ?_
  rw [rounds_succ]
  go_wp2_with fail
  go_ret
  exact ⟨rfl, rfl⟩
theorem rlimbs_zero (a : Option Addr) (c : Nat) (w : World) :
    Calls Tryz.prog 44 #[.slice a 0 c] w fun e w' => e = .returned (.slice none 0 0) ∧ w' = w := by
  have tr := rtrim_none w
  go_enter Tryz.func44, Tryz.ntmps44
  go_wp2_with fail
  refine wp_loop_rounds 1 ?_
  rw [rounds_succ]
  go_wp2_with fail
  go_at_call 20
  refine tr.mono ?_
  rintro e w2 ⟨rfl, rfl⟩
  go_wp2_with fail
  go_ret
  exact ⟨rfl, rfl⟩
/-- A list that is not empty lies somewhere. -/
theorem Sl.there3 {w : World} {a : Option Addr} {l c : Nat} {zs : List Int} (h : Sl w a l zs) (hu : usedN zs = l) (h0 : num zs ≠ 0) : a = none → l = 0 ∧ c = 0 := by
  intro e
  have hl : 0 < l := by
    rcases Nat.eq_zero_or_pos l with h' | h'
    · exact absurd ((num_eq_zero h.2.1).2 (by omega)) h0
    · exact h'
  obtain ⟨b, off, e2, -⟩ := h.2.2 hl
  rw [e] at e2; cases e2
theorem rev_getD (ws : List Int) {k : Nat} (h : k < ws.length) : ws.reverse.getD k 0 = ws.getD (ws.length - 1 - k) 0 := by
  rw [List.getD_eq_getElem?_getD, List.getElem?_reverse h, ← List.getD_eq_getElem?_getD]
theorem int_of3 {a b : Int} (h : a = b) : Value.int .i64 a = .int .i64 b := by rw [h]
set_option maxHeartbeats 4000000 in
set_option maxRecDepth 20000 in
theorem rof3 (b : Nat) (h2 : 2 ≤ b) (h36 : b ≤ 36) (a : Option Addr) (n cap : Nat) (ws : List Int) (w : World) (h : Sl w a n ws) (hn : n ≤ 400000) (hd : DgI b ws) :
    Calls Tryz.prog 45 #[.slice a n cap, .int .i64 b] w fun e w' => OfR w w' e (tvI b ws.reverse) := by
  have hwl := h.1
  obtain ⟨rs, hrs⟩ : ∃ rs, ws.reverse = rs := ⟨_, rfl⟩
  have hrl : rs.length = n := by rw [← hrs, List.length_reverse]; exact hwl
  have hrd : DgI b rs := by rw [← hrs]; exact fun z hz => hd z (List.mem_reverse.1 hz)
  have HRG : Hid (∀ k, k < n → rs.getD k 0 = ws.getD (n - 1 - k) 0) := fun k hk => by rw [← hrs, rev_getD ws (by omega), hwl]
  rw [hrs]
  have HS : Hid (Sl w a n ws) := h
  have HRD : Hid (DgI b rs) := hrd
  have HRL : Hid (rs.length = n) := hrl
  have S0 : Hid (OfS w b rs 0 (.slice none 0 0) [] w) := ⟨Gr.nil _ _, H.Limbs.nil, Tzr.nil, by simp [H.num, tvI], by simp, Below.refl _ _⟩
  clear h hwl hrs hrl hrd hd
  go_enter Tryz.func45, Tryz.ntmps45
  go_wp2_with fail
  go_loopw [6, 7] (fun d i wr => ∃ (k : Nat) (cs : List Int), k ≤ n ∧ i = .int .i64 ((n : Int) - 1 - k) ∧ Hid (OfS w b rs k d cs wr)) (fun _ i _ => (intOf i + 1).toNat)
  case atStart => exact ⟨0, [], by omega, int_of3 (by omega), S0⟩
  case round =>
    obtain ⟨k, cs, hk, rfl, HS1⟩ := hrel
    clear S0
    by_cases hlt : k < n
    · have hki : (0 : Int) ≤ (n : Int) - 1 - k := by omega
      have hkb : decide ((k : Int) ≤ (n : Int) - 1) = true := by simp; omega
      go_wp2_with fail
      go_loopw [7, 8, 9] (fun i pp mm wq => ∃ (j : Nat) (p q : Int), k + j ≤ n ∧ i = .int .i64 ((n : Int) - 1 - k - j) ∧ pp = .int .u64 p ∧ mm = .int .u64 q ∧ Hid (OfI b rs k j p q) ∧ Hid (OfS w b rs k u6 cs wq)) (fun i _ _ _ => (intOf i + 1).toNat)
      case atStart => exact ⟨0, 1, 0, by omega, int_of3 (by omega), rfl, rfl, OfI.start b rs k, HS1.out⟩
      case round =>
        clear HS1
        obtain ⟨j, p, q, hkj, rfl, rfl, rfl, HI, HS1⟩ := hrel
        have p1 := HI.out.2.2.1
        have p2 := HI.out.2.2.2.1
        have q0 := HI.out.2.2.2.2.1
        have q1 := HI.out.2.2.2.2.2
        have wb : IntKind.u64.wrap (b : Int) = b := by rw [IntKind.wrap_u64]; omega
        obtain ⟨y, hy⟩ : ∃ y, p * (b : Int) = y := ⟨_, rfl⟩
        have yb := mul32_bd (a := p) (b := (b : Int)) (by omega) (by omega) (by omega) (by omega)
        rw [hy] at yb
        obtain ⟨y0, y1⟩ := yb
        have wy : IntKind.u64.wrap y = y := by rw [IntKind.wrap_u64]; omega
        by_cases hend : k + j < n
        · have hi0 : (0 : Int) ≤ (n : Int) - 1 - k - j := by omega
          by_cases hyw : y < 4294967296
          · -- one more digit
            have hst := HI.out.step h2 HRD.out (by rw [HRL.out]; omega) (by rw [hy]; exact hyw)
            rw [hy] at hst
            have hsl := (Sl.below HS.out HS1.out.2.2.2.2.2 (Nat.le_refl _)).2.2 (by omega)
            obtain ⟨bb', off', ea', hcell'⟩ := hsl
            have hcx := hcell' (n - 1 - (k + j)) (by omega)
            rw [← HRG.out (k + j) (by omega)] at hcx
            obtain ⟨x, hx⟩ : ∃ x, rs.getD (k + j) 0 = x := ⟨_, rfl⟩
            have hxb := HRD.out.getD (i := k + j) (by rw [HRL.out]; omega)
            rw [hx] at hcx hst hxb
            subst ea'
            obtain ⟨z, hz⟩ : ∃ z, q * (b : Int) = z := ⟨_, rfl⟩
            have zb := mul32_bd (a := q) (b := (b : Int)) (by omega) (by omega) (by omega) (by omega)
            rw [hz] at zb hst
            obtain ⟨r, hr⟩ : ∃ r, z + x = r := ⟨_, rfl⟩
            rw [hr] at hst
            obtain ⟨z0, z1⟩ := zb
            obtain ⟨x0, x1⟩ := hxb
            have wz : IntKind.u64.wrap z = z := by rw [IntKind.wrap_u64]; omega
            have wr3 : IntKind.u64.wrap r = r := by rw [IntKind.wrap_u64]; omega
            have HN : Hid (OfI b rs k (j + 1) y r) := hst
            have ei : ((n : Int) - 1 - k - j).toNat = n - 1 - (k + j) := by omega
            have in1 : (n : Int) - 1 - k - j < n := by omega
            clear hst hx hcell' HI
            go_wp2_with fail
            go_roundw
            case rel => exact ⟨j + 1, y, r, by omega, int_of3 (by omega), rfl, rfl, HN, HS1.out⟩
            case measure => simp [intOf]; omega
          · have hyw2 : (4294967296 : Int) ≤ y := by omega
            have hyd : decide (y < 4294967296) = false := by simpa using hyw
            have hj0 : 0 < j := by
              rcases Nat.eq_zero_or_pos j with h0 | h0
              · exfalso
                subst h0
                have e := HI.out.1
                simp at e
                have e1 := hy; rw [e, Int.one_mul] at e1; omega
              · exact h0
            have hp1 := HI.out.2.2.1; have hp2 := HI.out.2.2.2.1; have hq0 := HI.out.2.2.2.2.1; have hq1 := HI.out.2.2.2.2.2
            have on := onto_any w.heap.size u6 cs p q wr HS1.out.1 HS1.out.2.1 HS1.out.2.2.1 HS1.out.2.2.2.2.2.size (by have := HS1.out.2.2.2.2.1; omega) hp1 (by omega) hq0 (by omega)
            go_wp2_with fail
            go_at_call 43
            refine on.mono ?_
            rintro e w2 ⟨v', cs', rfl, hG', hL', hz', hn', hlen', hb'⟩
            obtain ⟨a', c', hv', hc', hs'⟩ := hG'.sl hL'.up
            subst hv'
            clear on
            by_cases hlong : 8192 < cs'.length
            · have hli : (8192 : Int) < cs'.length := by omega
              have hnv := ofs_val (by rw [HRL.out]; omega) HS1.out.2.2.2.1 HI.out hn'
              have hpw := of3_long h2 HRD.out hL' hz' hlong hnv
              have HR : Hid (OfR w w2 (.returned (.tuple #[.slice none 0 0, .bool false])) (tvI b rs)) := ⟨.inr ⟨hpw, rfl⟩, HS1.out.2.2.2.2.2.trans hb'⟩
              clear hpw hnv hs' hG' hb' hn' hL' hz'
              go_wp2_with fail
              go_ret2
              exact HR.out
            · have hli : ¬ (8192 : Int) < cs'.length := by omega
              have HN : Hid (OfS w b rs (k + j) (.slice a' cs'.length c') cs' w2) := HS1.out.next (by rw [HRL.out]; omega) HI.out hG' hL' hz' hn' (by omega) hb'
              clear hs' hG' hb' hn' hL' hz'
              go_wp2_with fail
              go_roundw
              case rel => exact ⟨k + j, cs', by omega, int_of3 (by omega), HN⟩
              case measure => simp [intOf]; omega
        · have hi0 : ¬ (0 : Int) ≤ (n : Int) - 1 - k - j := by omega
          have hj0 : 0 < j := by
            rcases Nat.eq_zero_or_pos j with h0 | h0
            · exfalso
              subst h0
              have e := HI.out.1
              simp at e
              omega
            · exact h0
          have hp1 := HI.out.2.2.1; have hp2 := HI.out.2.2.2.1; have hq0 := HI.out.2.2.2.2.1; have hq1 := HI.out.2.2.2.2.2
          have on := onto_any w.heap.size u6 cs p q wr HS1.out.1 HS1.out.2.1 HS1.out.2.2.1 HS1.out.2.2.2.2.2.size (by have := HS1.out.2.2.2.2.1; omega) hp1 (by omega) hq0 (by omega)
          go_wp2_with fail
          go_at_call 43
          refine on.mono ?_
          rintro e w2 ⟨v', cs', rfl, hG', hL', hz', hn', hlen', hb'⟩
          obtain ⟨a', c', hv', hc', hs'⟩ := hG'.sl hL'.up
          subst hv'
          clear on
          by_cases hlong : 8192 < cs'.length
          · have hli : (8192 : Int) < cs'.length := by omega
            have hnv := ofs_val (by rw [HRL.out]; omega) HS1.out.2.2.2.1 HI.out hn'
            have hpw := of3_long h2 HRD.out hL' hz' hlong hnv
            have HR : Hid (OfR w w2 (.returned (.tuple #[.slice none 0 0, .bool false])) (tvI b rs)) := ⟨.inr ⟨hpw, rfl⟩, HS1.out.2.2.2.2.2.trans hb'⟩
            clear hpw hnv hs' hG' hb' hn' hL' hz'
            go_wp2_with fail
            go_ret2
            exact HR.out
          · have hli : ¬ (8192 : Int) < cs'.length := by omega
            have HN : Hid (OfS w b rs (k + j) (.slice a' cs'.length c') cs' w2) := HS1.out.next (by rw [HRL.out]; omega) HI.out hG' hL' hz' hn' (by omega) hb'
            clear hs' hG' hb' hn' hL' hz'
            go_wp2_with fail
            go_roundw
            case rel => exact ⟨k + j, cs', by omega, int_of3 (by omega), HN⟩
            case measure => simp [intOf]; omega
    · have hki : ¬ (0 : Int) ≤ (n : Int) - 1 - k := by omega
      obtain ⟨a', c', hv', hc', hs'⟩ := HS1.out.1.sl HS1.out.2.1.up
      subst hv'
      have hlim : Calls Tryz.prog 44 #[.slice a' cs.length c'] wr fun e w' => ∃ a2 m2 c2 zs2, e = .returned (.slice a2 m2 c2) ∧ m2 ≤ c2 ∧ Sl w' a2 m2 zs2 ∧ usedN zs2 = m2 ∧ num zs2 = H.num cs ∧ (a2 = none → m2 = 0 ∧ c2 = 0) ∧ Below wr.heap.size wr w' := by
        rcases Nat.eq_zero_or_pos cs.length with h0 | h0
        · have e0 := List.length_eq_zero_iff.1 h0
          rw [e0]
          refine (rlimbs_zero a' c' wr).mono ?_
          rintro e w2 ⟨rfl, rfl⟩
          exact ⟨none, 0, 0, [], rfl, Nat.le_refl _, ⟨rfl, Limbs.nil, fun h => absurd h (by decide)⟩, rfl, rfl, fun _ => ⟨rfl, rfl⟩, Below.refl _ _⟩
        · refine (limbs3 a' cs.length c' cs wr hs' HS1.out.2.1 (by have := HS1.out.2.2.2.2.1; omega)).mono ?_
          rintro e w2 ⟨a2, m2, c2, zs2, rfl, hmc, hmb, hs2, hu2, hn2, hb2⟩
          have hne : num zs2 ≠ 0 := by
            rw [hn2]
            intro h
            have := (H.num_eq_zero HS1.out.2.1).1 h
            rw [tzr_used HS1.out.2.1 HS1.out.2.2.1] at this
            omega
          exact ⟨a2, m2, c2, zs2, rfl, hmc, hs2, hu2, hn2, Sl.there3 hs2 hu2 hne, hb2⟩
      have hval : H.num cs = tvI b rs := by
        have := HS1.out.2.2.2.1
        rw [List.take_of_length_le (by rw [HRL.out]; omega)] at this
        exact this
      have HV : Hid (H.Limbs cs ∧ Tzr cs ∧ cs.length ≤ 8192 ∧ H.num cs = tvI b rs) := ⟨HS1.out.2.1, HS1.out.2.2.1, HS1.out.2.2.2.2.1, hval⟩
      rw [hval] at hlim
      have HBl : Hid (Below w.heap.size w wr) := HS1.out.2.2.2.2.2
      clear hs' hval HS1
      go_wp2_with fail
      go_at_call 44
      refine hlim.mono ?_
      rintro e w2 ⟨a2, m2, c2, zs2, rfl, hmc, hs2, hu2, hn2, hnl, hb2⟩
      have HR : Hid (OfR w w2 (.returned (.tuple #[.slice a2 m2 c2, .bool true])) (tvI b rs)) := ⟨.inl ⟨of3_short HV.out.1 HV.out.2.1 HV.out.2.2.1 HV.out.2.2.2, a2, m2, c2, zs2, rfl, hmc, hs2, hu2, hn2, hnl⟩, step HBl.out hb2⟩
      clear hs2 hu2 hn2 hb2 HV HBl hlim
      go_wp2_with fail
      go_ret2
      exact HR.out
end Go.Proofs.YtclefkmhchfkkaaGreatDoor
namespace Go.Proofs.YtclefkmhchfkkaaGreatDoor
open Go.RowKit Go.Shelf
set_option linter.unusedVariables false

theorem Gr.take3 {w : World} {B cap m : Nat} {a : Option Addr} {cs : List Int} (h : Gr w B (.slice a cs.length cap) cs) (hm : m ≤ cs.length) : Gr w B (.slice a m cap) (cs.take m) := by
  have hl : (cs.take m).length = m := by rw [List.length_take]; omega
  obtain ⟨h1, h2 | ⟨g, cap', cur, e, hB, hh, hc, hmx, hs, ht⟩⟩ := h
  · obtain ⟨e, h0⟩ := h2
    have m0 : m = 0 := by omega
    subst m0
    rw [h0] at e
    exact ⟨by rw [row_length, Nat.mul_one], .inl ⟨e, by rw [hl]⟩⟩
  · cases e
    refine ⟨by rw [row_length, Nat.mul_one], .inr ⟨g, cap, cur, by rw [hl], hB, hh, by omega, hmx, hs, ?_⟩⟩
    have e2 : row (cs.take m) = (row cs).take m := by simp [row, List.map_take]
    rw [hl, e2, ← ht, Nat.mul_one, Nat.mul_one, List.take_take, Nat.min_eq_left hm]
theorem tzr_take (cs : List Int) : Tzr (cs.take (usedN cs)) := by
  intro hne
  have hu := usedN_le cs
  have hl : (cs.take (usedN cs)).length = usedN cs := by rw [List.length_take]; omega
  have hp : 0 < usedN cs := by rw [← hl]; exact List.length_pos_iff.2 hne
  rw [hl, List.getD_eq_getElem?_getD, List.getElem?_take_of_lt (by omega), ← List.getD_eq_getElem?_getD]
  exact usedN_top cs hp
def HvR (w w' : World) (e : Ending) (N : Int) (bound : Nat) : Prop :=
  ∃ a m c ds, e = .returned (.slice a m c) ∧ ds.length = m ∧ m ≤ bound ∧ Gr w' w.heap.size (.slice a m c) ds ∧ H.Limbs ds ∧ Tzr ds ∧ H.num ds = N ∧ Below w.heap.size w w'
set_option maxHeartbeats 1000000 in
theorem halvesG (a : Option Addr) (la ca : Nat) (zs : List Int) (w : World) (h : Sl w a la zs) (hl : la ≤ 8000000000000) :
    Calls Tryz.prog 42 #[.slice a la ca] w fun e w' => HvR w w' e (num zs) (2 * la) := by
  have hz := h.1
  have hL := h.2.1
  go_enter Tryz.func42, Tryz.ntmps42
  go_wp2_with fail
  go_loopw [3, 4] (fun v i wr => ∃ (k : Nat) (cs : List Int), k ≤ la ∧ i = .int .i64 k ∧ Hid (GInv zs cs k) ∧ Hid (Gr wr w.heap.size v cs) ∧ Below w.heap.size w wr) (fun _ i _ => la - (intOf i).toNat)
  case atStart => exact ⟨0, [], Nat.zero_le _, rfl, ⟨rfl, H.Limbs.nil, rfl⟩, Gr.nil _ _, Below.refl _ _⟩
  case round =>
    obtain ⟨k, cs, hk, rfl, hI, hG, hb⟩ := hrel
    by_cases hlt : k < la
    · have hs := h.below hb (Nat.le_refl _)
      obtain ⟨b, off, rfl, hcell⟩ := hs.2.2 (by omega)
      have hcx := hcell k hlt
      have hstep := ginv_step hL hI.out
      have hw := hL.getD k
      obtain ⟨x, hx⟩ : ∃ x, zs.getD k 0 = x := ⟨_, rfl⟩
      rw [hx] at hcx hstep hw
      obtain ⟨x1, x2⟩ := hw
      obtain ⟨d0, hd0⟩ : ∃ d, x % 4294967296 = d := ⟨_, rfl⟩
      obtain ⟨d1, hd1⟩ : ∃ d, x / 4294967296 = d := ⟨_, rfl⟩
      rw [hd0, hd1] at hstep
      have e1 : x.tmod 4294967296 = d0 := by rw [Int.tmod_eq_emod_of_nonneg x1, hd0]
      have e2 : IntKind.u64.wrap (x.tdiv 4294967296) = d1 := by rw [Int.tdiv_eq_ediv_of_nonneg x1, IntKind.wrap_u64]; omega
      have HS : Hid (GInv zs (cs ++ [d0, d1]) (k + 1)) := hstep
      have hcl : cs.length ≤ 2 * k := by have := hI.out.1; omega
      clear hs hcell hx hstep hd0 hd1
      go_wp2_with fail
      go_region_law (refine step_app rfl (.tmp 11) (.tmp 22) rfl w.heap.size u3 cs (by simp [Act.eval]) (by exact hG.out.alloc _) wr.heap.size 2 2 [d0, d1] (by simp [Act.eval]) rfl (by exact heap_alloc_new _ _) (by omega) (by have := hb.size; simp; omega) ?_; intro v1 w1 hG1 hb1)
      all_goals
        have hb2 : Below w.heap.size w w1 := ((hb.alloc hb.size _).drew).trans hb1
        have HG1 : Hid (Gr w1 w.heap.size v1 (cs ++ [d0, d1])) := hG1
        clear hG1 hb1
        go_wp2_with fail
        go_roundw
        case rel => exact ⟨k + 1, _, by omega, by go_num, HS, HG1, hb2⟩
        case measure => simp [intOf]; omega
    · obtain rfl : k = la := by omega
      obtain ⟨i1, i2, i3⟩ := hI.out
      rw [List.take_of_length_le (by omega)] at i3
      obtain ⟨aa, cap, hv, hcap, hsl⟩ := hG.out.sl i2.up
      have hu := usedN_le cs
      have hle : cs.length ≤ 2 * k := by omega
      have HGG : Hid (Gr wr w.heap.size (.slice aa (usedN cs) cap) (cs.take (usedN cs))) := by
        have := hG.out
        rw [hv] at this
        exact this.take3 hu
      rw [hv]
      clear hG hv i1
      go_wp2_with fail
      refine (cut3_any aa cs.length cap cs _ hsl (by omega) hcap).mono ?_
      rintro e w2 ⟨rfl, rfl⟩
      go_wp2_with fail
      go_ret
      exact ⟨aa, usedN cs, cap, cs.take (usedN cs), rfl, by rw [List.length_take]; omega, by omega, HGG.out, i2.take _, tzr_take cs, by rw [H.num_take_used cs (Nat.le_refl _)]; exact i3, hb⟩

/-- limbs, with what is nil told. -/
theorem limbsZ (a' : Option Addr) (c' : Nat) (cs : List Int) (w : World) (hs' : Sl w a' cs.length cs) (hL : H.Limbs cs) (hz : Tzr cs) (hl : cs.length ≤ 8192) :
    Calls Tryz.prog 44 #[.slice a' cs.length c'] w fun e w' => ∃ a2 m2 c2 zs2, e = .returned (.slice a2 m2 c2) ∧ m2 ≤ c2 ∧ m2 ≤ 8192 ∧ Sl w' a2 m2 zs2 ∧ num zs2 = H.num cs ∧ (a2 = none → m2 = 0 ∧ c2 = 0) ∧ Below w.heap.size w w' := by
  rcases Nat.eq_zero_or_pos cs.length with h0 | h0
  · have e0 := List.length_eq_zero_iff.1 h0
    rw [e0]
    refine (rlimbs_zero a' c' w).mono ?_
    rintro e w2 ⟨rfl, rfl⟩
    exact ⟨none, 0, 0, [], rfl, Nat.le_refl _, by omega, ⟨rfl, Limbs.nil, fun h => absurd h (by decide)⟩, rfl, fun _ => ⟨rfl, rfl⟩, Below.refl _ _⟩
  · refine (limbs3 a' cs.length c' cs w hs' hL (by omega)).mono ?_
    rintro e w2 ⟨a2, m2, c2, zs2, rfl, hmc, hmb, hs2, hu2, hn2, hb2⟩
    have hne : num zs2 ≠ 0 := by
      rw [hn2]
      intro h
      have := (H.num_eq_zero hL).1 h
      rw [tzr_used hL hz] at this
      omega
    exact ⟨a2, m2, c2, zs2, rfl, hmc, by omega, hs2, hn2, Sl.there3 hs2 hu2 hne, hb2⟩
/-- What Scale answers. -/
def ScR (w w' : World) (e : Ending) (V : Int) : Prop :=
  ((V < pw 4096 ∧ ∃ a m c zs, e = .returned (.tuple #[.slice a m c, .int .i64 0]) ∧ m ≤ c ∧ m ≤ 8192 ∧ Sl w' a m zs ∧ num zs = V ∧ (a = none → m = 0 ∧ c = 0)) ∨ (pw 4096 ≤ V ∧ e = .returned (.tuple #[.slice none 0 0, .int .i64 3]))) ∧ Below w.heap.size w w'
/-- j of K noughts are put behind. -/
def ScS (w : World) (N : Int) (j : Nat) (d : Value) (cs : List Int) (W : World) : Prop :=
  Gr W w.heap.size d cs ∧ H.Limbs cs ∧ Tzr cs ∧ H.num cs = N * 10 ^ j ∧ cs.length ≤ 8192 ∧ Below w.heap.size w W
theorem scale_long {N : Int} {j K : Nat} {cs : List Int} (h0 : 0 ≤ N) (hj : j ≤ K) (hL : H.Limbs cs) (hz : Tzr cs) (hl : 8192 < cs.length) (hn : H.num cs = N * 10 ^ j) : pw 4096 ≤ N * 10 ^ K := by
  have h1 := (long32_iff hL hz).1 hl
  rw [hn] at h1
  obtain ⟨d, rfl⟩ := Nat.exists_eq_add_of_le hj
  have h2 : (1 : Int) ≤ 10 ^ d := ipow_pos (by omega) d
  have h3 : 0 ≤ N * 10 ^ j := Int.mul_nonneg h0 (by have := ipow_pos (b := 10) (by omega) j; omega)
  have h4 : N * 10 ^ j * 1 ≤ N * 10 ^ j * 10 ^ d := Int.mul_le_mul_of_nonneg_left h2 h3
  rw [Int.pow_add, ← Int.mul_assoc]
  rw [Int.mul_one] at h4
  exact Int.le_trans h1 h4
theorem pow9b {i : Nat} (h : i ≤ 9) : (1 : Int) ≤ 10 ^ i ∧ (10 : Int) ^ i ≤ 1000000000 := by
  match i, h with
  | 0, _ | 1, _ | 2, _ | 3, _ | 4, _ | 5, _ | 6, _ | 7, _ | 8, _ | 9, _ => decide
set_option maxRecDepth 20000 in
set_option maxHeartbeats 4000000 in
theorem rscale3 (a : Option Addr) (la ca : Nat) (zs : List Int) (K : Nat) (w : World) (h : Sl w a la zs) (hl : la ≤ 1100000) (hK : K ≤ 9223372036854775807) (hf : usedN zs ≤ 4096) :
    Calls Tryz.prog 15 #[.slice a la ca, .int .i64 K] w fun e w' => ScR w w' e (num zs * 10 ^ K) := by
  have hv := halvesG a la ca zs w h (by omega)
  have hN0 := num_nonneg h.2.1
  have HF : Hid (∀ cs, H.Limbs cs → Tzr cs → H.num cs = num zs → cs.length ≤ 8192) := by
    intro cs h1 h2 h3
    rcases Nat.lt_or_ge 8192 cs.length with h' | h'
    · exfalso
      have h4 := (long32_iff h1 h2).1 h'
      rw [h3] at h4
      have h5 := num_lt_used h.2.1
      have h6 := pw_mono hf
      exact absurd (Int.lt_of_lt_of_le h5 h6) (Int.not_lt.2 h4)
    · exact h'
  generalize num zs = N at *
  clear h hf
  have g0 : decide ((K : Int) < 0) = false := by rw [decide_eq_false_iff_not]; omega
  have g1 : ¬ (K : Int) < 0 := by omega
  go_enter Tryz.func15, Tryz.ntmps15
  go_wp2_with fail
  go_at_call 42
  refine hv.mono ?_
  rintro e x1 ⟨a1, m1, c1, ds1, rfl, hdl, hmb, hG, hL, hz, hn, hb1⟩
  have S0 : Hid (ScS w N 0 (.slice a1 m1 c1) ds1 x1) := ⟨hG, hL, hz, by rw [hn]; simp, HF.out ds1 hL hz hn, hb1⟩
  clear hv hG hL hz hn hb1 hdl HF
  go_wp2_with fail
  go_loopw [1, 6] (fun kk d wr => ∃ (j : Nat) (cs : List Int), j ≤ K ∧ kk = .int .i64 ((K : Int) - j) ∧ Hid (ScS w N j d cs wr)) (fun kk _ _ => (intOf kk).toNat)
  case atStart => exact ⟨0, ds1, by omega, int_of3 (by omega), S0⟩
  case round =>
    obtain ⟨j, cs, hj, rfl, HS1⟩ := hrel
    clear S0
    obtain ⟨a', c', hv', hc', hs'⟩ := HS1.out.1.sl HS1.out.2.1.up
    subst hv'
    by_cases hc0 : 0 < cs.length
    · have hci : (0 : Int) < cs.length := by omega
      by_cases hjK : j < K
      · have hki : (0 : Int) < (K : Int) - j := by omega
        clear hs'
        by_cases hmin : K - j ≤ 9
        · have hmi : (K : Int) - j ≤ 9 := by omega
          have hqi : (((K - j : Nat) : Int)) = (K : Int) - j := by omega
          go_wp2_with fail
          go_loopw [8, 9] (fun pp ii wq => ∃ (i : Nat) (p : Int), i ≤ (K - j) ∧ ii = .int .i64 i ∧ pp = .int .u64 p ∧ 1 ≤ p ∧ p ≤ 1000000000 ∧ Hid (p = 10 ^ i) ∧ Hid (ScS w N j (.slice a' cs.length c') cs wq)) (fun _ ii _ => ((((K - j) : Nat) : Int) - intOf ii).toNat)
          case atStart => exact ⟨0, 1, by omega, rfl, rfl, by omega, by omega, by show (1 : Int) = _; simp, HS1.out⟩
          case round =>
            clear HS1
            obtain ⟨i, p, hi, rfl, rfl, p1, p2, HP, HS1⟩ := hrel
            by_cases hlt : i < (K - j)
            · have hii : (i : Int) < (K : Int) - j := by omega
              have hp9 := pow9b (i := i + 1) (by omega)
              have hpn : 10 * p = 10 ^ (i + 1) := by rw [HP.out, Int.pow_succ]; omega
              rw [← hpn] at hp9
              have HPN : Hid (10 * p = 10 ^ (i + 1)) := hpn
              clear hpn
              go_wp2_with fail
              go_roundw
              case rel => exact ⟨i + 1, 10 * p, by omega, by go_num, rfl, hp9.1, hp9.2, HPN, HS1.out⟩
              case measure => simp [intOf]; omega
            · have hii : ¬ (i : Int) < (K : Int) - j := by omega
              have hiq : i = (K - j) := by omega
              have on := onto_any w.heap.size (.slice a' cs.length c') cs p 0 wr HS1.out.1 HS1.out.2.1 HS1.out.2.2.1 HS1.out.2.2.2.2.2.size (by have := HS1.out.2.2.2.2.1; omega) p1 (by omega) (by omega) (by omega)
              have HIQ : Hid (i = (K - j)) := hiq
              clear hiq
              go_wp2_with fail
              go_at_call 43
              refine on.mono ?_
              rintro e w2 ⟨v', cs', rfl, hG', hL', hz', hn', hlen', hb'⟩
              obtain ⟨a2, c2, hv', hc2, hs2⟩ := hG'.sl hL'.up
              subst hv'
              have hval : H.num cs' = N * 10 ^ (j + (K - j)) := by rw [hn', HS1.out.2.2.2.1, HP.out, HIQ.out, Int.pow_add, Int.add_zero, Int.mul_assoc]
              clear on
              by_cases hlong : 8192 < cs'.length
              · have hli : (8192 : Int) < cs'.length := by omega
                have hpw := scale_long (K := K) hN0 (by omega) hL' hz' hlong hval
                have HR : Hid (ScR w w2 (.returned (.tuple #[.slice none 0 0, .int .i64 3])) (N * 10 ^ K)) := ⟨.inr ⟨hpw, rfl⟩, HS1.out.2.2.2.2.2.trans hb'⟩
                clear hpw hval hs2 hG' hb' hn' hL' hz' HS1 HP
                go_wp2_with fail
                go_ret2
                exact HR.out
              · have hli : ¬ (8192 : Int) < cs'.length := by omega
                have HN : Hid (ScS w N (j + (K - j)) (.slice a2 cs'.length c2) cs' w2) := ⟨hG', hL', hz', hval, by omega, HS1.out.2.2.2.2.2.trans hb'⟩
                clear hs2 hG' hb' hn' hL' hz' hval HS1 HP
                go_wp2_with fail
                go_roundw
                case rel => exact ⟨j + (K - j), cs', by omega, int_of3 (by omega), HN⟩
                case measure => simp [intOf]; omega
        · have hmi : ¬ (K : Int) - j ≤ 9 := by omega
          have hqi : ((9 : Nat) : Int) = 9 := rfl
          go_wp2_with fail
          go_loopw [8, 9] (fun pp ii wq => ∃ (i : Nat) (p : Int), i ≤ 9 ∧ ii = .int .i64 i ∧ pp = .int .u64 p ∧ 1 ≤ p ∧ p ≤ 1000000000 ∧ Hid (p = 10 ^ i) ∧ Hid (ScS w N j (.slice a' cs.length c') cs wq)) (fun _ ii _ => (((9 : Nat) : Int) - intOf ii).toNat)
          case atStart => exact ⟨0, 1, by omega, rfl, rfl, by omega, by omega, by show (1 : Int) = _; simp, HS1.out⟩
          case round =>
            clear HS1
            obtain ⟨i, p, hi, rfl, rfl, p1, p2, HP, HS1⟩ := hrel
            by_cases hlt : i < 9
            · have hii : (i : Int) < 9 := by omega
              have hp9 := pow9b (i := i + 1) (by omega)
              have hpn : 10 * p = 10 ^ (i + 1) := by rw [HP.out, Int.pow_succ]; omega
              rw [← hpn] at hp9
              have HPN : Hid (10 * p = 10 ^ (i + 1)) := hpn
              clear hpn
              go_wp2_with fail
              go_roundw
              case rel => exact ⟨i + 1, 10 * p, by omega, by go_num, rfl, hp9.1, hp9.2, HPN, HS1.out⟩
              case measure => simp [intOf]; omega
            · have hii : ¬ (i : Int) < 9 := by omega
              have hiq : i = 9 := by omega
              have on := onto_any w.heap.size (.slice a' cs.length c') cs p 0 wr HS1.out.1 HS1.out.2.1 HS1.out.2.2.1 HS1.out.2.2.2.2.2.size (by have := HS1.out.2.2.2.2.1; omega) p1 (by omega) (by omega) (by omega)
              have HIQ : Hid (i = 9) := hiq
              clear hiq
              go_wp2_with fail
              go_at_call 43
              refine on.mono ?_
              rintro e w2 ⟨v', cs', rfl, hG', hL', hz', hn', hlen', hb'⟩
              obtain ⟨a2, c2, hv', hc2, hs2⟩ := hG'.sl hL'.up
              subst hv'
              have hval : H.num cs' = N * 10 ^ (j + 9) := by rw [hn', HS1.out.2.2.2.1, HP.out, HIQ.out, Int.pow_add, Int.add_zero, Int.mul_assoc]
              clear on
              by_cases hlong : 8192 < cs'.length
              · have hli : (8192 : Int) < cs'.length := by omega
                have hpw := scale_long (K := K) hN0 (by omega) hL' hz' hlong hval
                have HR : Hid (ScR w w2 (.returned (.tuple #[.slice none 0 0, .int .i64 3])) (N * 10 ^ K)) := ⟨.inr ⟨hpw, rfl⟩, HS1.out.2.2.2.2.2.trans hb'⟩
                clear hpw hval hs2 hG' hb' hn' hL' hz' HS1 HP
                go_wp2_with fail
                go_ret2
                exact HR.out
              · have hli : ¬ (8192 : Int) < cs'.length := by omega
                have HN : Hid (ScS w N (j + 9) (.slice a2 cs'.length c2) cs' w2) := ⟨hG', hL', hz', hval, by omega, HS1.out.2.2.2.2.2.trans hb'⟩
                clear hs2 hG' hb' hn' hL' hz' hval HS1 HP
                go_wp2_with fail
                go_roundw
                case rel => exact ⟨j + 9, cs', by omega, int_of3 (by omega), HN⟩
                case measure => simp [intOf]; omega
      · have hki : ¬ (0 : Int) < (K : Int) - j := by omega
        have hjk : j = K := by omega
        have hval : H.num cs = N * 10 ^ K := by rw [← hjk]; exact HS1.out.2.2.2.1
        have lz := limbsZ a' c' cs wr hs' HS1.out.2.1 HS1.out.2.2.1 HS1.out.2.2.2.2.1
        rw [hval] at lz
        have HV : Hid (H.Limbs cs ∧ Tzr cs ∧ cs.length ≤ 8192 ∧ H.num cs = N * 10 ^ K) := ⟨HS1.out.2.1, HS1.out.2.2.1, HS1.out.2.2.2.2.1, hval⟩
        have HBl : Hid (Below w.heap.size w wr) := HS1.out.2.2.2.2.2
        clear hs' hval HS1 hjk
        go_wp2_with fail
        go_at_call 44
        refine lz.mono ?_
        rintro e w2 ⟨a2, m2, c2, zs2, rfl, hmc, hm8, hs2, hn2, hnl, hb2⟩
        have HR : Hid (ScR w w2 (.returned (.tuple #[.slice a2 m2 c2, .int .i64 0])) (N * 10 ^ K)) := ⟨.inl ⟨of3_short HV.out.1 HV.out.2.1 HV.out.2.2.1 HV.out.2.2.2, a2, m2, c2, zs2, rfl, hmc, hm8, hs2, hn2, hnl⟩, step HBl.out hb2⟩
        clear hs2 hn2 hb2 HV HBl lz hnl
        go_wp2_with fail
        go_ret2
        exact HR.out
    · have hci : ¬ (0 : Int) < cs.length := by omega
      have hN00 : N * 10 ^ j = 0 := by
        rw [← HS1.out.2.2.2.1, List.length_eq_zero_iff.1 (show cs.length = 0 by omega)]; rfl
      have hval : H.num cs = N * 10 ^ K := by
        have h1 := ipow_pos (b := 10) (by omega) j
        have h2 : N = 0 := by
          rcases Int.mul_eq_zero.1 hN00 with h | h
          · exact h
          · omega
        rw [HS1.out.2.2.2.1, h2, Int.zero_mul, Int.zero_mul]
      have lz := limbsZ a' c' cs wr hs' HS1.out.2.1 HS1.out.2.2.1 HS1.out.2.2.2.2.1
      rw [hval] at lz
      have HV : Hid (H.Limbs cs ∧ Tzr cs ∧ cs.length ≤ 8192 ∧ H.num cs = N * 10 ^ K) := ⟨HS1.out.2.1, HS1.out.2.2.1, HS1.out.2.2.2.2.1, hval⟩
      have HBl : Hid (Below w.heap.size w wr) := HS1.out.2.2.2.2.2
      clear hs' hval HS1 hN00
      go_wp2_with fail
      go_at_call 44
      refine lz.mono ?_
      rintro e w2 ⟨a2, m2, c2, zs2, rfl, hmc, hm8, hs2, hn2, hnl, hb2⟩
      have HR : Hid (ScR w w2 (.returned (.tuple #[.slice a2 m2 c2, .int .i64 0])) (N * 10 ^ K)) := ⟨.inl ⟨of3_short HV.out.1 HV.out.2.1 HV.out.2.2.1 HV.out.2.2.2, a2, m2, c2, zs2, rfl, hmc, hm8, hs2, hn2, hnl⟩, step HBl.out hb2⟩
      clear hs2 hn2 hb2 HV HBl lz hnl
      go_wp2_with fail
      go_ret2
      exact HR.out
end Go.Proofs.YtclefkmhchfkkaaGreatDoor
namespace Go.Proofs.YtclefkmhchfkkaaGreatDoor
open Go.RowKit Go.Shelf
set_option linter.unusedVariables false

theorem rscale3_neg (a : Option Addr) (la ca : Nat) (k : Int) (hk : k < 0) (w : World) :
    Calls Tryz.prog 15 #[.slice a la ca, .int .i64 k] w fun e w' => e = .returned (.tuple #[.slice none 0 0, .int .i64 2]) ∧ w' = w := by
  go_enter Tryz.func15, Tryz.ntmps15
  go_wp2_with fail
  go_ret2
  exact ⟨rfl, rfl⟩
theorem rten3_neg (k : Int) (hk : k < 0) (w : World) :
    Calls Tryz.prog 14 #[.int .i64 k] w fun e w' => e = .returned (.tuple #[.slice none 0 0, .int .i64 2]) ∧ Below w.heap.size w w' := by
  have sc := fun a la ca W => rscale3_neg a la ca k hk W
  go_enter Tryz.func14, Tryz.ntmps14
  go_wp2_with fail
  go_at_call 15
  refine (sc _ _ _ _).mono ?_
  rintro e w2 ⟨rfl, rfl⟩
  go_wp2_with fail
  go_ret2
  exact ⟨rfl, (Below.refl _ _).alloc (Nat.le_refl _) _⟩
theorem one_limbs : Limbs [1] := fun z hz => by rw [List.mem_singleton.1 hz]; exact ⟨by decide, by decide⟩
theorem rten3 (K : Nat) (hK : K ≤ 9223372036854775807) (w : World) :
    Calls Tryz.prog 14 #[.int .i64 K] w fun e w' => ScR w w' e (10 ^ K) := by
  have hA : Below w.heap.size w (w.alloc (.cells #[.int .u64 1] 55)) := (Below.refl _ _).alloc (Nat.le_refl _) _
  have sc := rscale3 (some ⟨w.heap.size, 0, none⟩) 1 1 [1] K (w.alloc (.cells #[.int .u64 1] 55)) (Own.sl (cs := [1]) (heap_alloc_new _ _) one_limbs) (by omega) hK (by have := usedN_le [1]; simp at this; omega)
  rw [show num [1] * 10 ^ K = 10 ^ K by simp [num]] at sc
  go_enter Tryz.func14, Tryz.ntmps14
  go_wp2_with fail
  go_at_call 15
  refine sc.mono ?_
  rintro e w2 ⟨h, hb⟩
  have HB : Hid (Below w.heap.size w w2) := step hA hb
  rcases h with ⟨hlt, a, m, c, zs, rfl, h1, h2, h3, h4, h5⟩ | ⟨hge, rfl⟩
  · have HR : Hid (ScR w w2 (.returned (.tuple #[.slice a m c, .int .i64 0])) (10 ^ K)) := ⟨.inl ⟨hlt, a, m, c, zs, rfl, h1, h2, h3, h4, h5⟩, HB.out⟩
    clear hlt h3 h4 h5 hb sc hA
    go_wp2_with fail
    go_ret2
    exact HR.out
  · have HR : Hid (ScR w w2 (.returned (.tuple #[.slice none 0 0, .int .i64 3])) (10 ^ K)) := ⟨.inr ⟨hge, rfl⟩, HB.out⟩
    clear hge hb sc hA
    go_wp2_with fail
    go_ret2
    exact HR.out
theorem rcut3_neg (a : Option Addr) (la ca : Nat) (k : Int) (hk : k < 0) (w : World) :
    Calls Tryz.prog 16 #[.slice a la ca, .int .i64 k] w fun e w' => e = .returned (.tuple #[.slice none 0 0, .slice none 0 0, .int .i64 2]) ∧ w' = w := by
  go_enter Tryz.func16, Tryz.ntmps16
  go_wp2_with fail
  go_ret3
  exact ⟨rfl, rfl⟩
theorem lvB_split (b : Int) : ∀ (n : Nat) (os : List Int), n ≤ os.length → lvB b os = lvB b (os.take n) + b ^ n * lvB b (os.drop n)
  | 0, os, _ => by simp [lvB]
  | n + 1, [], h => by simp at h
  | n + 1, z :: t, h => by
    simp only [List.take_succ_cons, List.drop_succ_cons, lvB]
    rw [lvB_split b n t (by simpa using h), Int.pow_succ]
    grind
theorem lvB_lt {b : Int} (hb : 1 ≤ b) {os : List Int} (h : DgI b os) : lvB b os < b ^ os.length := by
  have := tvI_lt hb (l := os.reverse) (fun z hz => h z (List.mem_reverse.1 hz))
  rwa [lvB_rev, List.length_reverse] at this
/-- What Cut answers. -/
def CuR (w w' : World) (e : Ending) (N : Int) (K : Nat) : Prop :=
  ∃ a m c ys a2 m2 c2 ys2, e = .returned (.tuple #[.slice a m c, .slice a2 m2 c2, .int .i64 0]) ∧ m ≤ c ∧ m ≤ 8192 ∧ Sl w' a m ys ∧ (a = none → m = 0 ∧ c = 0) ∧ m2 ≤ c2 ∧ m2 ≤ 8192 ∧ Sl w' a2 m2 ys2 ∧ (a2 = none → m2 = 0 ∧ c2 = 0) ∧ N = num ys * 10 ^ K + num ys2 ∧ 0 ≤ num ys2 ∧ num ys2 < 10 ^ K ∧ Below w.heap.size w w'
/-- Of, where nothing is long. -/
def OfK (w w' : World) (e : Ending) (V : Int) : Prop := ∃ a m c zs, e = .returned (.tuple #[.slice a m c, .bool true]) ∧ m ≤ c ∧ m ≤ 8192 ∧ Sl w' a m zs ∧ num zs = V ∧ (a = none → m = 0 ∧ c = 0) ∧ Below w.heap.size w w'
theorem ofk_of {w w' : World} {e : Ending} {V : Int} (hV : V < pw 4096) (h : OfR w w' e V) : OfK w w' e V := by
  obtain ⟨⟨-, a, m, c, zs, rfl, h1, h2, h3, h4, h5⟩ | ⟨hge, -⟩, hb⟩ := h
  · refine ⟨a, m, c, zs, rfl, h1, ?_, h2, h4, h5, hb⟩
    rcases Nat.lt_or_ge 8192 m with h' | h'
    · exfalso
      have h6 := num_ge_used h2.2.1 (by omega)
      have h7 := pw_mono (show 4096 ≤ usedN zs - 1 by omega)
      rw [h4] at h6
      exact absurd hV (Int.not_lt.2 (Int.le_trans h7 h6))
    · exact h'
  · exact absurd hV (Int.not_lt.2 hge)
/-- The two parts of digits. -/
structure Two (os : List Int) (N : Int) (n K : Nat) : Prop where
  eq : N = lvB 10 (os.drop n) * 10 ^ K + lvB 10 (os.take n)
  l0 : 0 ≤ lvB 10 (os.take n)
  l1 : lvB 10 (os.take n) < 10 ^ K
  le1 : lvB 10 (os.drop n) ≤ N
  le2 : lvB 10 (os.take n) ≤ N
theorem two_os {os : List Int} {N : Int} {K : Nat} (hd : DgI 10 os) (hv : lvB 10 os = N) : Two os N (min K os.length) K := by
  have p1 := ipow_pos (b := 10) (by omega) K
  rcases Nat.lt_or_ge os.length K with h | h
  rotate_left
  · rw [Nat.min_eq_left h]
    have sp := lvB_split 10 K os h
    have a := lvB_nonneg (b := 10) (by omega) (hd.take K)
    have b := lvB_nonneg (b := 10) (by omega) (hd.drop K)
    have c := lvB_lt (b := 10) (by omega) (hd.take K)
    rw [List.length_take, Nat.min_eq_left h] at c
    have e : N = lvB 10 (os.drop K) * 10 ^ K + lvB 10 (os.take K) := by rw [← hv, sp]; grind
    have m : lvB 10 (os.drop K) * 1 ≤ lvB 10 (os.drop K) * 10 ^ K := Int.mul_le_mul_of_nonneg_left p1 b
    exact ⟨e, a, c, by omega, by omega⟩
  · rw [Nat.min_eq_right (by omega)]
    have e1 : os.drop os.length = [] := List.drop_length
    have e2 : os.take os.length = os := List.take_length
    have a := lvB_nonneg (b := 10) (by omega) hd
    have c := lvB_lt (b := 10) (by omega) hd
    obtain ⟨d, rfl⟩ := Nat.exists_eq_add_of_le (Nat.le_of_lt h)
    have p2 := ipow_pos (b := 10) (by omega) d
    have p3 := ipow_pos (b := 10) (by omega) os.length
    have m : (10 : Int) ^ os.length * 1 ≤ 10 ^ os.length * 10 ^ d := Int.mul_le_mul_of_nonneg_left p2 (by omega)
    exact ⟨by rw [e1, e2, hv]; simp [lvB], by rw [e2]; exact a, by rw [e2, Int.pow_add]; omega, by rw [e1]; simp [lvB]; omega, by rw [e2]; omega⟩
set_option maxRecDepth 20000 in
set_option maxHeartbeats 800000 in
theorem rcut3 (a : Option Addr) (la ca : Nat) (zs : List Int) (K : Nat) (w : World) (h : Sl w a la zs) (hl : la ≤ 1100000) (hK : K ≤ 9223372036854775807) (hf : usedN zs ≤ 4096) (hM : ∀ n : Nat, ((10 : Nat) : Int) ^ n ≤ num zs → n ≤ 300000) :
    Calls Tryz.prog 16 #[.slice a la ca, .int .i64 K] w fun e w' => CuR w w' e (num zs) K := by
  have wo := worthsB 10 (by omega) (by omega) a la ca zs w h hl hM (num_nonneg h.2.1)
  have HF : Hid (∀ w w' e V, V ≤ num zs → OfR w w' e V → OfK w w' e V) := fun w w' e V hV ho => ofk_of (Int.lt_of_le_of_lt hV (Int.lt_of_lt_of_le (num_lt_used h.2.1) (pw_mono hf))) ho
  generalize num zs = N at *
  clear h hM hf
  have g1 : ¬ (K : Int) < 0 := by omega
  go_enter Tryz.func16, Tryz.ntmps16
  go_wp2_with fail
  go_at_call 24
  refine wo.mono ?_
  rintro e x1 ⟨v, os, rfl, hG, hne, hdg, hlv, hlen, htp, hb1⟩
  have hdg' : DgI 10 os := hdg
  have HTW : Hid (Two os N (min K os.length) K) := two_os hdg' hlv
  obtain ⟨g, cap, rfl, hg0, hg1, hcc, hWb⟩ : ∃ g cap, v = .slice (some ⟨g, 0, none⟩) os.length cap ∧ w.heap.size ≤ g ∧ g < x1.heap.size ∧ os.length ≤ cap ∧ Wb x1 g os.length os := by
    rcases hG.shape with ⟨-, e2⟩ | h
    · exact absurd e2 hne
    · exact h
  have hsl := hWb.sl (hdg'.limbs (by omega))
  obtain ⟨L, hL⟩ : ∃ L, os.length = L := ⟨_, rfl⟩
  obtain ⟨n, hn⟩ : ∃ n, min K L = n := ⟨_, rfl⟩
  rw [hL, hn] at HTW
  have nL : n ≤ L := by omega
  have H1 : Hid (Calls Tryz.prog 45 #[.slice (some ⟨g, n, none⟩) (L - n) (cap - n), .int .i64 10] x1 fun e w' => OfK x1 w' e (lvB 10 (os.drop n))) := by
    have := rof3 10 (by omega) (by omega) (some ⟨g, 0 + n, none⟩) (L - n) (cap - n) (os.drop n) x1 (by rw [← hL] at nL ⊢; exact hsl.drop nL) (by omega) (hdg.drop _)
    rw [lvB_rev, Nat.zero_add] at this
    exact this.mono (fun e w' ho => HF.out _ _ _ _ HTW.out.le1 ho)
  have H1b : Hid (n = L → Calls Tryz.prog 45 #[.slice (some ⟨g, 0, none⟩) 0 0, .int .i64 10] x1 fun e w' => OfK x1 w' e (lvB 10 (os.drop n))) := by
    intro hnl
    have e0 : os.drop n = [] := by rw [hnl, ← hL, List.drop_length]
    have h9 := HTW.out.le1
    rw [e0] at h9 ⊢
    have := rof3 10 (by omega) (by omega) (some ⟨g, 0, none⟩) 0 0 [] x1 ⟨rfl, Limbs.nil, fun h => absurd h (by decide)⟩ (by omega) (fun z hz => by cases hz)
    exact this.mono (fun e w' ho => HF.out _ _ _ _ h9 ho)
  have H2 : Hid (∀ W, Below x1.heap.size x1 W → Calls Tryz.prog 45 #[.slice (some ⟨g, 0, none⟩) n cap, .int .i64 10] W fun e w' => OfK W w' e (lvB 10 (os.take n))) := by
    intro W hb
    have := rof3 10 (by omega) (by omega) (some ⟨g, 0, none⟩) n cap (os.take n) W ((hsl.take (by omega)).below hb (Nat.le_refl _)) (by omega) (hdg.take _)
    rw [lvB_rev] at this
    exact this.mono (fun e w' ho => HF.out _ _ _ _ HTW.out.le2 ho)
  have HB1 : Hid (Below w.heap.size w x1) := hb1
  have HNM : Hid (min K L = n) := hn
  rw [hL] at hlen hcc ⊢
  clear hdg hdg' hlv htp hG hWb hsl hne wo hL HF hb1 hn
  by_cases hKL : K ≤ L
  · have hmi : (K : Int) ≤ L := by omega
    have hmn : min (K : Int) (L : Int) = (K : Int) := by omega
    have hnK : n = K := by have := HNM.out; omega
    rw [hnK] at H1 H1b H2 HTW nL
    clear HNM hnK
    by_cases hcn : cap = K
    · have hnL : K = L := by omega
      have OFC := H1b.out hnL
      have hcs : K = cap := hcn.symm
      clear hcn
      subst hcs
      subst hnL
      have hmn2 : min (K : Int) (K : Int) = (K : Int) := by omega
      go_wp2_with fail
      go_at_call 45
      refine OFC.mono ?_
      rintro e x2 ⟨a3, m3, c3, y3, rfl, h1, h2, h3, h4, h5, hb2⟩
      have HB2 : Hid (Below x1.heap.size x1 x2) := hb2
      have HS3 : Hid (Sl x2 a3 m3 y3) := h3
      have HN3 : Hid (num y3 = lvB 10 (os.drop K)) := h4
      have HL3 : Hid (a3 = none → m3 = 0 ∧ c3 = 0) := h5
      clear h3 h4 h5 hb2
      go_wp2_with fail
      go_at_call 45
      refine (H2.out x2 HB2.out).mono ?_
      rintro e x3 ⟨a4, m4, c4, y4, rfl, k1, k2, k3, k4, k5, hb3⟩
      have HR : Hid (CuR w x3 (.returned (.tuple #[.slice a3 m3 c3, .slice a4 m4 c4, .int .i64 0])) N K) :=
        ⟨a3, m3, c3, y3, a4, m4, c4, y4, rfl, h1, h2, HS3.out.below hb3 (Nat.le_refl _), HL3.out, k1, k2, k3, k5, by rw [HN3.out, k4]; exact HTW.out.eq, by rw [k4]; exact HTW.out.l0, by rw [k4]; exact HTW.out.l1, step HB1.out (HB2.out.trans (hb3.mono HB2.out.size))⟩
      clear k3 k4 k5 hb3 HS3 HN3 HL3 H1 H1b H2 HTW HB1 HB2
      go_wp2_with fail
      go_ret3
      exact HR.out
    · have OFC := H1.out
      go_wp2_with fail
      go_at_call 45
      refine OFC.mono ?_
      rintro e x2 ⟨a3, m3, c3, y3, rfl, h1, h2, h3, h4, h5, hb2⟩
      have HB2 : Hid (Below x1.heap.size x1 x2) := hb2
      have HS3 : Hid (Sl x2 a3 m3 y3) := h3
      have HN3 : Hid (num y3 = lvB 10 (os.drop K)) := h4
      have HL3 : Hid (a3 = none → m3 = 0 ∧ c3 = 0) := h5
      clear h3 h4 h5 hb2
      go_wp2_with fail
      go_at_call 45
      refine (H2.out x2 HB2.out).mono ?_
      rintro e x3 ⟨a4, m4, c4, y4, rfl, k1, k2, k3, k4, k5, hb3⟩
      have HR : Hid (CuR w x3 (.returned (.tuple #[.slice a3 m3 c3, .slice a4 m4 c4, .int .i64 0])) N K) :=
        ⟨a3, m3, c3, y3, a4, m4, c4, y4, rfl, h1, h2, HS3.out.below hb3 (Nat.le_refl _), HL3.out, k1, k2, k3, k5, by rw [HN3.out, k4]; exact HTW.out.eq, by rw [k4]; exact HTW.out.l0, by rw [k4]; exact HTW.out.l1, step HB1.out (HB2.out.trans (hb3.mono HB2.out.size))⟩
      clear k3 k4 k5 hb3 HS3 HN3 HL3 H1 H1b H2 HTW HB1 HB2
      go_wp2_with fail
      go_ret3
      exact HR.out
  · have hmi : ¬ (K : Int) ≤ L := by omega
    have hmn : min (K : Int) (L : Int) = (L : Int) := by omega
    have hnK : n = L := by have := HNM.out; omega
    rw [hnK] at H1 H1b H2 HTW nL
    clear HNM hnK
    by_cases hcn : cap = L
    · have hnL : L = L := by omega
      have OFC := H1b.out hnL
      have hcs : L = cap := hcn.symm
      clear hcn hnL
      subst hcs
      go_wp2_with fail
      go_at_call 45
      refine OFC.mono ?_
      rintro e x2 ⟨a3, m3, c3, y3, rfl, h1, h2, h3, h4, h5, hb2⟩
      have HB2 : Hid (Below x1.heap.size x1 x2) := hb2
      have HS3 : Hid (Sl x2 a3 m3 y3) := h3
      have HN3 : Hid (num y3 = lvB 10 (os.drop L)) := h4
      have HL3 : Hid (a3 = none → m3 = 0 ∧ c3 = 0) := h5
      clear h3 h4 h5 hb2
      go_wp2_with fail
      go_at_call 45
      refine (H2.out x2 HB2.out).mono ?_
      rintro e x3 ⟨a4, m4, c4, y4, rfl, k1, k2, k3, k4, k5, hb3⟩
      have HR : Hid (CuR w x3 (.returned (.tuple #[.slice a3 m3 c3, .slice a4 m4 c4, .int .i64 0])) N K) :=
        ⟨a3, m3, c3, y3, a4, m4, c4, y4, rfl, h1, h2, HS3.out.below hb3 (Nat.le_refl _), HL3.out, k1, k2, k3, k5, by rw [HN3.out, k4]; exact HTW.out.eq, by rw [k4]; exact HTW.out.l0, by rw [k4]; exact HTW.out.l1, step HB1.out (HB2.out.trans (hb3.mono HB2.out.size))⟩
      clear k3 k4 k5 hb3 HS3 HN3 HL3 H1 H1b H2 HTW HB1 HB2
      go_wp2_with fail
      go_ret3
      exact HR.out
    · have OFC := H1.out
      rw [Nat.sub_self] at OFC
      go_wp2_with fail
      go_at_call 45
      refine OFC.mono ?_
      rintro e x2 ⟨a3, m3, c3, y3, rfl, h1, h2, h3, h4, h5, hb2⟩
      have HB2 : Hid (Below x1.heap.size x1 x2) := hb2
      have HS3 : Hid (Sl x2 a3 m3 y3) := h3
      have HN3 : Hid (num y3 = lvB 10 (os.drop L)) := h4
      have HL3 : Hid (a3 = none → m3 = 0 ∧ c3 = 0) := h5
      clear h3 h4 h5 hb2
      go_wp2_with fail
      go_at_call 45
      refine (H2.out x2 HB2.out).mono ?_
      rintro e x3 ⟨a4, m4, c4, y4, rfl, k1, k2, k3, k4, k5, hb3⟩
      have HR : Hid (CuR w x3 (.returned (.tuple #[.slice a3 m3 c3, .slice a4 m4 c4, .int .i64 0])) N K) :=
        ⟨a3, m3, c3, y3, a4, m4, c4, y4, rfl, h1, h2, HS3.out.below hb3 (Nat.le_refl _), HL3.out, k1, k2, k3, k5, by rw [HN3.out, k4]; exact HTW.out.eq, by rw [k4]; exact HTW.out.l0, by rw [k4]; exact HTW.out.l1, step HB1.out (HB2.out.trans (hb3.mono HB2.out.size))⟩
      clear k3 k4 k5 hb3 HS3 HN3 HL3 H1 H1b H2 HTW HB1 HB2
      go_wp2_with fail
      go_ret3
      exact HR.out
end Go.Proofs.YtclefkmhchfkkaaGreatDoor
namespace Go.Proofs.YtclefkmhchfkkaaGreatDoor
open Go.RowKit Go.Shelf
set_option linter.unusedVariables false

/-- What Ten answers. -/
def TnR (w : World) (e : Ending) (w' : World) (V : Int) : Prop :=
  (∃ a l c zs, e = .returned (.tuple #[.agg #[.slice a l c], .int .i64 0]) ∧ Nt w' a l c zs ∧ num zs = V ∧ Below w.heap.size w w') ∨ (e = .returned (.tuple #[.agg #[.slice none 0 0], .int .i64 3]) ∧ Big V ∧ Below w.heap.size w w')
set_option maxHeartbeats 2000000 in
theorem ten_any (k : Nat) (hk : k ≤ 9223372036854775807) (w : World) : Calls Tryz.prog 17 #[.int .i64 k] w fun e w' => TnR w e w' (10 ^ k) := by
  have B0 : Below w.heap.size w w := Below.refl _ _
  go_enter Tryz.func17, Tryz.ntmps17
  go_wp2_with fail
  refine ent1 w _ _ (Q := fun W => Calls Tryz.prog _ _ W _) ?_
  intro x1 hb hs_x1 V0
  replace B0 := step B0 hb
  clear hb hs_x1
  refine (small_any 10 ⟨by omega, by omega⟩ _).mono ?_
  rintro e x2 ⟨a1, l1, c1, z1, rfl, h1, e1, hb⟩
  replace V0 := Va.after hb V0
  replace B0 := step B0 hb
  clear hb
  have c_V0 := V0.cell
  have f0_V0 := V0.frozen 0
  have l_V0 := V0.lt
  have m_V0 := Nat.le_of_lt l_V0
  have pa := pow_any a1 l1 c1 z1 k x2 h1 hk
  rw [e1] at pa
  clear e1 h1
  go_wp2_with fail
  refine pa.mono ?_
  rintro e x3 (⟨a2, l2, c2, z2, rfl, h2, e2, hb⟩ | ⟨rfl, hbig, hb⟩)
  · replace V0 := Va.after hb V0
    replace B0 := step B0 hb
    have E2 : Hid (num z2 = 10 ^ k) := e2
    clear e2 hb pa c_V0 f0_V0 l_V0 m_V0
    have c_V0 := V0.cell
    have f0_V0 := V0.frozen 0
    have l_V0 := V0.lt
    have m_V0 := Nat.le_of_lt l_V0
    go_wp2_with fail
    refine bodyPost_ret (results_ct rfl rfl (V0.set _)) rfl ?_
    exact .inl ⟨a2, l2, c2, z2, rfl, h2.store V0 _, E2.out, B0.setCell (p := ⟨w.heap.size, 0, none⟩) (Nat.le_refl _) _⟩
  · replace V0 := Va.after hb V0
    replace B0 := step B0 hb
    have HBIG : Hid (Big (10 ^ k)) := hbig
    clear hbig hb pa c_V0 f0_V0 l_V0 m_V0
    have c_V0 := V0.cell
    have f0_V0 := V0.frozen 0
    have l_V0 := V0.lt
    have m_V0 := Nat.le_of_lt l_V0
    go_wp2_with fail
    refine bodyPost_ret (results_ct rfl rfl (V0.set _)) rfl ?_
    exact .inr ⟨rfl, HBIG.out, B0.setCell (p := ⟨w.heap.size, 0, none⟩) (Nat.le_refl _) _⟩
set_option maxHeartbeats 2000000 in
theorem ten_neg (k : Int) (hk : k < 0) (w : World) : Calls Tryz.prog 17 #[.int .i64 k] w fun e w' => e = .returned (.tuple #[.agg #[.slice none 0 0], .int .i64 2]) ∧ Below w.heap.size w w' := by
  have B0 : Below w.heap.size w w := Below.refl _ _
  go_enter Tryz.func17, Tryz.ntmps17
  go_wp2_with fail
  refine ent1 w _ _ (Q := fun W => Calls Tryz.prog _ _ W _) ?_
  intro x1 hb hs_x1 V0
  replace B0 := step B0 hb
  clear hb hs_x1
  refine (small_any 10 ⟨by omega, by omega⟩ _).mono ?_
  rintro e x2 ⟨a1, l1, c1, z1, rfl, h1, e1, hb⟩
  replace V0 := Va.after hb V0
  replace B0 := step B0 hb
  clear hb
  have c_V0 := V0.cell
  have f0_V0 := V0.frozen 0
  have l_V0 := V0.lt
  have m_V0 := Nat.le_of_lt l_V0
  clear e1 h1
  go_wp2_with fail
  refine (pow_neg a1 l1 c1 k x2 hk).mono ?_
  rintro e x3 ⟨rfl, hb⟩
  replace V0 := Va.after hb V0
  replace B0 := step B0 hb
  clear hb c_V0 f0_V0 l_V0 m_V0
  have c_V0 := V0.cell
  have f0_V0 := V0.frozen 0
  have l_V0 := V0.lt
  have m_V0 := Nat.le_of_lt l_V0
  go_wp2_with fail
  refine bodyPost_ret (results_ct rfl rfl (V0.set _)) rfl ?_
  exact ⟨rfl, B0.setCell (p := ⟨w.heap.size, 0, none⟩) (Nat.le_refl _) _⟩
end Go.Proofs.YtclefkmhchfkkaaGreatDoor
namespace Go.Proofs.YtclefkmhchfkkaaGreatDoor
open Go.RowKit Go.Shelf
set_option linter.unusedVariables false

/-- What Scale answers. -/
def ScQ (w : World) (e : Ending) (w' : World) (V : Int) : Prop :=
  (∃ a l c zs, e = .returned (.tuple #[.agg #[.slice a l c], .int .i64 0]) ∧ Nt w' a l c zs ∧ num zs = V ∧ Below w.heap.size w w') ∨ (e = .returned (.tuple #[.agg #[.slice none 0 0], .int .i64 3]) ∧ pw 4096 ≤ V ∧ Below w.heap.size w w')

set_option maxHeartbeats 4000000 in
theorem scale_any (a : Option Addr) (l c : Nat) (xs : List Int) (k : Nat) (hk : k ≤ 9223372036854775807) (w : World) (h : Nt w a l c xs) : Calls Tryz.prog 18 #[.agg #[.slice a l c], .int .i64 k] w fun e w' => ScQ w e w' (num xs * 10 ^ k) := by
  have B0 : Below w.heap.size w w := Below.refl _ _
  go_enter Tryz.func18, Tryz.ntmps18
  go_wp2_with fail
  refine ent2 w _ _ _ _ (Q := fun W => Calls Tryz.prog _ _ W _) ?_
  intro x1 hb hs_x1 V0 V1
  replace h := Nt.after hb h
  replace B0 := step B0 hb
  clear hb hs_x1
  refine (ten_any k hk _).mono ?_
  rintro e x2 (⟨a1, l1, c1, z1, rfl, h1, e1, hb⟩ | ⟨rfl, hbig, hb⟩)
  · replace V0 := Va.after hb V0
    replace V1 := Va.after hb V1
    replace h := Nt.after hb h
    replace B0 := step B0 hb
    clear hb
    have E1 : Hid (num z1 = 10 ^ k) := e1
    clear e1
    have c_V0 := V0.cell
    have f0_V0 := V0.frozen 0
    have l_V0 := V0.lt
    have m_V0 := Nat.le_of_lt l_V0
    have c_V1 := V1.cell
    have f0_V1 := V1.frozen 0
    have l_V1 := V1.lt
    have m_V1 := Nat.le_of_lt l_V1
    go_wp2_with fail
    refine ent1 x2 _ _ (Q := fun W => Calls Tryz.prog _ _ W _) ?_
    intro x3 hb hs_x3 V2
    replace V0 := Va.after hb V0
    replace V1 := Va.after hb V1
    replace h := Nt.after hb h
    replace h1 := Nt.after hb h1
    replace B0 := step B0 hb
    clear hb hs_x3
    by_cases hf : num xs * 10 ^ k < pw 4096
    · have HF : Hid (num xs * 10 ^ k < pw 4096) := hf
      clear hf
      refine (nmul_ok a a1 l c l1 c1 xs z1 _ h h1 (by rw [E1.out]; exact HF.out)).mono ?_
      rintro e x4 ⟨a2, l2, c2, z2, rfl, h2, e2, hb⟩
      replace V0 := Va.after hb V0
      replace V1 := Va.after hb V1
      replace V2 := Va.after hb V2
      replace h := Nt.after hb h
      replace h1 := Nt.after hb h1
      replace B0 := step B0 hb
      clear hb
      have E2 : Hid (num z2 = num xs * 10 ^ k) := by show _ = _; rw [e2, E1.out]
      clear e2 HF E1
      clear c_V0 f0_V0 l_V0 m_V0 c_V1 f0_V1 l_V1 m_V1
      have c_V1 := V1.cell
      have f0_V1 := V1.frozen 0
      have l_V1 := V1.lt
      have m_V1 := Nat.le_of_lt l_V1
      go_wp2_with fail
      refine bodyPost_ret (results_ct rfl rfl (V1.set _)) rfl ?_
      exact .inl ⟨a2, l2, c2, z2, rfl, h2.store V1 _, E2.out, B0.setCell (p := ⟨w.heap.size + 1, 0, none⟩) (show w.heap.size ≤ w.heap.size + 1 by omega) _⟩
    · have HF : Hid (pw 4096 ≤ num xs * 10 ^ k) := Int.not_lt.1 hf
      clear hf
      refine (nmul_long a a1 l c l1 c1 xs z1 _ h h1 (by rw [E1.out]; exact HF.out)).mono ?_
      rintro e x4 ⟨rfl, hb⟩
      replace V0 := Va.after hb V0
      replace V1 := Va.after hb V1
      replace V2 := Va.after hb V2
      replace h := Nt.after hb h
      replace h1 := Nt.after hb h1
      replace B0 := step B0 hb
      clear hb
      clear E1
      clear c_V0 f0_V0 l_V0 m_V0 c_V1 f0_V1 l_V1 m_V1
      have c_V1 := V1.cell
      have f0_V1 := V1.frozen 0
      have l_V1 := V1.lt
      have m_V1 := Nat.le_of_lt l_V1
      go_wp2_with fail
      refine bodyPost_ret (results_ct rfl rfl (V1.set _)) rfl ?_
      exact .inr ⟨rfl, HF.out, B0.setCell (p := ⟨w.heap.size + 1, 0, none⟩) (show w.heap.size ≤ w.heap.size + 1 by omega) _⟩
  · replace V0 := Va.after hb V0
    replace V1 := Va.after hb V1
    replace h := Nt.after hb h
    replace B0 := step B0 hb
    clear hb
    have HBIG : Hid (Big (10 ^ k)) := hbig
    clear hbig
    have c_V0 := V0.cell
    have f0_V0 := V0.frozen 0
    have l_V0 := V0.lt
    have m_V0 := Nat.le_of_lt l_V0
    have c_V1 := V1.cell
    have f0_V1 := V1.frozen 0
    have l_V1 := V1.lt
    have m_V1 := Nat.le_of_lt l_V1
    go_wp2_with fail
    refine ent1 x2 _ _ (Q := fun W => Calls Tryz.prog _ _ W _) ?_
    intro x3 hb hs_x3 V2
    replace V0 := Va.after hb V0
    replace V1 := Va.after hb V1
    replace h := Nt.after hb h
    replace B0 := step B0 hb
    clear hb hs_x3
    refine (isZero_any a l c _).mono ?_
    rintro e x4 ⟨rfl, hb⟩
    replace V0 := Va.after hb V0
    replace V1 := Va.after hb V1
    replace V2 := Va.after hb V2
    replace h := Nt.after hb h
    replace B0 := step B0 hb
    clear hb
    clear c_V0 f0_V0 l_V0 m_V0 c_V1 f0_V1 l_V1 m_V1
    have c_V0 := V0.cell
    have f0_V0 := V0.frozen 0
    have l_V0 := V0.lt
    have m_V0 := Nat.le_of_lt l_V0
    have c_V1 := V1.cell
    have f0_V1 := V1.frozen 0
    have l_V1 := V1.lt
    have m_V1 := Nat.le_of_lt l_V1
    rw [h.zero]
    by_cases hz : num xs = 0
    · have g : decide (num xs = 0) = true := decide_eq_true hz
      rw [g]
      have HZ : Hid (num xs = 0) := hz
      clear hz
      go_wp2_with fail
      refine bodyPost_ret (results_ct rfl rfl (V1.set _)) rfl ?_
      exact .inl ⟨_, _, _, [], rfl, Nt.nil _, by rw [HZ.out, Int.zero_mul]; rfl, B0.setCell (p := ⟨w.heap.size + 1, 0, none⟩) (show w.heap.size ≤ w.heap.size + 1 by omega) _⟩
    · have g : decide (num xs = 0) = false := decide_eq_false hz
      rw [g]
      have HZ : Hid (pw 4096 ≤ num xs * 10 ^ k) := by
        have p0 := h.nonneg
        have p1 := HBIG.out.ge
        have p2 := Int.mul_le_mul_of_nonneg_right (show 1 ≤ num xs by omega) (Int.le_of_lt (show (0 : Int) < 10 ^ k from Int.pow_pos (by omega)))
        show _ ≤ _
        omega
      clear hz
      go_wp2_with fail
      refine bodyPost_ret (results_ct rfl rfl (V1.set _)) rfl ?_
      exact .inr ⟨rfl, HZ.out, B0.setCell (p := ⟨w.heap.size + 1, 0, none⟩) (show w.heap.size ≤ w.heap.size + 1 by omega) _⟩
set_option maxHeartbeats 4000000 in
theorem scale_neg (a : Option Addr) (l c : Nat) (k : Int) (hk : k < 0) (w : World) : Calls Tryz.prog 18 #[.agg #[.slice a l c], .int .i64 k] w fun e w' => e = .returned (.tuple #[.agg #[.slice none 0 0], .int .i64 2]) ∧ Below w.heap.size w w' := by
  have B0 : Below w.heap.size w w := Below.refl _ _
  go_enter Tryz.func18, Tryz.ntmps18
  go_wp2_with fail
  refine ent2 w _ _ _ _ (Q := fun W => Calls Tryz.prog _ _ W _) ?_
  intro x1 hb hs_x1 V0 V1
  replace B0 := step B0 hb
  clear hb hs_x1
  refine (ten_neg k hk _).mono ?_
  rintro e x2 ⟨rfl, hb⟩
  replace V0 := Va.after hb V0
  replace V1 := Va.after hb V1
  replace B0 := step B0 hb
  clear hb
  have c_V0 := V0.cell
  have f0_V0 := V0.frozen 0
  have l_V0 := V0.lt
  have m_V0 := Nat.le_of_lt l_V0
  have c_V1 := V1.cell
  have f0_V1 := V1.frozen 0
  have l_V1 := V1.lt
  have m_V1 := Nat.le_of_lt l_V1
  go_wp2_with fail
  refine bodyPost_ret (results_ct rfl rfl ((V1.set _).old _)) rfl ?_
  exact ⟨rfl, (B0.setCell (p := ⟨w.heap.size + 1, 0, none⟩) (show w.heap.size ≤ w.heap.size + 1 by omega) _).alloc (by simp; omega) _⟩
/-- What Cut answers. -/
def CtQ (w : World) (e : Ending) (w' : World) (V T : Int) : Prop :=
  ∃ a1 l1 c1 qs a2 l2 c2 rs, e = .returned (.tuple #[.agg #[.slice a1 l1 c1], .agg #[.slice a2 l2 c2], .int .i64 0]) ∧ Nt w' a1 l1 c1 qs ∧ Nt w' a2 l2 c2 rs ∧ Hid (V = num qs * T + num rs ∧ num rs < T) ∧ Below w.heap.size w w'
theorem results_cct9 {fn : Func} {i j k b c : Nat} {v u : Value} {tmps : Array Value} {w : World} (h : fn.results = #[.cell i 24, .cell j 24, .tmp k]) (hi : tmps.getD i undef = .pointer (some ⟨b, 0, none⟩)) (hv : Va w b 24 #[v]) (hj : tmps.getD j undef = .pointer (some ⟨c, 0, none⟩)) (hu : Va w c 24 #[u]) :
    (results fn tmps).run Tryz.prog w = .ok (.tuple #[.agg #[v], .agg #[u], tmps.getD k undef]) w := by
  have c := hv.cell; have d := hu.cell
  rw [Array.getD_eq_getD_getElem?] at hi hj
  simp [results, h, hi, hj, c, d, go_sem]
set_option maxHeartbeats 4000000 in
theorem ncut_any (a : Option Addr) (l c : Nat) (xs : List Int) (k : Nat) (hk : k ≤ 9223372036854775807) (w : World) (h : Nt w a l c xs) : Calls Tryz.prog 19 #[.agg #[.slice a l c], .int .i64 k] w fun e w' => CtQ w e w' (num xs) (10 ^ k) := by
  have B0 : Below w.heap.size w w := Below.refl _ _
  go_enter Tryz.func19, Tryz.ntmps19
  go_wp2_with fail
  refine ent3 w _ _ _ _ _ _ (Q := fun W => Calls Tryz.prog _ _ W _) ?_
  intro x1 hb hs_x1 V0 V1 V2
  replace h := Nt.after hb h
  replace B0 := step B0 hb
  clear hb hs_x1
  refine (ten_any k hk _).mono ?_
  rintro e x2 (⟨a1, l1, c1, z1, rfl, h1, e1, hb⟩ | ⟨rfl, hbig, hb⟩)
  · replace V0 := Va.after hb V0
    replace V1 := Va.after hb V1
    replace V2 := Va.after hb V2
    replace h := Nt.after hb h
    replace B0 := step B0 hb
    clear hb
    have E1 : Hid (num z1 = 10 ^ k) := e1
    clear e1
    have c_V0 := V0.cell
    have f0_V0 := V0.frozen 0
    have l_V0 := V0.lt
    have m_V0 := Nat.le_of_lt l_V0
    have c_V1 := V1.cell
    have f0_V1 := V1.frozen 0
    have l_V1 := V1.lt
    have m_V1 := Nat.le_of_lt l_V1
    have c_V2 := V2.cell
    have f0_V2 := V2.frozen 0
    have l_V2 := V2.lt
    have m_V2 := Nat.le_of_lt l_V2
    go_wp2_with fail
    refine ent1 x2 _ _ (Q := fun W => Calls Tryz.prog _ _ W _) ?_
    intro x3 hb hs_x3 V3
    replace V0 := Va.after hb V0
    replace V1 := Va.after hb V1
    replace V2 := Va.after hb V2
    replace h := Nt.after hb h
    replace h1 := Nt.after hb h1
    replace B0 := step B0 hb
    clear hb hs_x3
    refine (ndiv_ok a a1 l c l1 c1 xs z1 _ h h1 (by rw [E1.out]; have : (0 : Int) < 10 ^ k := Int.pow_pos (by omega); omega)).mono ?_
    rintro e x4 ⟨a2, l2, c2, a3, l3, c3, qs, rs, rfl, h2, h3, e2, e3, hb⟩
    replace V0 := Va.after hb V0
    replace V1 := Va.after hb V1
    replace V2 := Va.after hb V2
    replace V3 := Va.after hb V3
    replace h := Nt.after hb h
    replace h1 := Nt.after hb h1
    replace B0 := step B0 hb
    clear hb
    have E2 : Hid (num xs = num qs * 10 ^ k + num rs ∧ num rs < 10 ^ k) := by show _ ∧ _; rw [← E1.out]; exact ⟨e2, e3⟩
    clear e2 e3 E1
    clear c_V0 f0_V0 l_V0 m_V0 c_V1 f0_V1 l_V1 m_V1 c_V2 f0_V2 l_V2 m_V2
    have c_V1 := V1.cell
    have f0_V1 := V1.frozen 0
    have l_V1 := V1.lt
    have m_V1 := Nat.le_of_lt l_V1
    have c_V2 := V2.cell
    have f0_V2 := V2.frozen 0
    have l_V2 := V2.lt
    have m_V2 := Nat.le_of_lt l_V2
    go_wp2_with fail
    have u1 := (V1.set (.slice a2 l2 c2)).other (p := ⟨w.heap.size + 1 + 1, 0, none⟩) (show w.heap.size + 1 ≠ w.heap.size + 1 + 1 by omega) (.slice a3 l3 c3)
    have u2 := (V2.other (p := ⟨w.heap.size + 1, 0, none⟩) (show w.heap.size + 1 + 1 ≠ w.heap.size + 1 by omega) (.slice a2 l2 c2)).set (.slice a3 l3 c3)
    have b1 := (B0.setCell (p := ⟨w.heap.size + 1, 0, none⟩) (show w.heap.size ≤ w.heap.size + 1 by omega) (.slice a2 l2 c2)).setCell (p := ⟨w.heap.size + 1 + 1, 0, none⟩) (show w.heap.size ≤ w.heap.size + 1 + 1 by omega) (.slice a3 l3 c3)
    have far : ∀ {a l c zs}, Nt x4 a l c zs → Nt ((x4.setCell ⟨w.heap.size + 1, 0, none⟩ (.slice a2 l2 c2)).setCell ⟨w.heap.size + 1 + 1, 0, none⟩ (.slice a3 l3 c3)) a l c zs := fun h => (h.store V1 _).store (V2.other (p := ⟨w.heap.size + 1, 0, none⟩) (show w.heap.size + 1 + 1 ≠ w.heap.size + 1 by omega) _) _
    refine bodyPost_ret (results_cct9 rfl rfl u1 rfl u2) rfl ?_
    exact ⟨a2, l2, c2, qs, a3, l3, c3, rs, rfl, far h2, far h3, E2, b1⟩
  · replace V0 := Va.after hb V0
    replace V1 := Va.after hb V1
    replace V2 := Va.after hb V2
    replace h := Nt.after hb h
    replace B0 := step B0 hb
    clear hb
    have E2 : Hid (num xs = num ([] : List Int) * 10 ^ k + num xs ∧ num xs < 10 ^ k) := by
      have p1 := hbig.ge
      have p2 := num_lt h.limbs
      have p3 := pw_mono (show xs.length ≤ 4096 by have := h.1.1; have := h.2; omega)
      refine ⟨by simp [num], ?_⟩
      omega
    clear hbig
    have c_V0 := V0.cell
    have f0_V0 := V0.frozen 0
    have l_V0 := V0.lt
    have m_V0 := Nat.le_of_lt l_V0
    have c_V1 := V1.cell
    have f0_V1 := V1.frozen 0
    have l_V1 := V1.lt
    have m_V1 := Nat.le_of_lt l_V1
    have c_V2 := V2.cell
    have f0_V2 := V2.frozen 0
    have l_V2 := V2.lt
    have m_V2 := Nat.le_of_lt l_V2
    go_wp2_with fail
    have hb : Below x2.heap.size x2 (x2.alloc (Obj.cells #[.slice none 0 0] 24)) := (Below.refl _ _).alloc (Nat.le_refl _) _
    generalize x2.alloc (Obj.cells #[.slice none 0 0] 24) = y at hb ⊢
    clear c_V0 f0_V0 l_V0 m_V0 c_V1 f0_V1 l_V1 m_V1 c_V2 f0_V2 l_V2 m_V2
    replace V0 := Va.after hb V0
    replace V1 := Va.after hb V1
    replace V2 := Va.after hb V2
    replace h := Nt.after hb h
    replace B0 := step B0 hb
    clear hb
    have c_V0 := V0.cell
    have f0_V0 := V0.frozen 0
    have l_V0 := V0.lt
    have m_V0 := Nat.le_of_lt l_V0
    have c_V1 := V1.cell
    have f0_V1 := V1.frozen 0
    have l_V1 := V1.lt
    have m_V1 := Nat.le_of_lt l_V1
    have c_V2 := V2.cell
    have f0_V2 := V2.frozen 0
    have l_V2 := V2.lt
    have m_V2 := Nat.le_of_lt l_V2
    have hne : w.heap.size + 1 ≠ w.heap.size + 1 + 1 := by omega
    obtain ⟨T2, T3⟩ := two_vars (w := y.drew) V1 V2 hne (.slice none 0 0) (.slice a l c)
    have BF := below_two B0.drew (b := w.heap.size + 1) (c := w.heap.size + 1 + 1) (by omega) (by omega) (.slice none 0 0) (.slice a l c)
    have hF := Nt.store2 (w := y.drew) h V1 V2 hne (.slice none 0 0) (.slice a l c)
    go_region
    all_goals
      go_wp2_with fail
      refine bodyPost_ret (results_cct9 rfl rfl T2 rfl T3) rfl ?_
      exact ⟨_, _, _, [], a, l, c, xs, rfl, Nt.nil _, hF, E2, BF⟩
set_option maxHeartbeats 4000000 in
theorem ncut_neg (a : Option Addr) (l c : Nat) (k : Int) (hk : k < 0) (w : World) : Calls Tryz.prog 19 #[.agg #[.slice a l c], .int .i64 k] w fun e w' => e = .returned (.tuple #[.agg #[.slice none 0 0], .agg #[.slice none 0 0], .int .i64 2]) ∧ Below w.heap.size w w' := by
  have B0 : Below w.heap.size w w := Below.refl _ _
  go_enter Tryz.func19, Tryz.ntmps19
  go_wp2_with fail
  refine ent3 w _ _ _ _ _ _ (Q := fun W => Calls Tryz.prog _ _ W _) ?_
  intro x1 hb hs_x1 V0 V1 V2
  replace B0 := step B0 hb
  clear hb hs_x1
  refine (ten_neg k hk _).mono ?_
  rintro e x2 ⟨rfl, hb⟩
  replace V0 := Va.after hb V0
  replace V1 := Va.after hb V1
  replace V2 := Va.after hb V2
  replace B0 := step B0 hb
  clear hb
  have c_V0 := V0.cell
  have f0_V0 := V0.frozen 0
  have l_V0 := V0.lt
  have m_V0 := Nat.le_of_lt l_V0
  have c_V1 := V1.cell
  have f0_V1 := V1.frozen 0
  have l_V1 := V1.lt
  have m_V1 := Nat.le_of_lt l_V1
  have c_V2 := V2.cell
  have f0_V2 := V2.frozen 0
  have l_V2 := V2.lt
  have m_V2 := Nat.le_of_lt l_V2
  go_wp2_with fail
  have u1 := (V1.set (.slice none 0 0)).other (p := ⟨w.heap.size + 1 + 1, 0, none⟩) (show w.heap.size + 1 ≠ w.heap.size + 1 + 1 by omega) (.slice none 0 0)
  have u2 := (V2.other (p := ⟨w.heap.size + 1, 0, none⟩) (show w.heap.size + 1 + 1 ≠ w.heap.size + 1 by omega) (.slice none 0 0)).set (.slice none 0 0)
  have b1 := (B0.setCell (p := ⟨w.heap.size + 1, 0, none⟩) (show w.heap.size ≤ w.heap.size + 1 by omega) (.slice none 0 0)).setCell (p := ⟨w.heap.size + 1 + 1, 0, none⟩) (show w.heap.size ≤ w.heap.size + 1 + 1 by omega) (.slice none 0 0)
  have far : ∀ {a l c zs}, Nt x2 a l c zs → Nt ((x2.setCell ⟨w.heap.size + 1, 0, none⟩ (.slice none 0 0)).setCell ⟨w.heap.size + 1 + 1, 0, none⟩ (.slice none 0 0)) a l c zs := fun h => (h.store V1 _).store (V2.other (p := ⟨w.heap.size + 1, 0, none⟩) (show w.heap.size + 1 + 1 ≠ w.heap.size + 1 by omega) _) _
  refine bodyPost_ret (results_cct9 rfl rfl (u1.old _) rfl (u2.old _)) rfl ?_
  exact ⟨rfl, b1.alloc (by simp; omega) _⟩
end Go.Proofs.YtclefkmhchfkkaaGreatDoor
namespace Go.Proofs.YtclefkmhchfkkaaGreatDoor
open Go.RowKit Go.Shelf
set_option linter.unusedVariables false

/-- The document's answer, and the program's: a number and an error. -/
def DoP (w w' : World) (e : Ending) (v E : Int) : Prop := ∃ a m c ys, e = .returned (.tuple #[.slice a m c, .int .i64 E]) ∧ m ≤ c ∧ m ≤ 8192 ∧ Sl w' a m ys ∧ num ys = v ∧ (a = none → m = 0 ∧ c = 0) ∧ Below w.heap.size w w'
def PrP (w w' : World) (e : Ending) (v E : Int) : Prop := ∃ a l c zs, e = .returned (.tuple #[.agg #[.slice a l c], .int .i64 E]) ∧ Nt w' a l c zs ∧ num zs = v ∧ Below w.heap.size w w'
def DoC (w w' : World) (e : Ending) (v u E : Int) : Prop := ∃ a m c ys a2 m2 c2 ys2, e = .returned (.tuple #[.slice a m c, .slice a2 m2 c2, .int .i64 E]) ∧ m ≤ c ∧ m ≤ 8192 ∧ Sl w' a m ys ∧ num ys = v ∧ (a = none → m = 0 ∧ c = 0) ∧ m2 ≤ c2 ∧ m2 ≤ 8192 ∧ Sl w' a2 m2 ys2 ∧ num ys2 = u ∧ (a2 = none → m2 = 0 ∧ c2 = 0) ∧ Below w.heap.size w w'
def PrC (w w' : World) (e : Ending) (v u E : Int) : Prop := ∃ a l c zs a2 l2 c2 ys, e = .returned (.tuple #[.agg #[.slice a l c], .agg #[.slice a2 l2 c2], .int .i64 E]) ∧ Nt w' a l c zs ∧ num zs = v ∧ Nt w' a2 l2 c2 ys ∧ num ys = u ∧ Below w.heap.size w w'
theorem nil_sl (w : World) : Sl w none 0 [] := ⟨rfl, Limbs.nil, fun h => absurd h (by decide)⟩
theorem do_of {w w' : World} {e : Ending} {V : Int} (h : ScR w w' e V) (hV : V < pw 4096) : DoP w w' e V 0 := by
  obtain ⟨⟨-, a, m, c, zs, rfl, h1, h2, h3, h4, h5⟩ | ⟨h1, -⟩, hb⟩ := h
  · exact ⟨a, m, c, zs, rfl, h1, h2, h3, h4, h5, hb⟩
  · exact absurd hV (Int.not_lt.2 h1)
theorem do_long {w w' : World} {e : Ending} {V : Int} (h : ScR w w' e V) (hV : pw 4096 ≤ V) : DoP w w' e 0 3 := by
  obtain ⟨⟨h1, -⟩ | ⟨-, rfl⟩, hb⟩ := h
  · exact absurd h1 (Int.not_lt.2 hV)
  · exact ⟨none, 0, 0, [], rfl, Nat.le_refl _, by omega, nil_sl _, rfl, fun _ => ⟨rfl, rfl⟩, hb⟩
theorem nt_lt9 {w : World} {a : Option Addr} {l c : Nat} {zs : List Int} (h : Nt w a l c zs) : num zs < pw 4096 :=
  Int.lt_of_lt_of_le (num_lt h.limbs) (pw_mono (by have := h.1.1; have := h.2; omega))
theorem pr_of {w w' : World} {e : Ending} {V : Int} (h : ScQ w e w' V) (hV : V < pw 4096) : PrP w w' e V 0 := by
  obtain ⟨a, l, c, zs, rfl, h1, h2, hb⟩ | ⟨-, h1, -⟩ := h
  · exact ⟨a, l, c, zs, rfl, h1, h2, hb⟩
  · exact absurd hV (Int.not_lt.2 h1)
theorem pr_long {w w' : World} {e : Ending} {V : Int} (h : ScQ w e w' V) (hV : pw 4096 ≤ V) : PrP w w' e 0 3 := by
  obtain ⟨a, l, c, zs, rfl, h1, h2, hb⟩ | ⟨rfl, -, hb⟩ := h
  · exact absurd (h2 ▸ nt_lt9 h1) (Int.not_lt.2 hV)
  · exact ⟨none, 0, 0, [], rfl, Nt.nil _, rfl, hb⟩
theorem tn_sc {w w' : World} {e : Ending} {V : Int} (h : TnR w e w' V) : ScQ w e w' V := by
  rcases h with h | ⟨h1, h2, h3⟩
  · exact .inl h
  · exact .inr ⟨h1, h2.ge, h3⟩
theorem qr_one {N T q r : Int} (hT : 0 < T) (h : N = q * T + r) (h0 : 0 ≤ r) (h1 : r < T) : q = N / T ∧ r = N % T := by
  subst h
  rw [Int.add_comm, Int.add_mul_ediv_right _ _ (by omega), Int.add_mul_emod_self_right, Int.ediv_eq_zero_of_lt h0 h1, Int.emod_eq_of_lt h0 h1]
  omega
set_option maxHeartbeats 2000000 in
set_option maxRecDepth 20000 in
theorem tens_long (a0 : Option Addr) (len0 cap0 : Nat) (z0 : List Int) (k : Int) (w : World) (h0 : Sl w a0 len0 z0) (c0 : len0 ≤ cap0) (b0 : cap0 ≤ 1048576) (e0 : a0 = none → len0 = 0 ∧ cap0 = 0) (hT : Tb w) (hu : 4096 < usedN z0) :
    Calls Tryz.prog 4 #[.slice a0 len0 cap0, .int .i64 k] w fun e w' => e = .returned (.bool true) ∧ Below w.heap.size w w' := by
  have nl := number_long a0 len0 cap0 z0 w h0 (by omega) c0 hu
  go_enter Tryz.func4, Tryz.ntmps4
  go_wp2_with fail
  go_at_call 5
  refine nl.mono ?_
  rintro e w1 ⟨rfl, hb1⟩
  clear nl
  go_wp2_with fail
  go_ret
  exact ⟨rfl, hb1.alloc hb1.size _⟩
set_option maxHeartbeats 4000000 in
set_option maxRecDepth 20000 in
theorem tens_core (a0 : Option Addr) (len0 cap0 : Nat) (z0 : List Int) (k : Int) (w : World) (h0 : Sl w a0 len0 z0) (c0 : len0 ≤ cap0) (b0 : cap0 ≤ 1048576) (e0 : a0 = none → len0 = 0 ∧ cap0 = 0) (hT : Tb w) (hu : usedN z0 ≤ 4096) (v1 v2 v3 v4 E1 E2 E3 : Int) (q1 : 0 ≤ E1 ∧ E1 ≤ 9) (q2 : 0 ≤ E2 ∧ E2 ≤ 9) (q3 : 0 ≤ E3 ∧ E3 ≤ 9)
    (R1 : Hid (∀ W, Calls Tryz.prog 14 #[.int .i64 k] W fun e w' => DoP W w' e v1 E1))
    (R2 : Hid (∀ W, Below w.heap.size w W → Calls Tryz.prog 15 #[.slice a0 len0 cap0, .int .i64 k] W fun e w' => DoP W w' e v2 E2))
    (R3 : Hid (∀ W, Below w.heap.size w W → Calls Tryz.prog 16 #[.slice a0 len0 cap0, .int .i64 k] W fun e w' => DoC W w' e v3 v4 E3))
    (P1 : Hid (∀ W, Calls Tryz.prog 17 #[.int .i64 k] W fun e w' => PrP W w' e v1 E1))
    (P2 : Hid (∀ a l c z W, Nt W a l c z → num z = num z0 → Calls Tryz.prog 18 #[.agg #[.slice a l c], .int .i64 k] W fun e w' => PrP W w' e v2 E2))
    (P3 : Hid (∀ a l c z W, Nt W a l c z → num z = num z0 → Calls Tryz.prog 19 #[.agg #[.slice a l c], .int .i64 k] W fun e w' => PrC W w' e v3 v4 E3)) :
    Calls Tryz.prog 4 #[.slice a0 len0 cap0, .int .i64 k] w fun e w' => e = .returned (.bool true) ∧ Below w.heap.size w w' := by
  have nv := number_val3 a0 len0 cap0 z0 w h0 (by omega) c0 e0 hu
  have HS0 : Hid (Sl w a0 len0 z0) := h0
  have HT : Hid (Tb w) := hT
  have HE0 : Hid (a0 = none → len0 = 0 ∧ cap0 = 0) := e0
  clear h0 hT e0 hu
  go_enter Tryz.func4, Tryz.ntmps4
  go_wp2_with fail
  go_at_call 5
  refine nv.mono ?_
  rintro e w1 ⟨a1, l1, c1, z1, rfl, hnt1, hn1, hb1⟩
  clear nv
  have HB1 : Hid (Below w.heap.size w w1) := hb1
  have HNT : Hid (Nt w1 a1 l1 c1 z1) := hnt1
  have HN1 : Hid (num z1 = num z0) := hn1
  clear hb1 hnt1 hn1
  go_wp2_with fail
  refine ent1 w1 _ _ (Q := fun W => Calls Tryz.prog _ _ W _) ?_
  intro x1 hb hs V1
  obtain ⟨q1, hq1⟩ : ∃ q, w1.heap.size = q := ⟨_, rfl⟩
  rw [hq1] at V1 ⊢
  have HV1 : Hid (Va x1 q1 24 #[.slice a1 l1 c1]) := V1
  clear hs V1 hq1
  replace HNT : Hid (Nt x1 a1 l1 c1 z1) := Nt.after hb HNT.out
  replace HB1 : Hid (Below w.heap.size w x1) := step HB1.out hb
  clear hb
  refine (R1.out x1).mono ?_
  rintro e x2 ⟨a2, m2, k2, y2, rfl, hm2, hmo2, hs2, hn2, hl2, hb⟩
  have HS2 : Hid (Sl x2 a2 m2 y2) := hs2
  have HN2 : Hid _ := hn2
  have HL2 : Hid _ := hl2
  clear hs2 hn2 hl2
  replace HNT : Hid (Nt x2 a1 l1 c1 z1) := Nt.after hb HNT.out
  replace HV1 : Hid (Va x2 q1 24 #[.slice a1 l1 c1]) := Va.after hb HV1.out
  replace HB1 : Hid (Below w.heap.size w x2) := step HB1.out hb
  clear hb
  have cHV1 := HV1.out.cell
  have lHV1 := HV1.out.lt
  have mHV1 := Nat.le_of_lt lHV1
  go_wp2_with fail
  refine (R2.out x2 HB1.out).mono ?_
  rintro e x3 ⟨a3, m3, k3, y3, rfl, hm3, hmo3, hs3, hn3, hl3, hb⟩
  have HS3 : Hid (Sl x3 a3 m3 y3) := hs3
  have HN3 : Hid _ := hn3
  have HL3 : Hid _ := hl3
  clear hs3 hn3 hl3
  replace HNT : Hid (Nt x3 a1 l1 c1 z1) := Nt.after hb HNT.out
  replace HV1 : Hid (Va x3 q1 24 #[.slice a1 l1 c1]) := Va.after hb HV1.out
  replace HS2 : Hid (Sl x3 a2 m2 y2) := HS2.out.below hb (Nat.le_refl _)
  replace HB1 : Hid (Below w.heap.size w x3) := step HB1.out hb
  clear hb
  clear cHV1 lHV1 mHV1
  have cHV1 := HV1.out.cell
  have lHV1 := HV1.out.lt
  have mHV1 := Nat.le_of_lt lHV1
  go_wp2_with fail
  refine (R3.out x3 HB1.out).mono ?_
  rintro e x4 ⟨a4, m4, k4, y4, a5, m5, k5, y5, rfl, hm4, hmo4, hs4, hn4, hl4, hm5, hmo5, hs5, hn5, hl5, hb⟩
  have HS4 : Hid (Sl x4 a4 m4 y4) := hs4
  have HN4 : Hid _ := hn4
  have HL4 : Hid _ := hl4
  clear hs4 hn4 hl4
  have HS5 : Hid (Sl x4 a5 m5 y5) := hs5
  have HN5 : Hid _ := hn5
  have HL5 : Hid _ := hl5
  clear hs5 hn5 hl5
  replace HNT : Hid (Nt x4 a1 l1 c1 z1) := Nt.after hb HNT.out
  replace HV1 : Hid (Va x4 q1 24 #[.slice a1 l1 c1]) := Va.after hb HV1.out
  replace HS2 : Hid (Sl x4 a2 m2 y2) := HS2.out.below hb (Nat.le_refl _)
  replace HS3 : Hid (Sl x4 a3 m3 y3) := HS3.out.below hb (Nat.le_refl _)
  replace HB1 : Hid (Below w.heap.size w x4) := step HB1.out hb
  clear hb
  clear cHV1 lHV1 mHV1
  have cHV1 := HV1.out.cell
  have lHV1 := HV1.out.lt
  have mHV1 := Nat.le_of_lt lHV1
  go_wp2_with fail
  refine (P1.out x4).mono ?_
  rintro e x5 ⟨a6, l6, c6, z6, rfl, hp6, hn6, hb⟩
  have HP6 : Hid (Nt x5 a6 l6 c6 z6) := hp6
  have HN6 : Hid _ := hn6
  clear hp6 hn6
  replace HNT : Hid (Nt x5 a1 l1 c1 z1) := Nt.after hb HNT.out
  replace HV1 : Hid (Va x5 q1 24 #[.slice a1 l1 c1]) := Va.after hb HV1.out
  replace HS2 : Hid (Sl x5 a2 m2 y2) := HS2.out.below hb (Nat.le_refl _)
  replace HS3 : Hid (Sl x5 a3 m3 y3) := HS3.out.below hb (Nat.le_refl _)
  replace HS4 : Hid (Sl x5 a4 m4 y4) := HS4.out.below hb (Nat.le_refl _)
  replace HS5 : Hid (Sl x5 a5 m5 y5) := HS5.out.below hb (Nat.le_refl _)
  replace HB1 : Hid (Below w.heap.size w x5) := step HB1.out hb
  clear hb
  clear cHV1 lHV1 mHV1
  have cHV1 := HV1.out.cell
  have lHV1 := HV1.out.lt
  have mHV1 := Nat.le_of_lt lHV1
  go_wp2_with fail
  refine ent1 x5 _ _ (Q := fun W => Calls Tryz.prog _ _ W _) ?_
  intro x6 hb hs V1
  obtain ⟨q6, hq1⟩ : ∃ q, x5.heap.size = q := ⟨_, rfl⟩
  rw [hq1] at V1 ⊢
  have HV6 : Hid (Va x6 q6 24 #[.slice a6 l6 c6]) := V1
  clear hs V1 hq1
  replace HNT : Hid (Nt x6 a1 l1 c1 z1) := Nt.after hb HNT.out
  replace HV1 : Hid (Va x6 q1 24 #[.slice a1 l1 c1]) := Va.after hb HV1.out
  replace HS2 : Hid (Sl x6 a2 m2 y2) := HS2.out.below hb (Nat.le_refl _)
  replace HS3 : Hid (Sl x6 a3 m3 y3) := HS3.out.below hb (Nat.le_refl _)
  replace HS4 : Hid (Sl x6 a4 m4 y4) := HS4.out.below hb (Nat.le_refl _)
  replace HS5 : Hid (Sl x6 a5 m5 y5) := HS5.out.below hb (Nat.le_refl _)
  replace HP6 : Hid (Nt x6 a6 l6 c6 z6) := Nt.after hb HP6.out
  replace HB1 : Hid (Below w.heap.size w x6) := step HB1.out hb
  clear hb
  clear cHV1 lHV1 mHV1
  have cHV1 := HV1.out.cell
  have lHV1 := HV1.out.lt
  have mHV1 := Nat.le_of_lt lHV1
  refine (P2.out a1 l1 c1 z1 x6 HNT.out HN1.out).mono ?_
  rintro e x7 ⟨a7, l7, c7, z7, rfl, hp7, hn7, hb⟩
  have HP7 : Hid (Nt x7 a7 l7 c7 z7) := hp7
  have HN7 : Hid _ := hn7
  clear hp7 hn7
  replace HNT : Hid (Nt x7 a1 l1 c1 z1) := Nt.after hb HNT.out
  replace HV1 : Hid (Va x7 q1 24 #[.slice a1 l1 c1]) := Va.after hb HV1.out
  replace HS2 : Hid (Sl x7 a2 m2 y2) := HS2.out.below hb (Nat.le_refl _)
  replace HS3 : Hid (Sl x7 a3 m3 y3) := HS3.out.below hb (Nat.le_refl _)
  replace HS4 : Hid (Sl x7 a4 m4 y4) := HS4.out.below hb (Nat.le_refl _)
  replace HS5 : Hid (Sl x7 a5 m5 y5) := HS5.out.below hb (Nat.le_refl _)
  replace HP6 : Hid (Nt x7 a6 l6 c6 z6) := Nt.after hb HP6.out
  replace HV6 : Hid (Va x7 q6 24 #[.slice a6 l6 c6]) := Va.after hb HV6.out
  replace HB1 : Hid (Below w.heap.size w x7) := step HB1.out hb
  clear hb
  clear cHV1 lHV1 mHV1
  have cHV1 := HV1.out.cell
  have lHV1 := HV1.out.lt
  have mHV1 := Nat.le_of_lt lHV1
  have cHV6 := HV6.out.cell
  have lHV6 := HV6.out.lt
  have mHV6 := Nat.le_of_lt lHV6
  go_wp2_with fail
  refine ent1 x7 _ _ (Q := fun W => Calls Tryz.prog _ _ W _) ?_
  intro x8 hb hs V1
  obtain ⟨q7, hq1⟩ : ∃ q, x7.heap.size = q := ⟨_, rfl⟩
  rw [hq1] at V1 ⊢
  have HV7 : Hid (Va x8 q7 24 #[.slice a7 l7 c7]) := V1
  clear hs V1 hq1
  replace HNT : Hid (Nt x8 a1 l1 c1 z1) := Nt.after hb HNT.out
  replace HV1 : Hid (Va x8 q1 24 #[.slice a1 l1 c1]) := Va.after hb HV1.out
  replace HS2 : Hid (Sl x8 a2 m2 y2) := HS2.out.below hb (Nat.le_refl _)
  replace HS3 : Hid (Sl x8 a3 m3 y3) := HS3.out.below hb (Nat.le_refl _)
  replace HS4 : Hid (Sl x8 a4 m4 y4) := HS4.out.below hb (Nat.le_refl _)
  replace HS5 : Hid (Sl x8 a5 m5 y5) := HS5.out.below hb (Nat.le_refl _)
  replace HP6 : Hid (Nt x8 a6 l6 c6 z6) := Nt.after hb HP6.out
  replace HV6 : Hid (Va x8 q6 24 #[.slice a6 l6 c6]) := Va.after hb HV6.out
  replace HP7 : Hid (Nt x8 a7 l7 c7 z7) := Nt.after hb HP7.out
  replace HB1 : Hid (Below w.heap.size w x8) := step HB1.out hb
  clear hb
  clear cHV1 lHV1 mHV1
  have cHV1 := HV1.out.cell
  have lHV1 := HV1.out.lt
  have mHV1 := Nat.le_of_lt lHV1
  clear cHV6 lHV6 mHV6
  have cHV6 := HV6.out.cell
  have lHV6 := HV6.out.lt
  have mHV6 := Nat.le_of_lt lHV6
  refine (P3.out a1 l1 c1 z1 x8 HNT.out HN1.out).mono ?_
  rintro e x9 ⟨a8, l8, c8, z8, a9, l9, c9, z9, rfl, hp8, hn8, hp9, hn9, hb⟩
  have HP8 : Hid (Nt x9 a8 l8 c8 z8) := hp8
  have HN8 : Hid _ := hn8
  have HP9 : Hid (Nt x9 a9 l9 c9 z9) := hp9
  have HN9 : Hid _ := hn9
  clear hp8 hn8 hp9 hn9
  replace HNT : Hid (Nt x9 a1 l1 c1 z1) := Nt.after hb HNT.out
  replace HV1 : Hid (Va x9 q1 24 #[.slice a1 l1 c1]) := Va.after hb HV1.out
  replace HS2 : Hid (Sl x9 a2 m2 y2) := HS2.out.below hb (Nat.le_refl _)
  replace HS3 : Hid (Sl x9 a3 m3 y3) := HS3.out.below hb (Nat.le_refl _)
  replace HS4 : Hid (Sl x9 a4 m4 y4) := HS4.out.below hb (Nat.le_refl _)
  replace HS5 : Hid (Sl x9 a5 m5 y5) := HS5.out.below hb (Nat.le_refl _)
  replace HP6 : Hid (Nt x9 a6 l6 c6 z6) := Nt.after hb HP6.out
  replace HV6 : Hid (Va x9 q6 24 #[.slice a6 l6 c6]) := Va.after hb HV6.out
  replace HP7 : Hid (Nt x9 a7 l7 c7 z7) := Nt.after hb HP7.out
  replace HV7 : Hid (Va x9 q7 24 #[.slice a7 l7 c7]) := Va.after hb HV7.out
  replace HB1 : Hid (Below w.heap.size w x9) := step HB1.out hb
  clear hb
  clear cHV1 lHV1 mHV1
  have cHV1 := HV1.out.cell
  have lHV1 := HV1.out.lt
  have mHV1 := Nat.le_of_lt lHV1
  clear cHV6 lHV6 mHV6
  have cHV6 := HV6.out.cell
  have lHV6 := HV6.out.lt
  have mHV6 := Nat.le_of_lt lHV6
  have cHV7 := HV7.out.cell
  have lHV7 := HV7.out.lt
  have mHV7 := Nat.le_of_lt lHV7
  go_wp2_with fail
  refine ent2 x9 _ _ _ _ (Q := fun W => Calls Tryz.prog _ _ W _) ?_
  intro x10 hb hs V8 V9
  obtain ⟨q8, hq1⟩ : ∃ q, x9.heap.size = q := ⟨_, rfl⟩
  rw [hq1] at V8 V9 ⊢
  have HV8 : Hid (Va x10 q8 24 #[.slice a8 l8 c8]) := V8
  have HV9 : Hid (Va x10 (q8 + 1) 24 #[.slice a9 l9 c9]) := V9
  clear hs V8 V9 hq1
  replace HNT : Hid (Nt x10 a1 l1 c1 z1) := Nt.after hb HNT.out
  replace HV1 : Hid (Va x10 q1 24 #[.slice a1 l1 c1]) := Va.after hb HV1.out
  replace HS2 : Hid (Sl x10 a2 m2 y2) := HS2.out.below hb (Nat.le_refl _)
  replace HS3 : Hid (Sl x10 a3 m3 y3) := HS3.out.below hb (Nat.le_refl _)
  replace HS4 : Hid (Sl x10 a4 m4 y4) := HS4.out.below hb (Nat.le_refl _)
  replace HS5 : Hid (Sl x10 a5 m5 y5) := HS5.out.below hb (Nat.le_refl _)
  replace HP6 : Hid (Nt x10 a6 l6 c6 z6) := Nt.after hb HP6.out
  replace HV6 : Hid (Va x10 q6 24 #[.slice a6 l6 c6]) := Va.after hb HV6.out
  replace HP7 : Hid (Nt x10 a7 l7 c7 z7) := Nt.after hb HP7.out
  replace HV7 : Hid (Va x10 q7 24 #[.slice a7 l7 c7]) := Va.after hb HV7.out
  replace HP8 : Hid (Nt x10 a8 l8 c8 z8) := Nt.after hb HP8.out
  replace HP9 : Hid (Nt x10 a9 l9 c9 z9) := Nt.after hb HP9.out
  replace HB1 : Hid (Below w.heap.size w x10) := step HB1.out hb
  clear hb
  clear cHV1 lHV1 mHV1
  have cHV1 := HV1.out.cell
  have lHV1 := HV1.out.lt
  have mHV1 := Nat.le_of_lt lHV1
  clear cHV6 lHV6 mHV6
  have cHV6 := HV6.out.cell
  have lHV6 := HV6.out.lt
  have mHV6 := Nat.le_of_lt lHV6
  clear cHV7 lHV7 mHV7
  have cHV7 := HV7.out.cell
  have lHV7 := HV7.out.lt
  have mHV7 := Nat.le_of_lt lHV7
  refine (isg3 a6 a2 l6 c6 m2 k2 z6 y2 x10 HP6.out HS2.out (by rw [HN2.out, HN6.out]) hm2 HL2.out (by omega)).mono ?_
  rintro e x11 ⟨rfl, hb⟩
  replace HNT : Hid (Nt x11 a1 l1 c1 z1) := Nt.after hb HNT.out
  replace HV1 : Hid (Va x11 q1 24 #[.slice a1 l1 c1]) := Va.after hb HV1.out
  replace HS2 : Hid (Sl x11 a2 m2 y2) := HS2.out.below hb (Nat.le_refl _)
  replace HS3 : Hid (Sl x11 a3 m3 y3) := HS3.out.below hb (Nat.le_refl _)
  replace HS4 : Hid (Sl x11 a4 m4 y4) := HS4.out.below hb (Nat.le_refl _)
  replace HS5 : Hid (Sl x11 a5 m5 y5) := HS5.out.below hb (Nat.le_refl _)
  replace HP6 : Hid (Nt x11 a6 l6 c6 z6) := Nt.after hb HP6.out
  replace HV6 : Hid (Va x11 q6 24 #[.slice a6 l6 c6]) := Va.after hb HV6.out
  replace HP7 : Hid (Nt x11 a7 l7 c7 z7) := Nt.after hb HP7.out
  replace HV7 : Hid (Va x11 q7 24 #[.slice a7 l7 c7]) := Va.after hb HV7.out
  replace HP8 : Hid (Nt x11 a8 l8 c8 z8) := Nt.after hb HP8.out
  replace HP9 : Hid (Nt x11 a9 l9 c9 z9) := Nt.after hb HP9.out
  replace HV8 : Hid (Va x11 q8 24 #[.slice a8 l8 c8]) := Va.after hb HV8.out
  replace HV9 : Hid (Va x11 (q8 + 1) 24 #[.slice a9 l9 c9]) := Va.after hb HV9.out
  replace HB1 : Hid (Below w.heap.size w x11) := step HB1.out hb
  clear hb
  clear cHV1 lHV1 mHV1
  have cHV1 := HV1.out.cell
  have lHV1 := HV1.out.lt
  have mHV1 := Nat.le_of_lt lHV1
  clear cHV6 lHV6 mHV6
  have cHV6 := HV6.out.cell
  have lHV6 := HV6.out.lt
  have mHV6 := Nat.le_of_lt lHV6
  clear cHV7 lHV7 mHV7
  have cHV7 := HV7.out.cell
  have lHV7 := HV7.out.lt
  have mHV7 := Nat.le_of_lt lHV7
  have cHV8 := HV8.out.cell
  have lHV8 := HV8.out.lt
  have mHV8 := Nat.le_of_lt lHV8
  have cHV9 := HV9.out.cell
  have lHV9 := HV9.out.lt
  have mHV9 := Nat.le_of_lt lHV9
  go_wp2_with fail
  refine (isg3 a7 a3 l7 c7 m3 k3 z7 y3 x11 HP7.out HS3.out (by rw [HN3.out, HN7.out]) hm3 HL3.out (by omega)).mono ?_
  rintro e x12 ⟨rfl, hb⟩
  replace HNT : Hid (Nt x12 a1 l1 c1 z1) := Nt.after hb HNT.out
  replace HV1 : Hid (Va x12 q1 24 #[.slice a1 l1 c1]) := Va.after hb HV1.out
  replace HS2 : Hid (Sl x12 a2 m2 y2) := HS2.out.below hb (Nat.le_refl _)
  replace HS3 : Hid (Sl x12 a3 m3 y3) := HS3.out.below hb (Nat.le_refl _)
  replace HS4 : Hid (Sl x12 a4 m4 y4) := HS4.out.below hb (Nat.le_refl _)
  replace HS5 : Hid (Sl x12 a5 m5 y5) := HS5.out.below hb (Nat.le_refl _)
  replace HP6 : Hid (Nt x12 a6 l6 c6 z6) := Nt.after hb HP6.out
  replace HV6 : Hid (Va x12 q6 24 #[.slice a6 l6 c6]) := Va.after hb HV6.out
  replace HP7 : Hid (Nt x12 a7 l7 c7 z7) := Nt.after hb HP7.out
  replace HV7 : Hid (Va x12 q7 24 #[.slice a7 l7 c7]) := Va.after hb HV7.out
  replace HP8 : Hid (Nt x12 a8 l8 c8 z8) := Nt.after hb HP8.out
  replace HP9 : Hid (Nt x12 a9 l9 c9 z9) := Nt.after hb HP9.out
  replace HV8 : Hid (Va x12 q8 24 #[.slice a8 l8 c8]) := Va.after hb HV8.out
  replace HV9 : Hid (Va x12 (q8 + 1) 24 #[.slice a9 l9 c9]) := Va.after hb HV9.out
  replace HB1 : Hid (Below w.heap.size w x12) := step HB1.out hb
  clear hb
  clear cHV1 lHV1 mHV1
  have cHV1 := HV1.out.cell
  have lHV1 := HV1.out.lt
  have mHV1 := Nat.le_of_lt lHV1
  clear cHV6 lHV6 mHV6
  have cHV6 := HV6.out.cell
  have lHV6 := HV6.out.lt
  have mHV6 := Nat.le_of_lt lHV6
  clear cHV7 lHV7 mHV7
  have cHV7 := HV7.out.cell
  have lHV7 := HV7.out.lt
  have mHV7 := Nat.le_of_lt lHV7
  clear cHV8 lHV8 mHV8
  have cHV8 := HV8.out.cell
  have lHV8 := HV8.out.lt
  have mHV8 := Nat.le_of_lt lHV8
  clear cHV9 lHV9 mHV9
  have cHV9 := HV9.out.cell
  have lHV9 := HV9.out.lt
  have mHV9 := Nat.le_of_lt lHV9
  go_wp2_with fail
  refine (isg3 a8 a4 l8 c8 m4 k4 z8 y4 x12 HP8.out HS4.out (by rw [HN4.out, HN8.out]) hm4 HL4.out (by omega)).mono ?_
  rintro e x13 ⟨rfl, hb⟩
  replace HNT : Hid (Nt x13 a1 l1 c1 z1) := Nt.after hb HNT.out
  replace HV1 : Hid (Va x13 q1 24 #[.slice a1 l1 c1]) := Va.after hb HV1.out
  replace HS2 : Hid (Sl x13 a2 m2 y2) := HS2.out.below hb (Nat.le_refl _)
  replace HS3 : Hid (Sl x13 a3 m3 y3) := HS3.out.below hb (Nat.le_refl _)
  replace HS4 : Hid (Sl x13 a4 m4 y4) := HS4.out.below hb (Nat.le_refl _)
  replace HS5 : Hid (Sl x13 a5 m5 y5) := HS5.out.below hb (Nat.le_refl _)
  replace HP6 : Hid (Nt x13 a6 l6 c6 z6) := Nt.after hb HP6.out
  replace HV6 : Hid (Va x13 q6 24 #[.slice a6 l6 c6]) := Va.after hb HV6.out
  replace HP7 : Hid (Nt x13 a7 l7 c7 z7) := Nt.after hb HP7.out
  replace HV7 : Hid (Va x13 q7 24 #[.slice a7 l7 c7]) := Va.after hb HV7.out
  replace HP8 : Hid (Nt x13 a8 l8 c8 z8) := Nt.after hb HP8.out
  replace HP9 : Hid (Nt x13 a9 l9 c9 z9) := Nt.after hb HP9.out
  replace HV8 : Hid (Va x13 q8 24 #[.slice a8 l8 c8]) := Va.after hb HV8.out
  replace HV9 : Hid (Va x13 (q8 + 1) 24 #[.slice a9 l9 c9]) := Va.after hb HV9.out
  replace HB1 : Hid (Below w.heap.size w x13) := step HB1.out hb
  clear hb
  clear cHV1 lHV1 mHV1
  have cHV1 := HV1.out.cell
  have lHV1 := HV1.out.lt
  have mHV1 := Nat.le_of_lt lHV1
  clear cHV6 lHV6 mHV6
  have cHV6 := HV6.out.cell
  have lHV6 := HV6.out.lt
  have mHV6 := Nat.le_of_lt lHV6
  clear cHV7 lHV7 mHV7
  have cHV7 := HV7.out.cell
  have lHV7 := HV7.out.lt
  have mHV7 := Nat.le_of_lt lHV7
  clear cHV8 lHV8 mHV8
  have cHV8 := HV8.out.cell
  have lHV8 := HV8.out.lt
  have mHV8 := Nat.le_of_lt lHV8
  clear cHV9 lHV9 mHV9
  have cHV9 := HV9.out.cell
  have lHV9 := HV9.out.lt
  have mHV9 := Nat.le_of_lt lHV9
  go_wp2_with fail
  refine (isg3 a9 a5 l9 c9 m5 k5 z9 y5 x13 HP9.out HS5.out (by rw [HN5.out, HN9.out]) hm5 HL5.out (by omega)).mono ?_
  rintro e x14 ⟨rfl, hb⟩
  replace HNT : Hid (Nt x14 a1 l1 c1 z1) := Nt.after hb HNT.out
  replace HV1 : Hid (Va x14 q1 24 #[.slice a1 l1 c1]) := Va.after hb HV1.out
  replace HS2 : Hid (Sl x14 a2 m2 y2) := HS2.out.below hb (Nat.le_refl _)
  replace HS3 : Hid (Sl x14 a3 m3 y3) := HS3.out.below hb (Nat.le_refl _)
  replace HS4 : Hid (Sl x14 a4 m4 y4) := HS4.out.below hb (Nat.le_refl _)
  replace HS5 : Hid (Sl x14 a5 m5 y5) := HS5.out.below hb (Nat.le_refl _)
  replace HP6 : Hid (Nt x14 a6 l6 c6 z6) := Nt.after hb HP6.out
  replace HV6 : Hid (Va x14 q6 24 #[.slice a6 l6 c6]) := Va.after hb HV6.out
  replace HP7 : Hid (Nt x14 a7 l7 c7 z7) := Nt.after hb HP7.out
  replace HV7 : Hid (Va x14 q7 24 #[.slice a7 l7 c7]) := Va.after hb HV7.out
  replace HP8 : Hid (Nt x14 a8 l8 c8 z8) := Nt.after hb HP8.out
  replace HP9 : Hid (Nt x14 a9 l9 c9 z9) := Nt.after hb HP9.out
  replace HV8 : Hid (Va x14 q8 24 #[.slice a8 l8 c8]) := Va.after hb HV8.out
  replace HV9 : Hid (Va x14 (q8 + 1) 24 #[.slice a9 l9 c9]) := Va.after hb HV9.out
  replace HB1 : Hid (Below w.heap.size w x14) := step HB1.out hb
  clear hb
  clear cHV1 lHV1 mHV1
  have cHV1 := HV1.out.cell
  have lHV1 := HV1.out.lt
  have mHV1 := Nat.le_of_lt lHV1
  clear cHV6 lHV6 mHV6
  have cHV6 := HV6.out.cell
  have lHV6 := HV6.out.lt
  have mHV6 := Nat.le_of_lt lHV6
  clear cHV7 lHV7 mHV7
  have cHV7 := HV7.out.cell
  have lHV7 := HV7.out.lt
  have mHV7 := Nat.le_of_lt lHV7
  clear cHV8 lHV8 mHV8
  have cHV8 := HV8.out.cell
  have lHV8 := HV8.out.lt
  have mHV8 := Nat.le_of_lt lHV8
  clear cHV9 lHV9 mHV9
  have cHV9 := HV9.out.cell
  have lHV9 := HV9.out.lt
  have mHV9 := Nat.le_of_lt lHV9
  go_wp2_with fail
  refine (isg3 a1 a0 l1 c1 len0 cap0 z1 z0 x14 HNT.out (HS0.out.below HB1.out (Nat.le_refl _)) HN1.out.symm c0 HE0.out (by omega)).mono ?_
  rintro e x15 ⟨rfl, hb⟩
  replace HNT : Hid (Nt x15 a1 l1 c1 z1) := Nt.after hb HNT.out
  replace HV1 : Hid (Va x15 q1 24 #[.slice a1 l1 c1]) := Va.after hb HV1.out
  replace HS2 : Hid (Sl x15 a2 m2 y2) := HS2.out.below hb (Nat.le_refl _)
  replace HS3 : Hid (Sl x15 a3 m3 y3) := HS3.out.below hb (Nat.le_refl _)
  replace HS4 : Hid (Sl x15 a4 m4 y4) := HS4.out.below hb (Nat.le_refl _)
  replace HS5 : Hid (Sl x15 a5 m5 y5) := HS5.out.below hb (Nat.le_refl _)
  replace HP6 : Hid (Nt x15 a6 l6 c6 z6) := Nt.after hb HP6.out
  replace HV6 : Hid (Va x15 q6 24 #[.slice a6 l6 c6]) := Va.after hb HV6.out
  replace HP7 : Hid (Nt x15 a7 l7 c7 z7) := Nt.after hb HP7.out
  replace HV7 : Hid (Va x15 q7 24 #[.slice a7 l7 c7]) := Va.after hb HV7.out
  replace HP8 : Hid (Nt x15 a8 l8 c8 z8) := Nt.after hb HP8.out
  replace HP9 : Hid (Nt x15 a9 l9 c9 z9) := Nt.after hb HP9.out
  replace HV8 : Hid (Va x15 q8 24 #[.slice a8 l8 c8]) := Va.after hb HV8.out
  replace HV9 : Hid (Va x15 (q8 + 1) 24 #[.slice a9 l9 c9]) := Va.after hb HV9.out
  replace HB1 : Hid (Below w.heap.size w x15) := step HB1.out hb
  clear hb
  clear cHV1 lHV1 mHV1
  have cHV1 := HV1.out.cell
  have lHV1 := HV1.out.lt
  have mHV1 := Nat.le_of_lt lHV1
  clear cHV6 lHV6 mHV6
  have cHV6 := HV6.out.cell
  have lHV6 := HV6.out.lt
  have mHV6 := Nat.le_of_lt lHV6
  clear cHV7 lHV7 mHV7
  have cHV7 := HV7.out.cell
  have lHV7 := HV7.out.lt
  have mHV7 := Nat.le_of_lt lHV7
  clear cHV8 lHV8 mHV8
  have cHV8 := HV8.out.cell
  have lHV8 := HV8.out.lt
  have mHV8 := Nat.le_of_lt lHV8
  clear cHV9 lHV9 mHV9
  have cHV9 := HV9.out.cell
  have lHV9 := HV9.out.lt
  have mHV9 := Nat.le_of_lt lHV9
  go_wp2_with fail
  refine (awake3 _ (HT.out.to HB1.out)).mono ?_
  rintro e x16 ⟨rfl, hb⟩
  replace HNT : Hid (Nt x16 a1 l1 c1 z1) := Nt.after hb HNT.out
  replace HV1 : Hid (Va x16 q1 24 #[.slice a1 l1 c1]) := Va.after hb HV1.out
  replace HS2 : Hid (Sl x16 a2 m2 y2) := HS2.out.below hb (Nat.le_refl _)
  replace HS3 : Hid (Sl x16 a3 m3 y3) := HS3.out.below hb (Nat.le_refl _)
  replace HS4 : Hid (Sl x16 a4 m4 y4) := HS4.out.below hb (Nat.le_refl _)
  replace HS5 : Hid (Sl x16 a5 m5 y5) := HS5.out.below hb (Nat.le_refl _)
  replace HP6 : Hid (Nt x16 a6 l6 c6 z6) := Nt.after hb HP6.out
  replace HV6 : Hid (Va x16 q6 24 #[.slice a6 l6 c6]) := Va.after hb HV6.out
  replace HP7 : Hid (Nt x16 a7 l7 c7 z7) := Nt.after hb HP7.out
  replace HV7 : Hid (Va x16 q7 24 #[.slice a7 l7 c7]) := Va.after hb HV7.out
  replace HP8 : Hid (Nt x16 a8 l8 c8 z8) := Nt.after hb HP8.out
  replace HP9 : Hid (Nt x16 a9 l9 c9 z9) := Nt.after hb HP9.out
  replace HV8 : Hid (Va x16 q8 24 #[.slice a8 l8 c8]) := Va.after hb HV8.out
  replace HV9 : Hid (Va x16 (q8 + 1) 24 #[.slice a9 l9 c9]) := Va.after hb HV9.out
  replace HB1 : Hid (Below w.heap.size w x16) := step HB1.out hb
  clear hb
  clear cHV1 lHV1 mHV1
  have cHV1 := HV1.out.cell
  have lHV1 := HV1.out.lt
  have mHV1 := Nat.le_of_lt lHV1
  clear cHV6 lHV6 mHV6
  have cHV6 := HV6.out.cell
  have lHV6 := HV6.out.lt
  have mHV6 := Nat.le_of_lt lHV6
  clear cHV7 lHV7 mHV7
  have cHV7 := HV7.out.cell
  have lHV7 := HV7.out.lt
  have mHV7 := Nat.le_of_lt lHV7
  clear cHV8 lHV8 mHV8
  have cHV8 := HV8.out.cell
  have lHV8 := HV8.out.lt
  have mHV8 := Nat.le_of_lt lHV8
  clear cHV9 lHV9 mHV9
  have cHV9 := HV9.out.cell
  have lHV9 := HV9.out.lt
  have mHV9 := Nat.le_of_lt lHV9
  go_wp2_with fail
  go_ret
  exact ⟨rfl, HB1.out⟩
set_option maxRecDepth 20000 in
theorem ntens_walk (a0 : Option Addr) (len0 cap0 : Nat) (z0 : List Int) (k : Int) (w : World) (h0 : Sl w a0 len0 z0) (c0 : len0 ≤ cap0) (b0 : cap0 ≤ 1048576) (e0 : a0 = none → len0 = 0 ∧ cap0 = 0) (hT : Tb w) (hk : k ≤ 9223372036854775807) :
    Calls Tryz.prog 4 #[.slice a0 len0 cap0, .int .i64 k] w fun e w' => e = .returned (.bool true) ∧ Below w.heap.size w w' := by
  by_cases hu : usedN z0 ≤ 4096
  · have hlt : num z0 < pw 4096 := Int.lt_of_lt_of_le (num_lt_used h0.2.1) (pw_mono hu)
    have hN0 := num_nonneg h0.2.1
    by_cases hn : k < 0
    · have nil2 : ∀ W w' e, (e = .returned (.tuple #[.slice none 0 0, .int .i64 2]) ∧ Below W.heap.size W w') → DoP W w' e 0 2 := by
        rintro W w' e ⟨rfl, hb⟩
        exact ⟨none, 0, 0, [], rfl, Nat.le_refl _, by omega, nil_sl _, rfl, fun _ => ⟨rfl, rfl⟩, hb⟩
      refine tens_core a0 len0 cap0 z0 k w h0 c0 b0 e0 hT hu 0 0 0 0 2 2 2 (by omega) (by omega) (by omega) (fun W => (rten3_neg k hn W).mono fun e w' h => nil2 W w' e h) (fun W hW => (rscale3_neg a0 len0 cap0 k hn W).mono fun e w' h => nil2 W w' e ⟨h.1, h.2 ▸ Below.refl _ _⟩) (fun W hW => (rcut3_neg a0 len0 cap0 k hn W).mono ?_) (fun W => (ten_neg k hn W).mono ?_) (fun a l c z W hz he => (scale_neg a l c k hn W).mono ?_) (fun a l c z W hz he => (ncut_neg a l c k hn W).mono ?_)
      · rintro e w' ⟨rfl, rfl⟩
        exact ⟨none, 0, 0, [], none, 0, 0, [], rfl, Nat.le_refl _, by omega, nil_sl _, rfl, fun _ => ⟨rfl, rfl⟩, Nat.le_refl _, by omega, nil_sl _, rfl, fun _ => ⟨rfl, rfl⟩, Below.refl _ _⟩
      · rintro e w' ⟨rfl, hb⟩
        exact ⟨none, 0, 0, [], rfl, Nt.nil _, rfl, hb⟩
      · rintro e w' ⟨rfl, hb⟩
        exact ⟨none, 0, 0, [], rfl, Nt.nil _, rfl, hb⟩
      · rintro e w' ⟨rfl, hb⟩
        exact ⟨none, 0, 0, [], none, 0, 0, [], rfl, Nt.nil _, rfl, Nt.nil _, rfl, hb⟩
    · obtain ⟨K, rfl⟩ := Int.eq_ofNat_of_zero_le (Int.not_lt.1 hn)
      have hK : K ≤ 9223372036854775807 := by omega
      have hT0 : (0 : Int) < 10 ^ K := Int.pow_pos (by omega)
      obtain ⟨v1, E1, q1, r1, p1⟩ : ∃ v E : Int, (0 ≤ E ∧ E ≤ 9) ∧ (∀ W w' e, ScR W w' e (10 ^ K) → DoP W w' e v E) ∧ (∀ W w' e, ScQ W e w' (10 ^ K) → PrP W w' e v E) := by
        rcases Int.lt_or_le (10 ^ K) (pw 4096) with h | h
        · exact ⟨_, 0, by omega, fun _ _ _ g => do_of g h, fun _ _ _ g => pr_of g h⟩
        · exact ⟨_, 3, by omega, fun _ _ _ g => do_long g h, fun _ _ _ g => pr_long g h⟩
      obtain ⟨v2, E2, q2, r2, p2⟩ : ∃ v E : Int, (0 ≤ E ∧ E ≤ 9) ∧ (∀ W w' e, ScR W w' e (num z0 * 10 ^ K) → DoP W w' e v E) ∧ (∀ W w' e, ScQ W e w' (num z0 * 10 ^ K) → PrP W w' e v E) := by
        rcases Int.lt_or_le (num z0 * 10 ^ K) (pw 4096) with h | h
        · exact ⟨_, 0, by omega, fun _ _ _ g => do_of g h, fun _ _ _ g => pr_of g h⟩
        · exact ⟨_, 3, by omega, fun _ _ _ g => do_long g h, fun _ _ _ g => pr_long g h⟩
      refine tens_core a0 len0 cap0 z0 K w h0 c0 b0 e0 hT hu v1 v2 (num z0 / 10 ^ K) (num z0 % 10 ^ K) E1 E2 0 q1 q2 (by omega) (fun W => (rten3 K hK W).mono fun e w' h => r1 W w' e h) (fun W hW => (rscale3 a0 len0 cap0 z0 K W (h0.below hW (Nat.le_refl _)) (by omega) hK hu).mono fun e w' h => r2 W w' e h) (fun W hW => (rcut3 a0 len0 cap0 z0 K W (h0.below hW (Nat.le_refl _)) (by omega) hK hu (hM_of (by omega) hlt)).mono ?_) (fun W => (ten_any K hK W).mono fun e w' h => p1 W w' e (tn_sc h)) (fun a l c z W hz he => (scale_any a l c z K hK W hz).mono fun e w' h => p2 W w' e (he ▸ h)) (fun a l c z W hz he => (ncut_any a l c z K hK W hz).mono ?_)
      · rintro e w' ⟨a, m, c, ys, a2, m2, c2, ys2, rfl, g1, g2, g3, g4, g5, g6, g7, g8, g9, g10, g11, hb⟩
        obtain ⟨i1, i2⟩ := qr_one hT0 g9 g10 g11
        exact ⟨a, m, c, ys, a2, m2, c2, ys2, rfl, g1, g2, g3, i1, g4, g5, g6, g7, i2, g8, hb⟩
      · rintro e w' ⟨a1, l1, c1, qs, a2, l2, c2, rs, rfl, g1, g2, g3, hb⟩
        obtain ⟨g4, g5⟩ := g3.out
        rw [he] at g4
        obtain ⟨i1, i2⟩ := qr_one hT0 g4 g2.nonneg g5
        exact ⟨a1, l1, c1, qs, a2, l2, c2, rs, rfl, g1, i1, g2, i2, hb⟩
  · exact tens_long a0 len0 cap0 z0 k w h0 c0 b0 e0 hT (by omega)
end Go.Proofs.YtclefkmhchfkkaaGreatDoor
namespace Go.Proofs.YtclefkmhchfkkaaGreatDoor
set_option linter.unusedVariables false
theorem numeralTens_walk0 (a0 : Option Addr) (len0 cap0 : Nat) (z0 : List Int) (a1 : Int) (W : World) (s0 : Sl W a0 len0 z0) (c0 : len0 ≤ cap0) (b0 : cap0 ≤ 1048576) (e0 : a0 = none → len0 = 0 ∧ cap0 = 0) (w1 : (Lit.int .i64 a1).wf = true) (hP : Pt W) (hZ : Tz W) :
    Calls Tryz.prog 4 #[.slice a0 len0 cap0, .int .i64 a1] W fun e W' => e = .returned (.bool true) ∧ Go.RowKit.Below W.heap.size W W' :=
  ntens_walk a0 len0 cap0 z0 a1 W s0 c0 b0 e0 ⟨hP, hZ⟩ (by have := w1; simp [Lit.wf] at this; omega)
end Go.Proofs.YtclefkmhchfkkaaGreatDoor
namespace Go.Proofs.YtclefkmhchfkkaaGreatDoor.numeralTens
open Go.ChangeShapes Go.WideShapes Go.ChangeAt Go.RowKit
set_option linter.unusedVariables false

theorem own : ownKnob Tryz.prog.godebug = none := by kernel_rfl
theorem laidOut : laidOutB Tryz.prog = true := by kernel_rfl
theorem bytes8 : Tryz.prog.bytesOf 55 = 8 := by kernel_rfl

set_option maxRecDepth 100000 in
theorem contract (H : Type) (enc : TypeId × Value → H) (W : World) (base : Nat) (args : Array Value) (ds gs : List (DataW H)) (before : List MemPlace)
    (hval : ∀ (j : Nat) t v, Tryz.f4.params[j]? = some t → args[j]? = some v → Value.okWide Tryz.prog W .any base t v)
    (hW : DataW.Whole enc Tryz.prog Tryz.f4.params.toList Rows.numeralTensSpec.vars false W args.toList ds gs before) (hk : Rows.uptoSmall H (ds ++ gs) = true) (hL0 : laidMetH Tryz.prog Rows.numeralTensUptoRow.laid W) :
    Calls Tryz.prog 4 args W fun e W' => ∃ v, e = .returned v ∧ Rows.numeralTensSpec.post enc Tryz.prog Tryz.f4 false true false false W args v W' := by
  rw [MakeChecks.laidMetH_plain _ _ _ (by kernel_rfl)] at hL0
  have tb0 := by first | exact ptOf hL0 | exact ptOf hL0.tail | exact ptOf hL0.tail.tail | exact ptOf hL0.tail.tail.tail | exact ptOf hL0.tail.tail.tail.tail | exact ptOf hL0.tail.tail.tail.tail.tail | exact ptOf hL0.tail.tail.tail.tail.tail.tail | exact ptOf hL0.tail.tail.tail.tail.tail.tail.tail
  have tb1 := by first | exact tzOf hL0 | exact tzOf hL0.tail | exact tzOf hL0.tail.tail | exact tzOf hL0.tail.tail.tail | exact tzOf hL0.tail.tail.tail.tail | exact tzOf hL0.tail.tail.tail.tail.tail | exact tzOf hL0.tail.tail.tail.tail.tail.tail | exact tzOf hL0.tail.tail.tail.tail.tail.tail.tail
  have hW' := hW
  obtain ⟨p, q, hA0, hV, rfl, hfz, hnd⟩ := hW
  have hA : DataW.TrodAll enc Tryz.prog W 0 (fun _ => true) true Tryz.f4.params.toList args.toList ds p := hA0
  rw [Tryz.params4] at hA hval
  obtain ⟨v0, vs0, d0, ds0, p0, q0, hargs, rfl, rfl, h0, r0⟩ := trodAll_cons hA
  obtain ⟨v1, vs1, d1, ds1, p1, q1, rfl, rfl, rfl, h1, r1⟩ := trodAll_cons r0
  obtain ⟨rfl, rfl, rfl⟩ := trodAll_nil r1
  obtain rfl : args = #[v0, v1] := by cases args; simp_all
  obtain ⟨rfl, rfl⟩ := trodVars_none hV
  obtain ⟨a0, len0, cap0, rfl⟩ := okWide_slice Tryz.underlying22 (hval 0 22 v0 rfl rfl)
  have k0 := h0
  have lt0 : ∀ x ∈ p0, x.block < W.heap.size := by obtain ⟨m, hm⟩ := k0; exact DataW.trod_lt m _ _ _ hm
  obtain ⟨z0, s0, c0, b0, e0⟩ : ∃ zs, Sl W a0 len0 zs ∧ len0 ≤ cap0 ∧ cap0 ≤ 1048576 ∧ (a0 = Option.none → len0 = 0 ∧ cap0 = 0) := by
    obtain ⟨fuel, hf⟩ := h0
    rcases open_ints Tryz.underlying22 Tryz.underlying55 (by kernel_rfl) hf with ⟨hcs, _⟩ | ⟨x, l, c, zs, hcs, _, hl, hm, hz, hx, hcell, hwz⟩
    · simp [Value.cells] at hcs
      obtain ⟨rfl, rfl, rfl⟩ := hcs
      exact ⟨[], ⟨rfl, Limbs.nil, fun h => absurd h (by decide)⟩, Nat.le_refl _, by decide, fun _ => ⟨rfl, rfl⟩⟩
    · simp [Value.cells] at hcs
      obtain ⟨rfl, rfl, rfl⟩ := hcs
      have hz' : zs.length = cap0 := by simpa using hz
      have hd : d0 = DataW.slice (lits .u64 (zs.take len0)) (lits .u64 (zs.drop len0)) := congrArg Prod.fst hx
      have hb : Rows.uptoBulkAll [d0, d1] ≤ 1048576 := of_decide_eq_true hk
      simp only [Rows.uptoBulkAll] at hb
      rw [hd, bulk_row] at hb
      have hcap : cap0 ≤ 1048576 := by omega
      refine ⟨zs.take len0, ⟨by rw [List.length_take]; omega, fun z hz2 => word_of_wf (hwz z (List.mem_of_mem_take hz2)), fun h => ?_⟩, hl, hcap, fun h => by cases h⟩
      obtain ⟨bb, off, rfl, hc⟩ := ints_at hcell (by omega)
      refine ⟨bb, off, rfl, fun j hj => ?_⟩
      rw [hc j (by omega), List.getD_eq_getElem?_getD, List.getD_eq_getElem?_getD, List.getElem?_take_of_lt hj]
  obtain ⟨a1, rfl, rfl, rfl, w1⟩ := open_int Tryz.underlying3 (hval 1 3 v1 rfl rfl) h1
  clear hA0
  refine (numeralTens_walk0 a0 len0 cap0 z0 a1 W s0 c0 b0 e0 w1 tb0 tb1).mono fun e W' ⟨he, bel⟩ => ?_
  subst he
  exact ⟨_, rfl, _, _, _, [], _, [], hW', trodAll_mk1 (shut_bool Tryz.underlying4 _), (trodAll_cons_mk (Below.trod laidOut (by kernel_rfl) (of_decide_eq_true (by kernel_rfl)) k0 bel lt0) (trodAll_cons_mk (shut_int Tryz.underlying3 w1) trodAll_mk0)), rfl, bel.frame _, fun h => by cases h⟩

set_option maxRecDepth 100000 in
theorem reads (os : Os) {H : Type} (enc : TypeId × Value → H) : DataW.whole enc Tryz.prog ((World.laidAll Tryz.prog os Rows.numeralTensUptoRow.laid).forCall (fun _ _ => 0) ⟨#[], #[.slice none 0 0, .int .i64 0], []⟩).memory Tryz.f4.params.toList Rows.numeralTensSpec.vars false #[.slice none 0 0, .int .i64 0].toList 8 = some ([.nil, .lit (.int .i64 0)], [], []) := by kernel_rfl
set_option maxRecDepth 100000 in
theorem lifted (os : Os) (started : os.Started) (H : Type) (enc : TypeId × Value → H) (F : Stop.Interp) :
    ReturnsInHanded {} Tryz.checked os 4 .any ((Rows.OpenSpec.upto Rows.numeralTensSpec).preRow enc Tryz.prog Tryz.f4 Rows.numeralTensUptoRow.domain false Rows.numeralTensUptoRow.laid) (((Rows.OpenSpec.upto Rows.numeralTensSpec).at F).post enc Tryz.prog Tryz.f4 false true false false) := by
  refine returnsInHanded_of_row (C := Tryz.checked) (s := Rows.OpenSpec.upto Rows.numeralTensSpec) own started (by kernel_rfl) Tryz.func4
    (witness_row_at (enc := enc) (C := Tryz.checked) false (World.laidAll Tryz.prog os Rows.numeralTensUptoRow.laid) #[.slice none 0 0, .int .i64 0] (World.laidAll_os _ _ _) (by kernel_rfl) (by kernel_rfl) (by kernel_rfl)
      (OpenSpec.preRow_of_cond 8 (reads os enc) (by kernel_rfl) (fun k hk => by cases hk; kernel_rfl) (by kernel_rfl)
        (by rw [MakeChecks.laidMetH_plain _ _ _ (by kernel_rfl)]; exact laidMet_laidAll _ (by kernel_rfl) (by kernel_rfl)))) ?_
  intro W base args ds gs before hval hW _ hcond _ hL _ _
  exact contract H enc W base args ds gs before hval hW (hcond _ rfl) hL

theorem over : Rows.numeralTensUptoRow.holds Tryz.pinned (Rows.OpenSpec.upto Rows.numeralTensSpec) :=
  OpenClaim.holds_of_cond 4 Tryz.f4 rfl rfl rfl rfl rfl rfl rfl ⟨rfl, rfl, rfl, rfl, rfl⟩ rfl rfl rfl rfl rfl (by kernel_rfl) Tryz.func4 (by kernel_rfl)
    (of_decide_eq_true (by kernel_rfl)) (by unfold Func.isWrapper; first | (rw [if_pos (by decide +kernel)]; kernel_rfl) | (rw [if_neg (by decide +kernel)]; exact ⟨rfl, rfl⟩))
    (fun os started H enc _ F => by rw [OpenClaim.pre_eq_preRow]; exact lifted os started H enc F)
end Go.Proofs.YtclefkmhchfkkaaGreatDoor.numeralTens
namespace Go.Proofs.YtclefkmhchfkkaaGreatDoor
theorem numeralTens_plain (f : FuncId) (fn : Func) (hf : Tryz.pinned.checked.prog.funcNamed "tollbook/tollbooklaw03.NumeralTens" = some f) (hfn : Tryz.pinned.checked.prog.funcs[f]? = some fn) :
    false = Tryz.pinned.checked.prog.looks [] ∧ ∀ (j : Nat) t, fn.params[j]? = some t → Tryz.pinned.checked.prog.wantsStandIn t = false := by
  obtain rfl : f = 4 := Option.some.inj ((show Tryz.prog.funcNamed "tollbook/tollbooklaw03.NumeralTens" = some 4 by kernel_rfl).symm.trans hf) |>.symm
  obtain rfl : fn = Tryz.f4 := (Option.some.inj (Tryz.func4.symm.trans hfn)).symm
  refine ⟨by kernel_rfl, fun j t ht => ?_⟩
  rw [Tryz.params4] at ht
  have hm : t ∈ [22, 3] := by have := Array.mem_of_getElem? ht; simp at this; simp; omega
  have hall : ([22, 3].all fun u => !Tryz.prog.wantsStandIn u) = true := by kernel_rfl
  exact (show Tryz.prog.wantsStandIn t = false by simpa using List.all_eq_true.1 hall t hm)
theorem numeralTensUptoCard_holds : Rows.NumeralTensUptoCardSaid :=
  Claim7.holds_tied_plain_at .later [] _ _ _ _ numeralTens.over (fun _ h => by cases h) (by kernel_rfl) (fun _ h => by cases h) numeralTensUpto_row_tie rfl ⟨rfl, rfl⟩ (by kernel_rfl) rfl numeralTens_plain (by kernel_rfl)
#print axioms numeralTensUptoCard_holds
end Go.Proofs.YtclefkmhchfkkaaGreatDoor
