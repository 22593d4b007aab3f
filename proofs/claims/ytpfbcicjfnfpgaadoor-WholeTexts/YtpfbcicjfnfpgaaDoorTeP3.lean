/-
  The letters of digits: the text of a number at any base.
-/
import Derived.Test.YtpfbcicjfnfpgaaDoorWoBP
namespace Go.Proofs.YtpfbcicjfnfpgaaDoor
set_option linter.unusedVariables false

def ltr (x : Int) : UInt8 := UInt8.ofNat (if x < 10 then 48 + x.toNat else 87 + x.toNat)
theorem ltr_val {x : Int} (h0 : 0 ≤ x) (h : x < 36) : ((ltr x).toNat : Int) = if x < 10 then 48 + x else 87 + x := by
  unfold ltr
  split <;> simp <;> omega
theorem wv_ltr {x : Int} (h0 : 0 ≤ x) (h : x < 36) : (wv (ltr x) : Int) = x := by
  have e := ltr_val h0 h
  unfold wv
  split at e
  · rw [if_pos (by omega)]; omega
  · rw [if_neg (by omega), if_pos (by omega)]; omega
/-- The text of digits, the lowest first. -/
def tB3 (os : List Int) : List UInt8 := (os.map ltr).reverse
theorem tB3_len (os : List Int) : (tB3 os).length = os.length := by simp [tB3]
theorem tB3_dig {b : Nat} (h36 : b ≤ 36) {os : List Int} (h : DgI b os) : Dig b (tB3 os) := by
  intro c hc
  obtain ⟨x, hx, rfl⟩ := List.mem_map.1 (List.mem_reverse.1 hc)
  have hb := h x hx
  have := wv_ltr hb.1 (by omega)
  omega
theorem tB3_txI {b : Nat} (h36 : b ≤ 36) {os : List Int} (h : DgI b os) : txI (tB3 os) = os.reverse := by
  unfold txI tB3
  rw [List.map_reverse, List.map_map]
  congr 1
  have : ∀ l : List Int, DgI b l → l.map ((fun c => (wv c : Int)) ∘ ltr) = l := by
    intro l
    induction l with
    | nil => intro _; rfl
    | cons x t ih =>
      intro hl
      rw [List.map_cons, ih (fun z hz => hl z (List.mem_cons_of_mem _ hz))]
      have hx := hl x (List.mem_cons_self ..)
      simp only [Function.comp]
      rw [wv_ltr hx.1 (by omega)]
  exact this os h
theorem tB3_tx {b : Nat} (h2 : 2 ≤ b) (h36 : b ≤ 36) {os : List Int} {N : Int} (h : DgI b os) (he : os ≠ []) (hv : lvB b os = N) (ht : os = [0] ∨ TpB os) : Tx b (tB3 os) N.toNat := by
  refine ⟨fun e => he (List.length_eq_zero_iff.1 (by rw [← tB3_len, e]; rfl)), tB3_dig h36 h, ?_, fun hh => ?_⟩
  · have e := txI_val b (tB3 os)
    rw [tB3_txI h36 h, lvB_rev, hv] at e
    omega
  · rcases ht with rfl | ⟨_, ht⟩
    · rfl
    · exfalso
      have hp := List.length_pos_iff.2 he
      have e1 : (tB3 os).head? = some (ltr (os.getD (os.length - 1) 0)) := by
        unfold tB3
        rw [List.head?_reverse, List.getLast?_eq_getElem?, List.length_map, List.getElem?_map, List.getD_eq_getElem?_getD, List.getElem?_eq_getElem (by omega)]
        rfl
      rw [e1] at hh
      have hd := h.getD (i := os.length - 1) (by omega)
      have e2 := ltr_val hd.1 (by omega)
      have e3 : ltr (os.getD (os.length - 1) 0) = 48 := by simpa using hh
      rw [e3] at e2
      have e4 : ((48 : UInt8).toNat : Int) = 48 := rfl
      rw [e4] at e2
      split at e2 <;> omega
/-- One more letter. -/
theorem tB3_drop (os : List Int) {k : Nat} (h : k < os.length) : tB3 (os.drop k) = tB3 (os.drop (k + 1)) ++ [ltr (os.getD k 0)] := by
  unfold tB3
  rw [List.drop_eq_getElem_cons h, List.map_cons, List.reverse_cons, List.getD_eq_getElem?_getD, List.getElem?_eq_getElem h]
  rfl
/-- The sum of digits. -/
def sumI (l : List Int) : Int := l.foldl (fun s z => s + z) 0
theorem sumI_snoc (l : List Int) (z : Int) : sumI (l ++ [z]) = sumI l + z := by simp [sumI]
theorem sumI_fold : ∀ (l : List Int) (s : Int), l.foldl (fun s z => s + z) s = s + sumI l
  | [], s => by simp [sumI]
  | z :: l, s => by
    rw [List.foldl_cons, sumI_fold l, show sumI (z :: l) = l.foldl (fun s z => s + z) (0 + z) from rfl, sumI_fold l]
    omega
theorem sumI_cons (z : Int) (l : List Int) : sumI (z :: l) = z + sumI l := by
  rw [show sumI (z :: l) = l.foldl (fun s z => s + z) (0 + z) from rfl, sumI_fold l]; omega
theorem sumI_rev : ∀ l : List Int, sumI l.reverse = sumI l
  | [] => rfl
  | z :: l => by rw [List.reverse_cons, sumI_snoc, sumI_rev l, sumI_cons]; omega
theorem sumI_bd {b : Int} (hb : b ≤ 36) : ∀ {l : List Int}, DgI b l → 0 ≤ sumI l ∧ sumI l ≤ 36 * l.length
  | [], _ => by simp [sumI]
  | z :: l, h => by
    have h1 := sumI_bd hb (l := l) (fun x hx => h x (List.mem_cons_of_mem _ hx))
    have h2 := h z (List.mem_cons_self ..)
    rw [sumI_cons, List.length_cons]
    omega
theorem sumI_take {l : List Int} {k : Nat} (h : k < l.length) : sumI (l.take (k + 1)) = sumI (l.take k) + l.getD k 0 := by rw [take_snocI l k h, sumI_snoc]
end Go.Proofs.YtpfbcicjfnfpgaaDoor
