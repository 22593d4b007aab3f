/-
  The first span that ends behind a day; whether a set has a day.
-/
import Derived.Test.YtiabjlaganmloaaSp4
import Derived.Test.YtiabjlaganmloaaShelfS
namespace Go.Proofs.Ytiabjlaganmloaa
open Go.RowKit Go.Shelf Go.Lib Go.Sort
set_option linter.unusedVariables false

/-- The first place of a list whose span ends behind a day. -/
def Rc (ps : List Pr) (d : Int) (k : Nat) : Prop := k ≤ ps.length ∧ (∀ i p, i < k → ps[i]? = some p → p.2 ≤ d) ∧ (∀ p, ps[k]? = some p → d < p.2)
theorem bound_of : ∀ (n : Nat) (p : Nat → Bool), (∀ a b, a ≤ b → b < n → p a = true → p b = true) → ∃ m, m ≤ n ∧ (∀ t, t < m → p t = false) ∧ (∀ t, m ≤ t → t < n → p t = true)
  | 0, p, _ => ⟨0, Nat.le_refl _, fun t h => absurd h (Nat.not_lt_zero _), fun t _ h => absurd h (Nat.not_lt_zero _)⟩
  | n + 1, p, hm => by
    obtain ⟨m, h1, h2, h3⟩ := bound_of n p (fun a b h h' => hm a b h (by omega))
    rcases Nat.lt_or_eq_of_le h1 with h | h
    · refine ⟨m, by omega, h2, fun t h4 h5 => ?_⟩
      exact hm m t h4 h5 (h3 m (Nat.le_refl _) h)
    · subst h
      cases hp : p m with
      | true => exact ⟨m, by omega, h2, fun t h4 h5 => by rw [show t = m by omega]; exact hp⟩
      | false =>
        refine ⟨m + 1, Nat.le_refl _, fun t h4 => ?_, fun t h4 h5 => by omega⟩
        by_cases h : t = m
        · rw [h]; exact hp
        · exact h2 t (by omega)
theorem few_ends {ps : List Pr} (h : Few ps) {a b : Nat} (hab : a ≤ b) (hb : b < ps.length) : (ps.getD a (0, 0)).2 ≤ (ps.getD b (0, 0)).2 := by
  rcases Nat.lt_or_eq_of_le hab with h1 | h1
  · have h2 := List.pairwise_iff_getElem.1 h.2 a b (by omega) hb h1
    have h3 := h.1 _ (List.getElem_mem hb)
    unfold May at h3
    rw [List.getD_eq_getElem?_getD, List.getD_eq_getElem?_getD, List.getElem?_eq_getElem (by omega), List.getElem?_eq_getElem hb]
    simp only [Option.getD_some]
    omega
  · rw [h1]; exact Int.le_refl _
theorem rc_of {ps : List Pr} (h : Few ps) (d : Int) : Rc ps d ((List.range ps.length).countP (fun i => !decide (d < (ps.getD i (0, 0)).2))) := by
  obtain ⟨m, h1, h2, h3⟩ := bound_of ps.length (fun i => decide (d < (ps.getD i (0, 0)).2)) (fun a b h4 h5 h6 => by
    have := few_ends h h4 h5
    simp only [decide_eq_true_eq] at h6 ⊢; omega)
  have e : (List.range ps.length).countP (fun i => !decide (d < (ps.getD i (0, 0)).2)) = m := by
    have hr : ∀ t, t < ps.length → (List.range ps.length)[t]! = t := fun t ht => by rw [getElem!_pos _ t (by simpa using ht)]; simp
    refine Lib.countP_boundary _ (List.range ps.length) m (by simpa using h1) (fun t ht => ?_) (fun t h4 h5 => ?_)
    · rw [hr t (by omega), h2 t ht]; rfl
    · rw [hr t (by simpa using h5), h3 t h4 (by simpa using h5)]; rfl
  rw [e]
  refine ⟨h1, fun i p hi hp => ?_, fun p hp => ?_⟩
  · have := h2 i hi
    rw [List.getD_eq_getElem?_getD, hp] at this
    simpa using this
  · have hm : m < ps.length := by
      rcases Nat.lt_or_ge m ps.length with h' | h'
      · exact h'
      · rw [List.getElem?_eq_none h'] at hp; cases hp
    have := h3 m (Nat.le_refl _) hm
    rw [List.getD_eq_getElem?_getD, hp] at this
    simpa using this

set_option maxHeartbeats 1000000 in
theorem reach1 (Bs Bd b off len cap : Nat) (x d : Int) (i : Nat) (W : World) (hi : i < len) (ha : W.cell? ⟨Bs, 0, none⟩ = some (.slice (some ⟨b, off, none⟩) len cap)) (hd : W.cell? ⟨Bd, 0, none⟩ = some (.int .i64 d)) (hc : W.cell? ⟨b, off + i * 2 + 1, none⟩ = some (.int .i64 x)) :
    Calls Try.prog 76 #[.int .i64 i, .pointer (some ⟨Bs, 0, none⟩), .pointer (some ⟨Bd, 0, none⟩)] W fun e w' => e = .returned (.bool (decide (d < x))) ∧ ∃ q, w' = W.drewN q := by
  have hiz : (i : Int) < (len : Int) := by omega
  go_enter Try.func76, Try.ntmps76
  go_wp2_with fail
  go_quiet (fail)
  go_wp2_with fail
  go_ret
  exact ⟨rfl, _, rfl⟩
theorem grown_below (w : World) (q : Nat) (os : Array Obj) : Below w.heap.size w (grow (w.drewN q) os) := below_grown_sl w.heap.size w q os (Nat.le_refl _)
set_option maxHeartbeats 1000000 in
theorem reaching_any (a : Option Addr) (len cap : Nat) (ps : List Pr) (d : Int) (w : World) (hf : Few ps) (h : Ls w a len ps) (hl : len ≤ 1000000) :
    Calls Try.prog 53 #[.slice a len cap, .int .i64 d] w fun e w' => ∃ k : Nat, e = .returned (.int .i64 (k : Int)) ∧ Hid (Rc ps d k) ∧ Below w.heap.size w w' := by
  have eg : ∀ args w, (callFunc 76 args).run Try.prog w = .ok (.enter 76 args) w := enters_of Try.func76 (by kernel_rfl) rfl
  have hS : ∀ W0, Below w.heap.size w W0 → Va W0 w.heap.size 31 #[.slice a len cap] → Va W0 (w.heap.size + 1) 22 #[.int .i64 d] → Calls Try.prog 59 #[.int .i64 len, .func (.func 76) #[] #[.pointer (some ⟨w.heap.size, 0, none⟩), .pointer (some ⟨w.heap.size + 1, 0, none⟩)]] W0 fun e w' => ∃ k : Nat, e = .returned (.int .i64 (k : Int)) ∧ Hid (Rc ps d k) ∧ Below W0.heap.size W0 w' := by
    intro W0 hB V0 V1
    have h0 := h.after hB
    have hS := Any.sort_Search Try.searchL 76 #[.pointer (some ⟨w.heap.size, 0, none⟩), .pointer (some ⟨w.heap.size + 1, 0, none⟩)] len (fun i => decide (d < (ps.getD i (0, 0)).2)) W0 eg (by omega)
      (fun m os i hi => by
        obtain ⟨b, off, e, hc⟩ := h0.2 (by omega)
        subst e
        have k1 := (hc i hi).2
        refine (reach1 w.heap.size (w.heap.size + 1) b off len cap _ d i _ hi (cell_grown V0.lt V0.cell m os) (cell_grown V1.lt V1.cell m os) (cell_grown (cell_lt k1) k1 m os)).mono ?_
        rintro e w' ⟨he, q, hq⟩
        exact ⟨he, q, #[], by rw [hq, grow_empty]⟩)
      (fun x y h4 h5 h6 => by
        have := few_ends hf h4 (by rw [h.1]; exact h5)
        simp only [decide_eq_true_eq] at h6 ⊢; omega)
    change Calls Try.prog 59 _ _ _ at hS
    refine hS.mono ?_
    rintro e w' ⟨rfl, q, os, rfl⟩
    refine ⟨_, rfl, ?_, grown_below W0 q os⟩
    have := rc_of hf d
    rw [h.1] at this
    exact this
  clear h eg
  have HS : Hid _ := hS
  clear hS
  go_enter Try.func53, Try.ntmps53
  go_wp2_with (go_at_call 59; refine ent2 w _ _ _ _ (Q := fun W => Calls _ _ _ W _) ?_; intro W0 hB0 hsz V0 V1; refine (HS.out W0 hB0 V0 V1).mono ?_; rintro e w2 ⟨k, rfl, hk, hb2⟩)
  go_ret
  exact ⟨k, rfl, hk, step hB0 hb2⟩
/-- Whether a list has a day. -/
noncomputable def inB (ps : List Pr) (d : Int) : Bool := @decide (inS ps d) (Classical.propDecidable _)
theorem inB_true {ps : List Pr} {d : Int} (h : inS ps d) : inB ps d = true := @decide_eq_true _ (Classical.propDecidable _) h
theorem inB_false {ps : List Pr} {d : Int} (h : ¬ inS ps d) : inB ps d = false := @decide_eq_false _ (Classical.propDecidable _) h
theorem inB_iff {ps : List Pr} {d : Int} : inB ps d = true ↔ inS ps d := @decide_eq_true_iff _ (Classical.propDecidable _)
set_option maxHeartbeats 1000000 in
theorem has_list (p : Nat) (a : Option Addr) (len cap : Nat) (m : Bool) (ps : List Pr) (d : Int) (w : World) (hf : Few ps) (V : Va w p 94 #[.slice a len cap, .bool m]) (h : Ls w a len ps) (hl : len ≤ 1000000) :
    Calls Try.prog 20 #[.pointer (some ⟨p, 0, none⟩), .int .i64 d] w fun e w' => e = .returned (.bool (inB ps d)) ∧ Below w.heap.size w w' := by
  have h1 := list_any p a len cap m w V
  have h2 := reaching_any a len cap ps d w hf h hl
  have HL : Hid (Ls w a len ps) := h
  have HF : Hid (Few ps) := hf
  clear h hf V
  go_enter Try.func20, Try.ntmps20
  go_wp2_with (go_at_call 52; refine h1.mono ?_; rintro e w' ⟨rfl, rfl⟩)
  go_at_call 53
  refine h2.mono ?_
  rintro e w2 ⟨k, rfl, hk, hb⟩
  have HK := has_at HF.out d k hk.out.2.1 hk.out.2.2
  have hL2 := HL.out.after hb
  have hle := hk.out.1
  rw [HL.out.1] at hle
  clear h1 h2
  by_cases hlt : k < len
  · obtain ⟨b, off, rfl, hc⟩ := hL2.2 (by omega)
    have c0 := (hc k hlt).1
    have hlz : (k : Int) < len := by omega
    have ek : ps[k]? = some (ps.getD k (0, 0)) := by rw [List.getD_eq_getElem?_getD, List.getElem?_eq_getElem (by have := HL.out.1; omega)]; rfl
    rw [ek] at HK
    have HB : Hid (inB ps d = decide ((ps.getD k (0, 0)).1 ≤ d)) := by
      show _ = _
      by_cases hd : (ps.getD k (0, 0)).1 ≤ d
      · rw [inB_true (HK.2 ⟨_, rfl, hd⟩), decide_eq_true hd]
      · rw [inB_false (fun h => by obtain ⟨p, e, h'⟩ := HK.1 h; cases e; exact hd h'), decide_eq_false hd]
    clear hc ek HK hk hlt hL2
    generalize (ps.getD k (0, 0)).1 = x0 at *
    go_wp2_with fail
    go_ret
    exact ⟨by rw [HB.out]; rfl, hb⟩
  · have ek : ps[k]? = none := List.getElem?_eq_none (by have := HL.out.1; omega)
    have HB : Hid (inB ps d = false) := inB_false (fun h => by obtain ⟨p, e, h'⟩ := HK.1 h; rw [ek] at e; cases e)
    have hlz : ¬ (k : Int) < len := by omega
    clear ek HK hk hL2
    go_wp2_with fail
    go_ret
    exact ⟨by rw [HB.out]; rfl, hb⟩
theorem has_any (p : Nat) (ps : List Pr) (d : Int) (w : World) (h : St w p ps) :
    Calls Try.prog 20 #[.pointer (some ⟨p, 0, none⟩), .int .i64 d] w fun e w' => e = .returned (.bool (inB ps d)) ∧ Below w.heap.size w w' := by
  obtain ⟨h1, h2, a, cap, h3, h4, h5, h6⟩ := h
  exact has_list p a ps.length cap true ps d w h1 h3 h5 (by omega)
end Go.Proofs.Ytiabjlaganmloaa
