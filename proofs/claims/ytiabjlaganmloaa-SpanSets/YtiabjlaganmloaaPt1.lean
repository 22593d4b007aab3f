/-
  The document's Has and wanted.
-/
import Derived.Test.YtiabjlaganmloaaBdW
import Derived.Test.YtiabjlaganmloaaSpL
namespace Go.Proofs.Ytiabjlaganmloaa
open Go.RowKit Go.Shelf
set_option linter.unusedVariables false
set_option linter.unusedSimpArgs false

set_option maxHeartbeats 1000000 in
theorem rhas_any (a : Option Addr) (len cap : Nat) (ps : List Pr) (d : Int) (w : World) (h : Ls w a len ps) (hl : len ≤ 9000000000000) :
    Calls Try.prog 21 #[.slice a len cap, .int .i64 d] w fun e w' => e = .returned (.bool (inB ps d)) ∧ w' = w := by
  have HL : Hid (Ls w a len ps) := h
  have hpl := h.1
  clear h
  go_enter Try.func21, Try.ntmps21
  go_wp2_with fail
  go_loopw [5] (fun i wr => ∃ k : Nat, k ≤ len ∧ i = .int .i64 (k : Int) ∧ wr = w ∧ Hid (∀ j, j < k → ¬ ((ps.getD j (0, 0)).1 ≤ d ∧ d < (ps.getD j (0, 0)).2))) (fun i _ => len - (intOf i).toNat)
  case atStart => exact ⟨0, Nat.zero_le _, rfl, rfl, fun j hj => absurd hj (Nat.not_lt_zero _)⟩
  case round =>
    obtain ⟨k, hk, rfl, rfl, hI⟩ := hrel
    by_cases hlt : k < len
    · have hkz : (k : Int) < len := by omega
      obtain ⟨b, off, rfl, hc⟩ := HL.out.2 (by omega)
      have c0 := (hc k hlt).1
      have c1 := (hc k hlt).2
      have HY : Hid ((ps.getD k (0, 0)).1 ≤ d ∧ d < (ps.getD k (0, 0)).2 → inB ps d = true) := fun h' => inB_true ⟨_, getD_mem (by omega), h'⟩
      have HN : Hid (¬ ((ps.getD k (0, 0)).1 ≤ d ∧ d < (ps.getD k (0, 0)).2) → ∀ j, j < k + 1 → ¬ ((ps.getD j (0, 0)).1 ≤ d ∧ d < (ps.getD j (0, 0)).2)) := fun h' j hj => by
        by_cases h2 : j = k
        · rw [h2]; exact h'
        · exact hI.out j (by omega)
      clear hc hI
      generalize (ps.getD k (0, 0)).1 = x0 at *
      generalize (ps.getD k (0, 0)).2 = x1 at *
      by_cases h1 : x0 ≤ d
      · by_cases h2 : d < x1
        · have HE : Hid (inB ps d = true) := HY.out ⟨h1, h2⟩
          clear HY HN
          go_wp2_with fail
          go_ret
          exact ⟨by rw [HE.out]; rfl, rfl⟩
        · have HE : Hid _ := HN.out (fun h' => h2 h'.2)
          clear HY HN
          go_wp2_with fail
          exact ⟨⟨k + 1, by omega, by go_num, trivial, HE⟩, by simp [intOf]; omega⟩
      · have HE : Hid _ := HN.out (fun h' => h1 h'.1)
        clear HY HN
        go_wp2_with fail
        exact ⟨⟨k + 1, by omega, by go_num, trivial, HE⟩, by simp [intOf]; omega⟩
    · have hkz : ¬ (k : Int) < len := by omega
      have HE : Hid (inB ps d = false) := inB_false (fun ⟨p, hp, h1, h2⟩ => by
        obtain ⟨i, hi, rfl⟩ := List.mem_iff_getElem.1 hp
        have := hI.out i (by omega)
        rw [List.getD_eq_getElem?_getD, List.getElem?_eq_getElem hi] at this
        exact this ⟨h1, h2⟩)
      clear hI
      go_wp2_with fail
      go_ret
      exact ⟨by rw [HE.out]; rfl, rfl⟩
/-- Is a day wanted? -/
def wnt (way : Nat) (a b : Bool) : Bool := if way = 1 then a || b else if way = 2 then a && b else a && !b
theorem wanted_any (way : Nat) (h : way = 1 ∨ way = 2 ∨ way = 3) (a b : Bool) (w : World) : Calls Try.prog 58 #[.int .i64 way, .bool a, .bool b] w fun e w' => e = .returned (.bool (wnt way a b)) ∧ w' = w := by
  rcases h with rfl | rfl | rfl <;> cases a <;> cases b <;> (
    go_enter Try.func58, Try.ntmps58
    go_wp2_with fail
    go_ret
    exact ⟨rfl, rfl⟩)
/-- The same of days. -/
def wP (way : Nat) (A B : Prop) : Prop := if way = 1 then A ∨ B else if way = 2 then A ∧ B else A ∧ ¬ B
theorem wP_congr {way : Nat} {A A' B B' : Prop} (h : A ↔ A') (g : B ↔ B') : wP way A B ↔ wP way A' B' := by
  unfold wP; split
  · rw [h, g]
  · split
    · rw [h, g]
    · rw [h, g]
theorem wP_or {way : Nat} {A B : Prop} (h : wP way A B) : A ∨ B := by
  unfold wP at h; split at h
  · exact h
  · split at h
    · exact .inl h.1
    · exact .inl h.1
theorem wnt_iff (way : Nat) (ps qs : List Pr) (d : Int) : wnt way (inB ps d) (inB qs d) = true ↔ wP way (inS ps d) (inS qs d) := by
  have h1 : inB ps d = true ↔ inS ps d := inB_iff
  have h2 : inB qs d = true ↔ inS qs d := inB_iff
  unfold wnt wP
  split
  · rw [Bool.or_eq_true, h1, h2]
  · split
    · rw [Bool.and_eq_true, h1, h2]
    · rw [Bool.and_eq_true, h1, Bool.not_eq_true', ← h2]; simp
theorem PI.ne {f : Int → Prop} {lo hi p q : Int} {o : List Pr} (h : PI f lo hi (o ++ [(p, q)])) (hq : q ≠ hi) : ∀ r ∈ o ++ [(p, q)], r.2 ≠ hi := by
  intro r hr
  have ht := h.top (p, q) (by simp)
  have hm := h.few.1 (p, q) (by simp)
  unfold May at hm
  have hp := List.pairwise_append.1 h.few.2
  rcases List.mem_append.1 hr with hr | hr
  · have := hp.2.2 r hr (p, q) (by simp)
    simp only at this hm ht
    omega
  · rw [List.mem_singleton.1 hr]; exact hq
theorem put_done {way : Nat} {ps qs out : List Pr} {zs : List Int} {k : Nat} (hr : Rises zs) (e1 : Ends ps zs) (e2 : Ends qs zs) (h : PI (fun d => wP way (inS ps d) (inS qs d)) (zs.getD 0 0) (zs.getD k 0) out) (hk : k = 0 ∨ k < zs.length) (hl : ¬ k + 1 < zs.length) : Few out ∧ ∀ d, inS out d ↔ wP way (inS ps d) (inS qs d) := by
  refine ⟨h.few, fun d => ?_⟩
  rw [h.same d]
  constructor
  · exact fun h => h.2
  · intro hw
    refine ⟨?_, hw⟩
    have h0 : 0 < zs.length := by
      rcases wP_or hw with ⟨p, hp, -⟩ | ⟨p, hp, -⟩
      · exact List.length_pos_of_mem (e1 p hp).1
      · exact List.length_pos_of_mem (e2 p hp).1
    have hk' : zs.length - 1 = k := by omega
    rw [← hk']
    rcases wP_or hw with hd | hd
    · exact day_out hr e1 h0 hd
    · exact day_out hr e2 h0 hd
theorem put_as {way : Nat} {ps qs : List Pr} {zs : List Int} {k : Nat} (hr : Rises zs) (e1 : Ends ps zs) (e2 : Ends qs zs) (hk : k + 1 < zs.length) {d : Int} (h1 : zs.getD k 0 ≤ d) (h2 : d < zs.getD (k + 1) 0) : wP way (inS ps d) (inS qs d) ↔ wP way (inS ps (zs.getD k 0)) (inS qs (zs.getD k 0)) :=
  wP_congr (day_as hr e1 hk h1 h2) (day_as hr e2 hk h1 h2)
theorem ends_of {l m : List Pr} {zs : List Int} (h : ∀ z, z ∈ zs ↔ z ∈ en2 l ++ en2 m) : Ends l zs ∧ Ends m zs :=
  ⟨fun p hp => ⟨(h _).2 (List.mem_append_left _ (mem_en2.2 ⟨p, hp, .inl rfl⟩)), (h _).2 (List.mem_append_left _ (mem_en2.2 ⟨p, hp, .inr rfl⟩))⟩,
   fun p hp => ⟨(h _).2 (List.mem_append_right _ (mem_en2.2 ⟨p, hp, .inl rfl⟩)), (h _).2 (List.mem_append_right _ (mem_en2.2 ⟨p, hp, .inr rfl⟩))⟩⟩
theorem zs_may {l m : List Pr} {zs : List Int} (h : ∀ z, z ∈ zs ↔ z ∈ en2 l ++ en2 m) (hl : ∀ p ∈ l, May p) (hm : ∀ p ∈ m, May p) : ∀ i, i < zs.length → 0 ≤ zs.getD i 0 ∧ zs.getD i 0 ≤ 3652059 := by
  intro i hi
  have hz : zs.getD i 0 ∈ zs := by
    rw [List.getD_eq_getElem?_getD, List.getElem?_eq_getElem hi]; exact List.getElem_mem hi
  have := (h _).1 hz
  generalize zs.getD i 0 = z at *
  rcases List.mem_append.1 this with h' | h'
  · obtain ⟨p, hp, hz⟩ := mem_en2.1 h'
    have := hl p hp; unfold May at this
    omega
  · obtain ⟨p, hp, hz⟩ := mem_en2.1 h'
    have := hm p hp; unfold May at this
    omega
theorem zs_len {l m : List Pr} {zs : List Int} (hr : Rises zs) (h : ∀ z, z ∈ zs ↔ z ∈ en2 l ++ en2 m) : zs.length ≤ 2 * l.length + 2 * m.length := by
  have hn : zs.Nodup := List.Pairwise.imp (fun h => by omega) hr
  have := length_le_of_mem hn (fun x hx => (h x).1 hx)
  rw [List.length_append, en2_length, en2_length] at this
  exact this
end Go.Proofs.Ytiabjlaganmloaa
