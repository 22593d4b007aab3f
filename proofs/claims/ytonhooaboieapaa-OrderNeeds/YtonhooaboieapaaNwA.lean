/-
  needed's ask.
-/
import Derived.Test.YtonhooaboieapaaNwP
import Derived.Test.YtonhooaboieapaaOdD
import Derived.Test.YtonhooaboieapaaOd5
namespace Go.Proofs.Ytonhooaboieapaa
open Go.RowKit Go.Shelf
set_option linter.unusedVariables false
set_option linter.unusedSimpArgs false

/-- Who is asked, as `needed` holds it: g the blocks' first. -/
structure As (n g : Nat) (w : World) (A : List Nat) (va : Value) : Prop where
  is : Fb n w (g + 1) (fun x => decide (x ∈ A))
  p2 : Va w (g + 1 + 1) 36 #[.slice (some ⟨g + 1, 0, none⟩) n n]
  p3 : Va w (g + 1 + 1 + 1) 23 #[va]
  ge : Ge elI w (g + 1 + 1 + 1 + 1) va (ints A)
theorem As.after {n g : Nat} {w w' : World} {A : List Nat} {va : Value} (hb : Below w.heap.size w w') (h : As n g w A va) : As n g w' A va :=
  ⟨Fv.after hb h.is, h.p2.after hb, h.p3.after hb, h.ge.after hb⟩
/-- Writes into other blocks leave it. -/
theorem As.kept {n g : Nat} {w w' : World} {A : List Nat} {va : Value} (h : As n g w A va) (hk : ∀ k, (k = g + 1 ∨ k = g + 1 + 1 ∨ k = g + 1 + 1 + 1 ∨ va.ownBlock = some k) → w'.heap[k]? = w.heap[k]?) : As n g w' A va := by
  refine ⟨Fv.kept h.is (hk _ (.inl rfl)), ?_, ?_, h.ge.kept (fun k hb => hk k (.inr (.inr (.inr hb))))⟩
  · have := h.p2; unfold Va at *; rw [hk _ (.inr (.inl rfl))]; exact this
  · have := h.p3; unfold Va at *; rw [hk _ (.inr (.inr (.inl rfl)))]; exact this
theorem Va.cz {w : World} {b : Nat} {t : TypeId} {x : Value} (h : Va w b t #[x]) : w.cell? ⟨b, 0, none⟩ = some x := by rw [h.cellAt 0]; rfl
theorem Va.setz {w : World} {b : Nat} {t : TypeId} {x : Value} (h : Va w b t #[x]) (y : Value) : Va (w.setCell ⟨b, 0, none⟩ y) b t #[y] := by
  unfold Va at *
  simp only [World.setCell]
  rw [Array.getElem?_modify, if_pos rfl, h]
  simp
theorem Va.keptz {w w' : World} {b : Nat} {t : TypeId} {cs : Array Value} (h : Va w b t cs) (hk : w'.heap[b]? = w.heap[b]?) : Va w' b t cs := by unfold Va at *; rw [hk]; exact h
set_option maxHeartbeats 8000000 in
theorem ask_any (n : Nat) (hn : n ≤ 4096) (g : Nat) (A : List Nat) (va : Value) (x : Nat) (hx : x < n) (w : World) (h : As n g w A va) (hnd : A.Nodup) (hlt : ∀ x ∈ A, x < n) :
    Calls Try.prog 32 #[.int .i64 (x : Int), .pointer (some ⟨g + 1 + 1, 0, none⟩), .pointer (some ⟨g + 1 + 1 + 1, 0, none⟩)] w fun e w' => (∃ u, e = .returned u) ∧ ∃ (B : List Nat) (vb : Value), ((x ∈ A ∧ B = A) ∨ (x ∉ A ∧ B = A ++ [x])) ∧ As n g w' B vb ∧ (∀ k, k < w.heap.size → k ≠ g + 1 → k ≠ g + 1 + 1 + 1 → va.ownBlock ≠ some k → w'.heap[k]? = w.heap[k]?) ∧ Below (g + 1) w w' ∧ (vb.ownBlock = va.ownBlock ∨ ∀ k, vb.ownBlock = some k → w.heap.size ≤ k) := by
  obtain ⟨aa, ca, hva, -, -, -⟩ := h.ge.shape
  rw [ints_length] at hva
  subst hva
  have HA : Hid (As n g w A (.slice aa A.length ca)) := h
  have HLn : Hid ((ints A).length + 1 ≤ 1000000000000) := by
    have := few_nat hnd hlt
    show _ ≤ _; rw [ints_length]; omega
  have hxi : (x : Int) < n := by omega
  have c2 := h.p2.cz
  have c3 := h.p3.cz
  have cx := h.is.cell hx
  have fx := Fv.frozen h.is x
  have f3 := Va.frozen h.p3 0
  have hs1 : g + 1 + 1 + 1 < w.heap.size := h.p3.lt
  clear h hnd hlt
  by_cases hm : x ∈ A
  · rw [decide_eq_true hm] at cx
    have HM : Hid (x ∈ A) := hm
    clear hm
    go_enter Try.func32, Try.ntmps32
    go_wp2_with fail
    go_end0
    exact ⟨⟨_, rfl⟩, A, _, .inl ⟨HM.out, rfl⟩, HA.out, fun _ _ _ _ _ => rfl, Below.refl _ _, .inl rfl⟩
  · rw [decide_eq_false hm] at cx
    have HM : Hid (x ∉ A) := hm
    clear hm
    have c3' : (w.setCell ⟨g + 1, x, none⟩ (.bool true)).cell? ⟨g + 1 + 1 + 1, 0, none⟩ = some (.slice aa A.length ca) := (World.cell?_setCell_other _ _ _ _ (by intro h; simp only [Addr.mk.injEq] at h; omega)).trans c3
    have c2' : (w.setCell ⟨g + 1, x, none⟩ (.bool true)).cell? ⟨g + 1 + 1, 0, none⟩ = some (.slice (some ⟨g + 1, 0, none⟩) n n) := (World.cell?_setCell_other _ _ _ _ (by intro h; simp only [Addr.mk.injEq] at h; omega)).trans c2
    have HG1 : Hid (Ge elI (w.setCell ⟨g + 1, x, none⟩ (.bool true)) (g + 1 + 1 + 1 + 1) (.slice aa (ints A).length ca) (ints A)) := by
      rw [ints_length]
      exact HA.out.ge.far (p := ⟨g + 1, x, none⟩) (fun e => by have h9 : g + 1 + 1 + 1 + 1 ≤ g + 1 := HA.out.ge.block _ e; omega) _
    have HI1 : Hid (Fb n (w.setCell ⟨g + 1, x, none⟩ (.bool true)) (g + 1) (fun z => decide (z ∈ A ++ [x]))) := by
      have h9 := Fb.set HA.out.is x true
      rwa [show upf (fun z => decide (z ∈ A)) x true = fun z => decide (z ∈ A ++ [x]) from funext (fun z => by
        by_cases e : z = x
        · rw [e, upf_self]; simp
        · rw [upf_ne _ _ e]; simp [e])] at h9
    have HP2 : Hid (Va (w.setCell ⟨g + 1, x, none⟩ (.bool true)) (g + 1 + 1) 36 #[.slice (some ⟨g + 1, 0, none⟩) n n]) := HA.out.p2.keptz (heap_setCell_other _ _ _ _ (by show g + 1 + 1 ≠ g + 1; omega))
    have HP3 : Hid (Va (w.setCell ⟨g + 1, x, none⟩ (.bool true)) (g + 1 + 1 + 1) 23 #[.slice aa A.length ca]) := HA.out.p3.keptz (heap_setCell_other _ _ _ _ (by show g + 1 + 1 + 1 ≠ g + 1; omega))
    have HVN : Hid (Le elI ((w.setCell ⟨g + 1, x, none⟩ (.bool true)).alloc (.cells #[.int .i64 (x : Int)] 3)) (some ⟨w.heap.size, 0, none⟩) 1 [(x : Int)]) := Le.one (by have := Va.new (w.setCell ⟨g + 1, x, none⟩ (.bool true)) 3 #[.int .i64 (x : Int)]; rwa [World.size_setCell] at this) rfl
    have HS1 : Hid (g + 1 + 1 + 1 < w.heap.size) := hs1
    clear c3
    rw [← ints_length A] at c3' ⊢
    go_enter Try.func32, Try.ntmps32
    go_wp2_with (at_builtin; refine wpList_appE rfl _ _ _ rfl elI rfl (g + 1 + 1 + 1 + 1) _ (ints A) rfl (HG1.out.al _) w.heap.size 0 1 1 [(x : Int)] rfl HVN.out HLn.out (by simp; omega) ?_; intro v5 w5 hg5 hgr5 hob5; have HI5 : Hid (Fb n w5 (g + 1) (fun z => decide (z ∈ A ++ [x]))) := Fv.kept (Fv.after ((Below.refl _ _).alloc (Nat.le_refl _) _) HI1.out) (hgr5.block (g + 1) (by simp; omega) (fun e => by have := HG1.out.block _ e.symm; omega)); have HP25 : Hid (Va w5 (g + 1 + 1) 36 #[.slice (some ⟨g + 1, 0, none⟩) n n]) := (HP2.out.after ((Below.refl _ _).alloc (Nat.le_refl _) _)).keptz (hgr5.block _ (by simp; omega) (fun e => by have := HG1.out.block _ e.symm; omega)); have HP35 : Hid (Va w5 (g + 1 + 1 + 1) 23 #[.slice aa A.length ca]) := (HP3.out.after ((Below.refl _ _).alloc (Nat.le_refl _) _)).keptz (hgr5.block _ (by simp; omega) (fun e => by have := HG1.out.block _ e.symm; omega)); have c5 := HP35.out.cz; have f5 := Va.frozen HP35.out 0; have HG5 : Hid (Ge elI w5 (g + 1 + 1 + 1 + 1) v5 (ints (A ++ [x]))) := (by rw [ints_snoc]; exact hg5); have HO5 : Hid _ := hob5; have HK5 : Hid _ := hgr5; obtain ⟨a5, c5', rfl, -, -, -⟩ := hg5.shape; clear hg5 hgr5 hob5)
    have HG6 : Hid (Ge elI w5 (g + 1 + 1 + 1 + 1) (.slice a5 ((ints A).length + 1) c5') (ints (A ++ [x]))) := by
      have h9 := HG5.out
      rw [List.length_append] at h9
      exact h9
    have HO6 : Hid ((Value.slice a5 ((ints A).length + 1) c5').ownBlock = (Value.slice aa (ints A).length ca).ownBlock ∨ (Value.slice a5 ((ints A).length + 1) c5').ownBlock = some ((w.setCell ⟨g + 1, x, none⟩ (.bool true)).alloc (.cells #[.int .i64 (x : Int)] 3)).heap.size) := by
      have h9 := HO5.out
      rw [List.length_append] at h9
      exact h9
    go_end0
    refine ⟨⟨_, rfl⟩, A ++ [x], .slice a5 ((ints A).length + 1) c5', .inr ⟨HM.out, rfl⟩, ⟨?_, ?_, ?_, ?_⟩, fun k hk h1 h2 h3 => ?_, ?_, ?_⟩
    · exact Fv.kept HI5.out (heap_setCell_other _ _ _ _ (by show g + 1 ≠ g + 1 + 1 + 1; omega))
    · exact HP25.out.keptz (heap_setCell_other _ _ _ _ (by show g + 1 + 1 ≠ g + 1 + 1 + 1; omega))
    · exact HP35.out.setz _
    · exact HG6.out.far (p := ⟨g + 1 + 1 + 1, 0, none⟩) (fun e => by have h9 : g + 1 + 1 + 1 + 1 ≤ g + 1 + 1 + 1 := HG6.out.block _ e; omega) _
    · rw [heap_setCell_other _ _ _ _ (by exact h2), HK5.out.block k (by simp; omega) (fun e => h3 e.symm), ((Below.refl (w.setCell ⟨g + 1, x, none⟩ (.bool true)).heap.size _).alloc (Nat.le_refl _) _).block k (by simp; exact hk), heap_setCell_other _ _ _ _ (by exact h1)]
    · refine Below.setCell (p := ⟨g + 1 + 1 + 1, 0, none⟩) ?_ (by show g + 1 ≤ g + 1 + 1 + 1; omega) _
      refine (((Below.refl _ _ : Below (g + 1) w w).setCell (p := ⟨g + 1, x, none⟩) (Nat.le_refl _) (.bool true)).alloc (by simp; omega) (.cells #[.int .i64 (x : Int)] 3)).grown HK5.out (by simp; omega) (fun k hk => by have := HG1.out.block k hk; omega)
    · rcases HO6.out with h9 | h9
      · exact .inl h9
      · refine .inr (fun k hk => ?_)
        rw [h9] at hk
        cases hk
        simp
end Go.Proofs.Ytonhooaboieapaa
