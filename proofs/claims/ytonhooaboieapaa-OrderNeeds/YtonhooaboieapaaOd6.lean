/-
  order: the search for knots in memory.
-/
import Derived.Test.YtonhooaboieapaaOd2
import Derived.Test.YtonhooaboieapaaOrT
namespace Go.Proofs.Ytonhooaboieapaa
open Go.RowKit Go.Shelf
set_option linter.unusedVariables false
set_option linter.unusedSimpArgs false

/-- What the search knows. -/
structure Tmm where
  gone : Nat → Nat
  came : Nat → Nat
  early : Nat → Nat
  many : Nat
  dn : List Nat
  op : List Nat
  isO : Nat → Bool
  least : Int
/-- Where it stands. -/
structure Tpp where
  p : Nat
  gg : Nat
  gc : Nat
  ge : Nat
  gi : Nat
def seCells (n b0 : Nat) (P : Tpp) (dv ov : Value) (M : Tmm) : Array Value := #[.slice (some ⟨b0, 0, none⟩) n n, .slice (some ⟨P.gg, 0, none⟩) n n, .slice (some ⟨P.gc, 0, none⟩) n n, .int .i64 (M.many : Int), .slice (some ⟨P.ge, 0, none⟩) n n, dv, ov, .slice (some ⟨P.gi, 0, none⟩) n n, .int .i64 M.least]
/-- The search in memory. -/
structure Se (n b0 : Nat) (w wr : World) (P : Tpp) (dv ov : Value) (M : Tmm) : Prop where
  st : Va wr P.p 58 (seCells n b0 P dv ov M)
  ga : Fn n wr P.gg M.gone
  ca : Fn n wr P.gc M.came
  ea : Fn n wr P.ge M.early
  ia : Fb n wr P.gi M.isO
  dg : Ge elI wr w.heap.size dv (ints M.dn)
  og : Ge elI wr w.heap.size ov (ints M.op)
  n12 : P.gg ≠ P.gc
  n13 : P.gg ≠ P.ge
  n23 : P.gc ≠ P.ge
  nd : ∀ c, dv.ownBlock = some c → c ≠ P.gg ∧ c ≠ P.gc ∧ c ≠ P.ge ∧ ov.ownBlock ≠ some c
  no : ∀ c, ov.ownBlock = some c → c ≠ P.gg ∧ c ≠ P.gc ∧ c ≠ P.ge
  below : Below w.heap.size w wr
  lo : w.heap.size ≤ P.p ∧ w.heap.size ≤ P.gg ∧ w.heap.size ≤ P.gc ∧ w.heap.size ≤ P.ge ∧ w.heap.size ≤ P.gi
theorem Va.neType {w : World} {a b : Nat} {t u : TypeId} {cs ds : Array Value} (h : Va w a t cs) (g : Va w b u ds) (hne : t ≠ u) : a ≠ b := by
  intro e
  subst e
  unfold Va at h g
  rw [h] at g
  have h3 := Option.some.inj g
  injection h3 with h4 h5
  exact hne h5
variable {n b0 : Nat} {w wr w' : World} {P : Tpp} {dv ov dv' ov' : Value} {M M' : Tmm}
/-- Unlike blocks. -/
theorem Se.ne (h : Se n b0 w wr P dv ov M) : (P.p ≠ P.gg ∧ P.p ≠ P.gc ∧ P.p ≠ P.ge ∧ P.p ≠ P.gi) ∧ (P.gi ≠ P.gg ∧ P.gi ≠ P.gc ∧ P.gi ≠ P.ge) ∧ (dv.ownBlock ≠ some P.p ∧ dv.ownBlock ≠ some P.gi ∧ ov.ownBlock ≠ some P.p ∧ ov.ownBlock ≠ some P.gi) :=
  ⟨⟨Va.neType h.st h.ga (by decide), Va.neType h.st h.ca (by decide), Va.neType h.st h.ea (by decide), Va.neType h.st h.ia (by decide)⟩,
   ⟨Va.neType h.ia h.ga (by decide), Va.neType h.ia h.ca (by decide), Va.neType h.ia h.ea (by decide)⟩,
   ⟨h.dg.apart h.st (by decide), h.dg.apart h.ia (by decide), h.og.apart h.st (by decide), h.og.apart h.ia (by decide)⟩⟩
/-- What is not changed stays. -/
theorem Se.frame (h : Se n b0 w wr P dv ov M) (X : Nat → Prop) (hk : ∀ c, c < wr.heap.size → ¬ X c → w'.heap[c]? = wr.heap[c]?) :
    (¬ X P.p → Va w' P.p 58 (seCells n b0 P dv ov M)) ∧ (¬ X P.gg → Fn n w' P.gg M.gone) ∧ (¬ X P.gc → Fn n w' P.gc M.came) ∧ (¬ X P.ge → Fn n w' P.ge M.early) ∧ (¬ X P.gi → Fb n w' P.gi M.isO) ∧ ((∀ c, dv.ownBlock = some c → ¬ X c) → Ge elI w' w.heap.size dv (ints M.dn)) ∧ ((∀ c, ov.ownBlock = some c → ¬ X c) → Ge elI w' w.heap.size ov (ints M.op)) := by
  refine ⟨fun hx => (hk _ h.st.lt hx).trans h.st, fun hx => Fv.kept h.ga (hk _ (Fv.lt h.ga) hx), fun hx => Fv.kept h.ca (hk _ (Fv.lt h.ca) hx), fun hx => Fv.kept h.ea (hk _ (Fv.lt h.ea) hx), fun hx => Fv.kept h.ia (hk _ (Fv.lt h.ia) hx), fun hx => h.dg.kept (fun c hc => hk c (h.dg.lt c hc) (hx c hc)), fun hx => h.og.kept (fun c hc => hk c (h.og.lt c hc) (hx c hc))⟩
theorem cell_hk (wr : World) (g i : Nat) (v : Value) : ∀ c, c < wr.heap.size → ¬ (c = g) → (wr.setCell ⟨g, i, none⟩ v).heap[c]? = wr.heap[c]? := fun c _ hne => heap_setCell_other _ _ c _ (by show c ≠ g; exact hne)
theorem Se.setGone (h : Se n b0 w wr P dv ov M) (i x : Nat) {u : Int} (hu : u = (x : Int)) : Se n b0 w (wr.setCell ⟨P.gg, i, none⟩ (.int .i64 u)) P dv ov { M with gone := upf M.gone i x } := by
  subst hu
  obtain ⟨a1, a2, a3⟩ := h.ne
  obtain ⟨k1, k2, k3, k4, k5, k6, k7⟩ := h.frame (fun c => c = P.gg) (cell_hk wr P.gg i (.int .i64 (x : Int)))
  exact ⟨k1 a1.1, Fn.set h.ga i x, k3 (fun e => h.n12 e.symm), k4 (fun e => h.n13 e.symm), k5 a2.1, k6 (fun c hc => (h.nd c hc).1), k7 (fun c hc => (h.no c hc).1), h.n12, h.n13, h.n23, h.nd, h.no, h.below.setCell (p := ⟨P.gg, i, none⟩) h.lo.2.1 _, h.lo⟩
theorem Se.setCame (h : Se n b0 w wr P dv ov M) (i x : Nat) {u : Int} (hu : u = (x : Int)) : Se n b0 w (wr.setCell ⟨P.gc, i, none⟩ (.int .i64 u)) P dv ov { M with came := upf M.came i x } := by
  subst hu
  obtain ⟨a1, a2, a3⟩ := h.ne
  obtain ⟨k1, k2, k3, k4, k5, k6, k7⟩ := h.frame (fun c => c = P.gc) (cell_hk wr P.gc i (.int .i64 (x : Int)))
  exact ⟨k1 a1.2.1, k2 h.n12, Fn.set h.ca i x, k4 (fun e => h.n23 e.symm), k5 a2.2.1, k6 (fun c hc => (h.nd c hc).2.1), k7 (fun c hc => (h.no c hc).2.1), h.n12, h.n13, h.n23, h.nd, h.no, h.below.setCell (p := ⟨P.gc, i, none⟩) h.lo.2.2.1 _, h.lo⟩
theorem Se.setEarly (h : Se n b0 w wr P dv ov M) (i x : Nat) {u : Int} (hu : u = (x : Int)) : Se n b0 w (wr.setCell ⟨P.ge, i, none⟩ (.int .i64 u)) P dv ov { M with early := upf M.early i x } := by
  subst hu
  obtain ⟨a1, a2, a3⟩ := h.ne
  obtain ⟨k1, k2, k3, k4, k5, k6, k7⟩ := h.frame (fun c => c = P.ge) (cell_hk wr P.ge i (.int .i64 (x : Int)))
  exact ⟨k1 a1.2.2.1, k2 h.n13, k3 h.n23, Fn.set h.ea i x, k5 a2.2.2, k6 (fun c hc => (h.nd c hc).2.2.1), k7 (fun c hc => (h.no c hc).2.2), h.n12, h.n13, h.n23, h.nd, h.no, h.below.setCell (p := ⟨P.ge, i, none⟩) h.lo.2.2.2.1 _, h.lo⟩
theorem Se.setIs (h : Se n b0 w wr P dv ov M) (i : Nat) (x : Bool) : Se n b0 w (wr.setCell ⟨P.gi, i, none⟩ (.bool x)) P dv ov { M with isO := upf M.isO i x } := by
  obtain ⟨a1, a2, a3⟩ := h.ne
  obtain ⟨k1, k2, k3, k4, k5, k6, k7⟩ := h.frame (fun c => c = P.gi) (cell_hk wr P.gi i (.bool x))
  exact ⟨k1 a1.2.2.2, k2 (fun e => a2.1 e.symm), k3 (fun e => a2.2.1 e.symm), k4 (fun e => a2.2.2 e.symm), Fb.set h.ia i x, k6 (fun c hc e => a3.2.1 (by rw [hc, e])), k7 (fun c hc e => a3.2.2.2 (by rw [hc, e])), h.n12, h.n13, h.n23, h.nd, h.no, h.below.setCell (p := ⟨P.gi, i, none⟩) h.lo.2.2.2.2 _, h.lo⟩
theorem Va.setAt {w : World} {b : Nat} {t : TypeId} {cs : Array Value} (h : Va w b t cs) (i : Nat) (v : Value) : Va (w.setCell ⟨b, i, none⟩ v) b t (cs.setIfInBounds i v) := by
  unfold Va at *
  simp only [World.setCell]
  rw [Array.getElem?_modify, if_pos rfl, h]
  simp
theorem Se.setField (h : Se n b0 w wr P dv ov M) (i : Nat) (v : Value) (dv' ov' : Value) (M' : Tmm) (he : (seCells n b0 P dv ov M).setIfInBounds i v = seCells n b0 P dv' ov' M')
    (hM : M'.gone = M.gone ∧ M'.came = M.came ∧ M'.early = M.early ∧ M'.isO = M.isO)
    (hd : Ge elI wr w.heap.size dv' (ints M'.dn)) (ho : Ge elI wr w.heap.size ov' (ints M'.op)) (hdo : dv'.ownBlock = dv.ownBlock ∨ dv'.ownBlock = none) (hoo : ov'.ownBlock = ov.ownBlock ∨ ov'.ownBlock = none) :
    Se n b0 w (wr.setCell ⟨P.p, i, none⟩ v) P dv' ov' M' := by
  obtain ⟨a1, a2, a3⟩ := h.ne
  obtain ⟨k1, k2, k3, k4, k5, k6, k7⟩ := h.frame (fun c => c = P.p) (cell_hk wr P.p i v)
  have hs := h.st.setAt i v
  rw [he] at hs
  refine ⟨hs, by rw [hM.1]; exact k2 (fun e => a1.1 e.symm), by rw [hM.2.1]; exact k3 (fun e => a1.2.1 e.symm), by rw [hM.2.2.1]; exact k4 (fun e => a1.2.2.1 e.symm), by rw [hM.2.2.2]; exact k5 (fun e => a1.2.2.2 e.symm), hd.far (p := ⟨P.p, i, none⟩) (fun e => ?_) _, ho.far (p := ⟨P.p, i, none⟩) (fun e => ?_) _, h.n12, h.n13, h.n23, fun c hc => ?_, fun c hc => ?_, h.below.setCell (p := ⟨P.p, i, none⟩) h.lo.1 _, h.lo⟩
  · rcases hdo with e2 | e2 <;> rw [e2] at e
    · exact a3.1 e
    · cases e
  · rcases hoo with e2 | e2 <;> rw [e2] at e
    · exact a3.2.2.1 e
    · cases e
  · rcases hdo with e2 | e2 <;> rw [e2] at hc
    · obtain ⟨b1, b2, b3, b4⟩ := h.nd c hc
      refine ⟨b1, b2, b3, ?_⟩
      rcases hoo with e3 | e3 <;> rw [e3]
      · exact b4
      · simp
    · cases hc
  · rcases hoo with e2 | e2 <;> rw [e2] at hc
    · exact h.no c hc
    · cases hc
theorem Se.setMany (h : Se n b0 w wr P dv ov M) (x : Nat) {u : Int} (hu : u = (x : Int)) : Se n b0 w (wr.setCell ⟨P.p, 3, none⟩ (.int .i64 u)) P dv ov { M with many := x } := by
  subst hu
  exact h.setField 3 _ dv ov { M with many := x } rfl ⟨rfl, rfl, rfl, rfl⟩ h.dg h.og (.inl rfl) (.inl rfl)
theorem Se.setLeast (h : Se n b0 w wr P dv ov M) (x : Int) : Se n b0 w (wr.setCell ⟨P.p, 8, none⟩ (.int .i64 x)) P dv ov { M with least := x } :=
  h.setField 8 _ dv ov { M with least := x } rfl ⟨rfl, rfl, rfl, rfl⟩ h.dg h.og (.inl rfl) (.inl rfl)
theorem Ge.cut {w : World} {B g cap n : Nat} {l : List Nat} (h : Ge elI w B (.slice (some ⟨g, 0, none⟩) n cap) (ints l)) {k : Nat} (hk : k ≤ l.length) : Ge elI w B (.slice (some ⟨g, 0, none⟩) k cap) (ints (l.take k)) := by
  obtain ⟨h1, h2 | ⟨g', cap', cur, e, hB, hh, hc, hm, hs, ht⟩⟩ := h
  · cases h2.1
  · cases e
    have hs1 : elI.s = 1 := rfl
    rw [ints_length] at hc
    have hlt : (ints (l.take k)).length = k := by rw [ints_length, List.length_take]; omega
    refine ⟨rowE_length elI _, .inr ⟨g, cap, cur, by rw [hlt], hB, hh, by rw [hlt]; omega, hm, hs, ?_⟩⟩
    rw [hlt]
    have : rowE elI (ints (l.take k)) = (rowE elI (ints l)).take (k * elI.s) := by
      rw [rowI, rowI, hs1, Nat.mul_one, ← List.map_take, ints_take]
    rw [this, ← ht, List.take_take]
    congr 1
    rw [hs1, ints_length]; omega
/-- The way down is shortened. -/
theorem Se.cutDn {g cap m : Nat} (h : Se n b0 w wr P (.slice (some ⟨g, 0, none⟩) m cap) ov M) {k : Nat} (hk : k ≤ M.dn.length) : Se n b0 w (wr.setCell ⟨P.p, 5, none⟩ (.slice (some ⟨g, 0, none⟩) k cap)) P (.slice (some ⟨g, 0, none⟩) k cap) ov { M with dn := M.dn.take k } :=
  h.setField 5 _ _ ov { M with dn := M.dn.take k } rfl ⟨rfl, rfl, rfl, rfl⟩ (h.dg.cut hk) h.og (.inl rfl) (.inl rfl)
theorem Se.cutOp {g cap m : Nat} (h : Se n b0 w wr P dv (.slice (some ⟨g, 0, none⟩) m cap) M) {k : Nat} (hk : k ≤ M.op.length) : Se n b0 w (wr.setCell ⟨P.p, 6, none⟩ (.slice (some ⟨g, 0, none⟩) k cap)) P dv (.slice (some ⟨g, 0, none⟩) k cap) { M with op := M.op.take k } :=
  h.setField 6 _ dv _ { M with op := M.op.take k } rfl ⟨rfl, rfl, rfl, rfl⟩ h.dg (h.og.cut hk) (.inl rfl) (.inl rfl)
/-- The way down grows. -/
theorem Se.growDn {o : Obj} {w1 : World} {l : List Nat} (h : Se n b0 w wr P dv ov M) (hg : (wr.alloc o).grownBy w1 dv.ownBlock) (h1 : Ge elI w1 w.heap.size dv' (ints l)) (ho : dv'.ownBlock = dv.ownBlock ∨ dv'.ownBlock = some (wr.alloc o).heap.size) : Se n b0 w (w1.setCell ⟨P.p, 5, none⟩ dv') P dv' ov { M with dn := l } := by
  obtain ⟨a1, a2, a3⟩ := h.ne
  have hsz := h.below.size
  have hs1 : wr.heap.size ≤ w1.heap.size := by have := hg.size; simp at this; omega
  have hk : ∀ c, c < wr.heap.size → ¬ (dv.ownBlock = some c) → w1.heap[c]? = wr.heap[c]? := fun c hc hne => (hg.block c (by simp; omega) (fun e => hne e.symm)).trans (Below.heap_alloc _ _ _ hc)
  obtain ⟨k1, k2, k3, k4, k5, k6, k7⟩ := h.frame (fun c => dv.ownBlock = some c) hk
  have hlt : ∀ {g}, g < wr.heap.size → dv.ownBlock ≠ some g → dv'.ownBlock ≠ some g := fun {g} hg1 hne e => by
    rcases ho with e2 | e2
    · exact hne (e2.symm.trans e)
    · rw [e2] at e; have := Option.some.inj e; simp at this; omega
  have n0 : ∀ {g}, (∀ c, dv.ownBlock = some c → c ≠ g) → dv.ownBlock ≠ some g := fun {g} hh e => hh g e rfl
  have m1 := n0 (fun c hc => (h.nd c hc).1)
  have m2 := n0 (fun c hc => (h.nd c hc).2.1)
  have m3 := n0 (fun c hc => (h.nd c hc).2.2.1)
  have kov := k7 (fun c hc e => (h.nd c e).2.2.2 hc)
  have base : Se n b0 w w1 P dv' ov { M with dn := l } → False → True := fun _ _ => trivial
  have hst := (k1 a3.1).setAt 5 dv'
  refine ⟨hst, (k2 m1).other (p := ⟨P.p, 5, none⟩) (fun e => a1.1 e.symm) _, (k3 m2).other (p := ⟨P.p, 5, none⟩) (fun e => a1.2.1 e.symm) _, (k4 m3).other (p := ⟨P.p, 5, none⟩) (fun e => a1.2.2.1 e.symm) _, (k5 a3.2.1).other (p := ⟨P.p, 5, none⟩) (fun e => a1.2.2.2 e.symm) _, h1.far (p := ⟨P.p, 5, none⟩) (hlt h.st.lt a3.1) _, kov.far (p := ⟨P.p, 5, none⟩) a3.2.2.1 _, h.n12, h.n13, h.n23, fun c hc => ⟨fun e => hlt (Fv.lt h.ga) m1 (by rw [hc, e]), fun e => hlt (Fv.lt h.ca) m2 (by rw [hc, e]), fun e => hlt (Fv.lt h.ea) m3 (by rw [hc, e]), fun e => hlt (h.og.lt c e) (fun e2 => (h.nd c e2).2.2.2 e) hc⟩, h.no, ?_, h.lo⟩
  exact ((h.below.alloc hsz o).trans ((Below.refl _ _).grown hg (by simp; omega) (fun b hb => by have := h.dg.block b hb; omega))).setCell (p := ⟨P.p, 5, none⟩) h.lo.1 _
/-- The open ones grow. -/
theorem Se.growOp {o : Obj} {w1 : World} {l : List Nat} (h : Se n b0 w wr P dv ov M) (hg : (wr.alloc o).grownBy w1 ov.ownBlock) (h1 : Ge elI w1 w.heap.size ov' (ints l)) (ho : ov'.ownBlock = ov.ownBlock ∨ ov'.ownBlock = some (wr.alloc o).heap.size) : Se n b0 w (w1.setCell ⟨P.p, 6, none⟩ ov') P dv ov' { M with op := l } := by
  obtain ⟨a1, a2, a3⟩ := h.ne
  have hsz := h.below.size
  have hs1 : wr.heap.size ≤ w1.heap.size := by have := hg.size; simp at this; omega
  have hk : ∀ c, c < wr.heap.size → ¬ (ov.ownBlock = some c) → w1.heap[c]? = wr.heap[c]? := fun c hc hne => (hg.block c (by simp; omega) (fun e => hne e.symm)).trans (Below.heap_alloc _ _ _ hc)
  obtain ⟨k1, k2, k3, k4, k5, k6, k7⟩ := h.frame (fun c => ov.ownBlock = some c) hk
  have hlt : ∀ {g}, g < wr.heap.size → ov.ownBlock ≠ some g → ov'.ownBlock ≠ some g := fun {g} hg1 hne e => by
    rcases ho with e2 | e2
    · exact hne (e2.symm.trans e)
    · rw [e2] at e; have := Option.some.inj e; simp at this; omega
  have n0 : ∀ {g}, (∀ c, ov.ownBlock = some c → c ≠ g) → ov.ownBlock ≠ some g := fun {g} hh e => hh g e rfl
  have m1 := n0 (fun c hc => (h.no c hc).1)
  have m2 := n0 (fun c hc => (h.no c hc).2.1)
  have m3 := n0 (fun c hc => (h.no c hc).2.2)
  have kdv := k6 (fun c hc e => (h.nd c hc).2.2.2 e)
  have hst := (k1 a3.2.2.1).setAt 6 ov'
  refine ⟨hst, (k2 m1).other (p := ⟨P.p, 6, none⟩) (fun e => a1.1 e.symm) _, (k3 m2).other (p := ⟨P.p, 6, none⟩) (fun e => a1.2.1 e.symm) _, (k4 m3).other (p := ⟨P.p, 6, none⟩) (fun e => a1.2.2.1 e.symm) _, (k5 a3.2.2.2).other (p := ⟨P.p, 6, none⟩) (fun e => a1.2.2.2 e.symm) _, kdv.far (p := ⟨P.p, 6, none⟩) a3.1 _, h1.far (p := ⟨P.p, 6, none⟩) (hlt h.st.lt a3.2.2.1) _, h.n12, h.n13, h.n23, fun c hc => ⟨(h.nd c hc).1, (h.nd c hc).2.1, (h.nd c hc).2.2.1, fun e => hlt (h.dg.lt c hc) (h.nd c hc).2.2.2 e⟩, fun c hc => ⟨fun e => hlt (Fv.lt h.ga) m1 (by rw [hc, e]), fun e => hlt (Fv.lt h.ca) m2 (by rw [hc, e]), fun e => hlt (Fv.lt h.ea) m3 (by rw [hc, e])⟩, ?_, h.lo⟩
  exact ((h.below.alloc hsz o).trans ((Below.refl _ _).grown hg (by simp; omega) (fun b hb => by have := h.og.block b hb; omega))).setCell (p := ⟨P.p, 6, none⟩) h.lo.1 _
theorem Se.drw (h : Se n b0 w wr P dv ov M) (k : Nat) : Se n b0 w (wr.drewN k) P dv ov M := by
  have hb : Below wr.heap.size wr (wr.drewN k) := below_drewN (Below.refl _ _) _
  exact ⟨h.st.after hb, Fv.after hb h.ga, Fv.after hb h.ca, Fv.after hb h.ea, Fv.after hb h.ia, h.dg.after hb, h.og.after hb, h.n12, h.n13, h.n23, h.nd, h.no, step h.below hb, h.lo⟩
theorem Se.drew1 (h : Se n b0 w wr P dv ov M) : Se n b0 w wr.drew P dv ov M := by
  have hb : Below wr.heap.size wr wr.drew := (Below.refl _ _).drew
  exact ⟨h.st.after hb, Fv.after hb h.ga, Fv.after hb h.ca, Fv.after hb h.ea, Fv.after hb h.ia, h.dg.after hb, h.og.after hb, h.n12, h.n13, h.n23, h.nd, h.no, step h.below hb, h.lo⟩
theorem Se.stD {o : Obj} {w1 : World} (h : Se n b0 w wr P dv ov M) (hg : (wr.alloc o).grownBy w1 dv.ownBlock) : Va w1 P.p 58 (seCells n b0 P dv ov M) :=
  (hg.block _ (by have := h.st.lt; simp; omega) (fun e => h.ne.2.2.1 e.symm)).trans (h.st.old o)
theorem Se.stO {o : Obj} {w1 : World} (h : Se n b0 w wr P dv ov M) (hg : (wr.alloc o).grownBy w1 ov.ownBlock) : Va w1 P.p 58 (seCells n b0 P dv ov M) :=
  (hg.block _ (by have := h.st.lt; simp; omega) (fun e => h.ne.2.2.2.2.1 e.symm)).trans (h.st.old o)
theorem Va.at {w : World} {b : Nat} {t : TypeId} {cs : Array Value} (h : Va w b t cs) (i : Nat) (v : Value) (hi : cs[i]? = some v) : w.cell? ⟨b, i, none⟩ = some v := by rw [h.cellAt i, hi]
/-- A number's block, just made, as a list. -/
theorem Le.tmp (W : World) (x : Int) {k : Nat} (hk : k = W.heap.size) : Le elI (W.alloc (.cells #[.int .i64 x] 3)) (some ⟨k, 0, none⟩) 1 [x] := by
  subst hk
  exact Le.one (Va.new W _ _) rfl
theorem Se.fld (h : Se n b0 w wr P dv ov M) (i : Nat) (v : Value) (hi : (seCells n b0 P dv ov M)[i]? = some v) : wr.cell? ⟨P.p, i, none⟩ = some v := by rw [h.st.cellAt i, hi]
theorem Se.f0 (h : Se n b0 w wr P dv ov M) : wr.cell? ⟨P.p, 0, none⟩ = some (.slice (some ⟨b0, 0, none⟩) n n) := h.fld 0 _ rfl
theorem Se.f1 (h : Se n b0 w wr P dv ov M) : wr.cell? ⟨P.p, 1, none⟩ = some (.slice (some ⟨P.gg, 0, none⟩) n n) := h.fld 1 _ rfl
theorem Se.f2 (h : Se n b0 w wr P dv ov M) : wr.cell? ⟨P.p, 2, none⟩ = some (.slice (some ⟨P.gc, 0, none⟩) n n) := h.fld 2 _ rfl
theorem Se.f3 (h : Se n b0 w wr P dv ov M) : wr.cell? ⟨P.p, 3, none⟩ = some (.int .i64 (M.many : Int)) := h.fld 3 _ rfl
theorem Se.f4 (h : Se n b0 w wr P dv ov M) : wr.cell? ⟨P.p, 4, none⟩ = some (.slice (some ⟨P.ge, 0, none⟩) n n) := h.fld 4 _ rfl
theorem Se.f5 (h : Se n b0 w wr P dv ov M) : wr.cell? ⟨P.p, 5, none⟩ = some (dv) := h.fld 5 _ rfl
theorem Se.f6 (h : Se n b0 w wr P dv ov M) : wr.cell? ⟨P.p, 6, none⟩ = some (ov) := h.fld 6 _ rfl
theorem Se.f7 (h : Se n b0 w wr P dv ov M) : wr.cell? ⟨P.p, 7, none⟩ = some (.slice (some ⟨P.gi, 0, none⟩) n n) := h.fld 7 _ rfl
theorem Se.f8 (h : Se n b0 w wr P dv ov M) : wr.cell? ⟨P.p, 8, none⟩ = some (.int .i64 M.least) := h.fld 8 _ rfl
end Go.Proofs.Ytonhooaboieapaa
