/-
  traits: opposite, bothForms.
-/
import Derived.Test.YtcfjgebfjgkmnaaGreatDoorTra
namespace Go.Proofs.YtcfjgebfjgkmnaaGreatDoor
open Go.RowKit Go.Shelf
set_option linter.unusedVariables false

/-- Two forms in memory, from the block B on. -/
def FmR (B : Nat) (W : World) (x : Fm) (y n : List Nd) : Prop := Ge elN W B (.slice x.ya x.yl x.yc) y ∧ Ge elN W B (.slice x.na x.nl x.nc) n
theorem Ge.blk {w : World} {B g n cap : Nat} {xs : List Nd} (h : Ge elN w B (.slice (some ⟨g, 0, none⟩) n cap) xs) : B ≤ g ∧ ∃ cur, w.heap[g]? = some (.cells cur 38 (0, 0)) := by
  obtain ⟨h1, h2 | ⟨g', cap', cur, e, hB, hh, r⟩⟩ := h
  · cases h2.1
  · cases e; exact ⟨hB, cur, hh⟩
/-- Rows of nodes from B on are kept. -/
def KpN (B : Nat) (W W' : World) : Prop := ∀ g cur, B ≤ g → W.heap[g]? = some (.cells cur 38 (0, 0)) → W'.heap[g]? = W.heap[g]?
theorem Ge.kp {W W' : World} {B : Nat} {v : Value} {xs : List Nd} (h : Ge elN W B v xs) (hk : KpN B W W') : Ge elN W' B v xs := by
  obtain ⟨h1, h2 | ⟨g, cap, cur, e, hB, hh, r⟩⟩ := h
  · exact ⟨h1, .inl h2⟩
  · exact ⟨h1, .inr ⟨g, cap, cur, e, hB, by rw [hk g cur hB hh]; exact hh, r⟩⟩
theorem FmR.kp {W W' : World} {B : Nat} {x : Fm} {y n : List Nd} (h : FmR B W x y n) (hk : KpN B W W') : FmR B W' x y n := ⟨h.1.kp hk, h.2.kp hk⟩
theorem kp_below {B : Nat} {W W' : World} (h : Below W.heap.size W W') : KpN B W W' := fun g cur _ hh => h.block g (Array.getElem?_eq_some_iff.1 hh).1
theorem kp_gr {B g0 : Nat} {W W' : World} (h : W.grownBy W' (some g0)) (hB : g0 < B) : KpN B W W' := fun g cur hg hh => h.block g (Array.getElem?_eq_some_iff.1 hh).1 (fun e => by cases e; omega)
theorem kp_own {α : Type} {E : El α} {B B' : Nat} {W W' : World} {v : Value} {xs : List α} (h : W.grownBy W' v.ownBlock) (hg : Ge E W B' v xs) (ht : E.te ≠ 38) : KpN B W W' := fun g cur _ hh => h.block g (Array.getElem?_eq_some_iff.1 hh).1 (fun e => by
  obtain ⟨h1, h2 | ⟨g', cap, cur', e', hB, hh', r⟩⟩ := hg
  · rw [h2.1] at e; cases e
  · rw [e'] at e
    cases e
    rw [hh] at hh'
    simp only [Option.some.injEq, Obj.cells.injEq] at hh'
    exact ht hh'.2.1.symm)
theorem kp_trans {B : Nat} {a b c : World} (h : KpN B a b) (k : KpN B b c) : KpN B a c := fun g cur hg hh => by
  have e := h g cur hg hh
  rw [k g cur hg (by rw [e]; exact hh), e]
/-- Forms in a list. -/
def FmL (B : Nat) (W : World) (xs : List Fm) (ys ns : List (List Nd)) : Prop := ys.length = xs.length ∧ ns.length = xs.length ∧ ∀ i, i < xs.length → FmR B W (xs.getD i fm0) (ys.getD i []) (ns.getD i [])
theorem FmL.kp {W W' : World} {B : Nat} {xs : List Fm} {ys ns : List (List Nd)} (h : FmL B W xs ys ns) (hk : KpN B W W') : FmL B W' xs ys ns := ⟨h.1, h.2.1, fun i hi => (h.2.2 i hi).kp hk⟩
theorem getD_app {α : Type} (l : List α) (x d : α) (i : Nat) (h : i < (l ++ [x]).length) : (l ++ [x]).getD i d = if i < l.length then l.getD i d else x := by
  rw [List.length_append, List.length_singleton] at h
  split
  · rename_i h'
    rw [List.getD_eq_getElem?_getD, List.getElem?_append_left h', ← List.getD_eq_getElem?_getD]
  · rename_i h'
    obtain rfl : i = l.length := by omega
    simp
theorem FmL.snoc {W : World} {B : Nat} {xs : List Fm} {ys ns : List (List Nd)} {x : Fm} {y n : List Nd} (h : FmL B W xs ys ns) (k : FmR B W x y n) : FmL B W (xs ++ [x]) (ys ++ [y]) (ns ++ [n]) := by
  refine ⟨by simp [h.1], by simp [h.2.1], fun i hi => ?_⟩
  rw [getD_app _ _ _ _ hi, getD_app _ _ _ _ (by simp [h.1] at hi ⊢; omega), getD_app _ _ _ _ (by simp [h.2.1] at hi ⊢; omega), h.1, h.2.1]
  split
  · exact h.2.2 i (by assumption)
  · exact k
theorem fl_head (neg : Bool) : ∀ (a : Fo) (o : Int) (d : Nat), a.Ok wdB o (d + 1) → ∀ l ∈ a.fl neg, ∃ m j, l = (Fo.cons m j .nil).flat ∧ (Fo.cons m j .nil).Ok wdB 0 d
  | .nil, _, _, _, l, hl => by simp [Fo.fl] at hl
  | .cons n k r, o, d, h, l, hl => by
    simp only [Fo.fl, List.mem_cons] at hl
    rcases hl with rfl | hl
    · have h1 : (Fo.cons n k .nil).Ok wdB o (d + 1) := ⟨h.1, trivial⟩
      have h2 := plain_len _ neg _ _ h1
      have h3 := plain_ok _ neg o d (h1.mono (by cases neg <;> simp))
      match e : (Fo.cons n k .nil).plain neg, h2 with
      | .cons m j .nil, _ => exact ⟨m, j, rfl, by rw [e] at h3; exact h3⟩
    · exact fl_head neg r o d h.2 l hl
theorem kdR_of {B : Nat} {W : World} {xs : List Fm} {k : Fo} {o : Int} {d : Nat} (hok : k.Ok wdB o (d + 1)) (h64 : k.flat.length ≤ 64) (h : FmL B W xs (k.fl false) (k.fl true)) (neg : Bool) (c : Int) (hc : c = 1 ∨ c = 2) : ∀ i, i < xs.length → KdR W neg c (xs.getD i fm0) ((k.fl neg).getD i []) := by
  intro i hi
  have hr := h.2.2 i hi
  have hl : (k.fl neg).length = xs.length := by cases neg; exact h.1; exact h.2.1
  have hg : Ge elN W B (.slice ((xs.getD i fm0).ad neg) ((xs.getD i fm0).ln neg) ((xs.getD i fm0).cp neg)) ((k.fl neg).getD i []) := by
    cases neg
    · exact hr.1
    · exact hr.2
  have hmem : (k.fl neg).getD i [] ∈ k.fl neg := by
    rw [List.getD_eq_getElem?_getD, List.getElem?_eq_getElem (by omega)]; exact List.getElem_mem _
  obtain ⟨m, j, e, ok⟩ := fl_head neg k o d hok _ hmem
  have hsz := (fl_ne (W := wdB) neg k o (d + 1) hok _ hmem).2
  obtain ⟨a', cap', e', h1, h2, h3⟩ := hg.shape
  have hle := hg.toLe
  generalize (k.fl neg).getD i [] = t at *
  simp only [Value.slice.injEq] at e'
  refine ⟨e'.2.1, by rw [e'.2.2]; exact h1, by rw [e'.2.2]; exact h2, by rw [e'.2.1] at hle; exact hle, by rw [e]; simp [Fo.flat], by omega, fun hk => ?_⟩
  rw [e] at hk ⊢
  have hj := Fo.len_flat j
  have hh : ((Fo.cons m j .nil).flat.headD nd0) = m := rfl
  rw [hh] at hk ⊢
  have hks := ok.1.2.2.2.1
  have h5 : (Fo.cons m j .nil).flat.length = j.flat.length + 1 := by simp [Fo.flat]
  rw [e, h5] at hsz
  have h6 : 2 ≤ m.ks := by
    rcases ok.1.1 with ⟨-, h, -⟩ | ⟨h, -⟩ | ⟨h | h, -⟩ | ⟨h | h, -⟩
    · exact h
    all_goals omega
  rw [h5]
  exact ⟨by omega, by omega, by omega⟩
theorem two_new (W2 : World) (s : Nat) (hs : W2.heap.size = s) (t1 : TypeId) (c1 : Array Value) (t2 : TypeId) (c2 : Array Value) : Va ((W2.alloc (.cells c1 t1)).alloc (.cells c2 t2)) s t1 c1 ∧ Va ((W2.alloc (.cells c1 t1)).alloc (.cells c2 t2)) (s + 1) t2 c2 := by
  subst hs
  exact ⟨(Va.new W2 t1 c1).old _, by have := Va.new (W2.alloc (.cells c1 t1)) t2 c2; rwa [World.size_alloc] at this⟩
theorem stn3 {W : World} {b : Nat} {t : TypeId} {x0 x1 x2 x3 x4 x5 : Value} (h : Va W b t #[x0, x1, x2, x3, x4, x5]) (y : Value) {Q : World → Prop}
    (k : ∀ V, Va V b t #[x0, x1, x2, y, x4, x5] → W.grownBy V (some b) → V.heap.size = W.heap.size → Q V) : Q (W.setCell ⟨b, 3, none⟩ y) :=
  k _ (by
    unfold Va at *
    simp only [World.setCell]
    rw [Array.getElem?_modify, if_pos rfl, h]
    simp) (gr_set (gr_refl W b) 3 y) (by simp [World.setCell])
theorem fa2b (w : World) (b : Nat) (x y : Value) : ∀ c, c ≠ b → ((w.setCell ⟨b, 0, none⟩ x).setCell ⟨b, 1, none⟩ y).heap[c]? = w.heap[c]? := fun c hc => (Below.heap_setCell _ ⟨b, 1, none⟩ _ _ hc).trans (Below.heap_setCell _ ⟨b, 0, none⟩ _ _ hc)
theorem cell_far2 (w : World) {b c : Nat} (h : c ≠ b) (i : Nat) (x y : Value) : ((w.setCell ⟨b, 0, none⟩ x).setCell ⟨b, 1, none⟩ y).cell? ⟨c, i, none⟩ = w.cell? ⟨c, i, none⟩ := by
  simp only [World.cell?, fa2b w b x y c h]
/-- What bothForms ends with. -/
def BfE (B : Nat) (n : Nd) (ys ns : List (List Nd)) (w : World) (e : Ending) (w' : World) : Prop := ∃ x : Fm, e = .returned (fmv x) ∧ FmR B w' x (frm n ys ns false) (frm n ys ns true) ∧ Below w.heap.size w w'
end Go.Proofs.YtcfjgebfjgkmnaaGreatDoor
