import Derived.Test.YtngichjgfppnpaaGreatDoorMgAa
import Derived.Test.YtngichjgfppnpaaGreatDoorMgAf
import Derived.Test.YtngichjgfppnpaaGreatDoorMgAk
import Derived.Test.YtngichjgfppnpaaGreatDoorMgAj
namespace Go.Proofs.YtngichjgfppnpaaGreatDoor
open Go.RowKit Go.Shelf
set_option linter.unusedVariables false
set_option maxRecDepth 20000

structure Rc where
  s : Bool
  a : Option Addr
  l : Nat
  c : Nat
  z : List Int
  b : Option Addr
  m : Nat
  d : Nat
  y : List Int
def Rc.nil : Rc := ⟨false, none, 0, 0, [], none, 0, 0, []⟩
abbrev Rc.vs (r : Rc) : List Value := [.bool r.s, .slice r.a r.l r.c, .slice r.b r.m r.d]
abbrev Rc.v (r : Rc) : Value := .agg #[.bool r.s, .slice r.a r.l r.c, .slice r.b r.m r.d]
def Rv (w : World) (r : Rc) (v : Rat) : Prop := Rt w r.s r.a r.l r.c r.z r.b r.m r.d r.y v
theorem Rv.after {w w' : World} (hb : Below w.heap.size w w') {r : Rc} {v : Rat} (h : Rv w r v) : Rv w' r v := Rt.after hb h
theorem Rv.drw {w : World} {r : Rc} {v : Rat} (h : Rv w r v) : Rv w.drew r v := h
theorem Rv.nil (w : World) : Rv w Rc.nil 0 := Rt.nil w
def Rd2 (w : World) (r : Rc) : Prop := Ri w r.a r.l r.c r.z r.b r.m r.d r.y
theorem Rd2.after {w w' : World} (hb : Below w.heap.size w w') {r : Rc} (h : Rd2 w r) : Rd2 w' r := Ri.after hb h
theorem Rd2.drw {w : World} {r : Rc} (h : Rd2 w r) : Rd2 w.drew r := Ri.drw h
abbrev Pc := Rc × Rc
abbrev Pc.vs (p : Pc) : List Value := [.bool p.1.s, .slice p.1.a p.1.l p.1.c, .slice p.1.b p.1.m p.1.d, .bool p.2.s, .slice p.2.a p.2.l p.2.c, .slice p.2.b p.2.m p.2.d]
abbrev Pc.v (p : Pc) : Value := .agg #[.bool p.1.s, .slice p.1.a p.1.l p.1.c, .slice p.1.b p.1.m p.1.d, .bool p.2.s, .slice p.2.a p.2.l p.2.c, .slice p.2.b p.2.m p.2.d]
theorem infoSt : (Tryz.prog.info? 78).map (fun i => (i.zero, i.size, i.bytes)) = some (some (.agg #[.bool false, .slice none 0 0, .slice none 0 0, .bool false, .slice none 0 0, .slice none 0 0]), 6, 112) := by kernel_rfl
theorem infoPi : (Tryz.prog.info? 75).map (fun i => (i.zero, i.size, i.bytes)) = some (some (.agg #[.bool false, .slice none 0 0, .slice none 0 0, .bool false, .slice none 0 0, .slice none 0 0]), 6, 112) := by kernel_rfl
theorem Pc.one (x : Pc) (v : Value) (hv : v ∈ Pc.vs x) : v.oneCell' = true := by
  simp at hv
  rcases hv with rfl | rfl | rfl | rfl | rfl | rfl <;> rfl
def elT : El Pc where
  enc := Pc.vs
  dft := (Rc.nil, Rc.nil)
  te := 78
  tl := 46
  z := .agg #[.bool false, .slice none 0 0, .slice none 0 0, .bool false, .slice none 0 0, .slice none 0 0]
  s := 6
  by8 := 112
  len := fun _ => rfl
  one := Pc.one
  pos := by decide
  und := Tryz.underlying46
  inf := infoSt
  zs := rfl
  bt := by decide
def elP : El Pc where
  enc := Pc.vs
  dft := (Rc.nil, Rc.nil)
  te := 75
  tl := 39
  z := .agg #[.bool false, .slice none 0 0, .slice none 0 0, .bool false, .slice none 0 0, .slice none 0 0]
  s := 6
  by8 := 112
  len := fun _ => rfl
  one := Pc.one
  pos := by decide
  und := Tryz.underlying39
  inf := infoPi
  zs := rfl
  bt := by decide
theorem Va.e0 {w : World} {b : Nat} {t : TypeId} {u v x y z q : Value} (h : Va w b t #[u, v, x, y, z, q]) : w.cell? ⟨b, 0, none⟩ = some u := by rw [h.cellAt 0]; rfl
theorem Va.e1 {w : World} {b : Nat} {t : TypeId} {u v x y z q : Value} (h : Va w b t #[u, v, x, y, z, q]) : w.cell? ⟨b, 1, none⟩ = some v := by rw [h.cellAt 1]; rfl
theorem Va.e2 {w : World} {b : Nat} {t : TypeId} {u v x y z q : Value} (h : Va w b t #[u, v, x, y, z, q]) : w.cell? ⟨b, 2, none⟩ = some x := by rw [h.cellAt 2]; rfl
theorem Va.e3 {w : World} {b : Nat} {t : TypeId} {u v x y z q : Value} (h : Va w b t #[u, v, x, y, z, q]) : w.cell? ⟨b, 3, none⟩ = some y := by rw [h.cellAt 3]; rfl
theorem Va.e4 {w : World} {b : Nat} {t : TypeId} {u v x y z q : Value} (h : Va w b t #[u, v, x, y, z, q]) : w.cell? ⟨b, 4, none⟩ = some z := by rw [h.cellAt 4]; rfl
theorem Va.e5 {w : World} {b : Nat} {t : TypeId} {u v x y z q : Value} (h : Va w b t #[u, v, x, y, z, q]) : w.cell? ⟨b, 5, none⟩ = some q := by rw [h.cellAt 5]; rfl
structure At6 (w : World) (b k : Nat) (p : Pc) : Prop where
  c0 : w.cell? ⟨b, k, none⟩ = some (.bool p.1.s)
  c1 : w.cell? ⟨b, k + 1, none⟩ = some (.slice p.1.a p.1.l p.1.c)
  c2 : w.cell? ⟨b, k + 2, none⟩ = some (.slice p.1.b p.1.m p.1.d)
  c3 : w.cell? ⟨b, k + 3, none⟩ = some (.bool p.2.s)
  c4 : w.cell? ⟨b, k + 4, none⟩ = some (.slice p.2.a p.2.l p.2.c)
  c5 : w.cell? ⟨b, k + 5, none⟩ = some (.slice p.2.b p.2.m p.2.d)
theorem cell_after {w w' : World} (hb : Below w.heap.size w w') {b i : Nat} {v : Value} (h : w.cell? ⟨b, i, none⟩ = some v) : w'.cell? ⟨b, i, none⟩ = some v := by
  have hlt := cell_lt h
  simp only [World.cell?] at h ⊢
  rw [hb.block b hlt]; exact h
theorem At6.after {w w' : World} (hb : Below w.heap.size w w') {b k : Nat} {p : Pc} (h : At6 w b k p) : At6 w' b k p := ⟨cell_after hb h.c0, cell_after hb h.c1, cell_after hb h.c2, cell_after hb h.c3, cell_after hb h.c4, cell_after hb h.c5⟩
theorem At6.drw {w : World} {b k : Nat} {p : Pc} (h : At6 w b k p) : At6 w.drew b k p := ⟨h.c0, h.c1, h.c2, h.c3, h.c4, h.c5⟩
theorem cell_far {w w' : World} {b i b' : Nat} {v : Value} (h : w.cell? ⟨b, i, none⟩ = some v) (k : ∀ c, c ≠ b' → w'.heap[c]? = w.heap[c]?) (hb : b ≠ b') : w'.cell? ⟨b, i, none⟩ = some v := by
  simp only [World.cell?] at h ⊢
  rw [k b hb]; exact h
theorem At6.far {w w' : World} {b i b' : Nat} {p : Pc} (h : At6 w b i p) (k : ∀ c, c ≠ b' → w'.heap[c]? = w.heap[c]?) (hb : b ≠ b') : At6 w' b i p := ⟨cell_far h.c0 k hb, cell_far h.c1 k hb, cell_far h.c2 k hb, cell_far h.c3 k hb, cell_far h.c4 k hb, cell_far h.c5 k hb⟩
theorem Le.six {E : El Pc} (hE : E.s = 6) (he : E.enc = Pc.vs) {w : World} {b off n : Nat} {xs : List Pc} (h : Le E w (some ⟨b, off, none⟩) n xs) (i : Nat) (hi : i < n) : At6 w b (off + i * 6) (xs.getD i E.dft) := by
  have q : ∀ j u, (E.enc (xs.getD i E.dft))[j]? = some u → w.cell? ⟨b, off + i * 6 + j, none⟩ = some u := fun j u hj => by
    have := h.at i hi j u hj
    rw [hE] at this
    rw [Nat.add_assoc]
    exact this
  rw [he] at q
  exact ⟨q 0 _ rfl, q 1 _ rfl, q 2 _ rfl, q 3 _ rfl, q 4 _ rfl, q 5 _ rfl⟩
def Ss (w : World) (xs : List Pc) (l : List Pq) : Prop := xs.length = l.length ∧ ∀ i, i < l.length → Rv w (xs.getD i (Rc.nil, Rc.nil)).1 (aq l i) ∧ Rv w (xs.getD i (Rc.nil, Rc.nil)).2 (rq l i)
theorem Ss.after {w w' : World} (hb : Below w.heap.size w w') {xs : List Pc} {l : List Pq} (h : Ss w xs l) : Ss w' xs l := ⟨h.1, fun i hi => ⟨(h.2 i hi).1.after hb, (h.2 i hi).2.after hb⟩⟩
theorem Ss.drw {w : World} {xs : List Pc} {l : List Pq} (h : Ss w xs l) : Ss w.drew xs l := h
def Bk {α : Type} (E : El α) (w : World) (g : Nat) (xs : List α) : Prop := Va w g E.te (rowE E xs).toArray
theorem Bk.le {α : Type} {E : El α} {w : World} {g : Nat} {xs : List α} (h : Bk E w g xs) : Le E w (some ⟨g, 0, none⟩) xs.length xs :=
  ⟨rfl, fun _ => ⟨g, 0, rfl, fun i u hu => by rw [Nat.zero_add, Va.cellAt h i]; simpa using hu⟩⟩
theorem Bk.ge {α : Type} {E : El α} {w : World} {g n B : Nat} {xs : List α} (h : Bk E w g xs) (hn : xs.length = n) (hB : B ≤ g) (hm : n ≤ maxLen) : Ge E w B (.slice (some ⟨g, 0, none⟩) n n) xs := Ge.of h hB hn rfl hm
theorem Bk.after {α : Type} {E : El α} {w w' : World} (hb : Below w.heap.size w w') {g : Nat} {xs : List α} (h : Bk E w g xs) : Bk E w' g xs := Va.after hb h
theorem Bk.drw {α : Type} {E : El α} {w : World} {g : Nat} {xs : List α} (h : Bk E w g xs) : Bk E w.drew g xs := h
theorem row_noInt {E : El Pc} (he : E.enc = Pc.vs) (xs : List Pc) : NoInt (rowE E xs).toArray := by
  intro i z h
  have h1 : (rowE E xs)[i]? = some (.int .u64 z) := by simpa using h
  have h2 := List.mem_of_getElem? h1
  simp only [rowE, List.mem_flatMap] at h2
  obtain ⟨x, -, hx⟩ := h2
  rw [he] at hx
  simp at hx
theorem set6 {E : El Pc} (hE : E.s = 6) (p : Pc) (he : E.enc = Pc.vs) : ∀ (xs : List Pc) (k : Nat), k < xs.length →
    ((((((rowE E xs).set (k * 6) (.bool p.1.s)).set (k * 6 + 1) (.slice p.1.a p.1.l p.1.c)).set (k * 6 + 2) (.slice p.1.b p.1.m p.1.d)).set (k * 6 + 3) (.bool p.2.s)).set (k * 6 + 4) (.slice p.2.a p.2.l p.2.c)).set (k * 6 + 5) (.slice p.2.b p.2.m p.2.d) = rowE E (xs.set k p)
  | [], k, h => by simp at h
  | x :: xs, 0, h => by simp [rowE_cons, he]
  | x :: xs, k + 1, h => by
    have ih := set6 hE p he xs k (by simpa using h)
    have hl : (E.enc x).length = 6 := by rw [E.len, hE]
    rw [rowE_cons, List.set_cons_succ, rowE_cons, ← ih]
    have e : ∀ j, (k + 1) * 6 + j = 6 + (k * 6 + j) := fun j => by omega
    rw [show (k + 1) * 6 = 6 + k * 6 by omega]
    simp only [Nat.add_assoc]
    simp only [List.set_append_right _ _ (show (E.enc x).length ≤ 6 + (k * 6) by omega), List.set_append_right _ _ (show (E.enc x).length ≤ 6 + (k * 6 + 1) by omega), List.set_append_right _ _ (show (E.enc x).length ≤ 6 + (k * 6 + 2) by omega), List.set_append_right _ _ (show (E.enc x).length ≤ 6 + (k * 6 + 3) by omega), List.set_append_right _ _ (show (E.enc x).length ≤ 6 + (k * 6 + 4) by omega), List.set_append_right _ _ (show (E.enc x).length ≤ 6 + (k * 6 + 5) by omega)]
    rw [hl]
    simp only [Nat.add_sub_cancel_left]
theorem Va.setAt {w : World} {b i : Nat} {t : TypeId} {cs : List Value} (h : Va w b t cs.toArray) (v : Value) : Va (w.setCell ⟨b, i, none⟩ v) b t (cs.set i v).toArray := by
  unfold Va at *
  simp only [World.setCell]
  rw [Array.getElem?_modify, if_pos rfl, h]
  simp
theorem setAt_other (w : World) (b i : Nat) (v : Value) : ∀ c, c ≠ b → (w.setCell ⟨b, i, none⟩ v).heap[c]? = w.heap[c]? := fun c hc => Below.heap_setCell _ ⟨b, i, none⟩ _ _ hc
theorem Bk.at6 {E : El Pc} (hE : E.s = 6) (he : E.enc = Pc.vs) {w : World} {g : Nat} {xs : List Pc} (h : Bk E w g xs) (i : Nat) (hi : i < xs.length) : At6 w g (i * 6) (xs.getD i E.dft) := by
  have := h.le.six hE he i hi
  rwa [Nat.zero_add] at this
def put6 (w : World) (g k : Nat) (p : Pc) : World := (((((w.setCell ⟨g, k * 6, none⟩ (.bool p.1.s)).setCell ⟨g, k * 6 + 1, none⟩ (.slice p.1.a p.1.l p.1.c)).setCell ⟨g, k * 6 + 2, none⟩ (.slice p.1.b p.1.m p.1.d)).setCell ⟨g, k * 6 + 3, none⟩ (.bool p.2.s)).setCell ⟨g, k * 6 + 4, none⟩ (.slice p.2.a p.2.l p.2.c)).setCell ⟨g, k * 6 + 5, none⟩ (.slice p.2.b p.2.m p.2.d)
theorem put6_other (w : World) (g k : Nat) (p : Pc) : ∀ c, c ≠ g → (put6 w g k p).heap[c]? = w.heap[c]? := fun c hc => by
  unfold put6
  rw [setAt_other _ _ _ _ c hc, setAt_other _ _ _ _ c hc, setAt_other _ _ _ _ c hc, setAt_other _ _ _ _ c hc, setAt_other _ _ _ _ c hc, setAt_other _ _ _ _ c hc]
theorem Bk.put6 {E : El Pc} (hE : E.s = 6) (he : E.enc = Pc.vs) {w : World} {g k : Nat} {xs : List Pc} (h : Bk E w g xs) (hk : k < xs.length) (p : Pc) : Bk E (put6 w g k p) g (xs.set k p) := by
  have := ((((((Va.setAt (i := k * 6) (show Va w g E.te (rowE E xs).toArray from h) (.bool p.1.s)).setAt (i := k * 6 + 1) (.slice p.1.a p.1.l p.1.c)).setAt (i := k * 6 + 2) (.slice p.1.b p.1.m p.1.d)).setAt (i := k * 6 + 3) (.bool p.2.s)).setAt (i := k * 6 + 4) (.slice p.2.a p.2.l p.2.c)).setAt (i := k * 6 + 5) (.slice p.2.b p.2.m p.2.d))
  rw [set6 hE p he xs k hk] at this
  exact this
theorem put6_below {B : Nat} {a w : World} (h : Below B a w) {g : Nat} (hg : B ≤ g) (k : Nat) (p : Pc) : Below B a (put6 w g k p) :=
  (((((h.setCell (p := ⟨g, k * 6, none⟩) hg _).setCell (p := ⟨g, k * 6 + 1, none⟩) hg _).setCell (p := ⟨g, k * 6 + 2, none⟩) hg _).setCell (p := ⟨g, k * 6 + 3, none⟩) hg _).setCell (p := ⟨g, k * 6 + 4, none⟩) hg _).setCell (p := ⟨g, k * 6 + 5, none⟩) hg _
theorem Rv.put6 {E : El Pc} (he : E.enc = Pc.vs) {w : World} {r : Rc} {v : Rat} (h : Rv w r v) {g k : Nat} {xs : List Pc} (hb : Bk E w g xs) (p : Pc) : Rv (put6 w g k p) r v := Rt.far h hb (row_noInt he xs) (put6_other w g k p)
def Rn (w : World) (r : Rc) (v : Rat) : Prop := Rr w r.s r.a r.l r.c r.z r.b r.m r.d r.y v
theorem Rn.after {w w' : World} (hb : Below w.heap.size w w') {r : Rc} {v : Rat} (h : Rn w r v) : Rn w' r v := Rr.after hb h
theorem Rn.drw {w : World} {r : Rc} {v : Rat} (h : Rn w r v) : Rn w.drew r v := h
theorem Rn.put6 {E : El Pc} (he : E.enc = Pc.vs) {w : World} {r : Rc} {v : Rat} (h : Rn w r v) {g k : Nat} {xs : List Pc} (hb : Bk E w g xs) (p : Pc) : Rn (put6 w g k p) r v := Rr.far h hb (row_noInt he xs) (put6_other w g k p)
theorem Rd2.put6 {E : El Pc} (he : E.enc = Pc.vs) {w : World} {r : Rc} (h : Rd2 w r) {g k : Nat} {xs : List Pc} (hb : Bk E w g xs) (p : Pc) : Rd2 (put6 w g k p) r := Ri.far h hb (row_noInt he xs) (put6_other w g k p)
theorem Rn.rd {w : World} {r : Rc} {v : Rat} (h : Rn w r v) : Rd2 w r := ⟨h.1, h.2.1, h.2.2.2.2.1⟩
end Go.Proofs.YtngichjgfppnpaaGreatDoor
namespace Go.Proofs.YtngichjgfppnpaaGreatDoor
open Go.RowKit Go.Shelf
set_option linter.unusedVariables false

theorem Sl.keep {w w' : World} {a : Option Addr} {l : Nat} {zs : List Int} (h : Sl w a l zs) {g g' : Nat} (hk : ∀ k, k < w.heap.size → k ≠ g → k ≠ g' → w'.heap[k]? = w.heap[k]?) (hne : ∀ p, a = some p → p.block ≠ g ∧ p.block ≠ g') : Sl w' a l zs := by
  obtain ⟨h1, h2, h3⟩ := h
  refine ⟨h1, h2, fun h0 => ?_⟩
  obtain ⟨b, off, rfl, hc⟩ := h3 h0
  have hlt : b < w.heap.size := Sl.lt ⟨h1, h2, h3⟩ h0 rfl
  refine ⟨b, off, rfl, fun i hi => ?_⟩
  rw [← hc i hi]
  exact World.cell?_of_block (w := w) (hk b hlt (hne _ rfl).1 (hne _ rfl).2)
theorem Rt.keep {w w' : World} {s : Bool} {a : Option Addr} {l c : Nat} {zs : List Int} {b : Option Addr} {m d : Nat} {ds : List Int} {v : Rat} (h : Rt w s a l c zs b m d ds v) {g g' : Nat} (hk : ∀ k, k < w.heap.size → k ≠ g → k ≠ g' → w'.heap[k]? = w.heap[k]?) (h1 : ∀ p, a = some p → p.block ≠ g ∧ p.block ≠ g') (h2 : ∀ p, b = some p → p.block ≠ g ∧ p.block ≠ g') : Rt w' s a l c zs b m d ds v :=
  ⟨⟨⟨h.1.1.1.keep hk h1, h.1.1.2⟩, h.1.2⟩, ⟨h.2.1.1.keep hk h2, h.2.1.2⟩, h.2.2⟩

set_option maxHeartbeats 4000000 in
theorem rmade_ok (s : Bool) (a : Option Addr) (l c : Nat) (zs : List Int) (b : Option Addr) (m d : Nat) (ds : List Int) (v : Rat) (w : World) (hz : It w s a l c zs) (hd : Nt w b m d ds) (h1 : iv s zs = v.num) (h2 : dn ds = v.den) (hS : Short v) :
    Calls Tryz.prog 70 #[.agg #[.bool s, .slice a l c], .agg #[.slice b m d]] w fun e w' => e = .returned (.tuple #[.agg #[.bool s, .slice a l c, .slice b m d], .int .i64 0]) ∧ Rt w' s a l c zs b m d ds v ∧ Below w.heap.size w w' := by
  have HL : Hid (∀ W (b' : Option Addr) (m' d' : Nat) (ds' : List Int), Nt W b' m' d' ds' → num ds' = dn ds → max (l : Int) (m' : Int) ≤ 1024) := by
    intro W b' m' d' ds' h' e'
    have p1 := hz.1.short 1024
    have p2 := h'.short 1024
    have e1 : num zs = (v.num.natAbs : Int) := by rw [← h1]; exact hz.abs
    rw [e1] at p1
    rw [e', h2] at p2
    have q1 := p1.2 hS.1
    have q2 := p2.2 hS.2
    omega
  have H1 : Hid (iv s zs = v.num ∧ dn ds = v.den ∧ Short v) := ⟨h1, h2, hS⟩
  clear h1 h2 hS
  have B0 : Below w.heap.size w w := Below.refl _ _
  go_enter Tryz.func70, Tryz.ntmps70
  go_wp2_with fail
  refine ent4 w _ _ _ _ _ _ _ _ (Q := fun W => Calls Tryz.prog _ _ W _) ?_
  intro x1 hb hs_x1 V0 V1 V2 V3
  replace hz := It.after hb hz
  replace hd := hd.a hb
  replace B0 := step B0 hb
  clear hb hs_x1
  refine (rlongr_any s a l c zs b m d ds x1 hz hd).mono ?_
  rintro e x2 ⟨b', m', d', ds', rfl, h', e', hb⟩
  replace V0 := V0.a hb
  replace V1 := V1.a hb
  replace V2 := V2.a hb
  replace V3 := V3.a hb
  replace hz := It.after hb hz
  replace hd := hd.a hb
  replace B0 := step B0 hb
  clear hb
  have hlm := HL.out _ _ _ _ _ h' e'
  obtain ⟨n, hn⟩ : ∃ n : Int, max (l : Int) (m' : Int) = n := ⟨_, rfl⟩
  rw [hn] at hlm ⊢
  clear hn HL e'
  clear h'
  have c_V2 := V2.d0
  have f0_V2 := V2.frozen 0
  have d_V2 := V2.d1
  have f1_V2 := V2.frozen 1
  have e_V2 := V2.d2
  have f2_V2 := V2.frozen 2
  have l_V2 := V2.lt
  have m_V2 := Nat.le_of_lt l_V2
  have c_V3 := V3.d0
  have f0_V3 := V3.frozen 0
  have d_V3 := V3.d1
  have f1_V3 := V3.frozen 1
  have e_V3 := V3.d2
  have f2_V3 := V3.frozen 2
  have l_V3 := V3.lt
  have m_V3 := Nat.le_of_lt l_V3
  go_wp2_with fail
  refine bodyPost_ret (results_rt rfl rfl (V2.set3 _ _ _)) rfl ?_
  exact ⟨rfl, ⟨hz.far V2 (noInt3 _ _ _ _ _ _ _) (fa3 _ _ _ _ _), hd.far V2 (noInt3 _ _ _ _ _ _ _) (fa3 _ _ _ _ _), H1.out⟩, belo3 B0 (by omega) _ _ _⟩
end Go.Proofs.YtngichjgfppnpaaGreatDoor
namespace Go.Proofs.YtngichjgfppnpaaGreatDoor
open Go.RowKit Go.Shelf
set_option linter.unusedVariables false

theorem Norm.short {w : World} {s : Bool} {a b : Option Addr} {l m : Nat} {zs ys : List Int} (h1 : Sl w a l zs) (h2 : Sl w b m ys) (hl : l ≤ 1024) (hm : m ≤ 1024) {v : Rat} (hv : iv s zs = v.num) (hd : num ys = v.den) : Short v := by
  have z0 := num_nonneg h1.2.1
  have u1 := usedN_le zs
  have u2 := usedN_le ys
  have e1 : (v.num.natAbs : Int) = num zs := by rw [← hv]; cases s <;> simp only [iv_t, iv_f] <;> omega
  refine ⟨by rw [e1]; exact lt_of_used h1.2.1 (by rw [h1.1] at u1; omega), by rw [← hd]; exact lt_of_used h2.2.1 (by rw [h2.1] at u2; omega)⟩

set_option maxHeartbeats 8000000 in
theorem qof_ok (s : Bool) (a : Option Addr) (l c : Nat) (zs : List Int) (b : Option Addr) (m d : Nat) (ys : List Int) (v : Rat) (w : World) (h : Ri w a l c zs b m d ys) (hl : l ≤ 1024) (hm : m ≤ 1024) (hN : Norm s zs ys) (hv : iv s zs = v.num) (hd : num ys = v.den) :
    Calls Tryz.prog 25 #[.agg #[.bool s, .slice a l c, .slice b m d]] w fun e w' => ∃ s' a' l' c' zs' b' m' d' ds', e = .returned (.tuple #[.agg #[.bool s', .slice a' l' c', .slice b' m' d'], .int .i64 0]) ∧ Rt w' s' a' l' c' zs' b' m' d' ds' v ∧ Hid ((∀ p, a' = some p → w.heap.size ≤ p.block) ∧ (∀ p, b' = some p → w.heap.size ≤ p.block)) ∧ Below w.heap.size w w' := by
  have HS : Hid (Short v) := Norm.short h.1 h.2.1 hl hm hv hd; have hzl := h.1.1; have hyl := h.2.1.1; have HN : Hid (Norm s zs ys) := hN; have HV : Hid (iv s zs = v.num ∧ num ys = v.den) := ⟨hv, hd⟩; (have hmx : max (l : Int) (m : Int) ≤ 1024 := by omega); (have hm0 : m ≠ 0 := by have := hN.2.2.1; omega); (have hmb : ((m : Int) == 0) = false := by simp; omega); (have hll : ((l : Int) != (l : Int)) = false := by simp); (have hmm : ((m : Int) != (m : Int)) = false := by simp); (have hs0 : s = true → ((l : Int) == 0) = false := fun e => by have := hN.2.2.2.1; simp; intro e2; exact this ⟨e, by omega⟩); clear hN hv hd; have B0 : Below w.heap.size w w := Below.refl _ _
  go_enter Tryz.func25, Tryz.ntmps25
  (go_wp2_with fail); refine ent2 w _ _ _ _ (Q := fun W => Calls Tryz.prog _ _ W _) ?_; intro x1 hb hs_x1 V0 V1; replace h := Ri.after hb h; replace B0 := step B0 hb; clear hb hs_x1; have sz0 := B0.size; refine (of_ok a l c zs x1 h.1 (by omega) h.2.2.1 (by have := HN.out.1; omega)).mono ?_; rintro e x2 ⟨gn, ln, kn, zn, rfl, hgn, hn, en, hb⟩; replace V0 := V0.a hb; replace V1 := V1.a hb; replace h := Ri.after hb h; replace B0 := step B0 hb; clear hb; have qn := trim_one hn.limbs h.1.2.1 (by rw [hn.2.1, hn.1.1]) (by first | exact HN.out.1 | exact HN.out.2.1) en; subst qn; (have qln : ln = l := by have := hn.1.1; omega); subst qln; have c_V0 := V0.d0; have f0_V0 := V0.frozen 0; have d_V0 := V0.d1; have f1_V0 := V0.frozen 1; have e_V0 := V0.d2; have f2_V0 := V0.frozen 2; have l_V0 := V0.lt; have m_V0 := Nat.le_of_lt l_V0; (go_wp2_with fail); have la0 := V0.lt; have la1 := V1.lt; refine ent1 x2 _ _ (Q := fun W => Calls Tryz.prog _ _ W _) ?_
  intro x3 hb hs_x3 Vn; replace V0 := V0.a hb; replace V1 := V1.a hb; replace h := Ri.after hb h; replace hn := hn.a hb; replace B0 := step B0 hb; clear hb hs_x3; have sz1 := B0.size; refine (of_ok b m d ys x3 h.2.1 (by omega) h.2.2.2 (by have := HN.out.2.1; omega)).mono ?_; rintro e x4 ⟨ge, le, ke, ze, rfl, hge, he, ee, hb⟩; replace V0 := V0.a hb; replace V1 := V1.a hb; replace Vn := Vn.a hb; replace h := Ri.after hb h; replace hn := hn.a hb; replace B0 := step B0 hb; clear hb; have qe := trim_one he.limbs h.2.1.2.1 (by rw [he.2.1, he.1.1]) (by first | exact HN.out.1 | exact HN.out.2.1) ee; subst qe; (have qle : le = m := by have := he.1.1; omega); subst qle; clear c_V0 f0_V0 d_V0 f1_V0 e_V0 f2_V0 l_V0 m_V0; have c_V0 := V0.d0; have f0_V0 := V0.frozen 0; have d_V0 := V0.d1; have f1_V0 := V0.frozen 1; have e_V0 := V0.d2; have f2_V0 := V0.frozen 2; have l_V0 := V0.lt; have m_V0 := Nat.le_of_lt l_V0; have c_Vn := Vn.cell
  have f0_Vn := Vn.frozen 0; have l_Vn := Vn.lt; have m_Vn := Nat.le_of_lt l_Vn; (go_wp2_with fail); have lb0 := V0.lt; have lb1 := V1.lt; have lb2 := Vn.lt; refine ent1 x4 _ _ (Q := fun W => Code.wp Tryz.prog _ _ _ W) ?_; intro x5 hb hs_x5 Ve; replace V0 := V0.a hb; replace V1 := V1.a hb; replace Vn := Vn.a hb; replace h := Ri.after hb h; replace hn := hn.a hb; replace he := he.a hb; replace B0 := step B0 hb; clear hb hs_x5; have HG : Hid (w.heap.size ≤ gn ∧ w.heap.size ≤ ge) := ⟨by omega, by omega⟩; clear hgn hge sz0 sz1; clear c_V0 f0_V0 d_V0 f1_V0 e_V0 f2_V0 l_V0 m_V0 c_Vn f0_Vn l_Vn m_Vn; refine wp_region_noPanic ?_; replace V0 : Va x5.drew _ _ _ := V0; replace V1 : Va x5.drew _ _ _ := V1; replace Vn : Va x5.drew _ _ _ := Vn; replace Ve : Va x5.drew _ _ _ := Ve; replace h := h.drw; replace hn := hn.drw; replace he := he.drw; replace B0 := Below.drew B0; refine wp_region_held_drew (S := (fun W => W.cell? ⟨w.heap.size, 0, none⟩ = some (.bool s) ∧ W.cell? ⟨w.heap.size, 1, none⟩ = some (.slice a ln c) ∧ W.cell? ⟨w.heap.size, 2, none⟩ = some (.slice b le d) ∧ W.cell? ⟨x2.heap.size, 0, none⟩ = some (.slice (some ⟨gn, 0, none⟩) ln kn) ∧ W.cell? ⟨x4.heap.size, 0, none⟩ = some (.slice (some ⟨ge, 0, none⟩) le ke))) (by kernel_rfl) ⟨V0.d0, V0.d1, V0.d2, Vn.cell, Ve.cell⟩ (fun hHeld => ?_)
  (obtain ⟨x6, hxd⟩ : ∃ xd, xd = x5.drew := ⟨_, rfl⟩); rw [← hxd] at V0 V1 Vn Ve h hn he B0 hHeld ⊢; clear hxd; refine tjz 0 hHeld ?_; refine tjz 2 hHeld ?_; refine tjz 3 hHeld ?_; refine tjz 4 hHeld ?_; refine ryz 1 (fun K hK => ?_); simp only [gA, gB, gC]; (go_simp); refine (qlimbs_any (some ⟨gn, 0, none⟩) ln kn zn _ hn).mono ?_; rintro e x7 ⟨rfl, hb⟩; replace V0 := V0.a hb; replace V1 := V1.a hb; replace Vn := Vn.a hb; replace Ve := Ve.a hb; replace h := Ri.after hb h; replace hn := hn.a hb; replace he := he.a hb; replace B0 := step B0 hb; clear hb; (try go_wp2_with fail); refine hK.out _ _ ⟨V0.d0, V0.d1, V0.d2, Vn.cell, Ve.cell⟩ (fun hHeld => ?_)
  clear hK K; refine wpAnyH_take (i := 5) (v := .bool false) rfl (by kernel_rfl) (by kernel_rfl) (by kernel_rfl) (fun _ _ _ h => h) (Or.inl ⟨by rfl, ?_⟩) hHeld ?_
  · (intro W hSw; (try dsimp only at hSw); go_simp; first | (rw [hll]) | skip)
  simp only [gA, gB, gC, Act.put, gD, gE, gF]; refine tjz 6 hHeld ?_; refine tjz 7 hHeld ?_; refine tjz 9 hHeld ?_; refine tjz 10 hHeld ?_; refine tjz 11 hHeld ?_; refine ryz 8 (fun K hK => ?_); simp only [gA, gB, gC]; (go_simp); refine (qlimbs_any (some ⟨ge, 0, none⟩) le ke ze _ he).mono ?_; rintro e x8 ⟨rfl, hb⟩; replace V0 := V0.a hb; replace V1 := V1.a hb; replace Vn := Vn.a hb; replace Ve := Ve.a hb; replace h := Ri.after hb h; replace hn := hn.a hb; replace he := he.a hb; replace B0 := step B0 hb; clear hb; (try go_wp2_with fail); refine hK.out _ _ ⟨V0.d0, V0.d1, V0.d2, Vn.cell, Ve.cell⟩ (fun hHeld => ?_)
  clear hK K; refine wpAnyH_take (i := 12) (v := .bool false) rfl (by kernel_rfl) (by kernel_rfl) (by kernel_rfl) (fun _ _ _ h => h) (Or.inl ⟨by rfl, ?_⟩) hHeld ?_
  · (intro W hSw; (try dsimp only at hSw); go_simp; first | (rw [hmm]) | skip)
  simp only [gA, gB, gC, Act.put, gD, gE, gF]; refine tjz 13 hHeld ?_; refine tjz 14 hHeld ?_; refine tjz 15 hHeld ?_; refine ryz 16 (fun K hK => ?_); simp only [gA, gB, gC]; (go_simp); refine (isZero_any (some ⟨ge, 0, none⟩) le ke _).mono ?_; rintro e x9 ⟨rfl, hb⟩; replace V0 := V0.a hb; replace V1 := V1.a hb; replace Vn := Vn.a hb; replace Ve := Ve.a hb; replace h := Ri.after hb h; replace hn := hn.a hb; replace he := he.a hb; replace B0 := step B0 hb; clear hb; rw [hmb]; (try go_wp2_with fail); refine hK.out _ _ ⟨V0.d0, V0.d1, V0.d2, Vn.cell, Ve.cell⟩ (fun hHeld => ?_); clear hK K; refine tjz 17 hHeld ?_; refine wpAnyH_done (by kernel_rfl) ?_ _
  refine NoPanic.normal ?_; clear hHeld; have c_V0 := V0.d0; have f0_V0 := V0.frozen 0; have d_V0 := V0.d1; have f1_V0 := V0.frozen 1; have e_V0 := V0.d2; have f2_V0 := V0.frozen 2; have l_V0 := V0.lt; have m_V0 := Nat.le_of_lt l_V0; have c_Vn := Vn.cell; have f0_Vn := Vn.frozen 0; have l_Vn := Vn.lt; have m_Vn := Nat.le_of_lt l_Vn; have c_Ve := Ve.cell; have f0_Ve := Ve.frozen 0; have l_Ve := Ve.lt; have m_Ve := Nat.le_of_lt l_Ve; (go_wp2_with fail); refine (ngcd_any (some ⟨gn, 0, none⟩) (some ⟨ge, 0, none⟩) ln kn le ke zn ze x9 hn he).mono ?_; rintro e x10 ⟨ag, lg, kg, zg, rfl, hg, eg, hb⟩; replace V0 := V0.a hb; replace V1 := V1.a hb; replace Vn := Vn.a hb; replace Ve := Ve.a hb; replace h := Ri.after hb h; replace hn := hn.a hb; replace he := he.a hb; replace B0 := step B0 hb; clear hb; rw [HN.out.2.2.2.2] at eg; clear c_V0 f0_V0 d_V0 f1_V0 e_V0 f2_V0 l_V0 m_V0 c_Vn f0_Vn l_Vn m_Vn c_Ve f0_Ve l_Ve m_Ve; have c_V0 := V0.d0
  have f0_V0 := V0.frozen 0; have d_V0 := V0.d1; have f1_V0 := V0.frozen 1; have e_V0 := V0.d2; have f2_V0 := V0.frozen 2; have l_V0 := V0.lt; have m_V0 := Nat.le_of_lt l_V0; have c_V1 := V1.d0; have f0_V1 := V1.frozen 0; have d_V1 := V1.d1; have f1_V1 := V1.frozen 1; have e_V1 := V1.d2; have f2_V1 := V1.frozen 2; have l_V1 := V1.lt; have m_V1 := Nat.le_of_lt l_V1; have c_Vn := Vn.cell; have f0_Vn := Vn.frozen 0; have l_Vn := Vn.lt; have m_Vn := Nat.le_of_lt l_Vn; have c_Ve := Ve.cell; have f0_Ve := Ve.frozen 0; have l_Ve := Ve.lt; have m_Ve := Nat.le_of_lt l_Ve; (go_wp2_with fail); refine (uint64_small ag lg kg zg x10 hg (by rw [eg]; decide)).mono ?_; rintro e x11 ⟨rfl, hb⟩; replace V0 := V0.a hb; replace V1 := V1.a hb; replace Vn := Vn.a hb; replace Ve := Ve.a hb; replace h := Ri.after hb h; replace hn := hn.a hb; replace he := he.a hb; replace hg := hg.a hb; replace B0 := step B0 hb; clear hb; rw [eg]; clear eg
  clear hg
  cases s
  ·
    clear c_V0 f0_V0 d_V0 f1_V0 e_V0 f2_V0 l_V0 m_V0 c_V1 f0_V1 d_V1 f1_V1 e_V1 f2_V1 l_V1 m_V1 c_Vn f0_Vn l_Vn m_Vn c_Ve f0_Ve l_Ve m_Ve; have c_V0 := V0.d0; have f0_V0 := V0.frozen 0; have d_V0 := V0.d1; have f1_V0 := V0.frozen 1; have e_V0 := V0.d2; have f2_V0 := V0.frozen 2; have l_V0 := V0.lt; have m_V0 := Nat.le_of_lt l_V0; have c_Vn := Vn.cell; have f0_Vn := Vn.frozen 0; have l_Vn := Vn.lt; have m_Vn := Nat.le_of_lt l_Vn; have c_Ve := Ve.cell; have f0_Ve := Ve.frozen 0; have l_Ve := Ve.lt; have m_Ve := Nat.le_of_lt l_Ve; (go_wp2_with fail); clear c_V0 f0_V0 d_V0 f1_V0 e_V0 f2_V0 l_V0 m_V0 c_Vn f0_Vn l_Vn m_Vn c_Ve f0_Ve l_Ve m_Ve; refine wp_region_noPanic ?_; replace V0 : Va x11.drew _ _ _ := V0; replace V1 : Va x11.drew _ _ _ := V1; replace Vn : Va x11.drew _ _ _ := Vn; replace Ve : Va x11.drew _ _ _ := Ve; replace h := h.drw; replace hn := hn.drw; replace he := he.drw; replace B0 := Below.drew B0; refine wp_region_held_drew (S := (fun W => W.cell? ⟨w.heap.size, 0, none⟩ = some (.bool false) ∧ W.cell? ⟨w.heap.size, 1, none⟩ = some (.slice a ln c) ∧ W.cell? ⟨w.heap.size, 2, none⟩ = some (.slice b le d) ∧ W.cell? ⟨x2.heap.size, 0, none⟩ = some (.slice (some ⟨gn, 0, none⟩) ln kn) ∧ W.cell? ⟨x4.heap.size, 0, none⟩ = some (.slice (some ⟨ge, 0, none⟩) le ke))) (by kernel_rfl) ⟨V0.d0, V0.d1, V0.d2, Vn.cell, Ve.cell⟩ (fun hHeld => ?_)
    (obtain ⟨x12, hxd⟩ : ∃ xd, xd = x11.drew := ⟨_, rfl⟩); rw [← hxd] at V0 V1 Vn Ve h hn he B0 hHeld ⊢; clear hxd; refine tjz 0 hHeld ?_; refine tjz 1 hHeld ?_; refine tjz 2 hHeld ?_; refine tjz 4 hHeld ?_; refine ryz 3 (fun K hK => ?_); simp only [gA, gB, gC]; (go_simp); refine (wnew_any false (some ⟨gn, 0, none⟩) ln kn zn _ hn).mono ?_; rintro e x13 ⟨s2, rfl, h2, e2, hb⟩; replace V0 := V0.a hb; replace V1 := V1.a hb; replace Vn := Vn.a hb; replace Ve := Ve.a hb; replace h := Ri.after hb h; replace hn := hn.a hb; replace he := he.a hb; replace B0 := step B0 hb; clear hb; (try go_wp2_with fail); refine hK.out _ _ ⟨V0.d0, V0.d1, V0.d2, Vn.cell, Ve.cell⟩ (fun hHeld => ?_)
    clear hK K; refine ryz 5 (fun K hK => ?_); simp only [gA, gB, gC]; (go_simp); refine (rmade_ok s2 (some ⟨gn, 0, none⟩) ln kn zn (some ⟨ge, 0, none⟩) le ke ze v _ h2 he (by rw [e2]; exact HV.out.1) (by unfold dn; rw [HV.out.2, if_neg (by have := v.den_pos; omega)]) HS.out).mono ?_; rintro e x14 ⟨rfl, h3, hb⟩; replace V0 := V0.a hb; replace V1 := V1.a hb; replace Vn := Vn.a hb; replace Ve := Ve.a hb; replace h := Ri.after hb h; replace hn := hn.a hb; replace he := he.a hb; replace h2 := It.after hb h2; replace B0 := step B0 hb; clear hb; (try go_wp2_with fail); refine hK.out _ _ ⟨V0.d0, V0.d1, V0.d2, Vn.cell, Ve.cell⟩ (fun hHeld => ?_); clear hK K; refine tjz 6 hHeld ?_; refine tjz 7 hHeld ?_; have lv1 := V0.lt; have lv2 := Vn.lt
    have lv3 := Ve.lt; have c_V1 := V1.d0; have f0_V1 := V1.frozen 0; have d_V1 := V1.d1; have f1_V1 := V1.frozen 1; have e_V1 := V1.d2; have f2_V1 := V1.frozen 2; have l_V1 := V1.lt; have m_V1 := Nat.le_of_lt l_V1; refine ryz 8 (fun K hK => ?_); simp only [gA, gB, gC]; (go_simp); clear c_V1 f0_V1 d_V1 f1_V1 e_V1 f2_V1 l_V1 m_V1; refine sto3 V1 (.bool s2) (.slice (some ⟨gn, 0, none⟩) ln kn) (.slice (some ⟨ge, 0, none⟩) le ke) (Q := fun W => K _ W) ?_; intro x15 V' oth far; replace V0 := apz (oth _ _ _) V0; replace Vn := apz (oth _ _ _) Vn; replace Ve := apz (oth _ _ _) Ve; replace h := h.far V1 (noInt3 _ _ _ _ _ _ _) far.1; replace hn := hn.far V1 (noInt3 _ _ _ _ _ _ _) far.1; replace he := he.far V1 (noInt3 _ _ _ _ _ _ _) far.1
    replace h2 := h2.far V1 (noInt3 _ _ _ _ _ _ _) far.1; replace h3 := h3.far V1 (noInt3 _ _ _ _ _ _ _) far.1; replace B0 := apz (far.2 _ _) B0; replace V1 := V'; clear oth far; refine hK.out _ _ ⟨V0.d0, V0.d1, V0.d2, Vn.cell, Ve.cell⟩ (fun hHeld => ?_); clear hK K; refine tjz 9 hHeld ?_; refine dnz ?_; clear hHeld; (go_wp2_with fail); refine bodyPost_ret (results_rt rfl rfl V1) rfl ?_; exact ⟨s2, _, _, _, _, _, _, _, _, rfl, h3, ⟨fun p hp => by cases hp; exact HG.out.1, fun p hp => by cases hp; exact HG.out.2⟩, B0⟩
  ·
    clear c_V0 f0_V0 d_V0 f1_V0 e_V0 f2_V0 l_V0 m_V0 c_V1 f0_V1 d_V1 f1_V1 e_V1 f2_V1 l_V1 m_V1 c_Vn f0_Vn l_Vn m_Vn c_Ve f0_Ve l_Ve m_Ve; have c_V0 := V0.d0; have f0_V0 := V0.frozen 0; have d_V0 := V0.d1; have f1_V0 := V0.frozen 1; have e_V0 := V0.d2; have f2_V0 := V0.frozen 2; have l_V0 := V0.lt; have m_V0 := Nat.le_of_lt l_V0; have c_Vn := Vn.cell; have f0_Vn := Vn.frozen 0; have l_Vn := Vn.lt; have m_Vn := Nat.le_of_lt l_Vn; have c_Ve := Ve.cell; have f0_Ve := Ve.frozen 0; have l_Ve := Ve.lt; have m_Ve := Nat.le_of_lt l_Ve; (go_wp2_with fail); refine (isZero_any (some ⟨gn, 0, none⟩) ln kn x11).mono ?_; rintro e x12 ⟨rfl, hb⟩; replace V0 := V0.a hb; replace V1 := V1.a hb; replace Vn := Vn.a hb; replace Ve := Ve.a hb; replace h := Ri.after hb h; replace hn := hn.a hb; replace he := he.a hb; replace B0 := step B0 hb; clear hb; (have hz1 : ((ln : Int) == 0) = false := by have := hs0; simpa using this); rw [hz1]
    clear c_V0 f0_V0 d_V0 f1_V0 e_V0 f2_V0 l_V0 m_V0 c_Vn f0_Vn l_Vn m_Vn c_Ve f0_Ve l_Ve m_Ve; have c_V0 := V0.d0; have f0_V0 := V0.frozen 0; have d_V0 := V0.d1; have f1_V0 := V0.frozen 1; have e_V0 := V0.d2; have f2_V0 := V0.frozen 2; have l_V0 := V0.lt; have m_V0 := Nat.le_of_lt l_V0; have c_Vn := Vn.cell; have f0_Vn := Vn.frozen 0; have l_Vn := Vn.lt; have m_Vn := Nat.le_of_lt l_Vn; have c_Ve := Ve.cell; have f0_Ve := Ve.frozen 0; have l_Ve := Ve.lt; have m_Ve := Nat.le_of_lt l_Ve; (go_wp2_with fail); clear c_V0 f0_V0 d_V0 f1_V0 e_V0 f2_V0 l_V0 m_V0 c_Vn f0_Vn l_Vn m_Vn c_Ve f0_Ve l_Ve m_Ve; refine wp_region_noPanic ?_; replace V0 : Va x12.drew _ _ _ := V0; replace V1 : Va x12.drew _ _ _ := V1; replace Vn : Va x12.drew _ _ _ := Vn; replace Ve : Va x12.drew _ _ _ := Ve; replace h := h.drw; replace hn := hn.drw; replace he := he.drw; replace B0 := Below.drew B0; refine wp_region_held_drew (S := (fun W => W.cell? ⟨w.heap.size, 0, none⟩ = some (.bool true) ∧ W.cell? ⟨w.heap.size, 1, none⟩ = some (.slice a ln c) ∧ W.cell? ⟨w.heap.size, 2, none⟩ = some (.slice b le d) ∧ W.cell? ⟨x2.heap.size, 0, none⟩ = some (.slice (some ⟨gn, 0, none⟩) ln kn) ∧ W.cell? ⟨x4.heap.size, 0, none⟩ = some (.slice (some ⟨ge, 0, none⟩) le ke))) (by kernel_rfl) ⟨V0.d0, V0.d1, V0.d2, Vn.cell, Ve.cell⟩ (fun hHeld => ?_)
    (obtain ⟨x13, hxd⟩ : ∃ xd, xd = x12.drew := ⟨_, rfl⟩); rw [← hxd] at V0 V1 Vn Ve h hn he B0 hHeld ⊢; clear hxd; refine tjz 0 hHeld ?_; refine tjz 1 hHeld ?_; refine tjz 2 hHeld ?_; refine tjz 4 hHeld ?_; refine ryz 3 (fun K hK => ?_); simp only [gA, gB, gC]; (go_simp); refine (wnew_any true (some ⟨gn, 0, none⟩) ln kn zn _ hn).mono ?_; rintro e x14 ⟨s2, rfl, h2, e2, hb⟩; replace V0 := V0.a hb; replace V1 := V1.a hb; replace Vn := Vn.a hb; replace Ve := Ve.a hb; replace h := Ri.after hb h; replace hn := hn.a hb; replace he := he.a hb; replace B0 := step B0 hb; clear hb; (try go_wp2_with fail); refine hK.out _ _ ⟨V0.d0, V0.d1, V0.d2, Vn.cell, Ve.cell⟩ (fun hHeld => ?_)
    clear hK K; refine ryz 5 (fun K hK => ?_); simp only [gA, gB, gC]; (go_simp); refine (rmade_ok s2 (some ⟨gn, 0, none⟩) ln kn zn (some ⟨ge, 0, none⟩) le ke ze v _ h2 he (by rw [e2]; exact HV.out.1) (by unfold dn; rw [HV.out.2, if_neg (by have := v.den_pos; omega)]) HS.out).mono ?_; rintro e x15 ⟨rfl, h3, hb⟩; replace V0 := V0.a hb; replace V1 := V1.a hb; replace Vn := Vn.a hb; replace Ve := Ve.a hb; replace h := Ri.after hb h; replace hn := hn.a hb; replace he := he.a hb; replace h2 := It.after hb h2; replace B0 := step B0 hb; clear hb; (try go_wp2_with fail); refine hK.out _ _ ⟨V0.d0, V0.d1, V0.d2, Vn.cell, Ve.cell⟩ (fun hHeld => ?_); clear hK K; refine tjz 6 hHeld ?_; refine tjz 7 hHeld ?_; have lv1 := V0.lt; have lv2 := Vn.lt
    have lv3 := Ve.lt; have c_V1 := V1.d0; have f0_V1 := V1.frozen 0; have d_V1 := V1.d1; have f1_V1 := V1.frozen 1; have e_V1 := V1.d2; have f2_V1 := V1.frozen 2; have l_V1 := V1.lt; have m_V1 := Nat.le_of_lt l_V1; refine ryz 8 (fun K hK => ?_); simp only [gA, gB, gC]; (go_simp); clear c_V1 f0_V1 d_V1 f1_V1 e_V1 f2_V1 l_V1 m_V1; refine sto3 V1 (.bool s2) (.slice (some ⟨gn, 0, none⟩) ln kn) (.slice (some ⟨ge, 0, none⟩) le ke) (Q := fun W => K _ W) ?_; intro x16 V' oth far; replace V0 := apz (oth _ _ _) V0; replace Vn := apz (oth _ _ _) Vn; replace Ve := apz (oth _ _ _) Ve; replace h := h.far V1 (noInt3 _ _ _ _ _ _ _) far.1; replace hn := hn.far V1 (noInt3 _ _ _ _ _ _ _) far.1; replace he := he.far V1 (noInt3 _ _ _ _ _ _ _) far.1
    replace h2 := h2.far V1 (noInt3 _ _ _ _ _ _ _) far.1; replace h3 := h3.far V1 (noInt3 _ _ _ _ _ _ _) far.1; replace B0 := apz (far.2 _ _) B0; replace V1 := V'; clear oth far; refine hK.out _ _ ⟨V0.d0, V0.d1, V0.d2, Vn.cell, Ve.cell⟩ (fun hHeld => ?_); clear hK K; refine tjz 9 hHeld ?_; refine dnz ?_; clear hHeld; (go_wp2_with fail); refine bodyPost_ret (results_rt rfl rfl V1) rfl ?_; exact ⟨s2, _, _, _, _, _, _, _, _, rfl, h3, ⟨fun p hp => by cases hp; exact HG.out.1, fun p hp => by cases hp; exact HG.out.2⟩, B0⟩

end Go.Proofs.YtngichjgfppnpaaGreatDoor
namespace Go.Proofs.YtngichjgfppnpaaGreatDoor
open Go.RowKit Go.Shelf

end Go.Proofs.YtngichjgfppnpaaGreatDoor
