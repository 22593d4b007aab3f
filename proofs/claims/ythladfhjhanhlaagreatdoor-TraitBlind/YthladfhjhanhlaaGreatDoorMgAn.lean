/-
  traits: forms, asIs, turned, gather.
-/
import Derived.Test.YthladfhjhanhlaaGreatDoorTr9
import Derived.Test.YthladfhjhanhlaaGreatDoorMgAm
namespace Go.Proofs.YthladfhjhanhlaaGreatDoor
open Go.RowKit Go.Shelf
set_option linter.unusedVariables false

/-- A tree's two forms, as two lists. -/
structure Fm where
  ya : Option Addr
  yl : Nat
  yc : Nat
  na : Option Addr
  nl : Nat
  nc : Nat
def fm0 : Fm := ⟨none, 0, 0, none, 0, 0⟩
abbrev fmv (x : Fm) : Value := .agg #[.slice x.ya x.yl x.yc, .slice x.na x.nl x.nc]
/-- The plain form, or that of the Not. -/
def Fm.ad (x : Fm) (neg : Bool) : Option Addr := if neg then x.na else x.ya
def Fm.ln (x : Fm) (neg : Bool) : Nat := if neg then x.nl else x.yl
def Fm.cp (x : Fm) (neg : Bool) : Nat := if neg then x.nc else x.yc
theorem take_one {α : Type} {l : List α} {i : Nat} {d : α} (h : i < l.length) : l.take (i + 1) = l.take i ++ [l.getD i d] := by
  rw [List.take_add_one, List.getD_eq_getElem?_getD, List.getElem?_eq_getElem h]; rfl
/-- What gather is told of each kid. -/
def KdR (w : World) (neg : Bool) (c : Int) (x : Fm) (t : List Nd) : Prop :=
  x.ln neg = t.length ∧ t.length ≤ x.cp neg ∧ x.cp neg ≤ maxLen ∧ Le elN w (x.ad neg) t.length t ∧ t ≠ [] ∧ t.length ≤ 200 ∧ ((t.headD nd0).kd = c → 2 ≤ t.length ∧ 0 ≤ (t.headD nd0).ks ∧ (t.headD nd0).ks ≤ 200)
def gN (c : Int) (ls : List (List Nd)) : Nd := ⟨c, gatN c ls, [], 0, 0, 0⟩

end Go.Proofs.YthladfhjhanhlaaGreatDoor
namespace Go.Proofs.YthladfhjhanhlaaGreatDoor
open Go.RowKit Go.Shelf
set_option linter.unusedVariables false

/-- Two forms in memory, from the block B on. -/
def FmR (B : Nat) (W : World) (x : Fm) (y n : List Nd) : Prop := Ge elN W B (.slice x.ya x.yl x.yc) y ∧ Ge elN W B (.slice x.na x.nl x.nc) n
theorem Ge.blk {w : World} {B g n cap : Nat} {xs : List Nd} (h : Ge elN w B (.slice (some ⟨g, 0, none⟩) n cap) xs) : B ≤ g ∧ ∃ cur, w.heap[g]? = some (.cells cur 37 (0, 0)) := by
  obtain ⟨h1, h2 | ⟨g', cap', cur, e, hB, hh, r⟩⟩ := h
  · cases h2.1
  · cases e; exact ⟨hB, cur, hh⟩
/-- Rows of nodes from B on are kept. -/
def KpN (B : Nat) (W W' : World) : Prop := ∀ g cur, B ≤ g → W.heap[g]? = some (.cells cur 37 (0, 0)) → W'.heap[g]? = W.heap[g]?
theorem Ge.kp {W W' : World} {B : Nat} {v : Value} {xs : List Nd} (h : Ge elN W B v xs) (hk : KpN B W W') : Ge elN W' B v xs := by
  obtain ⟨h1, h2 | ⟨g, cap, cur, e, hB, hh, r⟩⟩ := h
  · exact ⟨h1, .inl h2⟩
  · exact ⟨h1, .inr ⟨g, cap, cur, e, hB, by rw [hk g cur hB hh]; exact hh, r⟩⟩
theorem FmR.kp {W W' : World} {B : Nat} {x : Fm} {y n : List Nd} (h : FmR B W x y n) (hk : KpN B W W') : FmR B W' x y n := ⟨h.1.kp hk, h.2.kp hk⟩
theorem kp_below {B : Nat} {W W' : World} (h : Below W.heap.size W W') : KpN B W W' := fun g cur _ hh => h.block g (Array.getElem?_eq_some_iff.1 hh).1
theorem kp_gr {B g0 : Nat} {W W' : World} (h : W.grownBy W' (some g0)) (hB : g0 < B) : KpN B W W' := fun g cur hg hh => h.block g (Array.getElem?_eq_some_iff.1 hh).1 (fun e => by cases e; omega)
theorem kp_own {α : Type} {E : El α} {B B' : Nat} {W W' : World} {v : Value} {xs : List α} (h : W.grownBy W' v.ownBlock) (hg : Ge E W B' v xs) (ht : E.te ≠ 37) : KpN B W W' := fun g cur _ hh => h.block g (Array.getElem?_eq_some_iff.1 hh).1 (fun e => by
  obtain ⟨h1, h2 | ⟨g', cap, cur', e', hB, hh', r⟩⟩ := hg
  · rw [h2.1] at e; cases e
  · rw [e'] at e
    cases e
    rw [hh] at hh'
    simp only [Option.some.injEq, Obj.cells.injEq] at hh'
    exact ht hh'.2.1.symm)
theorem kp_trans {B : Nat} {a b c : World} (h : KpN B a b) (k : KpN B b c) : KpN B a c := fun g cur hg hh => by
  have e := h g cur hg hh
  rw [k g cur hg (by rw [e]; exact hh), e]
/-- Forms in a list. -/
def FmL (B : Nat) (W : World) (xs : List Fm) (ys ns : List (List Nd)) : Prop := ys.length = xs.length ∧ ns.length = xs.length ∧ ∀ i, i < xs.length → FmR B W (xs.getD i fm0) (ys.getD i []) (ns.getD i [])
theorem FmL.kp {W W' : World} {B : Nat} {xs : List Fm} {ys ns : List (List Nd)} (h : FmL B W xs ys ns) (hk : KpN B W W') : FmL B W' xs ys ns := ⟨h.1, h.2.1, fun i hi => (h.2.2 i hi).kp hk⟩
theorem getD_app {α : Type} (l : List α) (x d : α) (i : Nat) (h : i < (l ++ [x]).length) : (l ++ [x]).getD i d = if i < l.length then l.getD i d else x := by
  rw [List.length_append, List.length_singleton] at h
  split
  · rename_i h'
    rw [List.getD_eq_getElem?_getD, List.getElem?_append_left h', ← List.getD_eq_getElem?_getD]
  · rename_i h'
    obtain rfl : i = l.length := by omega
    simp
theorem FmL.snoc {W : World} {B : Nat} {xs : List Fm} {ys ns : List (List Nd)} {x : Fm} {y n : List Nd} (h : FmL B W xs ys ns) (k : FmR B W x y n) : FmL B W (xs ++ [x]) (ys ++ [y]) (ns ++ [n]) := by
  refine ⟨by simp [h.1], by simp [h.2.1], fun i hi => ?_⟩
  rw [getD_app _ _ _ _ hi, getD_app _ _ _ _ (by simp [h.1] at hi ⊢; omega), getD_app _ _ _ _ (by simp [h.2.1] at hi ⊢; omega), h.1, h.2.1]
  split
  · exact h.2.2 i (by assumption)
  · exact k
theorem fl_head (neg : Bool) : ∀ (a : Fo) (o : Int) (d : Nat), a.Ok wdB o (d + 1) → ∀ l ∈ a.fl neg, ∃ m j, l = (Fo.cons m j .nil).flat ∧ (Fo.cons m j .nil).Ok wdB 0 d
  | .nil, _, _, _, l, hl => by simp [Fo.fl] at hl
  | .cons n k r, o, d, h, l, hl => by
    simp only [Fo.fl, List.mem_cons] at hl
    rcases hl with rfl | hl
    · have h1 : (Fo.cons n k .nil).Ok wdB o (d + 1) := ⟨h.1, trivial⟩
      have h2 := plain_len _ neg _ _ h1
      have h3 := plain_ok _ neg o d (h1.mono (by cases neg <;> simp))
      match e : (Fo.cons n k .nil).plain neg, h2 with
      | .cons m j .nil, _ => exact ⟨m, j, rfl, by rw [e] at h3; exact h3⟩
    · exact fl_head neg r o d h.2 l hl
theorem kdR_of {B : Nat} {W : World} {xs : List Fm} {k : Fo} {o : Int} {d : Nat} (hok : k.Ok wdB o (d + 1)) (h64 : k.flat.length ≤ 64) (h : FmL B W xs (k.fl false) (k.fl true)) (neg : Bool) (c : Int) (hc : c = 1 ∨ c = 2) : ∀ i, i < xs.length → KdR W neg c (xs.getD i fm0) ((k.fl neg).getD i []) := by
  intro i hi
  have hr := h.2.2 i hi
  have hl : (k.fl neg).length = xs.length := by cases neg; exact h.1; exact h.2.1
  have hg : Ge elN W B (.slice ((xs.getD i fm0).ad neg) ((xs.getD i fm0).ln neg) ((xs.getD i fm0).cp neg)) ((k.fl neg).getD i []) := by
    cases neg
    · exact hr.1
    · exact hr.2
  have hmem : (k.fl neg).getD i [] ∈ k.fl neg := by
    rw [List.getD_eq_getElem?_getD, List.getElem?_eq_getElem (by omega)]; exact List.getElem_mem _
  obtain ⟨m, j, e, ok⟩ := fl_head neg k o d hok _ hmem
  have hsz := (fl_ne (W := wdB) neg k o (d + 1) hok _ hmem).2
  obtain ⟨a', cap', e', h1, h2, h3⟩ := hg.shape
  have hle := hg.toLe
  generalize (k.fl neg).getD i [] = t at *
  simp only [Value.slice.injEq] at e'
  refine ⟨e'.2.1, by rw [e'.2.2]; exact h1, by rw [e'.2.2]; exact h2, by rw [e'.2.1] at hle; exact hle, by rw [e]; simp [Fo.flat], by omega, fun hk => ?_⟩
  rw [e] at hk ⊢
  have hj := Fo.len_flat j
  have hh : ((Fo.cons m j .nil).flat.headD nd0) = m := rfl
  rw [hh] at hk ⊢
  have hks := ok.1.2.2.2.1
  have h5 : (Fo.cons m j .nil).flat.length = j.flat.length + 1 := by simp [Fo.flat]
  rw [e, h5] at hsz
  have h6 : 2 ≤ m.ks := by
    rcases ok.1.1 with ⟨-, h, -⟩ | ⟨h, -⟩ | ⟨h | h, -⟩ | ⟨h | h, -⟩
    · exact h
    all_goals omega
  rw [h5]
  exact ⟨by omega, by omega, by omega⟩
theorem two_new (W2 : World) (s : Nat) (hs : W2.heap.size = s) (t1 : TypeId) (c1 : Array Value) (t2 : TypeId) (c2 : Array Value) : Va ((W2.alloc (.cells c1 t1)).alloc (.cells c2 t2)) s t1 c1 ∧ Va ((W2.alloc (.cells c1 t1)).alloc (.cells c2 t2)) (s + 1) t2 c2 := by
  subst hs
  exact ⟨(Va.new W2 t1 c1).old _, by have := Va.new (W2.alloc (.cells c1 t1)) t2 c2; rwa [World.size_alloc] at this⟩
theorem stn3 {W : World} {b : Nat} {t : TypeId} {x0 x1 x2 x3 x4 x5 : Value} (h : Va W b t #[x0, x1, x2, x3, x4, x5]) (y : Value) {Q : World → Prop}
    (k : ∀ V, Va V b t #[x0, x1, x2, y, x4, x5] → W.grownBy V (some b) → V.heap.size = W.heap.size → Q V) : Q (W.setCell ⟨b, 3, none⟩ y) :=
  k _ (by
    unfold Va at *
    simp only [World.setCell]
    rw [Array.getElem?_modify, if_pos rfl, h]
    simp) (gr_set (gr_refl W b) 3 y) (by simp [World.setCell])
theorem fa2b (w : World) (b : Nat) (x y : Value) : ∀ c, c ≠ b → ((w.setCell ⟨b, 0, none⟩ x).setCell ⟨b, 1, none⟩ y).heap[c]? = w.heap[c]? := fun c hc => (Below.heap_setCell _ ⟨b, 1, none⟩ _ _ hc).trans (Below.heap_setCell _ ⟨b, 0, none⟩ _ _ hc)
theorem cell_far2 (w : World) {b c : Nat} (h : c ≠ b) (i : Nat) (x y : Value) : ((w.setCell ⟨b, 0, none⟩ x).setCell ⟨b, 1, none⟩ y).cell? ⟨c, i, none⟩ = w.cell? ⟨c, i, none⟩ := by
  simp only [World.cell?, fa2b w b x y c h]
/-- What bothForms ends with. -/
def BfE (B : Nat) (n : Nd) (ys ns : List (List Nd)) (w : World) (e : Ending) (w' : World) : Prop := ∃ x : Fm, e = .returned (fmv x) ∧ FmR B w' x (frm n ys ns false) (frm n ys ns true) ∧ Below w.heap.size w w'
end Go.Proofs.YthladfhjhanhlaaGreatDoor
namespace Go.Proofs.YthladfhjhanhlaaGreatDoor
open Go.RowKit Go.Shelf
set_option linter.unusedVariables false

theorem fl_app (neg : Bool) : ∀ a b : Fo, (a.app b).fl neg = a.fl neg ++ b.fl neg
  | .nil, b => rfl
  | .cons n k r, b => by simp only [Fo.app, Fo.fl, fl_app neg r b, List.cons_append]
/-- How down ends. -/
def DfE (BB : Nat) (ns : List Nd) (bat : Nat) (y n : List Nd) (p : Nat) (w : World) (e : Ending) (w' : World) : Prop := ∃ x : Fm, e = .returned (fmv x) ∧ FmR BB w' x y n ∧ p ≤ ns.length ∧ Va w' bat 3 #[.int .i64 p] ∧ w.grownBy w' (some bat)
end Go.Proofs.YthladfhjhanhlaaGreatDoor
namespace Go.Proofs.YthladfhjhanhlaaGreatDoor
open Go.RowKit Go.Shelf
set_option linter.unusedVariables false

theorem ent4f (w : World) (t0 : TypeId) (c0 : Array Value) (t1 : TypeId) (c1 : Array Value) (t2 : TypeId) (c2 : Array Value) (t3 : TypeId) (c3 : Array Value) {Q : World → Prop}
    (h : ∀ w0, Below w.heap.size w w0 → w0.heap.size = w.heap.size + 4 → Va w0 (w.heap.size) t0 c0 → Va w0 (w.heap.size + 1) t1 c1 → Va w0 (w.heap.size + 2) t2 c2 → Va w0 (w.heap.size + 3) t3 c3 → Q w0) : Q ((((w.alloc (.cells c0 t0)).alloc (.cells c1 t1)).alloc (.cells c2 t2)).alloc (.cells c3 t3)) := by
  refine ent3 w t0 c0 t1 c1 t2 c2 (Q := fun W => Q (W.alloc (.cells c3 t3))) ?_
  intro w0 hb hs V0 V1 V2
  refine ent1 w0 t3 c3 ?_
  intro w1 hb1 hs1 V3
  exact h w1 (step hb hb1) (by omega) (V0.after hb1) (V1.after hb1) (V2.after hb1) (by rw [hs] at V3; exact V3)
/-- How fold at forms ends. -/
def FdE (y : List Nd) (w : World) (e : Ending) (w' : World) : Prop := ∃ x : Fm, e = .returned (fmv x) ∧ Ge elN w' w.heap.size (.slice x.ya x.yl x.yc) y ∧ Below w.heap.size w w'
/-- What Plain answers. -/
def PlR (ns out : List Nd) (er : Int) : Prop := (¬ Cond wdB ns ∧ out = [] ∧ er = 131) ∨ (ns = [] ∧ out = [] ∧ er = 0) ∨
  ∃ n k, ns = (Fo.cons n k .nil).flat ∧ (Fo.cons n k .nil).Ok wdB 0 1 ∧ ns.length ≤ 64 ∧ ((64 < ((Fo.cons n k .nil).plain false).flat.length ∧ out = [] ∧ er = 3) ∨ (((Fo.cons n k .nil).plain false).flat.length ≤ 64 ∧ out = ((Fo.cons n k .nil).plain false).flat ∧ er = 0))
def PlE (ns : List Nd) (w : World) (e : Ending) (w' : World) : Prop := ∃ out a' c' er, e = .returned (.tuple #[.slice a' out.length c', .int .i64 er]) ∧ Ge elN w' w.heap.size (.slice a' out.length c') out ∧ PlR ns out er ∧ Below w.heap.size w w'
end Go.Proofs.YthladfhjhanhlaaGreatDoor
namespace Go.Proofs.YthladfhjhanhlaaGreatDoor
open Go.RowKit Go.Shelf Go.Sort
set_option linter.unusedVariables false

/-- Texts rising, each once. -/
def srt (l : List (List UInt8)) : List (List UInt8) := Go.Lib.compact (l.mergeSort fun x y => decide (x ≤ y))
theorem holds_of_ge {w : World} {B g n cap : Nat} {ss : List (List UInt8)} (h : Ge elS w B (.slice (some ⟨g, 0, none⟩) n cap) ss) : Holds encStr w g 0 ss.toArray := by
  intro j hj
  have hj' : j < ss.length := by simpa using hj
  have hn : n = ss.length := by
    obtain ⟨a', cap', e, -, -, -⟩ := h.shape
    simp only [Value.slice.injEq] at e
    exact e.2.1
  have := h.toLe.at j (by omega) 0 (sv (ss.getD j [])) rfl
  refine ⟨?_, h.frozen _⟩
  rw [show 0 + j = 0 + (j * elS.s + 0) by show 0 + j = 0 + (j * 1 + 0); omega, this]
  simp [hj', List.getD_eq_getElem?_getD]
theorem le_of_holds {w : World} {g : Nat} {ts pad : List (List UInt8)} (h : Holds encStr w g 0 (ts ++ pad).toArray) : Le elS w (some ⟨g, 0, none⟩) ts.length ts := by
  refine ⟨rfl, fun h0 => ⟨g, 0, rfl, fun i u hu => ?_⟩⟩
  have hi : i < ts.length := by
    rcases Nat.lt_or_ge i (rowE elS ts).length with h' | h'
    · rw [rowE_length] at h'; have h'' : i < ts.length * 1 := h'; omega
    · rw [List.getElem?_eq_none h'] at hu; cases hu
  have h1 := (h i (by simp; omega)).1
  have h2 := rowE_get elS 0 (by decide) ts i hi
  rw [show i * elS.s + 0 = i by show i * 1 + 0 = i; omega, hu] at h2
  have h3 : u = sv (ts.getD i []) := by simpa [elS] using h2
  rw [h1, h3]
  simp [List.getElem!_eq_getElem?_getD, List.getElem?_append_left hi, List.getD_eq_getElem?_getD, hi]
theorem gr_put {w : World} {g n : Nat} {os : Array Obj} (d : Array (List UInt8)) : w.grownBy (grow (putRow encStr (Sort.ahead w n) g 0 d) os) (some g) := by
  refine ⟨rfl, rfl, rfl, by simp, fun k hk hne => ?_⟩
  rw [heap_grow_old _ _ (by simpa using hk)]
  have : g ≠ k := fun e => hne (by rw [e])
  simp [putRow, mapBlock, Sort.ahead, Array.getElem?_modify, this]
theorem compact_le (l : List (List UInt8)) : (Go.Lib.compact l).length ≤ l.length := by
  unfold Go.Lib.compact Go.Lib.compactUpTo
  rw [List.length_map]
  exact Nat.le_trans (List.length_filter_le _ _) (by simp)
theorem gr_put0 {w : World} {g n : Nat} (d : Array (List UInt8)) : w.grownBy (putRow encStr (Sort.ahead w n) g 0 d) (some g) := by
  have := gr_put (w := w) (g := g) (n := n) (os := #[]) d
  rwa [grow_empty] at this
theorem nms_drop {ns : List Nd} {i : Nat} (h : i < ns.length) (c : Int) : nms c (ns.take (i + 1)) = nms c (ns.take i) ++ (if (ns.getD i nd0).kd = c then [(ns.getD i nd0).nm] else []) := by
  rw [take_one (d := nd0) h, nms_app, nms_cons]; simp [nms]
theorem results_ttt {fn : Func} {i j k : Nat} {tmps : Array Value} {w : World} (h : fn.results = #[.tmp i, .tmp j, .tmp k]) :
    (results fn tmps).run Tryz.prog w = .ok (.tuple #[tmps.getD i undef, tmps.getD j undef, tmps.getD k undef]) w := by
  simp [results, h, go_sem]
set_option maxHeartbeats 4000000 in
theorem named_any (ns : List Nd) (a : Option Addr) (cap : Nat) (c : Int) (w : World) (hL : Le elN w a ns.length ns) (hl : ns.length ≤ 64) :
    Calls Tryz.prog 10 #[.slice a ns.length cap, .int .i64 c] w fun e w' => ∃ a' c', e = .returned (.slice a' (srt (nms c ns)).length c') ∧ Le elS w' a' (srt (nms c ns)).length (srt (nms c ns)) ∧ Below w.heap.size w w' := by
  have HL : Hid (Le elN w a ns.length ns) := hL
  clear hL
  obtain ⟨S, hS⟩ : ∃ S, srt (nms c ns) = S := ⟨_, rfl⟩
  have HS : Hid (srt (nms c ns) = S) := hS
  rw [hS]
  clear hS
  go_enter Tryz.func10, Tryz.ntmps10
  go_wp2_with fail
  go_loopw [5, 7, 10] (fun li _ j wr => ∃ i : Nat, j = .int .i64 i ∧ i ≤ ns.length ∧ Hid (Ge elS wr w.heap.size li (nms c (ns.take i))) ∧ Hid (Below w.heap.size w wr) ∧ Hid ((nms c (ns.take i)).length ≤ i)) (fun _ _ j _ => (ns.length - (intOf j).toNat : Nat))
  case atStart => exact ⟨0, rfl, Nat.zero_le _, Ge.nil _ _, Below.refl _ _, Nat.zero_le _⟩
  case round =>
    obtain ⟨i, rfl, hi, HG, HB, HN⟩ := hrel
    rcases Nat.lt_or_ge i ns.length with hlt | hge
    · have hii : (i : Int) < ns.length := by omega
      obtain ⟨b, off, rfl⟩ := HL.out.ex (by omega)
      have LL := HL.out.after HB.out
      obtain ⟨n, hn⟩ : ∃ n, ns.getD i nd0 = n := ⟨_, rfl⟩
      have k0 : wr.cell? ⟨b, off + i * 6, none⟩ = some (.int .i64 n.kd) := LL.at i hlt 0 _ (by rw [← hn]; rfl)
      have k1 : wr.cell? ⟨b, off + i * 6 + 1, none⟩ = some (.int .i64 n.ks) := by rw [Nat.add_assoc]; exact LL.at i hlt 1 _ (by rw [← hn]; rfl)
      have k2 : wr.cell? ⟨b, off + i * 6 + 2, none⟩ = some (sv n.nm) := by rw [Nat.add_assoc]; exact LL.at i hlt 2 _ (by rw [← hn]; rfl)
      have k3 : wr.cell? ⟨b, off + i * 6 + 3, none⟩ = some (.int .i64 n.op) := by rw [Nat.add_assoc]; exact LL.at i hlt 3 _ (by rw [← hn]; rfl)
      have k4 : wr.cell? ⟨b, off + i * 6 + 4, none⟩ = some (.int .i64 n.un) := by rw [Nat.add_assoc]; exact LL.at i hlt 4 _ (by rw [← hn]; rfl)
      have k5 : wr.cell? ⟨b, off + i * 6 + 5, none⟩ = some (.int .i64 n.pl) := by rw [Nat.add_assoc]; exact LL.at i hlt 5 _ (by rw [← hn]; rfl)
      have hnx := nms_drop hlt c
      rw [hn] at hnx
      have HX : Hid (nms c (ns.take (i + 1)) = nms c (ns.take i) ++ (if n.kd = c then [n.nm] else [])) := hnx
      obtain ⟨ao, co, hli, -, -, -⟩ := HG.out.shape
      subst hli
      obtain ⟨L, hL⟩ : ∃ L, nms c (ns.take i) = L := ⟨_, rfl⟩
      rw [hL] at HG HN HX
      rw [hL]
      have hLl := HN.out
      clear hn hnx LL hL
      go_upto_region 5 with fail
      refine ent1 wr _ _ (Q := fun W => Code.wp _ _ _ _ W) ?_
      intro W1 hb1 hs1 V1
      have m0 := V1.n0
      have m2 := V1.n2
      have HB1 : Hid (Below w.heap.size w W1) := step HB.out hb1
      have HG1 : Hid (Ge elS W1 w.heap.size (.slice ao L.length co) L) := HG.out.after hb1
      have hsz1 := HB1.out.size
      clear hb1 hs1 V1 k0 k1 k2 k3 k4 k5 HG HB
      by_cases hk : n.kd = c
      · have hkb : (n.kd == c) = true := by simpa using hk
        have HX2 : Hid (nms c (ns.take (i + 1)) = L ++ [n.nm]) := by show _ = _; rw [HX.out, if_pos hk]
        clear hk HX
        go_wp2_with (at_builtin; refine wpList_appE rfl _ _ _ rfl elS rfl w.heap.size _ L rfl (HG1.out.al _) W1.heap.size 0 1 1 [n.nm] rfl (Le.one (Va.new W1 _ _) rfl) (by omega) (by simp; omega) ?_; intro v' w6 hg6 hgr6 hob6; obtain ⟨a6, c6, rfl, -, -, -⟩ := hg6.shape)
        have HG6 : Hid (Ge elS w6 w.heap.size (.slice a6 (L ++ [n.nm]).length c6) (L ++ [n.nm])) := hg6
        have HB6 : Hid (Below w.heap.size w w6) := HB1.out.trans (appE_below hgr6 HG1.out (by simp; omega) ((Below.refl _ _).alloc (by omega) _))
        clear hg6 hgr6 hob6 HG1 HB1
        go_wp2_with fail
        go_roundw
        case rel => exact ⟨i + 1, rfl, by omega, by rw [HX2.out]; have := HG6.out; first | exact this | (rw [List.length_append] at this; exact this), HB6.out, by rw [HX2.out, List.length_append]; simp; omega⟩
        case measure => simp [intOf]; omega
      · have hkb : (n.kd == c) = false := by simpa using hk
        have HX2 : Hid (nms c (ns.take (i + 1)) = L) := by show _ = _; rw [HX.out, if_neg hk, List.append_nil]
        clear hk HX
        go_wp2_with fail
        go_roundw
        case rel => exact ⟨i + 1, rfl, by omega, by rw [HX2.out]; exact HG1.out, HB1.out, by rw [HX2.out]; show _ ≤ _; omega⟩
        case measure => simp [intOf]; omega
    · obtain rfl : i = ns.length := by omega
      rw [List.take_length] at HG HN
      obtain ⟨L, hL⟩ : ∃ L, nms c ns = L := ⟨_, rfl⟩
      rw [hL] at HG HN HS
      have hLl := HN.out
      obtain ⟨ao, co, hli, hco, hcm, hsh⟩ := HG.out.shape
      subst hli
      clear hL hge hi HN
      rcases hsh with ⟨rfl, rfl, rfl⟩ | ⟨g, rfl⟩
      · have C1 := Tryz.slices_Sort_string_none none 0 wr
        have C2 := Tryz.slices_Compact_string_empty none 0 wr
        have HS2 : Hid (S = []) := by show _ = _; rw [← HS.out]; simp [srt, Go.Lib.compact, Go.Lib.compactUpTo]
        clear hco hcm
        go_wp2_with fail
        refine C1.mono ?_
        rintro e w2 ⟨rfl, rfl⟩
        clear C1
        go_wp2_with fail
        refine C2.mono ?_
        rintro e w3 ⟨rfl, rfl⟩
        clear C2
        go_wp2_with fail
        go_ret
        refine ⟨none, 0, ?_, ?_, HB.out⟩
        · rw [HS2.out]; rfl
        · rw [HS2.out]; exact Le.nil _ _
      · have hgl : g < wr.heap.size := HG.out.lt g rfl
        have hgB : w.heap.size ≤ g := HG.out.block g rfl
        have hH := holds_of_ge HG.out
        have C1 := Tryz.slices_Sort_string g 0 co L wr hH hgl (by omega)
        obtain ⟨M, hM⟩ : ∃ M, (L.mergeSort fun x y => decide (x ≤ y)) = M := ⟨_, rfl⟩
        have hML : M.length = L.length := by rw [← hM, List.length_mergeSort]
        have HCM : Hid (Go.Lib.compact M = S) := by show _ = _; rw [← hM]; exact HS.out
        rw [hM] at C1
        clear hM hcm
        go_wp2_with fail
        refine C1.mono ?_
        rintro e w2 ⟨rfl, n, os, hw2⟩
        have H2 : Holds encStr w2 g 0 M.toArray := by
          rw [hw2]
          exact holds_grow _ _ _ _ _ _ (by simpa using hgl) (holds_putRow encStr (Sort.ahead wr n) g 0 L.toArray M.toArray hH (by simp [hML]))
        have G2 : wr.grownBy w2 (some g) := by rw [hw2]; exact gr_put _
        have HB2 : Hid (Below w.heap.size w w2) := HB.out.trans (gr_to G2 hgB HB.out.size)
        have C2 := Tryz.slices_Compact_string g 0 co M w2 H2 (by omega) (by omega)
        rw [hML, HCM.out] at C2
        have hSL : S.length ≤ L.length := by rw [← HCM.out, ← hML]; exact compact_le M
        have HH2 : Hid (Holds encStr w2 g 0 M.toArray) := H2
        have hs2 := G2.size
        have hsB := HB.out.size
        clear hw2 C1 H2 hH G2
        go_wp2_with fail
        refine C2.mono ?_
        rintro e w3 ⟨rfl, q, hw3⟩
        have H3 : Holds encStr w3 g 0 (S ++ List.replicate (L.length - S.length) []).toArray := by
          rw [hw3]
          exact holds_putRow encStr (Sort.ahead w2 q) g 0 M.toArray _ HH2.out (by simp; omega)
        have G3 : w2.grownBy w3 (some g) := by rw [hw3]; exact gr_put0 _
        have B3 : Below w.heap.size w w3 := HB2.out.trans (gr_to G3 hgB (by omega))
        have HLe : Hid (Le elS w3 (some ⟨g, 0, none⟩) S.length S) := le_of_holds H3
        clear hw3 C2 H3 G3
        go_wp2_with fail
        go_ret
        exact ⟨some ⟨g, 0, none⟩, co, rfl, HLe.out, B3⟩
/-- How Names ends where the nodes are a condition. -/
theorem names_ok (ns : List Nd) (a : Option Addr) (cap : Nat) (w : World) (hL : Le elN w a ns.length ns) (h64 : ∀ n ∈ ns, N64 n) (hc : Cond wdB ns) :
    Calls Tryz.prog 4 #[.slice a ns.length cap] w fun e w' => ∃ a1 c1 a2 c2, e = .returned (.tuple #[.slice a1 (srt (nms 4 ns)).length c1, .slice a2 (srt (nms 5 ns)).length c2, .int .i64 0]) ∧ Le elS w' a1 (srt (nms 4 ns)).length (srt (nms 4 ns)) ∧ Le elS w' a2 (srt (nms 5 ns)).length (srt (nms 5 ns)) ∧ Below w.heap.size w w' := by
  have C1 := check13 ns a cap w hL h64
  rw [ckE_ok hc] at C1
  have hl : ns.length ≤ 64 := by
    rcases hc with rfl | h
    · simp
    · exact h.1
  have HL : Hid (Le elN w a ns.length ns) := hL
  have C4 := fun W h => named_any ns a cap 4 W h hl
  have C5 := fun W h => named_any ns a cap 5 W h hl
  obtain ⟨S4, hS4⟩ : ∃ S, srt (nms 4 ns) = S := ⟨_, rfl⟩
  obtain ⟨S5, hS5⟩ : ∃ S, srt (nms 5 ns) = S := ⟨_, rfl⟩
  rw [hS4] at C4 ⊢
  rw [hS5] at C5 ⊢
  clear hL h64 hc hS4 hS5
  go_enter Tryz.func4, Tryz.ntmps4
  go_wp2_with fail
  refine C1.mono ?_
  rintro e W2 ⟨rfl, hb2⟩
  have D4 := C4 W2 (HL.out.after hb2)
  clear C1 C4
  go_wp2_with fail
  refine D4.mono ?_
  rintro e W3 ⟨a1, c1, rfl, hl1, hb3⟩
  have hb23 := step hb2 hb3
  have D5 := C5 W3 (HL.out.after hb23)
  have HL1 : Hid (Le elS W3 a1 S4.length S4) := hl1
  clear D4 C5 hl1
  go_wp2_with fail
  refine D5.mono ?_
  rintro e W4 ⟨a2, c2, rfl, hl2, hb4⟩
  have HL2 : Hid (Le elS W4 a2 S5.length S5) := hl2
  have B4 := step hb23 hb4
  have HL3 : Hid (Le elS W4 a1 S4.length S4) := HL1.out.after hb4
  clear D5 hl2 hb4 HL1
  go_wp2_with fail
  refine bodyPost_ret (results_ttt rfl) rfl ?_
  exact ⟨a1, c1, a2, c2, rfl, HL3.out, HL2.out, B4⟩
end Go.Proofs.YthladfhjhanhlaaGreatDoor
namespace Go.Proofs.YthladfhjhanhlaaGreatDoor
set_option linter.unusedVariables false

/-- Of two lists one behind the other, in the order that they are walked. -/
def nmM (N : List (List UInt8)) : List (List UInt8) → List (List UInt8) → List (List UInt8)
  | [], [] => []
  | [], b :: s => (if N.contains b then [] else [b]) ++ nmM N [] s
  | a :: r, [] => (if N.contains a then [a] else []) ++ nmM N r []
  | a :: r, b :: s =>
    if a ≤ b then
      if b = a then (if N.contains a then [a] else []) ++ ((if N.contains b then [] else [b]) ++ nmM N r s)
      else (if N.contains a then [a] else []) ++ nmM N r (b :: s)
    else (if N.contains b then [] else [b]) ++ nmM N (a :: r) s
termination_by x y => x.length + y.length
theorem nmM_mem (N : List (List UInt8)) (x : List UInt8) (hx : x ∈ N) : ∀ a b : List (List UInt8), x ∈ nmM N a b ↔ x ∈ a := by
  have k1 : ∀ y, x ∈ (if N.contains y then [y] else [] : List (List UInt8)) ↔ x = y := by
    intro y
    split
    · simp
    · rename_i h
      constructor
      · intro h'; simp at h'
      · rintro rfl; simp at h; exact absurd hx h
  have k2 : ∀ y, ¬ x ∈ (if N.contains y then [] else [y] : List (List UInt8)) := by
    intro y
    split
    · simp
    · rename_i h
      intro h'
      simp at h'
      subst h'; simp at h; exact h hx
  intro a b
  fun_induction nmM N a b with
  | case1 => simp
  | case2 b s ih => rw [List.mem_append, ih]; exact ⟨fun h => h.resolve_left (k2 b), .inr⟩
  | case3 a r ih => rw [List.mem_append, ih, k1]; simp
  | case4 r a s h ih => rw [List.mem_append, List.mem_append, ih, k1, List.mem_cons]; exact ⟨fun h => h.elim .inl fun h => .inr (h.resolve_left (k2 a)), fun h => h.elim .inl fun h => .inr (.inr h)⟩
  | case5 a r b s h e ih => rw [List.mem_append, ih, k1]; simp
  | case6 a r b s h ih => rw [List.mem_append, ih]; exact ⟨fun h => h.resolve_left (k2 b), .inr⟩
theorem nmM_len (N : List (List UInt8)) : ∀ a b : List (List UInt8), (nmM N a b).length ≤ a.length + b.length := by
  have k1 : ∀ y, (if N.contains y then [y] else [] : List (List UInt8)).length ≤ 1 := by intro y; split <;> simp
  have k2 : ∀ y, (if N.contains y then [] else [y] : List (List UInt8)).length ≤ 1 := by intro y; split <;> simp
  intro a b
  fun_induction nmM N a b with
  | case1 => simp
  | case2 b s ih => rw [List.length_append]; have := k2 b; simp only [List.length_cons] at *; omega
  | case3 a r ih => rw [List.length_append]; have := k1 a; simp only [List.length_cons] at *; omega
  | case4 r a s h ih => rw [List.length_append, List.length_append]; have := k1 a; have := k2 a; simp only [List.length_cons] at *; omega
  | case5 a r b s h e ih => rw [List.length_append]; have := k1 a; simp only [List.length_cons] at *; omega
  | case6 a r b s h ih => rw [List.length_append]; have := k2 b; simp only [List.length_cons] at *; omega
/-- What holds hangs on the tests alone. -/
theorem ev_congr (v u : Nd → Bool) : ∀ t : Fo, (∀ n ∈ t.flat, 4 ≤ n.kd → v n = u n) → (∀ n ∈ t.flat, n.kd = 1 ∨ n.kd = 2 ∨ n.kd = 3 ∨ 4 ≤ n.kd) → t.ev v = t.ev u
  | .nil, _, _ => rfl
  | .cons n k r, h, g => by
    have e1 := ev_congr v u k (fun m hm => h m (by simp [Fo.flat, hm])) (fun m hm => g m (by simp [Fo.flat, hm]))
    have e2 := ev_congr v u r (fun m hm => h m (by simp [Fo.flat, hm])) (fun m hm => g m (by simp [Fo.flat, hm]))
    have e3 := h n (by simp [Fo.flat])
    have e4 := g n (by simp [Fo.flat])
    simp only [Fo.ev, e1, e2]
    congr 1
    rcases e4 with e | e | e | e
    · simp [e]
    · simp [e]
    · simp [e]
    · rw [e3 e]
theorem ok_kd {W : List UInt8 → Bool} : ∀ (t : Fo) (o : Int) (d : Nat), t.Ok W o d → ∀ n ∈ t.flat, n.kd = 1 ∨ n.kd = 2 ∨ n.kd = 3 ∨ n.kd = 4 ∨ n.kd = 5 ∨ n.kd = 6 ∨ n.kd = 7
  | .nil, _, _, _, n, h => by simp [Fo.flat] at h
  | .cons m k r, o, d, ok, n, h => by
    simp only [Fo.flat, List.mem_cons, List.mem_append] at h
    rcases h with rfl | h | h
    · rcases ok.1.1 with ⟨h, -⟩ | ⟨h, -⟩ | ⟨h, -⟩ | ⟨h, -⟩ <;> omega
    · exact ok_kd k _ _ ok.1.2.2.2.2 n h
    · exact ok_kd r _ _ ok.2 n h
theorem hoV_congr {ns : List Nd} (hc : Cond wdB ns) (v u : Nd → Bool) (h : ∀ n ∈ ns, n.kd = 4 ∨ n.kd = 5 ∨ n.kd = 6 ∨ n.kd = 7 → v n = u n) : hoV ns v = hoV ns u := by
  by_cases h0 : ns = []
  · subst h0; rw [hoV_nil, hoV_nil]
  obtain ⟨-, n, k, e, ok⟩ := cond_tree h0 hc
  have hk := ok_kd _ _ _ ok
  have := ev_congr v u (Fo.cons n k .nil) (fun m hm h4 => h m (e ▸ hm) (by have := hk m hm; omega)) (fun m hm => by have := hk m hm; omega)
  simp only [Fo.ev, List.cons.injEq, and_true] at this
  rw [hoV_eq e ok, hoV_eq e ok]
  exact this
theorem mem_srt (l : List (List UInt8)) (x : List UInt8) (h : x ∈ l) : x ∈ srt l := by
  have hs : x ∈ l.mergeSort fun x y => decide (x ≤ y) := List.mem_mergeSort.2 h
  unfold srt
  generalize (l.mergeSort fun x y => decide (x ≤ y)) = z at hs
  obtain ⟨j, hj, e⟩ := List.getElem_of_mem hs
  have K : ∀ j, j < z.length → z.toArray[j]! = x → x ∈ Go.Lib.compact z := by
    intro j
    induction j with
    | zero =>
      intro hj e
      unfold Go.Lib.compact Go.Lib.compactUpTo
      exact List.mem_map.2 ⟨0, List.mem_filter.2 ⟨List.mem_range.2 hj, by simp [Go.Lib.keeps]⟩, e⟩
    | succ j ih =>
      intro hj e
      by_cases c : z.toArray[j]! = x
      · exact ih (by omega) c
      · unfold Go.Lib.compact Go.Lib.compactUpTo
        refine List.mem_map.2 ⟨j + 1, List.mem_filter.2 ⟨List.mem_range.2 hj, ?_⟩, e⟩
        unfold Go.Lib.keeps
        refine decide_eq_true (.inr ?_)
        rw [e]
        exact fun h => c h.symm
  exact K j hj (by rw [getElem!_pos z.toArray j (by simpa using hj)]; simpa using e)
def anyK (c : Int) (ns : List Nd) : Bool := ns.any fun n => decide (n.kd = c)
/-- The facts that say the same of what is asked. -/
def sameF (ns : List Nd) (f g : Fx) : Fx :=
  ⟨nmM (srt (nms 4 ns)) f.byr g.byr, nmM (srt (nms 5 ns)) f.lin g.lin, if anyK 6 ns then f.amt else g.amt, if anyK 6 ns then f.dig else g.dig, if anyK 7 ns then f.qty else g.qty⟩
theorem blind {ns : List Nd} (hc : Cond wdB ns) (f g : Fx) : hoV ns (sameF ns f g).vf = hoV ns f.vf := by
  refine hoV_congr hc _ _ fun n hn h => ?_
  unfold Fx.vf vfa sameF
  have hm : ∀ c, n.kd = c → n.nm ∈ srt (nms c ns) := fun c e => mem_srt _ _ (by unfold nms; exact List.mem_map.2 ⟨n, List.mem_filter.2 ⟨hn, by simpa using e⟩, rfl⟩)
  have ha : ∀ c, n.kd = c → anyK c ns = true := fun c e => List.any_eq_true.2 ⟨n, hn, by simpa using e⟩
  rcases h with h | h | h | h
  · simp only [h, if_true]
    rw [Bool.eq_iff_iff]; simp only [List.contains_iff_mem]
    exact nmM_mem _ _ (hm 4 h) _ _
  · simp only [h]
    simp only [show ¬ (5 : Int) = 4 by decide, if_false, if_true]
    rw [Bool.eq_iff_iff]; simp only [List.contains_iff_mem]
    exact nmM_mem _ _ (hm 5 h) _ _
  · simp [h, ha 6 h]
  · simp [h, ha 7 h]
end Go.Proofs.YthladfhjhanhlaaGreatDoor
namespace Go.Proofs.YthladfhjhanhlaaGreatDoor
open Go.RowKit Go.Shelf
set_option linter.unusedVariables false

set_option maxHeartbeats 4000000 in
theorem hasS_any (l : List (List UInt8)) (a : Option Addr) (cap : Nat) (x : List UInt8) (w : World) (hL : Le elS w a l.length l) (hl : l.length ≤ 100) :
    Calls Tryz.prog 13 #[.slice a l.length cap, sv x] w fun e w' => e = .returned (.bool (l.contains x)) ∧ w' = w := by
  have HL : Hid (Le elS w a l.length l) := hL
  obtain ⟨R, hR⟩ : ∃ R, l.contains x = R := ⟨_, rfl⟩
  have HR : Hid (l.contains x = R) := hR
  rw [hR]
  clear hL hR
  go_enter Tryz.func13, Tryz.ntmps13
  go_wp2_with fail
  go_loopw [5] (fun j wr => ∃ i : Nat, j = .int .i64 i ∧ i ≤ l.length ∧ Hid (∀ k, k < i → l.getD k [] ≠ x) ∧ wr = w) (fun j _ => (l.length - (intOf j).toNat : Nat))
  case atStart => exact ⟨0, rfl, Nat.zero_le _, fun k hk => absurd hk (by omega), rfl⟩
  case round =>
    obtain ⟨i, rfl, hi, HI, rfl⟩ := hrel
    rcases Nat.lt_or_ge i l.length with hlt | hge
    · have hii : (i : Int) < l.length := by omega
      obtain ⟨b, off, rfl⟩ := HL.out.ex (by omega)
      have c1 : wr.cell? ⟨b, off + i, none⟩ = some (sv (l.getD i [])) := by have := HL.out.at i hlt 0 (sv (l.getD i [])) rfl; simpa [elS] using this
      have HM : Hid (l.getD i [] ∈ l) := by
        show _ ∈ l
        rw [List.getD_eq_getElem?_getD, List.getElem?_eq_getElem hlt]; exact List.getElem_mem _
      obtain ⟨y, hy⟩ : ∃ y, l.getD i [] = y := ⟨_, rfl⟩
      have HY : Hid (l.getD i [] = y) := hy
      rw [hy] at c1 HM
      clear hy
      by_cases e : y = x
      · subst e
        have q1 : (y == y) = true := by simp
        have HR2 : Hid (true = R) := by show _ = _; rw [← HR.out]; exact (List.contains_iff_mem.2 HM.out).symm
        go_wp2_with fail
        go_ret
        exact ⟨by rw [← HR2.out]; rfl, rfl⟩
      · have q1 : (y == x) = false := by rw [beq_eq_false_iff_ne]; exact e
        have HE : Hid (y ≠ x) := e
        clear e
        go_wp2_with fail
        go_roundw
        case rel => exact ⟨i + 1, rfl, by omega, fun k hk => by
          rcases Nat.lt_or_ge k i with h | h
          · exact HI.out k h
          · obtain rfl : k = i := by omega
            rw [HY.out]; exact HE.out, trivial⟩
        case measure => simp [intOf]; omega
    · obtain rfl : i = l.length := by omega
      have HR2 : Hid (false = R) := by
        show _ = _
        rw [← HR.out, eq_comm, ← Bool.not_eq_true, List.contains_iff_mem]
        intro h
        obtain ⟨j, hj⟩ := List.mem_iff_getElem?.1 h
        have hjl := (List.getElem?_eq_some_iff.1 hj).1
        exact HI.out j hjl (by rw [List.getD_eq_getElem?_getD, hj]; rfl)
      clear hge hi
      go_wp2_with fail
      go_ret
      exact ⟨by rw [← HR2.out]; rfl, rfl⟩
end Go.Proofs.YthladfhjhanhlaaGreatDoor
namespace Go.Proofs.YthladfhjhanhlaaGreatDoor
open Go.RowKit Go.Shelf
set_option linter.unusedVariables false

theorem drop_n {l : List Nd} {j : Nat} (h : j < l.length) : l.drop j = l.getD j nd0 :: l.drop (j + 1) := by
  rw [List.drop_eq_getElem_cons h, List.getD_eq_getElem?_getD, List.getElem?_eq_getElem h]; rfl
end Go.Proofs.YthladfhjhanhlaaGreatDoor
