/-
  A row of numbers of fixed room, in a block of its own: all its cells are numbers, told or not.
-/
import Derived.Test.YtpfbcicjfnfpgaaSmallP
import Derived.Laws.OwnMore
import Derived.Lib.AppendIntMem
namespace Go.Proofs.Ytpfbcicjfnfpgaa
open Go.RowKit Go.Shelf
set_option linter.unusedVariables false

def AllS (l : List Value) : Prop := ∀ x ∈ l, ∃ a n c, x = Value.slice a n c
def Rx (W : World) (g cap : Nat) (ss : List Value) : Prop := ∃ rest, W.heap[g]? = some (.cells (ss ++ rest).toArray 25 (0, 0)) ∧ (ss ++ rest).length = cap ∧ AllS (ss ++ rest)
theorem Rx.lt {W : World} {g cap : Nat} {ss : List Value} (h : Rx W g cap ss) : g < W.heap.size := by
  obtain ⟨rest, h, -⟩ := h
  exact (Array.getElem?_eq_some_iff.1 h).1
theorem Rx.after {W W' : World} (hb : Below W.heap.size W W') {g cap : Nat} {ss : List Value} (h : Rx W g cap ss) : Rx W' g cap ss := by
  have hl := h.lt
  obtain ⟨rest, h, h'⟩ := h
  exact ⟨rest, (hb.block g hl).trans h, h'⟩
theorem Rx.at {W W' : World} {g cap : Nat} {ss : List Value} (h : Rx W g cap ss) (k : W'.heap[g]? = W.heap[g]?) : Rx W' g cap ss := by
  obtain ⟨rest, h, h'⟩ := h
  exact ⟨rest, k.trans h, h'⟩
theorem Rx.cell {W : World} {g cap : Nat} {ss : List Value} (h : Rx W g cap ss) {i : Nat} {x : Value} (hx : ss[i]? = some x) : W.cell? ⟨g, i, none⟩ = some x := by
  obtain ⟨rest, h, h'⟩ := h
  have hi := (List.getElem?_eq_some_iff.1 hx).1
  simp only [World.cell?, h]
  rw [List.getElem?_toArray, List.getElem?_append_left hi]
  exact hx
theorem Rx.cap {W : World} {g cap : Nat} {ss : List Value} (h : Rx W g cap ss) : ss.length ≤ cap := by
  obtain ⟨rest, h, h', -⟩ := h
  rw [← h', List.length_append]; omega
/-- A number never lies in such a row. -/
theorem Rx.ne {W : World} {g cap : Nat} {ss : List Value} (h : Rx W g cap ss) {a : Option Addr} {l c : Nat} {zs : List Int} (hn : Nt W a l c zs) (h0 : 0 < l) {p : Addr} (hp : a = some p) : p.block ≠ g := by
  intro e
  obtain ⟨rest, hh, -, hs⟩ := h
  obtain ⟨bb, off, e', hc⟩ := hn.1.2.2 h0
  rw [hp] at e'
  cases e'
  have hz := hc 0 h0
  have eb : bb = g := e
  subst eb
  simp only [World.cell?, hh] at hz
  rw [List.getElem?_toArray] at hz
  obtain ⟨a', n', c', hx⟩ := hs _ (List.mem_of_getElem? hz)
  cases hx
theorem Nt.past {W W' : World} {a : Option Addr} {l c : Nat} {zs : List Int} (h : Nt W a l c zs) {g : Nat} (hne : 0 < l → ∀ p, a = some p → p.block ≠ g) (far : ∀ k, k ≠ g → W'.heap[k]? = W.heap[k]?) : Nt W' a l c zs := by
  obtain ⟨⟨h1, h2, h3⟩, h4⟩ := h
  refine ⟨⟨h1, h2, fun h0 => ?_⟩, h4⟩
  obtain ⟨bb, off, e, hc⟩ := h3 h0
  exact ⟨bb, off, e, fun i hi => (World.cell?_of_block (w := W) (far bb (hne h0 _ e))).trans (hc i hi)⟩
theorem run_mkrow (w : World) (c : Nat) (hc : c ≤ 1000000) : ∃ w', (Instr.makeSlice 98 (.int .i64 0) (.int .i64 (c : Int))).run Try.prog w = .ok (.slice (some ⟨w.heap.size, 0, none⟩) 0 c) w' ∧ Rx w' w.heap.size c [] ∧ Below w.heap.size w w' := by
  obtain ⟨i0, hi, hz0, hz1, hz2⟩ := info_parts infoN
  have hr := run_make (P := Try.prog) w 98 25 i0 (.agg #[.slice none 0 0]) Try.underlying98 hi hz0 .i64 .i64 0 c (Int.le_refl _) (by omega) (by rw [hz2]; omega) (by omega)
  have hc' : (c : Int).toNat = c := by omega
  rw [hz1, Nat.mul_one, hc'] at hr
  have e : madeCells (Value.agg #[.slice none 0 0]).cells c = (List.replicate c (Value.slice none 0 0)).toArray := by
    apply Array.ext
    · simp [madeCells]
    · intro i h1 h2
      simp [madeCells, Value.cells, Nat.mod_one]
  rw [e] at hr
  refine ⟨_, hr, ⟨List.replicate c (.slice none 0 0), ?_, by simp, fun x hx => ?_⟩, (Below.refl _ _).alloc (Nat.le_refl _) _⟩
  · rw [List.nil_append]; exact heap_alloc_new w _
  · exact ⟨none, 0, 0, (List.mem_replicate.1 (by simpa using hx)).2⟩
/-- append into the room that is there; all other blocks stay. -/
theorem wpList_appx {ops : Array Oper} {rest : List Oper} {o : Oper} {a : Act} {w : World} {Q : Exit → Act → World → Prop} (hgd : o.guard = none) (s x : Operand)
    (ho : o.op = .call { callee := .builtin .append, args := #[s, x], argTypes := #[98, 98] })
    (g n cap : Nat) (ss : List Value) (hs : a.eval s = .slice (some ⟨g, 0, none⟩) n cap) (hn : n = ss.length) (hg : Rx w g cap ss) (b m c : Nat) (news : List Value) (hx : a.eval x = .slice (some ⟨b, 0, none⟩) m c) (hm : news.length = m) (hc : ∀ j u, news[j]? = some u → w.cell? ⟨b, j, none⟩ = some u) (hS : AllS news)
    (hfit : n + m ≤ cap)
    (h : ∀ w', Hid (Rx w' g cap (ss ++ news)) → Hid (∀ k, k ≠ g → w'.heap[k]? = w.heap[k]?) → Hid (w'.heap.size = w.heap.size) → Hid (Below g w w') → wpList Try.prog ops Q rest (a.put o.dst (.slice (some ⟨g, 0, none⟩) (n + m) cap)) w') : wpList Try.prog ops Q (o :: rest) a w := by
  subst hn hm
  obtain ⟨i0, hi, hz0, hz1, hz2⟩ := info_parts infoN
  obtain ⟨rest', hh, hl, hA⟩ := hg
  have one : ∀ u ∈ news, u.oneCell' = true := fun u hu => by obtain ⟨a', n', c', rfl⟩ := hS u hu; rfl
  have hr := run_append_room (P := Try.prog) w 98 o.type 25 i0 Try.underlying98 hi g ss.length cap (ss ++ rest').toArray hh ⟨b, 0, none⟩ news.length c news (by rw [hz1, Nat.mul_one]) (fun j u hu => by rw [Go.Lib.add_plain, Nat.zero_add]; exact hc j u hu) one hfit (by rw [hz1, Nat.mul_one]; simp only [List.size_toArray]; omega)
  have eL : (ss ++ rest').toArray.toList.take ss.length ++ news ++ (ss ++ rest').toArray.toList.drop (ss.length + news.length) = ss ++ news ++ rest'.drop news.length := by
    show (ss ++ rest').take ss.length ++ news ++ (ss ++ rest').drop (ss.length + news.length) = _
    rw [List.take_left, List.drop_append]
    simp
  refine wpList_plain hgd fun K hK => ?_
  unfold Oper.wp execOp
  simp only [ho, resolve, invoke, builtin, Sem.run_bind, Sem.run_pure, Result.andThen_ok, List.map_toArray, List.map_cons, List.map_nil, hs, hx, hr]
  rw [hz1, Nat.mul_one]
  refine hK _ _ (h _ ⟨rest'.drop news.length, ?_, ?_, ?_⟩ (fun k hk => setRow_other w g k _ hk) (by show (w.setRow g _).heap.size = _; simp [World.setRow]) ⟨rfl, rfl, rfl, by simp [World.setRow], fun k hk => setRow_other w g k _ (by omega)⟩)
  · rw [setRow_heap w g _ _ 25 (0, 0) hh, eL]
  · rw [List.length_append] at hl
    simp; omega
  · intro x hx
    rcases List.mem_append.1 hx with hx | hx
    · rcases List.mem_append.1 hx with hx | hx
      · exact hA x (by simp [hx])
      · exact hS x hx
    · exact hA x (by simp [List.mem_of_mem_drop hx])
end Go.Proofs.Ytpfbcicjfnfpgaa
