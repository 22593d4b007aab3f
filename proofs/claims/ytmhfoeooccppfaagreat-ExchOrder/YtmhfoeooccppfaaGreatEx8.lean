/-
  exchange: a table in memory: its cells, its map, its lists; what one more quote makes of it.
-/
import Derived.Test.YtmhfoeooccppfaaGreatEx7
namespace Go.Proofs.YtmhfoeooccppfaaGreat
open Go.RowKit Go.Shelf
set_option linter.unusedVariables false
set_option maxRecDepth 20000

abbrev nilS : Value := .slice none 0 0
/-- What the map has at a pair. -/
def AtP (D : DataW Value) (k : Pa) (v : Value) : Prop := D.atKey (klP k) (.held nilS) = .held v
theorem AtP.unique {D : DataW Value} {k : Pa} {v v' : Value} (h : AtP D k v) (g : AtP D k v') : v = v' := by
  unfold AtP at h g
  rw [h] at g
  cases g; rfl
/-- A table: its cells, its map, and at each pair a list of its own; S has the blocks that are the table's. -/
structure Tb (w : World) (S : Nat → Prop) (b m n : Nat) (D : DataW Value) (T : List Qe) : Prop where
  cells : Tb0 w b m T.length
  own : w.ownsMap Tryz.prog 71 hdR m n D
  le : n ≤ T.length
  sb : S b
  sm : S m
  lt : ∀ k, S k → k < w.heap.size
  row : ∀ k : Pa, Sho k → ∃ v, AtP D k v ∧ Ge elQ w 0 v (sel k.1 k.2 T) ∧ ∀ g, v.ownBlock = some g → S g
  apart : ∀ k k' : Pa, Sho k → Sho k' → k ≠ k' → ∀ v v', AtP D k v → AtP D k' v' → ∀ g, v.ownBlock = some g → v'.ownBlock ≠ some g
  keys : ∀ kl, Maps.has D kl = true → ∃ k, Sho k ∧ kl = klP k ∧ sel k.1 k.2 T ≠ []
  nou : ∀ k : Pa, Sho k → ∀ v, AtP D k v → NoU w v
/-- No block that holds a limb is changed. -/
def NUc (w w' : World) : Prop := ∀ k, k < w.heap.size → w'.heap[k]? = w.heap[k]? ∨ ∀ i z, w.cell? ⟨k, i, none⟩ ≠ some (.int .u64 z)
theorem NUc.of_below {w w' : World} (h : Below w.heap.size w w') : NUc w w' := fun k hk => Or.inl (h.block k hk)
theorem NUc.after {w y y' : World} (hb : Below w.heap.size w y) (h : NUc y y') : NUc w y' := fun k hk => by
  rcases h k (Nat.lt_of_lt_of_le hk hb.size) with h' | h'
  · exact Or.inl (h'.trans (hb.block k hk))
  · refine Or.inr (fun i z e => h' i z ?_)
    simp only [World.cell?, hb.block k hk]
    simpa only [World.cell?] using e
/-- The table that a pointer leads to. -/
def TbR (w : World) (S : Nat → Prop) (b : Nat) (T : List Qe) : Prop := ∃ m n D, Tb w S b m n D T
/-- What a deed may change: blocks of S and new ones. -/
structure Ch (w w' : World) (S S' : Nat → Prop) : Prop where
  os : w'.os = w.os
  tape : w'.tape = w.tape
  output : w'.output = w.output
  size : w.heap.size ≤ w'.heap.size
  out : ∀ k, k < w.heap.size → ¬ S k → w'.heap[k]? = w.heap[k]?
  sub : ∀ k, S' k → S k ∨ w.heap.size ≤ k
theorem Ch.of_below {w w' : World} {S : Nat → Prop} (h : Below w.heap.size w w') : Ch w w' S S := ⟨h.os, h.tape, h.output, h.size, fun k hk _ => h.block k hk, fun k hk => Or.inl hk⟩
theorem Ch.trans {a b c : World} {S S' S'' : Nat → Prop} (h : Ch a b S S') (g : Ch b c S' S'') : Ch a c S S'' :=
  ⟨g.os.trans h.os, g.tape.trans h.tape, g.output.trans h.output, Nat.le_trans h.size g.size, fun k hk hn => by
    rw [g.out k (Nat.lt_of_lt_of_le hk h.size) (fun hs => by
      rcases h.sub k hs with h' | h'
      · exact hn h'
      · omega), h.out k hk hn], fun k hk => by
    rcases g.sub k hk with h' | h'
    · exact h.sub k h'
    · exact Or.inr (Nat.le_trans h.size h')⟩
theorem Ch.below {w w' : World} {S S' : Nat → Prop} (h : Ch w w' S S') {B : Nat} (hB : B ≤ w.heap.size) (hS : ∀ k, S k → B ≤ k) : Below B w w' :=
  ⟨h.os, h.tape, h.output, h.size, fun k hk => h.out k (by omega) (fun hs => by have := hS k hs; omega)⟩
theorem Ch.from {w w' : World} {S S' : Nat → Prop} (h : Ch w w' S S') {B : Nat} (hB : B ≤ w.heap.size) (hS : ∀ k, S k → B ≤ k) : ∀ k, S' k → B ≤ k := fun k hk => by
  rcases h.sub k hk with h' | h'
  · exact hS k h'
  · omega
theorem Va.keep {w w' : World} {b : Nat} {t : TypeId} {cs : Array Value} (h : Va w b t cs) (hk : w'.heap[b]? = w.heap[b]?) : Va w' b t cs := by
  unfold Va at *
  rw [hk]; exact h
theorem Va.sti {w : World} {b : Nat} {t : TypeId} {cs : Array Value} (h : Va w b t cs) (i : Nat) (v' : Value) : Va (w.setCell ⟨b, i, none⟩ v') b t (cs.setIfInBounds i v') := by
  unfold Va at *
  simp only [World.setCell]
  rw [Array.getElem?_modify, if_pos rfl, h]
  simp
theorem Tb.kept {w w' : World} {S : Nat → Prop} {b m n : Nat} {D : DataW Value} {T : List Qe} (h : Tb w S b m n D T) (hs : w.heap.size ≤ w'.heap.size) (hk : ∀ k, S k → w'.heap[k]? = w.heap[k]?) : Tb w' S b m n D T where
  cells := h.cells.keep (hk b h.sb)
  own := by
    obtain ⟨es, clock, hb, r⟩ := h.own
    exact ⟨es, clock, (hk m h.sm).trans hb, r⟩
  le := h.le
  sb := h.sb
  sm := h.sm
  lt := fun k hS => Nat.lt_of_lt_of_le (h.lt k hS) hs
  row := fun k hS => by
    obtain ⟨v, h1, h2, h3⟩ := h.row k hS
    exact ⟨v, h1, h2.kept (fun g hg => hk g (h3 g hg)), h3⟩
  apart := h.apart
  keys := h.keys
  nou := fun k hS v hv => by
    obtain ⟨v', h1, h2, h3⟩ := h.row k hS
    obtain rfl := hv.unique h1
    exact (h.nou k hS v hv).kept (fun g hg => hk g (h3 g hg))
theorem Tb.after {w w' : World} (hb : Below w.heap.size w w') {S : Nat → Prop} {b m n : Nat} {D : DataW Value} {T : List Qe} (h : Tb w S b m n D T) : Tb w' S b m n D T := h.kept hb.size (fun k hk => hb.block k (h.lt k hk))
theorem TbR.after {w w' : World} (hb : Below w.heap.size w w') {S : Nat → Prop} {b : Nat} {T : List Qe} (h : TbR w S b T) : TbR w' S b T := by
  obtain ⟨m, n, D, h⟩ := h
  exact ⟨m, n, D, h.after hb⟩
theorem TbR.other {w w' : World} {S R R' : Nat → Prop} {b : Nat} {T : List Qe} (h : TbR w S b T) (hc : Ch w w' R R') (hd : ∀ k, S k → ¬ R k) : TbR w' S b T := by
  obtain ⟨m, n, D, h⟩ := h
  exact ⟨m, n, D, h.kept hc.size (fun k hk => hc.out k (h.lt k hk) (hd k hk))⟩
/-- Two tables apart stay so. -/
theorem Ch.apart {w w' : World} {S R R' : Nat → Prop} (hc : Ch w w' R R') (hl : ∀ k, S k → k < w.heap.size) (hd : ∀ k, S k → ¬ R k) : ∀ k, S k → ¬ R' k := fun k hk hr => by
  rcases hc.sub k hr with h | h
  · exact hd k hk h
  · have := hl k hk; omega
theorem TbR.lt {w : World} {S : Nat → Prop} {b : Nat} {T : List Qe} (h : TbR w S b T) : ∀ k, S k → k < w.heap.size := by
  obtain ⟨m, n, D, h⟩ := h
  exact h.lt
/-- The map and the cells are of unlike kinds. -/
theorem Tb.ne {w : World} {S : Nat → Prop} {b m n : Nat} {D : DataW Value} {T : List Qe} (h : Tb w S b m n D T) : m ≠ b := fun e => by
  obtain ⟨es, clock, hb, -⟩ := h.own
  have hc := h.cells
  unfold Tb0 Va at hc
  rw [e, hc] at hb
  cases hb
theorem Ge.kind {w : World} {B g : Nat} {v : Value} {xs : List (Int × Nat)} (h : Ge elQ w B v xs) (hg : v.ownBlock = some g) : ∃ cur, w.heap[g]? = some (.cells cur 76 (0, 0)) := by
  obtain ⟨h1, h2 | ⟨g', cap, cur, e, hB, hh, r⟩⟩ := h
  · rw [h2.1] at hg; cases hg
  · rw [e] at hg
    cases hg
    exact ⟨cur, hh⟩
theorem Tb.row_ne {w : World} {S : Nat → Prop} {b m n : Nat} {D : DataW Value} {T : List Qe} (h : Tb w S b m n D T) {v : Value} {xs : List (Int × Nat)} (hg : Ge elQ w 0 v xs) : v.ownBlock ≠ some b ∧ v.ownBlock ≠ some m := by
  constructor
  · intro e
    obtain ⟨cur, hc⟩ := hg.kind e
    have h1 := h.cells
    unfold Tb0 Va at h1
    rw [hc] at h1
    cases h1
  · intro e
    obtain ⟨cur, hc⟩ := hg.kind e
    obtain ⟨es, clock, hb, -⟩ := h.own
    rw [hc] at hb
    cases hb
theorem Tb.same {w : World} {S : Nat → Prop} {b m n : Nat} {D : DataW Value} {T : List Qe} (h : Tb w S b m n D T) {k : Pa} (hk : Sho k) {v : Value} (hv : AtP D k v) : Ge elQ w 0 v (sel k.1 k.2 T) ∧ ∀ g, v.ownBlock = some g → S g := by
  obtain ⟨v', h1, h2, h3⟩ := h.row k hk
  obtain rfl := hv.unique h1
  exact ⟨h2, h3⟩
theorem zeroQs (w : World) : (zeroValue 72).run Tryz.prog w = .ok nilS w := by
  have hz : ∃ i, Tryz.prog.info? 72 = some i ∧ i.zero = some nilS := by
    have h : (Tryz.prog.info? 72).bind (·.zero) = some nilS := by kernel_rfl
    cases hi : Tryz.prog.info? 72 with
    | none => rw [hi] at h; cases h
    | some i => rw [hi] at h; exact ⟨i, rfl, h⟩
  obtain ⟨i, hi, hz⟩ := hz
  simp [zeroValue, typeInfo, hi, hz]
/-- Looking up. -/
theorem Tb.look {w : World} {S : Nat → Prop} {b m n : Nat} {D : DataW Value} {T : List Qe} (h : Tb w S b m n D T) {k : Pa} (hk : Sho k) : ∃ v, (∀ W : World, Below w.heap.size w W → (Instr.lookup 30 (.map (some m)) (pv k) false).run Tryz.prog W = .ok v W) ∧ AtP D k v ∧ Ge elQ w 0 v (sel k.1 k.2 T) ∧ ∀ g, v.ownBlock = some g → S g := by
  have key : ∀ W : World, Below w.heap.size w W → ∃ v, (Instr.lookup 30 (.map (some m)) (pv k) false).run Tryz.prog W = .ok v W ∧ AtP D k v := fun W hb => by
    obtain ⟨v, ps, hrun, hv⟩ := (h.after hb).own.lookup lawP Tryz.underlying30 (zeroQs W) (zd := .held nilS) (zp := []) rfl (keyP k hk)
    refine ⟨v, hrun, ?_⟩
    unfold hdR at hv
    have h2 := congrArg Prod.fst (Option.some.inj hv)
    exact h2.symm
  obtain ⟨v, -, h2⟩ := key w (Below.refl _ _)
  refine ⟨v, fun W hb => ?_, h2, h.same hk h2⟩
  obtain ⟨v', h1, h3⟩ := key W hb
  rw [h2.unique h3]
  exact h1
theorem sel_len (f t : List UInt8) (T : List Qe) : (sel f t T).length ≤ T.length := by
  unfold sel
  rw [List.length_map]
  exact List.length_filter_le _ _
/-- What a search tells where there is none of that day. -/
theorem sch_no {xs : List (Int × Nat)} (hR : Ris xs) {d : Int} {i : Nat} (h : Sch xs d i false) : (∀ x ∈ xs.drop i, d < x.1) ∧ ∀ x ∈ xs, x.1 ≠ d := by
  obtain ⟨hi, h1, h2, h3⟩ := h
  have key : ∀ x ∈ xs.drop i, d < x.1 := fun x hx => by
    obtain ⟨a, ha, rfl⟩ := List.mem_iff_getElem.1 hx
    have ha' : a < xs.length - i := by simpa using ha
    have h4 := h2 _ hx
    rcases Int.lt_or_eq_of_le h4 with h5 | h5
    · exact h5
    · exfalso
      rw [List.getElem_drop] at h5
      rcases Nat.eq_zero_or_pos a with h0 | h0
      · subst h0
        have : (false : Bool) = true := h3.2 ⟨(xs[i]'(by omega)).2, by
          rw [List.getElem?_eq_getElem (by omega : i < xs.length)]
          congr 1
          have h6 : d = (xs[i]'(by omega)).1 := by simpa using h5
          rw [h6]⟩
        cases this
      · have h7 := List.pairwise_iff_getElem.1 hR i (i + a) (by omega) (by omega) (by omega)
        have h8 := h2 (xs[i]'(by omega)) (List.mem_iff_getElem.2 ⟨0, by simp; omega, by simp⟩)
        omega
  refine ⟨key, fun x hx e => ?_⟩
  rw [← List.take_append_drop i xs] at hx
  rcases List.mem_append.1 hx with hx | hx
  · have := h1 x hx; omega
  · have := key x hx; omega
/-- A rate is put in the place of another. -/
theorem Tb.set {w : World} {S : Nat → Prop} {b m n : Nat} {D : DataW Value} {T : List Qe} (h : Tb w S b m n D T) (hT : Tok T) {q : Qe} (hq : Sho (q.fr, q.to)) {g len cap i : Nat} {r : Nat} (hv : AtP D (q.fr, q.to) (.slice (some ⟨g, 0, none⟩) len cap)) (hi : (sel q.fr q.to T)[i]? = some (q.day, r)) :
    Tb (w.setCell ⟨g, i * 2 + 1, none⟩ (.float .f64 q.rate)) S b m n D (tput q T) ∧ Ch w (w.setCell ⟨g, i * 2 + 1, none⟩ (.float .f64 q.rate)) S S ∧ Has T q ∧ NUc w (w.setCell ⟨g, i * 2 + 1, none⟩ (.float .f64 q.rate)) := by
  obtain ⟨hG, hS⟩ := h.same hq hv
  have hgS := hS g rfl
  have hil := lt_of_at hi
  have hHas : Has T q := ⟨⟨q.fr, q.to, q.day, r⟩, mem_sel.1 (List.mem_of_getElem? hi), rfl, rfl, rfl⟩
  obtain ⟨s1, s2, s3, -⟩ := tput_spec q hT.srt
  have hlen := s3 hHas
  have ho : ∀ k, k ≠ g → (w.setCell ⟨g, i * 2 + 1, none⟩ (.float .f64 q.rate)).heap[k]? = w.heap[k]? := fun k hk => Below.heap_setCell _ _ _ k hk
  have hsz : (w.setCell ⟨g, i * 2 + 1, none⟩ (.float .f64 q.rate)).heap.size = w.heap.size := by simp [World.setCell]
  have hne := h.row_ne hG
  have hgb : b ≠ g := fun e => hne.1 (by rw [e]; rfl)
  have hgm : m ≠ g := fun e => hne.2 (by rw [e]; rfl)
  have hset := ris_set (sel_ris hT.srt (f := q.fr) (t := q.to)) hi q.rate
  have hsel : sel q.fr q.to (tput q T) = (sel q.fr q.to T).set i (q.day, q.rate) := sel_put s1 s2 hset.1 (fun y => (hset.2 y))
  have hge2 : Ge elQ (w.setCell ⟨g, i * 2 + 1, none⟩ (.float .f64 q.rate)) 0 (.slice (some ⟨g, 0, none⟩) len cap) ((sel q.fr q.to T).set i (q.day, q.rate)) := by
    refine hG.put i hil 1 (by decide) _ _ ?_
    have : (sel q.fr q.to T).getD i (0, 0) = (q.day, r) := by
      rw [getQ _ _ hil] at hi
      exact Option.some.inj hi
    show elQ.enc (q.day, q.rate) = (elQ.enc ((sel q.fr q.to T).getD i (0, 0))).set 1 _
    rw [this]
    rfl
  refine ⟨?_, ⟨rfl, rfl, rfl, by omega, fun k hk hn => ho k (fun e => hn (e ▸ hgS)), fun k hk => Or.inl hk⟩, hHas, fun k hk => by
    by_cases e : k = g
    · subst e; exact Or.inr (h.nou _ hq _ hv k rfl)
    · exact Or.inl (ho k e)⟩
  refine ⟨?_, ?_, by rw [hlen]; exact h.le, h.sb, h.sm, fun k hk => by rw [hsz]; exact h.lt k hk, ?_, h.apart, ?_, ?_⟩
  · rw [hlen]; exact h.cells.keep (ho b hgb)
  · obtain ⟨es, clock, hb, r⟩ := h.own
    exact ⟨es, clock, (ho m hgm).trans hb, r⟩
  · intro k hk
    by_cases hkq : k = (q.fr, q.to)
    · subst hkq
      exact ⟨_, hv, by rw [hsel]; exact hge2, hS⟩
    · obtain ⟨v, h1, h2, h3⟩ := h.row k hk
      refine ⟨v, h1, ?_, h3⟩
      rw [sel_other hT.srt s1 s2 (fun e => hkq (Prod.ext e.1 e.2))]
      exact h2.kept (fun g' hg' => ho g' (fun e => h.apart _ _ hk hq hkq v _ h1 hv g' hg' (by rw [e]; rfl)))
  · intro kl hkl
    obtain ⟨k, h1, h2, h3⟩ := h.keys kl hkl
    refine ⟨k, h1, h2, ?_⟩
    by_cases hkq : k = (q.fr, q.to)
    · subst hkq
      rw [hsel]
      intro e
      have := congrArg List.length e
      simp at this
      exact h3 this
    · rw [sel_other hT.srt s1 s2 (fun e => hkq (Prod.ext e.1 e.2))]
      exact h3
  · intro k hk v hv2
    by_cases hkq : k = (q.fr, q.to)
    · subst hkq
      obtain rfl := hv2.unique hv
      obtain ⟨cur, hc⟩ := hG.kind rfl
      have hn := (h.nou _ hk _ hv).nu rfl hc
      have hh : (w.setCell ⟨g, i * 2 + 1, none⟩ (.float .f64 q.rate)).heap[g]? = some (.cells (cur.setIfInBounds (i * 2 + 1) (.float .f64 q.rate)) 76 (0, 0)) := by
        simp only [World.setCell]
        rw [Array.getElem?_modify, if_pos rfl, hc]
        simp
      refine NoU.of rfl hh (fun u hu z e => ?_)
      rw [Array.toList_setIfInBounds] at hu
      rcases List.mem_or_eq_of_mem_set hu with h' | h'
      · exact hn u h' z e
      · rw [h'] at e; cases e
    · exact (h.nou k hk v hv2).kept (fun g' hg' => ho g' (fun e => h.apart _ _ hk hq hkq v _ hv2 hv g' hg' (by rw [e]; rfl)))
/-- One more quote. -/
theorem Tb.more {w w1 w2 w3 : World} {S : Nat → Prop} {b m n : Nat} {D : DataW Value} {T : List Qe} (h : Tb w S b m n D T) (hT : Tok T) {q : Qe} (hq : Sho (q.fr, q.to)) {i : Nat} {v v' : Value} (hv : AtP D (q.fr, q.to) v) (hs : Sch (sel q.fr q.to T) q.day i false)
    (hG : Ge elQ w1 0 v' ((sel q.fr q.to T).take i ++ (q.day, q.rate) :: (sel q.fr q.to T).drop i)) (hU : NoU w1 v') (hg1 : w.grownBy w1 v.ownBlock) (hl : v'.ownBlock = v.ownBlock ∨ v'.ownBlock = some w.heap.size)
    (ho2 : w2.ownsMap Tryz.prog 71 hdR m (n + 1) (D.put (klP (q.fr, q.to)) (.held v'))) (hg2 : w1.grownBy w2 (some m)) (he : w3 = w2.setCell ⟨b, 2, none⟩ (.int .i64 ((T.length : Int) + 1))) :
    Tb w3 (fun k => S k ∨ v'.ownBlock = some k) b m (n + 1) (D.put (klP (q.fr, q.to)) (.held v')) (tput q T) ∧ Ch w w3 S (fun k => S k ∨ v'.ownBlock = some k) ∧ ¬ Has T q ∧ NUc w w3 := by
  subst he
  obtain ⟨hGv, hSv⟩ := h.same hq hv
  have hno := sch_no (sel_ris hT.srt (f := q.fr) (t := q.to)) hs
  have hHas : ¬ Has T q := by
    rintro ⟨p, hp, h1, h2, h3⟩
    exact hno.2 (p.day, p.rate) (mem_sel.2 (by rw [← h1, ← h2]; exact hp)) h3
  obtain ⟨s1, s2, -, s4⟩ := tput_spec q hT.srt
  have hlen := s4 (fun p hp hc => hHas ⟨p, hp, hc⟩)
  have hne := h.row_ne hGv
  have hins := ris_ins (sel_ris hT.srt (f := q.fr) (t := q.to)) (i := i) (d := q.day) q.rate hs.2.1 hno.1
  have hsel : sel q.fr q.to (tput q T) = (sel q.fr q.to T).take i ++ (q.day, q.rate) :: (sel q.fr q.to T).drop i := sel_put s1 s2 hins.1 hins.2
  have hmb := h.ne
  have hlt := h.lt
  have hsz : (w2.setCell ⟨b, 2, none⟩ (.int .i64 ((T.length : Int) + 1))).heap.size = w2.heap.size := by simp [World.setCell]
  have hs12 := hg1.size
  have hs23 := hg2.size
  -- blocks that stay
  have keep : ∀ k, k < w.heap.size → v.ownBlock ≠ some k → k ≠ m → k ≠ b → (w2.setCell ⟨b, 2, none⟩ (.int .i64 ((T.length : Int) + 1))).heap[k]? = w.heap[k]? := fun k hk h1 h2 h3 => by
    rw [Below.heap_setCell _ _ _ k h3, hg2.block k (by omega) (fun e => h2 (by cases e; rfl)), hg1.block k hk (fun e => h1 e.symm)]
  have hv'lt : ∀ g, v'.ownBlock = some g → g < w1.heap.size := fun g hg => hG.lt g hg
  have hv'b : v'.ownBlock ≠ some b ∧ v'.ownBlock ≠ some m := by
    rcases hl with hl | hl
    · rw [hl]; exact hne
    · rw [hl]
      have h1 := hlt b h.sb
      have h2 := hlt m h.sm
      constructor
      · intro e; cases e; omega
      · intro e; cases e; omega
  have hGe3 : Ge elQ (w2.setCell ⟨b, 2, none⟩ (.int .i64 ((T.length : Int) + 1))) 0 v' (sel q.fr q.to (tput q T)) := by
    rw [hsel]
    refine hG.kept (fun g hg => ?_)
    rw [Below.heap_setCell _ _ _ g (fun e => hv'b.1 (by rw [hg, e])), hg2.block g (hv'lt g hg) (fun e => hv'b.2 (by rw [hg, ← e]))]
  have hDm := h.own.isMap
  have hkey := klP_key (q.fr, q.to) hq
  have at_same : AtP (D.put (klP (q.fr, q.to)) (.held v')) (q.fr, q.to) v' := Maps.atKey_put_same hDm hkey _ _
  have at_other : ∀ k, Sho k → k ≠ (q.fr, q.to) → ∀ u, AtP (D.put (klP (q.fr, q.to)) (.held v')) k u ↔ AtP D k u := fun k hk hne u => by
    unfold AtP
    rw [Maps.atKey_put_other (fun e => hne (klP_inj hk hq e))]
  have apart_new : ∀ k, Sho k → k ≠ (q.fr, q.to) → ∀ u, AtP D k u → ∀ g, u.ownBlock = some g → v'.ownBlock ≠ some g := fun k hk hkq u hu g hg => by
    rcases hl with hl | hl
    · rw [hl]; exact h.apart k _ hk hq hkq u v hu hv g hg
    · rw [hl]
      intro e
      cases e
      have := hlt _ ((h.same hk hu).2 _ hg)
      omega
  refine ⟨⟨?_, ?_, by rw [hlen]; have := h.le; omega, Or.inl h.sb, Or.inl h.sm, ?_, ?_, ?_, ?_, ?_⟩, ⟨?_, ?_, ?_, by omega, ?_, ?_⟩, hHas, ?_⟩
  · rw [hlen]
    have hcb : Va w2 b 32 #[.pointer (some ⟨b, 0, none⟩), .map (some m), .int .i64 T.length] := by
      refine h.cells.keep ?_
      have hb := hlt b h.sb
      rw [hg2.block b (by omega) (fun e => hmb (by cases e; rfl)), hg1.block b hb (fun e => hne.1 e.symm)]
    have := Va.sti hcb 2 (.int .i64 ((T.length : Int) + 1))
    have e2 : ((T.length + 1 : Nat) : Int) = (T.length : Int) + 1 := by omega
    unfold Tb0
    rw [e2]
    exact this
  · exact ho2.setCell hmb _
  · intro k hk
    rw [hsz]
    rcases hk with hk | hk
    · have := hlt k hk; omega
    · have := hv'lt k hk; omega
  · intro k hk
    by_cases hkq : k = (q.fr, q.to)
    · subst hkq
      exact ⟨v', at_same, hGe3, fun g hg => Or.inr hg⟩
    · obtain ⟨u, h1, h2, h3⟩ := h.row k hk
      refine ⟨u, (at_other k hk hkq u).2 h1, ?_, fun g hg => Or.inl (h3 g hg)⟩
      rw [sel_other hT.srt s1 s2 (fun e => hkq (Prod.ext e.1 e.2))]
      have hu := h.row_ne h2
      exact h2.kept (fun g hg => keep g (hlt g (h3 g hg)) (fun e => h.apart k _ hk hq hkq u v h1 hv g hg e) (fun e => hu.2 (by rw [hg, e])) (fun e => hu.1 (by rw [hg, e])))
  · intro k k' hk hk' hkk u u' hu hu' g hg
    by_cases h1 : k = (q.fr, q.to)
    · subst h1
      obtain rfl := hu.unique at_same
      have h2 : k' ≠ (q.fr, q.to) := fun e => hkk e.symm
      intro e
      exact apart_new k' hk' h2 u' ((at_other k' hk' h2 u').1 hu') g e hg
    · have hu0 := (at_other k hk h1 u).1 hu
      by_cases h2 : k' = (q.fr, q.to)
      · subst h2
        obtain rfl := hu'.unique at_same
        exact apart_new k hk h1 u hu0 g hg
      · exact h.apart k k' hk hk' hkk u u' hu0 ((at_other k' hk' h2 u').1 hu') g hg
  · intro kl hkl
    by_cases h1 : kl = klP (q.fr, q.to)
    · refine ⟨(q.fr, q.to), hq, h1, ?_⟩
      show sel q.fr q.to _ ≠ []
      rw [hsel]
      simp
    · rw [Maps.has_put_other h1] at hkl
      obtain ⟨k, k1, k2, k3⟩ := h.keys kl hkl
      refine ⟨k, k1, k2, ?_⟩
      rw [sel_other hT.srt s1 s2 (fun e => h1 (by rw [k2]; congr 1; exact Prod.ext e.1 e.2))]
      exact k3
  · intro k hk u hu
    by_cases hkq : k = (q.fr, q.to)
    · subst hkq
      obtain rfl := hu.unique at_same
      exact hU.kept (fun g hg => by rw [Below.heap_setCell _ _ _ g (fun e => hv'b.1 (by rw [hg, e])), hg2.block g (hv'lt g hg) (fun e => hv'b.2 (by rw [hg, ← e]))])
    · have hu0 := (at_other k hk hkq u).1 hu
      have hG2 := h.same hk hu0
      have hu2 := h.row_ne hG2.1
      exact (h.nou k hk u hu0).kept (fun g hg => keep g (hlt g (hG2.2 g hg)) (fun e => h.apart k _ hk hq hkq u v hu0 hv g hg e) (fun e => hu2.2 (by rw [hg, e])) (fun e => hu2.1 (by rw [hg, e])))
  · exact hg2.os.trans hg1.os
  · exact hg2.tape.trans hg1.tape
  · exact hg2.output.trans hg1.output
  · intro k hk hn
    exact keep k hk (fun e => hn (hSv k e)) (fun e => hn (e ▸ h.sm)) (fun e => hn (e ▸ h.sb))
  · intro k hk
    rcases hk with hk | hk
    · exact Or.inl hk
    · rcases hl with hl | hl
      · exact Or.inl (hSv k (by rw [← hl]; exact hk))
      · rw [hl] at hk; cases hk; exact Or.inr (Nat.le_refl _)
  · intro k hk
    by_cases e1 : v.ownBlock = some k
    · exact Or.inr (h.nou _ hq _ hv k e1)
    · by_cases e2 : k = m
      · refine Or.inr (fun i z e => ?_)
        obtain ⟨es, clock, hb, -⟩ := h.own
        rw [← e2] at hb
        simp [World.cell?, hb] at e
      · by_cases e3 : k = b
        · refine Or.inr (fun i z e => ?_)
          have hc := h.cells
          unfold Tb0 at hc
          rw [e3, hc.cellAt i] at e
          match i, e with
          | 0, e => cases e
          | 1, e => cases e
          | 2, e => cases e
          | i + 3, e => simp at e
        · exact Or.inl (keep k hk e1 e2 e3)
/-- A table without a quote. -/
theorem tb_empty {w : World} {b m : Nat} (hc : Tb0 w b m 0) (ho : w.ownsMap Tryz.prog 71 hdR m 0 (.map [])) : Tb w (fun k => k = b ∨ k = m) b m 0 (.map []) [] := by
  have hat : ∀ k v, AtP (.map []) k v → v = nilS := fun k v h => by
    have : AtP (.map []) k nilS := rfl
    exact h.unique this
  refine ⟨hc, ho, Nat.le_refl _, Or.inl rfl, Or.inr rfl, ?_, fun k _ => ⟨nilS, rfl, Ge.nil _ _, fun g hg => by cases hg⟩, ?_, fun kl hkl => ?_, fun k _ v hv => by rw [hat k v hv]; exact NoU.nil _⟩
  · rintro k (rfl | rfl)
    · exact hc.lt
    · exact ho.lt
  · intro k k' _ _ _ v v' hv _ g hg
    rw [hat k v hv] at hg
    cases hg
  · simp [Maps.has_eq] at hkl
end Go.Proofs.YtmhfoeooccppfaaGreat
