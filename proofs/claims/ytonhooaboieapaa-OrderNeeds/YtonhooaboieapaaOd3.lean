/-
  order: sorted.
-/
import Derived.Test.YtonhooaboieapaaOd2
import Derived.Test.YtonhooaboieapaaOdK
import Derived.Test.YtonhooaboieapaaOrS
namespace Go.Proofs.Ytonhooaboieapaa
open Go.RowKit Go.Shelf
set_option linter.unusedVariables false
set_option linter.unusedSimpArgs false

/-- On the way: the heap, how many of those that each needs are missing, the list that is told. -/
structure Sd (n : Nat) (w wr : World) (b gm : Nat) (miss : Nat → Nat) (v lst : Value) (l : List Int) (out : List Nat) : Prop where
  hv : Hv wr w.heap.size b v l
  mis : Fn n wr gm miss
  told : Ge elI wr w.heap.size lst (ints out)
  apv : v.ownBlock ≠ some gm
  apl : lst.ownBlock ≠ some gm
  apvl : ∀ c, lst.ownBlock = some c → v.ownBlock ≠ some c
  below : Below w.heap.size w wr
  bl : w.heap.size ≤ b
  gl : w.heap.size ≤ gm
theorem Sd.bg {n : Nat} {w wr : World} {b gm : Nat} {miss : Nat → Nat} {v lst : Value} {l : List Int} {out : List Nat} (h : Sd n w wr b gm miss v lst l out) : b ≠ gm := by
  intro e
  have h1 := h.hv.va
  have h2 : Va wr gm 3 _ := h.mis
  unfold Va at h1 h2
  rw [e, h2] at h1
  have h3 := Option.some.inj h1
  injection h3 with h4 h5
  exact absurd h5 (by decide)
/-- The heap has moved. -/
theorem Sd.move {n : Nat} {w wr w' : World} {b gm : Nat} {miss : Nat → Nat} {v v' lst : Value} {l l' : List Int} {out : List Nat} (h : Sd n w wr b gm miss v lst l out) (hv : Hv w' w.heap.size b v' l') (hz : Below 0 wr w') (hs : wr.heap.size ≤ w'.heap.size) (hk : ∀ c, c < wr.heap.size → c ≠ b → v.ownBlock ≠ some c → w'.heap[c]? = wr.heap[c]?) (ho : v'.ownBlock = v.ownBlock ∨ ∃ c, v'.ownBlock = some c ∧ wr.heap.size ≤ c) : Sd n w w' b gm miss v' lst l' out := by
  have hgm : gm < wr.heap.size := Fv.lt h.mis
  have hnb : ∀ c, lst.ownBlock = some c → c ≠ b := fun c hc e => h.told.apart h.hv.va (by decide) (by rw [hc, e])
  refine ⟨hv, h.mis.kept (hk gm hgm (fun e => h.bg e.symm) h.apv), h.told.kept (fun c hc => hk c (h.told.lt c hc) (hnb c hc) (h.apvl c hc)), ?_, h.apl, fun c hc => ?_, ?_, h.bl, h.gl⟩
  · rcases ho with e | ⟨d, e, hd⟩
    · rw [e]; exact h.apv
    · rw [e]; intro e2; have := Option.some.inj e2; omega
  · rcases ho with e | ⟨d, e, hd⟩
    · rw [e]; exact h.apvl c hc
    · rw [e]; intro e2; have := h.told.lt c hc; have := Option.some.inj e2; omega
  · have hb := h.below
    have hbl := h.bl
    refine ⟨hz.os.trans hb.os, hz.tape.trans hb.tape, hz.output.trans hb.output, Nat.le_trans hb.size hs, fun k hk' => ?_⟩
    exact (hk k (Nat.lt_of_lt_of_le hk' hb.size) (by omega) (fun e => by have := h.hv.ge.block _ e; omega)).trans (hb.block k hk')
/-- A node more is told. -/
theorem Sd.tell {n : Nat} {w wr w1 : World} {b gm : Nat} {miss : Nat → Nat} {v lst lst' : Value} {l : List Int} {out out' : List Nat} {o : Obj} (h : Sd n w wr b gm miss v lst l out) (hg : (wr.alloc o).grownBy w1 lst.ownBlock) (h1 : Ge elI w1 w.heap.size lst' (ints out')) (ho : lst'.ownBlock = lst.ownBlock ∨ lst'.ownBlock = some (wr.alloc o).heap.size) : Sd n w w1 b gm miss v lst' l out' := by
  have hgm : gm < wr.heap.size := Fv.lt h.mis
  have hle := h.below.size
  have hs1 : wr.heap.size ≤ w1.heap.size := by have := hg.size; simp at this; omega
  have hk : ∀ c, c < wr.heap.size → lst.ownBlock ≠ some c → w1.heap[c]? = wr.heap[c]? := fun c hc hne => (hg.block c (by simp; omega) (fun e => hne e.symm)).trans (Below.heap_alloc _ _ _ hc)
  have hbl := h.hv.va.lt
  refine ⟨⟨(hk b hbl (fun e => h.told.apart h.hv.va (by decide) e)).trans h.hv.va, h.hv.ge.kept (fun c hc => hk c (h.hv.ge.lt c hc) (fun e => h.apvl c e hc)), h.hv.hp, by omega⟩, h.mis.kept (hk gm hgm h.apl), h1, h.apv, ?_, fun c hc => ?_, ?_, h.bl, h.gl⟩
  · rcases ho with e | e
    · rw [e]; exact h.apl
    · rw [e]; intro e2; have := Option.some.inj e2; simp at this; omega
  · rcases ho with e | e
    · rw [e] at hc; exact h.apvl c hc
    · intro e2
      have := h.hv.ge.lt c e2
      rw [e] at hc
      have := Option.some.inj hc
      simp at this; omega
  · exact (h.below.alloc hle o).trans ((Below.refl _ _).grown hg (by simp; omega) (fun b hb => by have := h.told.block b hb; omega))
/-- One misses so many now. -/
theorem Sd.miss {n : Nat} {w wr : World} {b gm : Nat} {miss : Nat → Nat} {v lst : Value} {l : List Int} {out : List Nat} (h : Sd n w wr b gm miss v lst l out) (p m : Nat) {u : Int} (hu : u = (m : Int)) : Sd n w (wr.setCell ⟨gm, p, none⟩ (.int .i64 u)) b gm (upf miss p m) v lst l out := by
  have hgl := h.gl
  subst hu
  refine ⟨⟨h.hv.va.other (p := ⟨gm, p, none⟩) (fun e => h.bg e) _, h.hv.ge.far (p := ⟨gm, p, none⟩) h.apv _, h.hv.hp, by have := h.hv.le; simp; omega⟩, h.mis.set p m, h.told.far (p := ⟨gm, p, none⟩) h.apl _, h.apv, h.apl, h.apvl, h.below.setCell (p := ⟨gm, p, none⟩) hgl _, h.bl, h.gl⟩
/-- The heap's list grows at its end. -/
theorem Sd.put {n : Nat} {w wr w1 : World} {b gm : Nat} {miss : Nat → Nat} {v v' lst : Value} {l l' : List Int} {out : List Nat} {o : Obj} (h : Sd n w wr b gm miss v lst l out) (hg : (wr.alloc o).grownBy w1 v.ownBlock) (h1 : Ge elI w1 w.heap.size v' l') (hp : Hp l' l'.length) (ho : v'.ownBlock = v.ownBlock ∨ v'.ownBlock = some (wr.alloc o).heap.size) : Sd n w (w1.setCell ⟨b, 0, none⟩ v') b gm miss v' lst l' out := by
  have hgm : gm < wr.heap.size := Fv.lt h.mis
  have hle := h.below.size
  have hbl := h.bl
  have hs1 : wr.heap.size ≤ w1.heap.size := by have := hg.size; simp at this; omega
  have hk : ∀ c, c < wr.heap.size → v.ownBlock ≠ some c → w1.heap[c]? = wr.heap[c]? := fun c hc hne => (hg.block c (by simp; omega) (fun e => hne e.symm)).trans (Below.heap_alloc _ _ _ hc)
  have hvb : Va w1 b 52 #[v] := (hk b h.hv.va.lt (fun e => h.hv.ge.apart h.hv.va (by decide) e)).trans h.hv.va
  have hnb : v'.ownBlock ≠ some b := fun e => h1.apart hvb (by decide) e
  refine ⟨⟨hvb.set v', h1.far (p := ⟨b, 0, none⟩) hnb _, hp, by simp; omega⟩, (h.mis.kept (hk gm hgm h.apv)).other (p := ⟨b, 0, none⟩) (fun e => h.bg e.symm) _, (h.told.kept (fun c hc => hk c (h.told.lt c hc) (h.apvl c hc))).far (p := ⟨b, 0, none⟩) (fun e => h.told.apart h.hv.va (by decide) e) _, ?_, h.apl, fun c hc => ?_, ?_, h.bl, h.gl⟩
  · rcases ho with e | e
    · rw [e]; exact h.apv
    · rw [e]; intro e2; have := Option.some.inj e2; simp at this; omega
  · rcases ho with e | e
    · rw [e]; exact h.apvl c hc
    · intro e2
      have := h.told.lt c hc
      rw [e] at e2
      have := Option.some.inj e2
      simp at this; omega
  · exact ((h.below.alloc hle o).trans ((Below.refl _ _).grown hg (by simp; omega) (fun b hb => by have := h.hv.ge.block b hb; omega))).setCell (p := ⟨b, 0, none⟩) hbl _
theorem Fn.zeros {n : Nat} {w : World} {g : Nat} (h : Va w g 3 (Array.replicate n (.int .i64 0))) : Fn n w g (fun _ => 0) := Fn.make (by simpa using h)
/-- How long a list is. -/
def lenV : Value → Nat
  | .slice _ n _ => n
  | _ => 0
/-- The heap's list as it is made: those that need nothing, rising. -/
structure Rs (N : Nat → List Nat) (k : Nat) (miss : Nat → Nat) (l : List Int) : Prop where
  up : l.Pairwise (· < ·)
  lt : ∀ v ∈ l, v < (k : Int)
  cnt : ∀ y : Int, l.count y = if 0 ≤ y ∧ y.toNat < k ∧ (N y.toNat).length = 0 then 1 else 0
  mis : ∀ p, p < k → miss p = (N p).length
theorem Rs.start (N : Nat → List Nat) (miss : Nat → Nat) : Rs N 0 miss [] := ⟨.nil, by simp, fun y => by simp, fun p h => absurd h (by omega)⟩
theorem Rs.none {N : Nat → List Nat} {k : Nat} {miss : Nat → Nat} {l : List Int} (h : Rs N k miss l) (h0 : (N k).length ≠ 0) : Rs N (k + 1) (upf miss k (N k).length) l := by
  refine ⟨h.up, fun v hv => by have := h.lt v hv; omega, fun y => ?_, fun p hp => ?_⟩
  · rw [h.cnt y]
    by_cases e : 0 ≤ y ∧ y.toNat = k
    · rw [if_neg (by omega), if_neg (by rw [e.2]; omega)]
    · by_cases e2 : 0 ≤ y ∧ y.toNat < k ∧ (N y.toNat).length = 0
      · rw [if_pos e2, if_pos ⟨e2.1, by omega, e2.2.2⟩]
      · rw [if_neg e2, if_neg (fun h => e2 ⟨h.1, by omega, h.2.2⟩)]
  · by_cases e : p = k
    · rw [e, upf_self]
    · rw [upf_ne _ _ e]; exact h.mis p (by omega)
theorem Rs.one {N : Nat → List Nat} {k : Nat} {miss : Nat → Nat} {l : List Int} (h : Rs N k miss l) (h0 : (N k).length = 0) : Rs N (k + 1) (upf miss k (N k).length) (l ++ [(k : Int)]) := by
  refine ⟨?_, fun v hv => ?_, fun y => ?_, fun p hp => ?_⟩
  · rw [List.pairwise_append]
    exact ⟨h.up, by simp, fun a ha b hb => by simp at hb; subst hb; exact h.lt a ha⟩
  · rcases List.mem_append.1 hv with h1 | h1
    · have := h.lt v h1; omega
    · simp at h1; omega
  · rw [List.count_append, h.cnt y, List.count_singleton]
    by_cases e : (k : Int) = y
    · subst e
      rw [if_neg (by omega), if_pos (by simp), if_pos ⟨by omega, by omega, by simpa using h0⟩]
    · rw [if_neg (c := ((k : Int) == y) = true) (by simpa using e)]
      by_cases e2 : 0 ≤ y ∧ y.toNat < k ∧ (N y.toNat).length = 0
      · rw [if_pos e2, if_pos ⟨e2.1, by omega, e2.2.2⟩]
      · rw [if_neg e2, if_neg (fun h => e2 ⟨h.1, by omega, h.2.2⟩)]
  · by_cases e : p = k
    · rw [e, upf_self]
    · rw [upf_ne _ _ e]; exact h.mis p (by omega)
theorem Rs.hp {N : Nat → List Nat} {k : Nat} {miss : Nat → Nat} {l : List Int} (h : Rs N k miss l) : Hp l l.length := Hp.rising (fun i j hij hj => by
  have := List.pairwise_iff_getElem.1 h.up i j (by omega) hj hij
  rw [List.getD_eq_getElem?_getD, List.getD_eq_getElem?_getD, List.getElem?_eq_getElem (by omega), List.getElem?_eq_getElem hj]
  exact Int.le_of_lt this)
theorem Rs.few {N : Nat → List Nat} {k : Nat} {miss : Nat → Nat} {l : List Int} (h : Rs N k miss l) : l.length ≤ k := few_int (fun v => by rw [h.cnt v]; split <;> omega) (fun v hv => by
  have := List.count_pos_iff.2 hv
  rw [h.cnt v] at this
  split at this
  · rename_i h1; exact ⟨h1.1, h1.2.1⟩
  · omega)
theorem Rs.done {N : Nat → List Nat} {n : Nat} {miss : Nat → Nat} {l : List Int} (h : Rs N n miss l) : HpS n [] miss l ∧ ∀ p, p < n → miss p = wts N [] p := by
  refine ⟨fun y => ?_, fun p hp => by rw [h.mis p hp, wts_nil]⟩
  rw [h.cnt y]
  by_cases e : 0 ≤ y ∧ y.toNat < n
  · rw [h.mis _ e.2]
    by_cases e2 : (N y.toNat).length = 0
    · rw [if_pos ⟨e.1, e.2, e2⟩, if_pos ⟨e.1, e.2, by simp, e2⟩]
    · rw [if_neg (fun h => e2 h.2.2), if_neg (fun h => e2 h.2.2.2)]
  · rw [if_neg (fun h => e ⟨h.1, h.2.1⟩), if_neg (fun h => e ⟨h.1, h.2.1⟩)]
end Go.Proofs.Ytonhooaboieapaa
