/-
  juris: down (the roots, and of each place those whose parent it is).
-/
import Derived.Test.YtfmbloagmeodeaaJu3
import Derived.Test.YtfmbloagmeodeaaJuO
namespace Go.Proofs.Ytfmbloagmeodeaa
open Go.RowKit Go.Shelf
set_option linter.unusedVariables false

set_option maxRecDepth 20000 in
theorem make_kids (n : Nat) (hn : n ≤ 1000000000000) (w : World) : (Instr.makeSlice 60 (.int .i64 (n : Int)) (.int .i64 (n : Int))).run Try.prog w =
    .ok (.slice (some ⟨w.heap.size, 0, none⟩) n n) (w.alloc (.cells ((List.replicate n (Value.slice none 0 0)).toArray) 22)) := by
  have h := run_make_row' (P := Try.prog) 60 22 (.slice none 0 0) 24 Try.underlying60 (by kernel_rfl) rfl .i64 .i64 n (by omega) (by omega) w
  rw [h]
  congr 3
  apply Array.ext'
  rw [toList_madeCells_one]
/-- What a value's own row is. -/
def ob (vs : List Value) (p : Nat) : Option Nat := (vs.getD p .nilFunc).ownBlock
/-- The roots and the children so far: rows of their own, each apart from the others. -/
structure Dn (ps : List Int) (w wr : World) (k : Nat) (vs : List Value) (r : Value) : Prop where
  blk : Va wr w.heap.size 22 vs.toArray
  len : vs.length = ps.length
  kids : ∀ p, p < ps.length → Ge elI wr (w.heap.size + 1) (vs.getD p .nilFunc) (kl ps p k)
  root : Ge elI wr (w.heap.size + 1) r (kl ps (-1) k)
  apart : ∀ p q b, p < ps.length → q < ps.length → p ≠ q → ob vs p = some b → ob vs q ≠ some b
  apartr : ∀ p b, p < ps.length → r.ownBlock = some b → ob vs p ≠ some b
  below : Below w.heap.size w wr
theorem Dn.start {ps : List Int} {w w0 : World} (hV : Va w0 w.heap.size 22 (List.replicate ps.length (Value.slice none 0 0)).toArray) (hB : Below w.heap.size w w0) : Dn ps w w0 0 (List.replicate ps.length (Value.slice none 0 0)) (.slice none 0 0) := by
  have hg : ∀ p, p < ps.length → (List.replicate ps.length (Value.slice none 0 0)).getD p .nilFunc = .slice none 0 0 := fun p hp => by simp [List.getD_eq_getElem?_getD, hp]
  refine ⟨hV, by simp, fun p hp => ?_, Ge.nil _ _, fun p q b hp hq _ h => ?_, fun p b hp h => ?_, hB⟩
  · rw [hg p hp]; exact Ge.nil _ _
  · unfold ob at h; rw [hg p hp] at h; cases h
  · cases h
theorem Dn.size {ps : List Int} {w wr : World} {k : Nat} {vs : List Value} {r : Value} (h : Dn ps w wr k vs r) : w.heap.size + 1 ≤ wr.heap.size := h.blk.lt
theorem Dn.after {ps : List Int} {w wr w' : World} {k : Nat} {vs : List Value} {r : Value} (h : Dn ps w wr k vs r) (hb : Below wr.heap.size wr w') : Dn ps w w' k vs r :=
  ⟨h.blk.after hb, h.len, fun p hp => (h.kids p hp).after hb, h.root.after hb, h.apart, h.apartr, h.below.trans (hb.mono (by have := h.size; omega))⟩
/-- A root more. -/
theorem Dn.addRoot {ps : List Int} {w wr w1 : World} {k : Nat} {vs : List Value} {r r' : Value} {o : Obj} (h : Dn ps w wr k vs r) (hp : ps.getD k (-1) = -1) (hg : (wr.alloc o).grownBy w1 r.ownBlock) (h1 : Ge elI w1 (w.heap.size + 1) r' (kl ps (-1) k ++ [(k : Int)])) (ho : r'.ownBlock = r.ownBlock ∨ r'.ownBlock = some (wr.alloc o).heap.size) : Dn ps w w1 (k + 1) vs r' := by
  have hs := h.size
  have hk : ∀ p : Nat, kl ps p (k + 1) = kl ps p k := fun p => by
    show kl ps p k ++ (if ps.getD k (-1) = (p : Int) then [(k : Int)] else []) = _
    rw [hp, if_neg (by omega), List.append_nil]
  have hr : kl ps (-1) (k + 1) = kl ps (-1) k ++ [(k : Int)] := by
    show kl ps (-1) k ++ (if ps.getD k (-1) = -1 then [(k : Int)] else []) = _
    rw [hp, if_pos rfl]
  refine ⟨?_, h.len, fun p hpl => ?_, by rw [hr]; exact h1, h.apart, fun p b hpl hb => ?_, ?_⟩
  · refine (hg.block _ (by simp; omega) (fun e => by have := h.root.block _ e.symm; omega)).trans (h.blk.old o)
  · rw [hk p]
    exact ((h.kids p hpl).al o).kept (fun b hb => hg.block b ((h.kids p hpl).al o |>.lt b hb) (fun e => h.apartr p b hpl e.symm hb))
  · rcases ho with e | e
    · rw [e] at hb; exact h.apartr p b hpl hb
    · intro hq
      have := (h.kids p hpl).lt b hq
      rw [e] at hb
      have := Option.some.inj hb
      simp at this; omega
  · exact (h.below.alloc (by omega) o).trans ((Below.refl _ _).grown hg (by simp; omega) (fun b hb => by have := h.root.block b hb; omega))
theorem set_getD (vs : List Value) (p : Nat) (v d : Value) (q : Nat) : (vs.set p v).getD q d = if q = p ∧ p < vs.length then v else vs.getD q d := by
  by_cases h : q = p
  · subst h
    by_cases hl : q < vs.length
    · rw [if_pos ⟨rfl, hl⟩]; simp [List.getD_eq_getElem?_getD, hl]
    · rw [if_neg (fun e => hl e.2), List.set_eq_of_length_le (by omega)]
  · rw [if_neg (fun e => h e.1), List.getD_eq_getElem?_getD, List.getElem?_set_ne (fun e => h e.symm), ← List.getD_eq_getElem?_getD]
/-- A child more. -/
theorem Dn.addKid {ps : List Int} {w wr w1 : World} {k x : Nat} {vs : List Value} {r v' : Value} {o : Obj} (h : Dn ps w wr k vs r) (hx : x < ps.length) (hp : ps.getD k (-1) = (x : Int)) (hg : (wr.alloc o).grownBy w1 (ob vs x)) (h1 : Ge elI w1 (w.heap.size + 1) v' (kl ps x k ++ [(k : Int)])) (ho : v'.ownBlock = ob vs x ∨ v'.ownBlock = some (wr.alloc o).heap.size) : Dn ps w (w1.setCell ⟨w.heap.size, x, none⟩ v') (k + 1) (vs.set x v') r := by
  have hs := h.size
  have hlx : x < vs.length := by rw [h.len]; exact hx
  have hkx : kl ps x (k + 1) = kl ps x k ++ [(k : Int)] := by
    show kl ps x k ++ (if ps.getD k (-1) = (x : Int) then [(k : Int)] else []) = _
    rw [hp, if_pos rfl]
  have hk : ∀ p : Int, p ≠ x → kl ps p (k + 1) = kl ps p k := fun p hne => by
    show kl ps p k ++ (if ps.getD k (-1) = p then [(k : Int)] else []) = _
    rw [hp, if_neg (fun e => hne e.symm), List.append_nil]
  have hob : ∀ q, ob (vs.set x v') q = if q = x then v'.ownBlock else ob vs q := fun q => by
    unfold ob
    rw [set_getD]
    by_cases e : q = x
    · rw [if_pos ⟨e, hlx⟩, if_pos e]
    · rw [if_neg (fun e' => e e'.1), if_neg e]
  have hK : ∀ {v : Value} {l : List Int}, Ge elI w1 (w.heap.size + 1) v l → Ge elI (w1.setCell ⟨w.heap.size, x, none⟩ v') (w.heap.size + 1) v l := fun hG => hG.far (p := ⟨w.heap.size, x, none⟩) (fun e => by have := hG.block _ e; simp at this; omega) _
  have hnew : ∀ {b : Nat}, v'.ownBlock = some b → ob vs x = some b ∨ b = wr.heap.size + 1 := fun hb => by
    rcases ho with e | e
    · left; rw [← e]; exact hb
    · right; rw [e] at hb; have := Option.some.inj hb; simp at this; omega
  refine ⟨?_, by rw [List.length_set]; exact h.len, fun p hpl => ?_, ?_, fun p q b hpl hql hne hb => ?_, fun p b hpl hb => ?_, ?_⟩
  · have e : w1.heap[w.heap.size]? = some (.cells vs.toArray 22 (0, 0)) := (hg.block _ (by simp; omega) (fun e => by have := (h.kids x hx).block _ e.symm; omega)).trans (h.blk.old o)
    unfold Va
    simp only [World.setCell]
    rw [Array.getElem?_modify, if_pos rfl, e]
    simp
  · rw [set_getD]
    by_cases e : p = x
    · subst e
      rw [if_pos ⟨rfl, hlx⟩, hkx]
      exact hK h1
    · rw [if_neg (fun e' => e e'.1), hk p (by omega)]
      exact hK (((h.kids p hpl).al o).kept (fun b hb => hg.block b (((h.kids p hpl).al o).lt b hb) (fun e' => h.apart x p b hx hpl (fun e2 => e e2.symm) e'.symm hb)))
  · rw [hk (-1) (by omega)]
    exact hK ((h.root.al o).kept (fun b hb => hg.block b ((h.root.al o).lt b hb) (fun e' => h.apartr x b hx hb e'.symm)))
  · rw [hob] at hb ⊢
    by_cases e1 : p = x
    · rw [if_pos e1] at hb
      rw [if_neg (fun e2 => hne (e1.trans e2.symm))]
      rcases hnew hb with h2 | h2
      · exact h.apart x q b hx hql (fun e2 => hne (e1.trans e2)) h2
      · intro hq
        have := (h.kids q hql).lt b hq
        omega
    · rw [if_neg e1] at hb
      by_cases e2 : q = x
      · rw [if_pos e2]
        intro hq
        rcases hnew hq with h2 | h2
        · exact h.apart p x b hpl hx e1 hb h2
        · have := (h.kids p hpl).lt b hb
          omega
      · rw [if_neg e2]; exact h.apart p q b hpl hql hne hb
  · rw [hob]
    by_cases e : p = x
    · rw [if_pos e]
      intro hq
      rcases hnew hq with h2 | h2
      · exact h.apartr x b hx hb h2
      · have := h.root.lt b hb
        omega
    · rw [if_neg e]; exact h.apartr p b hpl hb
  · exact ((h.below.alloc (by omega) o).trans ((Below.refl _ _).grown hg (by simp; omega) (fun b hb => by have := (h.kids x hx).block b hb; omega))).setCell (p := ⟨w.heap.size, x, none⟩) (by simp) _
theorem Dn.cell {ps : List Int} {w wr : World} {k : Nat} {vs : List Value} {r : Value} (h : Dn ps w wr k vs r) {p : Nat} (hp : p < ps.length) : wr.cell? ⟨w.heap.size, p, none⟩ = some (vs.getD p .nilFunc) := by
  rw [h.blk.cellAt p]
  have : p < vs.length := by rw [h.len]; exact hp
  simp [List.getD_eq_getElem?_getD, this]
set_option maxHeartbeats 4000000 in
theorem down_any {w : World} {q a : Option Addr} {cap : Nat} {ps : List Int} {m : Bool} (h : Tv w q a ps.length cap ps m) (hO : Okp ps) (hl : ps.length ≤ 4096) :
    Calls Try.prog 34 #[.pointer q] w fun e w' => ∃ vs r, e = .returned (.tuple #[r, .slice (some ⟨w.heap.size, 0, none⟩) ps.length ps.length]) ∧ Dn ps w w' ps.length vs r := by
  have h1 := len_any h
  have HT : Hid (Tv w q a ps.length cap ps m) := h
  have HO : Hid (Okp ps) := hO
  have hm := make_kids ps.length (by omega)
  clear h hO
  go_enter Try.func34, Try.ntmps34
  go_wp2_with (first
    | (go_at_call 10; refine h1.mono ?_; rintro e w1 ⟨rfl, hw⟩; rw [hw]; clear hw w1 h1)
    | (go_at_call 33; refine ent1 w _ _ (Q := fun W => Calls _ _ _ W _) ?_; intro W0 hB0 hs0 V0; refine (list_any (HT.out.after hB0)).mono ?_; rintro e w1 ⟨rfl, hw⟩; rw [hw]; clear hw w1))
  have HD0 : Hid (Dn ps w W0 0 _ (.slice none 0 0)) := Dn.start (by simpa using V0) hB0
  clear V0 hB0 hm hs0
  go_loopw [2, 5, 12] (fun r _ j wr => ∃ (k : Nat) (vs : List Value), j = .int .i64 k ∧ k ≤ ps.length ∧ Hid (Dn ps w wr k vs r)) (fun _ _ j _ => (ps.length - (intOf j).toNat : Nat))
  case atStart => exact ⟨0, _, rfl, Nat.zero_le _, HD0.out⟩
  case round =>
    clear HD0
    obtain ⟨k, vs, rfl, hk, HD⟩ := hrel
    rcases Nat.lt_or_ge k ps.length with hlt | hge
    · obtain ⟨b, off, rfl, hc⟩ := (HT.out.li.after HD.out.below).at hlt
      have hki : (k : Int) < ps.length := by omega
      have hok := HO.out k (ps.getD k (-1)) (by rw [List.getD_eq_getElem?_getD, List.getElem?_eq_getElem hlt]; rfl)
      obtain ⟨x, hx⟩ : ∃ x, ps.getD k (-1) = x := ⟨_, rfl⟩
      rw [hx] at hc hok
      have HX : Hid (ps.getD k (-1) = x) := hx
      have hsz := HD.out.size
      clear hx
      by_cases hn : x = -1
      · subst hn
        clear hok
        have HRo : Hid (Ge elI wr (w.heap.size + 1) u2 (kl ps (-1) k)) := HD.out.root
        have HLn : Hid ((kl ps (-1) k).length + 1 ≤ 1000000000000) := by have := kl_length ps (-1) k; show _ ≤ _; omega
        go_wp2_with (at_builtin; refine wpList_appE rfl _ _ _ rfl elI rfl (w.heap.size + 1) _ (kl ps (-1) k) rfl (HRo.out.al _) wr.heap.size 0 1 1 [(k : Int)] rfl (Le.one (Va.new wr _ _) rfl) HLn.out (by simp; omega) ?_; intro v' w1 hg1 hgr1 hob; have HD1 : Hid (Dn ps w w1 (k + 1) vs v') := HD.out.addRoot HX.out hgr1 hg1 hob; clear hg1 hgr1 hob)
        go_roundw
        case rel => exact ⟨k + 1, vs, rfl, by omega, HD1.out⟩
        case measure => simp [intOf]; omega
      · obtain ⟨p, rfl⟩ : ∃ p : Nat, x = p := ⟨x.toNat, by omega⟩
        have hp : p < ps.length := by omega
        have hpi : (p : Int) < ps.length := by omega
        have cp := HD.out.cell hp
        have fp := HD.out.blk.frozen p
        have HKd : Hid (Ge elI wr (w.heap.size + 1) (vs.getD p .nilFunc) (kl ps p k)) := HD.out.kids p hp
        have HLn : Hid ((kl ps p k).length + 1 ≤ 1000000000000) := by have := kl_length ps p k; show _ ≤ _; omega
        obtain ⟨ap, cpp, hvp, -, -, -⟩ := (HD.out.kids p hp).shape
        have HOb : Hid (ob vs p = (vs.getD p .nilFunc).ownBlock) := rfl
        generalize vs.getD p .nilFunc = vp at *
        subst hvp
        clear hok
        have HVw : Hid (∀ w1 : World, (wr.alloc (.cells #[.int .i64 (k : Int)] 3)).grownBy w1 (Value.slice ap (kl ps p k).length cpp).ownBlock → Va w1 w.heap.size 22 vs.toArray) := fun w1 hgr => (hgr.block _ (by simp; omega) (fun e => by have := HKd.out.block _ e.symm; omega)).trans (HD.out.blk.old _)
        have HCe : Hid (∀ w1 : World, Va w1 w.heap.size 22 vs.toArray → w1.cell? ⟨w.heap.size, p, none⟩ = some (.slice ap (kl ps p k).length cpp)) := fun w1 hv => by
          rw [hv.cellAt p, ← cp, HD.out.blk.cellAt p]
        go_wp2_with (at_builtin; refine wpList_appE rfl _ _ _ rfl elI rfl (w.heap.size + 1) _ (kl ps p k) rfl (HKd.out.al _) wr.heap.size 0 1 1 [(k : Int)] rfl (Le.one (Va.new wr _ _) rfl) HLn.out (by simp; omega) ?_; intro v' w1 hg1 hgr1 hob; have q1 := HCe.out w1 (HVw.out w1 hgr1); have g1 := (HVw.out w1 hgr1).frozen p; have HD1 : Hid (Dn ps w (w1.setCell ⟨w.heap.size, p, none⟩ v') (k + 1) (vs.set p v') _) := HD.out.addKid hp HX.out (by rw [HOb.out]; exact hgr1) hg1 (by rw [HOb.out]; exact hob); obtain ⟨a9, c9, rfl, -, -, -⟩ := hg1.shape; clear hg1 hgr1 hob cp)
        have e9 : (kl ps p k).length + 1 = (kl ps p k ++ [(k : Int)]).length := by simp
        rw [e9]
        exact ⟨⟨k + 1, _, by simp, by omega, HD1.out⟩, by simp [intOf]; omega⟩
    · obtain rfl : k = ps.length := by omega
      clear hge hk
      go_wp2_with fail
      go_ret2
      exact ⟨_, _, rfl, HD.out⟩
end Go.Proofs.Ytfmbloagmeodeaa
