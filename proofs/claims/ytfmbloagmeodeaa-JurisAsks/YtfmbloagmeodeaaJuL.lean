/-
  juris: Order.
-/
import Derived.Test.YtfmbloagmeodeaaJuK
import Derived.Test.YtfmbloagmeodeaaJu8
import Derived.Test.YtfmbloagmeodeaaJuU
namespace Go.Proofs.Ytfmbloagmeodeaa
open Go.RowKit Go.Shelf
set_option linter.unusedVariables false

/-- On the way: the heap, the children's rows, the list that is told, each in memory of its own. -/
structure Od (ps : List Int) (w wr : World) (b : Nat) (vs : List Value) (v lst : Value) (l : List Int) (out : List Int) : Prop where
  hv : Hv wr (w.heap.size + 1) b v l
  blk : Va wr w.heap.size 22 vs.toArray
  len : vs.length = ps.length
  kids : ∀ p, p < ps.length → Ge elI wr (w.heap.size + 1) (vs.getD p .nilFunc) (kl ps p ps.length)
  ap1 : ∀ p c, p < ps.length → ob vs p = some c → v.ownBlock ≠ some c
  told : Ge elI wr (w.heap.size + 1) lst out
  ap2 : ∀ c, lst.ownBlock = some c → v.ownBlock ≠ some c
  ap3 : ∀ p c, p < ps.length → ob vs p = some c → lst.ownBlock ≠ some c
  below : Below w.heap.size w wr
  lt : w.heap.size < b
/-- The heap has moved. -/
theorem Od.move {ps : List Int} {w wr w' : World} {b : Nat} {vs : List Value} {v v' lst : Value} {l l' : List Int} {out : List Int} (h : Od ps w wr b vs v lst l out) (hv : Hv w' (w.heap.size + 1) b v' l') (hz : Below 0 wr w') (hs : wr.heap.size ≤ w'.heap.size) (hk : ∀ c, c < wr.heap.size → c ≠ b → v.ownBlock ≠ some c → w'.heap[c]? = wr.heap[c]?) (ho : v'.ownBlock = v.ownBlock ∨ ∃ c, v'.ownBlock = some c ∧ wr.heap.size ≤ c) : Od ps w w' b vs v' lst l' out := by
  have hnb : ∀ {u : Value} {x : List Int}, Ge elI wr (w.heap.size + 1) u x → ∀ c, u.ownBlock = some c → c ≠ b := fun hG c hc e => hG.apart h.hv.va (by decide) (by rw [hc, e])
  have hle := h.hv.le
  have hlt := h.lt
  refine ⟨hv, ?_, h.len, fun p hp => ?_, fun p c hp hc => ?_, ?_, fun c hc => ?_, h.ap3, ?_, h.lt⟩
  · exact (hk _ (by omega) (by omega) (fun e => by have := h.hv.ge.block _ e; omega)).trans h.blk
  · exact (h.kids p hp).kept (fun c hc => hk c ((h.kids p hp).lt c hc) (hnb (h.kids p hp) c hc) (h.ap1 p c hp hc))
  · rcases ho with e | ⟨d, e, hd⟩
    · rw [e]; exact h.ap1 p c hp hc
    · rw [e]; intro e2
      have := (h.kids p hp).lt c hc
      have := Option.some.inj e2
      omega
  · exact h.told.kept (fun c hc => hk c (h.told.lt c hc) (hnb h.told c hc) (h.ap2 c hc))
  · rcases ho with e | ⟨d, e, hd⟩
    · rw [e]; exact h.ap2 c hc
    · rw [e]; intro e2
      have := h.told.lt c hc
      have := Option.some.inj e2
      omega
  · have hb := h.below
    refine ⟨hz.os.trans hb.os, hz.tape.trans hb.tape, hz.output.trans hb.output, by omega, fun k hk' => ?_⟩
    exact (hk k (by omega) (by omega) (fun e => by have := h.hv.ge.block _ e; omega)).trans (hb.block k hk')
/-- A place more is told. -/
theorem Od.tell {ps : List Int} {w wr w1 : World} {b : Nat} {vs : List Value} {v lst lst' : Value} {l : List Int} {out out' : List Int} {o : Obj} (h : Od ps w wr b vs v lst l out) (hg : (wr.alloc o).grownBy w1 lst.ownBlock) (h1 : Ge elI w1 (w.heap.size + 1) lst' out') (ho : lst'.ownBlock = lst.ownBlock ∨ lst'.ownBlock = some (wr.alloc o).heap.size) : Od ps w w1 b vs v lst' l out' := by
  have hle := h.hv.le
  have hlt := h.lt
  have hs1 : wr.heap.size ≤ w1.heap.size := by have := hg.size; simp at this; omega
  have hk : ∀ c, c < wr.heap.size → lst.ownBlock ≠ some c → w1.heap[c]? = wr.heap[c]? := fun c hc hne => (hg.block c (by simp; omega) (fun e => hne e.symm)).trans (Below.heap_alloc _ _ _ hc)
  have hbl := h.hv.va.lt
  refine ⟨⟨?_, ?_, h.hv.hp, by omega⟩, ?_, h.len, fun p hp => ?_, h.ap1, h1, fun c hc => ?_, fun p c hp hc => ?_, ?_, h.lt⟩
  · exact (hk b hbl (fun e => h.told.apart h.hv.va (by decide) e)).trans h.hv.va
  · exact h.hv.ge.kept (fun c hc => hk c (h.hv.ge.lt c hc) (fun e => h.ap2 c e hc))
  · exact (hk _ (by omega) (fun e => by have := h.told.block _ e; omega)).trans h.blk
  · exact (h.kids p hp).kept (fun c hc => hk c ((h.kids p hp).lt c hc) (h.ap3 p c hp hc))
  · rcases ho with e | e
    · rw [e] at hc; exact h.ap2 c hc
    · intro e2
      have := h.hv.ge.lt c e2
      rw [e] at hc
      have := Option.some.inj hc
      simp at this; omega
  · rcases ho with e | e
    · rw [e]; exact h.ap3 p c hp hc
    · rw [e]; intro e2
      have := (h.kids p hp).lt c hc
      have := Option.some.inj e2
      simp at this; omega
  · exact (h.below.alloc (by omega) o).trans ((Below.refl _ _).grown hg (by simp; omega) (fun b hb => by have := h.told.block b hb; omega))
theorem Od.cell {ps : List Int} {w wr : World} {b : Nat} {vs : List Value} {v lst : Value} {l : List Int} {out : List Int} (h : Od ps w wr b vs v lst l out) {p : Nat} (hp : p < ps.length) : wr.cell? ⟨w.heap.size, p, none⟩ = some (vs.getD p .nilFunc) := by
  rw [h.blk.cellAt p]
  have : p < vs.length := by rw [h.len]; exact hp
  simp [List.getD_eq_getElem?_getD, this]
theorem heap_few {ps : List Int} {out : List Nat} {l : List Int} (hc : ∀ y, l.count y ≤ cav ps out y) : l.length ≤ ps.length := by
  refine nodup_le _ _ (fun v => ?_) (fun v hv => ?_)
  · have := hc v
    have : cav ps out v ≤ 1 := by unfold cav; split <;> omega
    omega
  · have h1 := List.count_pos_iff.2 hv
    have := hc v
    obtain ⟨h2, h3⟩ := cav_pos (ps := ps) (out := out) (v := v) (by omega)
    exact ⟨h2, h3.1⟩
theorem take_getD {X : List Int} {j : Nat} (hj : j < X.length) : X.take (j + 1) = X.take j ++ [X.getD j (-1)] := by
  rw [List.take_succ_eq_append_getElem hj, List.getD_eq_getElem?_getD, List.getElem?_eq_getElem hj]; rfl
theorem count_take_le (X : List Int) (j : Nat) (y : Int) : (X.take j).count y ≤ X.count y := (List.take_sublist j X).count_le y
/-- How long a list is. -/
def lenV : Value → Nat
  | .slice _ n _ => n
  | _ => 0
set_option maxRecDepth 20000 in
set_option maxHeartbeats 8000000 in
theorem order_any {w : World} {q a : Option Addr} {cap : Nat} {ps : List Int} {m : Bool} (h : Tv w q a ps.length cap ps m) (hT : Tre ps) (hl : ps.length ≤ 4096) :
    Calls Try.prog 12 #[.pointer q] w fun e w' => (∃ lst out, e = .returned lst ∧ Go15 ps out ∧ out.length = ps.length ∧ Ge elI w' (w.heap.size + 1) lst (ints out)) ∧ Below w.heap.size w w' := by
  have hD := down_any h hT.1 hl
  have HTr : Hid (Tre ps) := hT
  clear h hT
  go_enter Try.func12, Try.ntmps12
  go_wp2_with (go_at_call 34; refine hD.mono ?_; rintro e w1 ⟨vs, r, rfl, hDn⟩; have HDn : Hid (Dn ps w w1 ps.length vs r) := hDn; obtain ⟨ar, cr, rfl, -, -, -⟩ := hDn.root.shape; clear hDn hD)
  refine ent1 w1 _ _ (Q := fun W => Code.wp _ _ _ _ W) ?_
  intro W2 hB2 hs2 V2
  have HO0 : Hid (Od ps w W2 w1.heap.size vs (.slice ar (kl ps (-1) ps.length).length cr) (.slice none 0 0) (kl ps (-1) ps.length) (ints [])) := by
    have hd := HDn.out.after hB2
    have hsz := HDn.out.size
    exact ⟨⟨V2, hd.root, Hp.rising (rising_get (kl_rising ps (-1) ps.length)), by omega⟩, hd.blk, hd.len, hd.kids, fun p c hp hc e => hd.apartr p c hp e hc, Ge.nil _ _, fun c hc => (by cases hc), fun p c hp hc e => (by cases e), hd.below, by omega⟩
  have HC0 : Hid (∀ y, (kl ps (-1) ps.length).count y = cav ps [] y) := cav_nil HTr.out.1
  clear V2 hB2 hs2 HDn
  have HV0 : Hid True := trivial
  go_loopw [6] (fun lst wr => ∃ (out : List Nat) (v : Value) (l : List Int), Hid (Od ps w wr w1.heap.size vs v lst l (ints out)) ∧ Hid (∀ y, l.count y = cav ps out y) ∧ Hid (Go15 ps out)) (fun lst _ => (ps.length + 1 - lenV lst : Nat))
  case atStart => exact ⟨[], _, _, HO0.out, HC0.out, Go15.nil ps⟩
  case round =>
    clear HO0 HC0
    obtain ⟨out, v, l, HO, HC, HG⟩ := hrel
    have hll := heap_few (ps := ps) (out := out) (l := l) (fun y => Nat.le_of_eq (HC.out y))
    obtain ⟨av, cv, rfl, -, -, hsh⟩ := HO.out.hv.ge.shape
    have cb := HO.out.hv.va.cell
    have fb := HO.out.hv.va.frozen 0
    obtain ⟨al, cl, rfl, -, -, -⟩ := HO.out.told.shape
    have hol := told_le HG.out
    rcases Nat.eq_zero_or_pos l.length with h0 | h0
    · have hl0 : l = [] := List.length_eq_zero_iff.1 h0
      rw [h0] at cb
      have HAll : Hid (out.length = ps.length) := all_told HTr.out HG.out (by rw [← hl0]; exact HC.out)
      go_wp2_with fail
      go_ret
      exact ⟨⟨_, out, rfl, HG.out, HAll.out, HO.out.told⟩, HO.out.below⟩
    · obtain ⟨g, rfl⟩ : ∃ g, av = some ⟨g, 0, none⟩ := by
        rcases hsh with ⟨-, e, -⟩ | h
        · rw [e] at h0; simp at h0
        · exact h
      obtain ⟨x, hx, hav, hmin⟩ := top_next HC.out HO.out.hv.hp h0
      have cg := HO.out.hv.ge.at0 h0
      rw [hx] at cg
      have hxl : x < ps.length := hav.1
      have hxi : (x : Int) < ps.length := by omega
      have h0i : (0 : Int) < l.length := by omega
      have HX : Hid (l.getD 0 0 = (x : Int) ∧ Av ps out x ∧ ∀ i, Av ps out i → x ≤ i) := ⟨hx, hav, hmin⟩
      have hP := hpop_any HO.out.hv h0 (by omega)
      have HLn : Hid ((ints out).length + 1 ≤ 1000000000000) := by show _ ≤ _; rw [ints_length]; omega
      clear hx hav hmin hsh
      go_wp2_with (first
        | (go_at_call 35; refine hP.mono ?_; rintro e w2 ⟨⟨u2, rfl⟩, v2, l2, hv2, hl2, hc2, hz2, hs2, hk2, ho2⟩; have HO2 : Hid (Od ps w w2 w1.heap.size vs v2 (.slice al (ints out).length cl) l2 (ints out)) := HO.out.move hv2 hz2 (by omega) hk2 (.inl ho2); have HC2 : Hid (∀ y, l2.count y + (if (x : Int) = y then 1 else 0) = cav ps out y) := (fun y => by rw [← HC.out y, ← hc2 y, HX.out.1]); have hb2 := HO2.out.hv.le; clear hv2 hl2 hc2 hz2 hs2 hk2 ho2 hP)
        | (at_builtin; refine wpList_appE rfl _ _ _ rfl elI rfl (w.heap.size + 1) _ (ints out) rfl (HO2.out.told.al _) w2.heap.size 0 1 1 [(x : Int)] rfl (Le.one (Va.new w2 _ _) rfl) HLn.out (by simp; omega) ?_; intro v3 w3 hg3 hgr3 hob3; have HO3 : Hid (Od ps w w3 w1.heap.size vs v2 v3 l2 (ints out ++ [(x : Int)])) := HO2.out.tell hgr3 hg3 hob3; have cx := HO3.out.cell hxl; obtain ⟨ax, cx2, hvx, -, -, -⟩ := (HO3.out.kids x hxl).shape; rw [hvx] at cx; have HVX : Hid (vs.getD x .nilFunc = .slice ax (kl ps x ps.length).length cx2) := hvx; obtain ⟨a3, c3, rfl, -, -, -⟩ := hg3.shape; clear hg3 hgr3 hob3 hvx))
      have HN : Hid (∀ y, l2.count y + (kl ps x ps.length).count y = cav ps (out ++ [x]) y) := fun y => by
        have h1 := cav_next HTr.out HG.out HX.out.2.1 y
        have h2 := HC2.out y
        have h3 : (if y = (x : Int) then 1 else 0) = (if (x : Int) = y then 1 else 0) := by by_cases e : y = (x : Int) <;> simp [e, eq_comm]
        rw [h3] at h1
        omega
      have hkl := kl_length ps x ps.length
      clear cx cb fb cg
      go_loopw [9, 33] (fun _ u wr => ∃ (j : Nat) (v : Value) (k : List Int), u = .int .i64 j ∧ j ≤ (kl ps x ps.length).length ∧ Hid (Od ps w wr w1.heap.size vs v (.slice a3 (ints out ++ [(x : Int)]).length c3) k (ints out ++ [(x : Int)])) ∧ Hid (∀ y, k.count y = l2.count y + ((kl ps x ps.length).take j).count y)) (fun _ u _ => ((kl ps x ps.length).length - (intOf u).toNat : Nat))
      case atStart => exact ⟨0, v2, l2, rfl, Nat.zero_le _, HO3.out, fun y => by simp⟩
      case round =>
        clear HO3
        obtain ⟨j, v, k, rfl, hj, HO4, HC4⟩ := hrel
        rcases Nat.lt_or_ge j (kl ps x ps.length).length with hlt | hge
        · have hji : (j : Int) < (kl ps x ps.length).length := by omega
          have hki := heap_few (ps := ps) (out := out ++ [x]) (l := k) (fun y => by
            have h1 := HN.out y
            have h2 := HC4.out y
            have h3 := count_take_le (kl ps x ps.length) j y
            omega)
          have hLi : Li wr ax (kl ps x ps.length).length (kl ps x ps.length) := by
            have := HO4.out.kids x hxl
            rw [HVX.out] at this
            exact this.toLe.li
          obtain ⟨b9, o9, rfl, c9⟩ := hLi.at hlt
          have HTk := take_getD hlt
          have HTk2 : Hid ((kl ps x ps.length).take (j + 1) = (kl ps x ps.length).take j ++ [(kl ps x ps.length).getD j (-1)]) := HTk
          have hPu := hpush_any HO4.out.hv (by omega) ((kl ps x ps.length).getD j (-1))
          clear HTk hLi
          generalize (kl ps x ps.length).getD j (-1) = y9 at *
          go_wp2_with (go_at_call 36; refine hPu.mono ?_; rintro e w5 ⟨⟨u5, rfl⟩, v5, l5, hv5, hl5, hc5, hz5, hs5, hk5, ho5⟩; have HO5 : Hid (Od ps w w5 w1.heap.size vs v5 (.slice a3 (ints out ++ [(x : Int)]).length c3) l5 (ints out ++ [(x : Int)])) := HO4.out.move hv5 hz5 hs5 hk5 ho5; have HC5 : Hid (∀ y, l5.count y = k.count y + (if y9 = y then 1 else 0)) := hc5; clear hv5 hl5 hc5 hz5 hs5 hk5 ho5 hPu)
          go_roundw
          case rel => exact ⟨j + 1, v5, l5, rfl, by omega, HO5.out, fun y => by
            rw [HC5.out y, HC4.out y, HTk2.out, List.count_append, List.count_singleton]
            simp only [beq_iff_eq]
            omega⟩
          case measure => simp [intOf]; omega
        · obtain rfl : j = (kl ps x ps.length).length := by omega
          clear hge hj
          go_wp2_with fail
          go_roundw
          case rel =>
            refine ⟨out ++ [x], v, k, ?_, fun y => ?_, HG.out.snoc HX.out.2.1 HX.out.2.2⟩
            · rw [ints_snoc]
              have h8 := HO4.out
              rw [show (ints out ++ [(x : Int)]).length = (ints out).length + 1 by simp] at h8
              exact h8
            · rw [HC4.out y, List.take_length]; exact HN.out y
          case measure =>
            have h9 := told_le (HG.out.snoc HX.out.2.1 HX.out.2.2)
            rw [List.length_append] at h9
            simp only [lenV, ints_length, List.length_cons, List.length_nil] at h9 ⊢
            omega
end Go.Proofs.Ytfmbloagmeodeaa
