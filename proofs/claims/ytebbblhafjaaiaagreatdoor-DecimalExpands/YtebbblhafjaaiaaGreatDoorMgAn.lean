/-
  Rows of bytes that grow in memory of the call's own.
-/
import Derived.Test.YtebbblhafjaaiaaGreatDoorMgAc
import Derived.Laws.MakeOwn
import Derived.Laws.IdiomStrings
import Derived.Test.YtebbblhafjaaiaaGreatDoorMgAl
import Derived.Test.YtebbblhafjaaiaaGreatDoorBsK
import Derived.Test.YtebbblhafjaaiaaGreatDoorMgAh
import Derived.Test.YtebbblhafjaaiaaGreatDoorMgAk
namespace Go.Proofs.YtebbblhafjaaiaaGreatDoor
open Go.RowKit Go.Shelf
set_option linter.unusedVariables false

def rowU (cs : List UInt8) : List Value := cs.map (fun c => Value.int .u8 (c.toNat : Int))
theorem rowU_length (cs : List UInt8) : (rowU cs).length = cs.length := by simp [rowU]
theorem rowU_append (a b : List UInt8) : rowU (a ++ b) = rowU a ++ rowU b := by simp [rowU]
theorem rowU_one (cs : List UInt8) : ∀ v ∈ rowU cs, v.oneCell' = true := by
  intro v hv
  simp only [rowU, List.mem_map] at hv
  obtain ⟨x, -, rfl⟩ := hv
  rfl
def GrU (w : World) (B : Nat) (v : Value) (cs : List UInt8) : Prop := w.ownsRow B 5 1 v cs.length (rowU cs)
theorem GrU.nil (w : World) (B : Nat) : GrU w B (.slice none 0 0) [] := ⟨rfl, .inl ⟨rfl, rfl⟩⟩
theorem GrU.alloc {w : World} {B : Nat} {v : Value} {cs : List UInt8} (h : GrU w B v cs) (o : Obj) : GrU (w.alloc o) B v cs := World.ownsRow.alloc h o
theorem GrU.block {w : World} {B : Nat} {v : Value} {cs : List UInt8} (h : GrU w B v cs) : ∀ k, v.ownBlock = some k → B ≤ k := by
  obtain ⟨h1, h2 | ⟨g, cap, cur, rfl, hB, hh, hc, hm, hs, ht⟩⟩ := h
  · obtain ⟨rfl, h0⟩ := h2
    intro k hk; cases hk
  · intro k hk; cases hk; exact hB
theorem info1U : (Tryz.prog.info? 5).map (fun i => (i.zero, i.size, i.bytes)) = some (some (.int .u8 0), 1, 1) := by kernel_rfl
/-- append of one byte. -/
theorem wpList_appU {ops : Array Oper} {rest : List Oper} {o : Oper} {a : Act} {w : World} {Q : Exit → Act → World → Prop} (hgd : o.guard = none) (s x : Operand)
    (ho : o.op = .call { callee := .builtin .append, args := #[s, x], argTypes := #[152, 152] })
    (B : Nat) (v : Value) (cs : List UInt8) (hs : a.eval s = v) (hg : GrU w B v cs) (g : Nat) (c : UInt8) (hx : a.eval x = .slice (some ⟨g, 0, none⟩) 1 1) (hn : w.cell? ⟨g, 0, none⟩ = some (.int .u8 (c.toNat : Int)))
    (hb : cs.length + 1 ≤ 17592186044416) (hB : B ≤ w.heap.size)
    (h : ∀ v' w', Hid (GrU w' B v' (cs ++ [c])) → Below B w w' → wpList Tryz.prog ops Q rest (a.put o.dst v') w') : wpList Tryz.prog ops Q (o :: rest) a w := by
  obtain ⟨i0, hi, hz0, hz1, hz2⟩ := info_parts info1U
  refine wpList_append_own w hgd s x _ ho B 5 i0 (.int .u8 0) 1 1 Tryz.underlying152 hi hz0 hz1 hz2 rfl (by decide) v cs.length (rowU cs) hs hg ⟨g, 0, none⟩ 1 1 (rowU [c]) hx rfl ?_ (rowU_one _) (by unfold maxLen; omega) (by omega) hB ?_
  · intro j u hu
    have hj : j = 0 := by
      rcases Nat.lt_or_ge j (rowU [c]).length with h' | h'
      · rw [rowU_length] at h'; simpa using h'
      · rw [List.getElem?_eq_none h'] at hu; cases hu
    subst hj
    cases hu
    rw [addr_add]
    exact hn
  · intro v' w' h2 h3 _
    refine h v' w' ?_ ((Below.refl B w).grown h3 hB hg.block)
    show GrU w' B v' (cs ++ [c])
    unfold GrU
    rw [List.length_append, rowU_append]
    exact h2
theorem GrU.conv {w : World} {B : Nat} {v : Value} {cs : List UInt8} (h : GrU w B v cs) (h0 : cs ≠ []) : (convert 152 9 v).run Tryz.prog w = .ok (.string ⟨cs.toArray⟩) w := by
  obtain ⟨h1, h2 | ⟨g, cap, cur, rfl, hB, hh, hc, hm, hs, ht⟩⟩ := h
  · exact absurd (List.eq_nil_of_length_eq_zero h2.2) h0
  · refine run_convert_bytes_back (P := Tryz.prog) w 152 9 5 ⟨g, 0, none⟩ cap cs Tryz.underlying152 Tryz.underlying5 Tryz.underlying9 (fun j hj => ?_)
    have hr : (rowU cs)[j]? = some (.int .u8 ((cs[j]).toNat : Int)) := by simp [rowU, hj]
    rw [← ht, Nat.mul_one, List.getElem?_take_of_lt hj] at hr
    rw [addr_add, Nat.zero_add]
    simp only [World.cell?, hh]
    simpa using hr
end Go.Proofs.YtebbblhafjaaiaaGreatDoor
namespace Go.Proofs.YtebbblhafjaaiaaGreatDoor
open Go.RowKit Go.Shelf
set_option linter.unusedVariables false

theorem Gr.shape {w : World} {B : Nat} {v : Value} {cs : List Int} (h : Gr w B v cs) : (v = .slice none 0 0 ∧ cs = []) ∨ ∃ g cap, v = .slice (some ⟨g, 0, none⟩) cs.length cap ∧ B ≤ g ∧ g < w.heap.size ∧ cs.length ≤ cap ∧ Wb w g cs.length cs := by
  obtain ⟨h1, h2 | ⟨g, cap, cur, rfl, hB, hh, hc, hm, hs, ht⟩⟩ := h
  · obtain ⟨rfl, h0⟩ := h2
    exact .inl ⟨rfl, List.length_eq_zero_iff.1 h0⟩
  · refine .inr ⟨g, cap, rfl, hB, ?_, hc, rfl, cur, hh, fun i hi => ?_⟩
    · rcases Nat.lt_or_ge g w.heap.size with h' | h'
      · exact h'
      · rw [Array.getElem?_eq_none h'] at hh; cases hh
    · have hr := row_getElem? cs i hi
      rw [← ht, Nat.mul_one, List.getElem?_take_of_lt hi] at hr
      simpa using hr
theorem row_set (cs : List Int) (i : Nat) (x : Int) : row (cs.set i x) = (row cs).set i (.int .u64 x) := by simp [row, List.map_set]
theorem Gr.seti {w : World} {B g cap : Nat} {cs : List Int} (h : Gr w B (.slice (some ⟨g, 0, none⟩) cs.length cap) cs) (i : Nat) (hi : i < cs.length) (x : Int) : Gr (w.setCell ⟨g, i, none⟩ (.int .u64 x)) B (.slice (some ⟨g, 0, none⟩) cs.length cap) (cs.set i x) := by
  obtain ⟨h1, h2 | ⟨g', cap', cur, e, hB, hh, hc, hm, hs, ht⟩⟩ := h
  · obtain ⟨e, h0⟩ := h2; cases e
  · cases e
    refine ⟨by rw [row_length, List.length_set, Nat.mul_one], .inr ⟨g, cap, cur.setIfInBounds i (.int .u64 x), by rw [List.length_set], hB, ?_, by rw [List.length_set]; exact hc, hm, by rw [Array.size_setIfInBounds]; exact hs, ?_⟩⟩
    · simp only [World.setCell]
      rw [Array.getElem?_modify, if_pos rfl, hh]
      simp
    · rw [List.length_set, Array.toList_setIfInBounds, List.take_set, ht, row_set]
def OnR (B : Nat) (ds : List Int) (p q : Int) (w : World) (e : Ending) (w' : World) : Prop := ∃ v' cs, e = .returned v' ∧ Gr w' B v' cs ∧ H.Limbs cs ∧ Tzr cs ∧ H.num cs = H.num ds * p + q ∧ cs.length ≤ ds.length + 1 ∧ Below B w w'
set_option maxHeartbeats 2000000 in
theorem onto_any (B : Nat) (v : Value) (ds : List Int) (p q : Int) (w : World) (h : Gr w B v ds) (hL : H.Limbs ds) (hz : Tzr ds) (hB : B ≤ w.heap.size) (hlen : ds.length ≤ 1000000) (p1 : 1 ≤ p) (p2 : p < 4294967296) (q0 : 0 ≤ q) (q1 : q < 4294967296) :
    Calls Tryz.prog 200 #[v, .int .u64 p, .int .u64 q] w fun e w' => OnR B ds p q w e w' := by
  have HG0 : Hid (Gr w B v ds) := h
  have I0 : Hid (OnI ds ds p q 0 q) := OnI.start hL q0 q1
  obtain ⟨m, hm⟩ : ∃ m, ds.length = m := ⟨_, rfl⟩
  obtain ⟨a, cap, hv⟩ : ∃ a cap, v = .slice a m cap := by
    rw [← hm]
    obtain ⟨a, cap, e, -⟩ := h.sl hL.up
    exact ⟨a, cap, e⟩
  subst hv
  rw [hm] at hlen
  have HM : Hid (ds.length = m) := hm
  have HL : Hid (H.Limbs ds ∧ Tzr ds) := ⟨hL, hz⟩
  clear h hL hz hm
  go_enter Tryz.func200, Tryz.ntmps200
  go_wp2_with fail
  go_loopw [7, 8] (fun cc ii wr => ∃ (k : Nat) (c : Int) (cs : List Int), ii = .int .i64 k ∧ cc = .int .u64 c ∧ k ≤ m ∧ Hid (OnI ds cs p q k c) ∧ Hid (Gr wr B (.slice a m cap) cs) ∧ Hid (Below B w wr)) (fun _ ii _ => ((m : Int) - intOf ii).toNat)
  case atStart => exact ⟨0, q, ds, rfl, rfl, by omega, I0, HG0, Below.refl _ _⟩
  case round =>
    obtain ⟨k, c, cs, rfl, rfl, hk, HI, HG, HB⟩ := hrel
    have hcl : cs.length = m := by rw [HI.out.len]; exact HM.out
    have c0 := HI.out.c0
    have c1 := HI.out.c1
    clear I0 HG0
    by_cases hlt : k < m
    · have hki : (k : Int) < m := by omega
      obtain ⟨g, cap', e, hBg, hgl, hcc, hWb⟩ : ∃ g cap', Value.slice a m cap = .slice (some ⟨g, 0, none⟩) cs.length cap' ∧ B ≤ g ∧ g < wr.heap.size ∧ cs.length ≤ cap' ∧ Wb wr g cs.length cs := by
        rcases HG.out.shape with ⟨e, e2⟩ | h
        · rw [e2] at hcl; simp at hcl; omega
        · exact h
      rw [hcl] at e
      cases e
      have hstep := HI.out.step (by rw [HM.out]; exact hlt) (by omega) p2
      have hd0 := HI.out.lim.getD k
      have hcell := hWb.cell k (by omega)
      have hfz := hWb.frozen k
      rw [HI.out.rst k (Nat.le_refl _)] at hcell hd0
      have hG2 := HG.out
      rw [← hcl] at hG2
      have hset := fun x => hG2.seti k (by omega) x
      rw [hcl] at hset
      obtain ⟨x, hx⟩ : ∃ x, ds.getD k 0 = x := ⟨_, rfl⟩
      rw [hx] at hstep hcell hd0
      have hmb := mul32_bd hd0.1 hd0.2 (show 0 ≤ p by omega) p2
      obtain ⟨y, hy⟩ : ∃ y, x * p = y := ⟨_, rfl⟩
      rw [hy] at hstep hmb
      obtain ⟨s, hs⟩ : ∃ s, y + c = s := ⟨_, rfl⟩
      rw [hs] at hstep
      have s0 : 0 ≤ s := by omega
      have s1 : s < 18446744073709551616 := by omega
      have y1 : y < 18446744073709551616 := by omega
      have y0 : 0 ≤ y := hmb.1
      have wy : IntKind.u64.wrap y = y := by rw [IntKind.wrap_u64]; omega
      have ws : IntKind.u64.wrap s = s := by rw [IntKind.wrap_u64]; omega
      have HST : Hid (OnI ds (cs.set k (s % 4294967296)) p q (k + 1) (s / 4294967296)) := hstep
      have HSET : Hid (∀ x : Int, Gr (wr.setCell ⟨g, k, none⟩ (.int .u64 x)) B (.slice (some ⟨g, 0, none⟩) m cap) (cs.set k x)) := hset
      clear hstep hset hG2 hWb hx hmb HI HG
      go_wp2_with fail
      go_roundw
      case rel => exact ⟨k + 1, _, _, by go_num, rfl, by omega, HST, HSET.out _, HB.out.setCell (p := ⟨g, k, none⟩) hBg _⟩
      case measure => simp [intOf]; omega
    · have hki : ¬ (k : Int) < m := by omega
      obtain rfl : k = m := by omega
      have hI := HI.out
      rw [← HM.out] at hI
      have hend := hI.end_ HL.out.2 HL.out.1 p1 q0
      by_cases hc : 0 < c
      · rw [if_pos hc] at hend
        have HE : Hid (H.num (cs ++ [c]) = H.num ds * p + q ∧ H.Limbs (cs ++ [c]) ∧ Tzr (cs ++ [c])) := hend
        have hBw : B ≤ wr.heap.size := Nat.le_trans hB HB.out.size
        clear hI hend HI
        have hal : B ≤ (wr.alloc (.cells #[.int .u64 c] 94)).heap.size := by simp; omega
        have HAL : Hid (Below B w (wr.alloc (.cells #[.int .u64 c] 94))) := HB.out.alloc hBw _
        go_wp2_with (at_builtin; refine wpList_app rfl (.tmp 34) (.tmp 36) rfl B (.slice a k cap) cs rfl (HG.out.alloc _) wr.heap.size 1 1 [c] rfl rfl (heap_alloc_new _ _) (by omega) hal ?_; intro v1 w1 hG1 hb1)
        go_ret
        exact ⟨_, cs ++ [c], rfl, hG1.out, HE.out.2.1, HE.out.2.2, HE.out.1, by rw [HM.out]; simp; omega, HAL.out.trans hb1⟩
      · rw [if_neg hc] at hend
        have HE : Hid (H.num cs = H.num ds * p + q ∧ H.Limbs cs ∧ Tzr cs) := hend
        clear hI hend HI
        go_wp2_with fail
        go_ret
        exact ⟨_, cs, rfl, HG.out, HE.out.2.1, HE.out.2.2, HE.out.1, by rw [HM.out]; omega, HB.out⟩
end Go.Proofs.YtebbblhafjaaiaaGreatDoor
namespace Go.Proofs.YtebbblhafjaaiaaGreatDoor
open Go.RowKit Go.Shelf
set_option linter.unusedVariables false

end Go.Proofs.YtebbblhafjaaiaaGreatDoor
namespace Go.Proofs.YtebbblhafjaaiaaGreatDoor
open Go.RowKit Go.Shelf
set_option linter.unusedVariables false

set_option maxHeartbeats 2000000 in
theorem rpointed6 (s : List UInt8) (P : Nat) (neg : Bool) (hP : P < s.length) (hs : s.length ≤ 1000000) (w : World) :
    Calls Tryz.prog 49 #[.string ⟨s.toArray⟩, .int .i64 P, .bool neg] w fun e w' => e = .returned (.string ⟨(sgL neg (ptL P s)).toArray⟩) ∧ Below w.heap.size w w' := by
  have B0 : Below w.heap.size w w := Below.refl _ _
  by_cases h0 : P = 0
  · subst h0
    have e0 : ptL 0 s = s := rfl
    rw [e0]
    cases neg
    · go_enter Tryz.func49, Tryz.ntmps49
      go_wp2_with fail
      go_ret
      exact ⟨rfl, B0⟩
    · have hcat := cat [45] s
      go_enter Tryz.func49, Tryz.ntmps49
      go_wp2_with fail
      go_ret
      exact ⟨rfl, B0⟩
  · have hpi : (0 : Int) < P := by omega
    have s1 := slice_hi s ((s.length : Int) - P) (s.length - P) (by omega) (by omega)
    have s2 := slice_lo s ((s.length : Int) - P) (s.length - P) (by omega) (by omega)
    have c1 := cat (s.take (s.length - P)) [46]
    have c2 := cat (s.take (s.length - P) ++ [46]) (s.drop (s.length - P))
    have c3 := cat [45] (s.take (s.length - P) ++ [46] ++ s.drop (s.length - P))
    have HE : Hid (ptL P s = s.take (s.length - P) ++ 46 :: s.drop (s.length - P)) := by show ptL P _ = _; unfold ptL; rw [if_neg (by omega)]
    cases neg
    · go_enter Tryz.func49, Tryz.ntmps49
      go_wp2_with fail
      go_quiet (fail)
      go_wp2_with fail
      go_ret
      refine ⟨?_, below_dN B0 _⟩
      rw [HE.out]
      have e : sgL false (s.take (s.length - P) ++ 46 :: s.drop (s.length - P)) = s.take (s.length - P) ++ [46] ++ s.drop (s.length - P) := by unfold sgL; simp
      first | rfl | (rw [e]; rfl) | (unfold sgL; rfl) | (unfold sgL; simp)
    · go_enter Tryz.func49, Tryz.ntmps49
      go_wp2_with fail
      go_quiet (fail)
      go_wp2_with fail
      go_ret
      refine ⟨?_, below_dN B0 _⟩
      rw [HE.out]
      have e : sgL true (s.take (s.length - P) ++ 46 :: s.drop (s.length - P)) = [45] ++ (s.take (s.length - P) ++ [46] ++ s.drop (s.length - P)) := by unfold sgL; simp
      first | rfl | (rw [e]; rfl) | (unfold sgL; rfl) | (unfold sgL; simp)
/-- Noughts behind digits, the lowest first, are noughts ahead of the text. -/
theorem tB3_pad (os : List Int) (k : Nat) : tB3 (os ++ List.replicate k 0) = List.replicate k 48 ++ tB3 os := by
  unfold tB3
  rw [List.map_append, List.reverse_append, List.map_replicate, List.reverse_replicate]
  rfl
theorem DgI.pad {os : List Int} (h : DgI 10 os) (k : Nat) : DgI 10 (os ++ List.replicate k 0) := fun z hz => by
  rcases List.mem_append.1 hz with h' | h'
  · exact h z h'
  · rw [List.eq_of_mem_replicate h']; exact ⟨by omega, by omega⟩
set_option maxRecDepth 20000 in
set_option maxHeartbeats 2000000 in
theorem rtold6 (least : Nat) (hleast : least ≤ 5000) (a : Option Addr) (la ca : Nat) (zs : List Int) (w : World) (h : Sl w a la zs) (hl : la ≤ 1100000) (hM : ∀ n : Nat, ((10 : Nat) : Int) ^ n ≤ num zs → n ≤ 300000) (hN0 : 0 ≤ num zs) :
    Calls Tryz.prog 46 #[.slice a la ca, .int .i64 least] w fun e w' => ∃ t, e = .returned (.string ⟨(List.replicate (least - t.length) 48 ++ t).toArray⟩) ∧ Tx 10 t (num zs).toNat ∧ t.length ≤ 300100 ∧ Below w.heap.size w w' := by
  have wo := worthsB 10 (by omega) (by omega) a la ca zs w h hl hM hN0
  generalize num zs = N at *
  clear h hM
  go_enter Tryz.func46, Tryz.ntmps46
  go_wp2_with fail
  go_at_call 102
  refine wo.mono ?_
  rintro e x1 ⟨v, os, rfl, hG, hne, hdg, hlv, hlen, htp, hb1⟩
  have hTx := tB3_tx (by omega) (by omega) hdg hne hlv htp
  have HTX : Hid (Tx 10 (tB3 os) N.toNat) := hTx
  have HNE : Hid (os ≠ []) := hne
  have HDG : Hid (DgI 10 os) := hdg
  have HG0 : Hid (Gr x1 w.heap.size v os) := hG
  have HB1 : Hid (Below w.heap.size w x1) := hb1
  have hlB := hG.lenB
  clear hTx hne hdg hlv htp hG wo hb1
  go_wp2_with fail
  go_loopw [5] (fun vv wr => ∃ k : Nat, k ≤ least - os.length ∧ Hid (Gr wr w.heap.size vv (os ++ List.replicate k 0)) ∧ Hid (Below w.heap.size w wr)) (fun vv _ => least - slenB vv)
  case atStart => exact ⟨0, by omega, by simpa using HG0, HB1⟩
  case round =>
    obtain ⟨k, hk, HG, HB⟩ := hrel
    clear HG0 HB1
    have hdg := HDG.out.pad k
    obtain ⟨cs, hcs⟩ : ∃ cs, os ++ List.replicate k 0 = cs := ⟨_, rfl⟩
    have HCS : Hid (os ++ List.replicate k 0 = cs) := hcs
    have hcl : cs.length = os.length + k := by rw [← hcs]; simp
    rw [hcs] at HG hdg
    obtain ⟨a5, c5, rfl, hc5, hs5⟩ := HG.out.sl (hdg.limbs (by omega))
    obtain ⟨L, hL⟩ : ∃ L, cs.length = L := ⟨_, rfl⟩
    have HLN : Hid (cs.length = L) := hL
    rw [hL] at hcl hc5
    by_cases hlt : L < least
    · have hli : (L : Int) < least := by omega
      have HSZ : Hid (w.heap.size ≤ (wr.alloc (.cells #[.int .u64 0] 94)).heap.size) := by show _ ≤ _; have := HB.out.size; simp; omega
      have HGA : Hid (Gr (wr.alloc (.cells #[.int .u64 0] 94)) w.heap.size (.slice a5 L c5) cs) := by have := HG.out.alloc (.cells #[.int .u64 0] 94); rw [HLN.out] at this; exact this
      have HBA : Hid (Below w.heap.size w (wr.alloc (.cells #[.int .u64 0] 94))) := HB.out.alloc HB.out.size _
      rw [hL]
      clear hcs hdg hs5 HG HB hL
      go_wp2_with (at_builtin; refine wpList_app rfl (.tmp 14) (.tmp 15) rfl w.heap.size (.slice a5 L c5) cs rfl HGA.out wr.heap.size 1 1 [0] rfl rfl (heap_alloc_new _ _) (by have := HLN.out; omega) HSZ.out ?_; intro v1 w1 hG1 hb1)
      have HB2 : Hid (Below w.heap.size w w1) := HBA.out.trans hb1
      have HG2 : Hid (Gr w1 w.heap.size v1 (os ++ List.replicate (k + 1) 0)) := by
        have e : os ++ List.replicate (k + 1) 0 = cs ++ [0] := by rw [← HCS.out, List.replicate_succ', List.append_assoc]
        rw [e]; exact hG1.out
      have hl2 := HG2.out.lenB
      rw [List.length_append, List.length_replicate] at hl2
      clear hb1 hG1 HGA HBA HSZ
      go_wp2_with fail
      go_roundw
      case rel => exact ⟨k + 1, by omega, HG2, HB2⟩
      case measure => simp [slenB] at hl2 ⊢; omega
    · have hli : ¬ (L : Int) < least := by omega
      have hk2 : k = least - os.length := by omega
      have HT : Hid (tB3 cs = List.replicate (least - (tB3 os).length) 48 ++ tB3 os) := by show _ = _; rw [← HCS.out, tB3_pad, tB3_len, hk2]
      have HTL : Hid ((tB3 os).length ≤ 300100) := by show _ ≤ _; rw [tB3_len]; exact hlen
      have HDC : Hid (DgI 10 cs) := hdg
      have L1 : 1 ≤ L := by have := List.length_pos_iff.2 HNE.out; omega
      have L2 : L ≤ 310000 := by omega
      obtain ⟨g, cap, he5, hg0, hg1, hcc, hWb⟩ : ∃ g cap, (.slice a5 cs.length c5 : Value) = .slice (some ⟨g, 0, none⟩) cs.length cap ∧ w.heap.size ≤ g ∧ g < wr.heap.size ∧ cs.length ≤ cap ∧ Wb wr g cs.length cs := by
        rcases HG.out.shape with ⟨-, e2⟩ | h
        · rw [e2] at hL; simp at hL; omega
        · exact h
      injection he5 with he5 _ he6
      subst he5
      subst he6
      have HW : Hid (Wb wr g cs.length cs) := hWb
      have HB0 : Hid (Below w.heap.size w wr) := HB.out
      rw [hL]
      clear hk2 hcl hdg hs5 HG HB hWb hL hcs HDG HNE HCS
      go_wp2_with fail
      obtain ⟨x2, hx2⟩ : ∃ x2, x2 = wr := ⟨_, rfl⟩
      subst hx2
      have U0 : Hid (GrU x2 x2.heap.size (.slice none 0 0) (tB3 (cs.drop L))) := by rw [← HLN.out, List.drop_length]; exact GrU.nil _ _
      go_loopw [6, 7] (fun bv ii W => ∃ k : Nat, k ≤ L ∧ ii = .int .i64 ((k : Int) - 1) ∧ Hid (GrU W x2.heap.size bv (tB3 (cs.drop k))) ∧ Hid (Below x2.heap.size x2 W)) (fun _ ii _ => (intOf ii + 1).toNat)
      case atStart => exact ⟨L, Nat.le_refl _, rfl, U0, Below.refl _ _⟩
      case round =>
        obtain ⟨k2, hk2, rfl, HU, HBr⟩ := hrel
        clear U0
        by_cases hk0 : k2 = 0
        · subst hk0
          have hki : ¬ (0 : Int) ≤ ((0 : Nat) : Int) - 1 := by omega
          have hU := HU.out
          rw [List.drop_zero] at hU
          have hcv := hU.conv (by intro e; have := tB3_len cs; rw [e] at this; simp at this; have := HLN.out; omega)
          have HB2 := step HB0.out HBr.out
          clear hU HU HBr HDC
          rw [HT.out] at hcv
          generalize tB3 os = T at *
          go_wp2_with fail
          go_ret
          exact ⟨T, rfl, HTX.out, HTL.out, HB2⟩
        · obtain ⟨j, rfl⟩ : ∃ j, k2 = j + 1 := ⟨k2 - 1, by omega⟩
          have hki : (0 : Int) ≤ ((j + 1 : Nat) : Int) - 1 := by omega
          have hlt2 : j < cs.length := by rw [HLN.out]; omega
          have hd := HDC.out.getD hlt2
          have hc := (HW.out.below HBr.out hg1).cell j hlt2
          have hst := tB3_drop cs hlt2
          obtain ⟨x, hx⟩ : ∃ x, cs.getD j 0 = x := ⟨_, rfl⟩
          rw [hx] at hd hc hst
          have HST : Hid (tB3 (cs.drop j) = tB3 (cs.drop (j + 1)) ++ [ltr x]) := hst
          have jL : (j : Int) < L := by rw [← HLN.out]; omega
          obtain ⟨x0, x1b⟩ := hd
          have hlv := ltr_val x0 (by omega)
          rw [if_pos (by omega)] at hlv
          obtain ⟨c, hcc2⟩ : ∃ c, ltr x = c := ⟨_, rfl⟩
          have HLT : Hid (ltr x = c) := hcc2
          rw [hcc2] at hlv
          have w64 : IntKind.u64.wrap (48 + x) = 48 + x := by rw [IntKind.wrap_u64]; omega
          have w8 : IntKind.u8.wrap (48 + x) = (c.toNat : Int) := by rw [hlv]; show (48 + x) % 256 = _; omega
          have hlen2 : (tB3 (cs.drop (j + 1))).length + 1 ≤ 17592186044416 := by rw [tB3_len, List.length_drop]; have := HLN.out; omega
          rw [show (((j + 1 : Nat) : Int) - 1) = (j : Int) by omega] at *
          clear hst hx hki hcc2 hlv
          have hji : (0 : Int) ≤ j := by omega
          have hsA : x2.heap.size ≤ (wr.alloc (.cells #[.int .u8 (c.toNat : Int)] 5)).heap.size := by have := HBr.out.size; simp; omega
          have HUa : Hid (GrU (wr.alloc (.cells #[.int .u8 (c.toNat : Int)] 5)) x2.heap.size u6 (tB3 (cs.drop (j + 1)))) := HU.out.alloc _
          have HC1 : Hid ((wr.alloc (.cells #[.int .u8 (c.toNat : Int)] 5)).cell? ⟨wr.heap.size, 0, none⟩ = some (.int .u8 (c.toNat : Int))) := (Va.new wr 5 #[.int .u8 (c.toNat : Int)]).cell
          have HBa : Hid (Below x2.heap.size x2 (wr.alloc (.cells #[.int .u8 (c.toNat : Int)] 5))) := HBr.out.alloc HBr.out.size _
          clear HU HBr
          go_wp2_with (at_builtin; refine wpList_appU rfl (.tmp 24) (.tmp 31) rfl x2.heap.size u6 _ rfl HUa.out wr.heap.size c rfl HC1.out hlen2 hsA ?_; intro v2 w2 HG2 hb2)
          have HB3 : Hid (Below x2.heap.size x2 w2) := HBa.out.trans hb2
          have HG3 : Hid (GrU w2 x2.heap.size v2 (tB3 (cs.drop j))) := by rw [HST.out, HLT.out]; exact HG2.out
          clear hb2 HG2 HUa HC1 HBa
          go_wp2_with fail
          go_roundw
          case rel => exact ⟨j, by omega, rfl, HG3, HB3⟩
          case measure => simp [intOf]
end Go.Proofs.YtebbblhafjaaiaaGreatDoor
namespace Go.Proofs.YtebbblhafjaaiaaGreatDoor
open Go.RowKit Go.Shelf
set_option linter.unusedVariables false

/-- Between two pieces: k digits are taken. -/
def OfS (w : World) (b : Nat) (rs : List Int) (k : Nat) (d : Value) (cs : List Int) (W : World) : Prop :=
  Gr W w.heap.size d cs ∧ H.Limbs cs ∧ Tzr cs ∧ H.num cs = tvI b (rs.take k) ∧ cs.length ≤ 8192 ∧ Below w.heap.size w W
/-- Inside a piece: j more digits are taken. -/
def OfI (b : Nat) (rs : List Int) (k j : Nat) (p q : Int) : Prop := p = (b : Int) ^ j ∧ q = tvI b ((rs.drop k).take j) ∧ 1 ≤ p ∧ p < 4294967296 ∧ 0 ≤ q ∧ q < p
theorem OfI.start (b : Nat) (rs : List Int) (k : Nat) : OfI b rs k 0 1 0 := ⟨by simp, by simp [tvI], by omega, by omega, by omega, by omega⟩
theorem OfI.step {b : Nat} {rs : List Int} {k j : Nat} {p q : Int} (h : OfI b rs k j p q) (h2 : 2 ≤ b) (hd : DgI b rs) (hj : k + j < rs.length) (hp : p * b < 4294967296) : OfI b rs k (j + 1) (p * b) (q * b + rs.getD (k + j) 0) := by
  obtain ⟨rfl, rfl, p1, p2, q0, q1⟩ := h
  have hz := hd.getD hj
  have hb : (1 : Int) ≤ b := by omega
  have e : tvI b ((rs.drop k).take (j + 1)) = tvI b ((rs.drop k).take j) * b + rs.getD (k + j) 0 := by rw [drop_take_snoc rs k j hj, tvI_snoc]
  have hn := tvI_pos hb ((hd.drop k).take (j + 1))
  have hl := tvI_lt hb ((hd.drop k).take (j + 1))
  have hlen : ((rs.drop k).take (j + 1)).length = j + 1 := by simp; omega
  rw [hlen, e, Int.pow_succ] at hl
  rw [e] at hn
  have h1 : (b : Int) ^ j * 1 ≤ (b : Int) ^ j * b := Int.mul_le_mul_of_nonneg_left hb (by omega)
  exact ⟨by rw [Int.pow_succ], e.symm, by omega, hp, hn, hl⟩
theorem OfS.next {w : World} {b : Nat} {rs : List Int} {k j : Nat} {d d' : Value} {cs cs' : List Int} {W W' : World} {p q : Int} (hk : k + j ≤ rs.length) (h : OfS w b rs k d cs W) (hi : OfI b rs k j p q) (hG : Gr W' w.heap.size d' cs') (hL : H.Limbs cs') (hz : Tzr cs') (hn : H.num cs' = H.num cs * p + q) (hl : cs'.length ≤ 8192) (hb : Below w.heap.size W W') : OfS w b rs (k + j) d' cs' W' := by
  obtain ⟨h1, h2, h3, h4, h5, h6⟩ := h
  obtain ⟨rfl, rfl, -⟩ := hi
  refine ⟨hG, hL, hz, ?_, hl, h6.trans hb⟩
  rw [hn, h4, take_more, tvI_append]
  have : ((rs.drop k).take j).length = j := by simp; omega
  rw [this]
theorem of3_short {cs : List Int} {V : Int} (hL : H.Limbs cs) (hz : Tzr cs) (h : cs.length ≤ 8192) (e : H.num cs = V) : V < pw 4096 := by
  rcases Int.lt_or_le V (pw 4096) with h' | h'
  · exact h'
  · rw [← e] at h'
    have := (long32_iff hL hz).2 h'
    omega
theorem rtrim_none (w : World) : Calls Tryz.prog 24 #[.slice none 0 0] w fun e w' => e = .returned (.slice none 0 0) ∧ w' = w := by
  go_enter Tryz.func24, Tryz.ntmps24
  go_wp2_with fail
  refine wp_loop_rounds 1 ?_
  rw [rounds_succ]
  go_wp2_with fail
  go_ret
  exact ⟨rfl, rfl⟩
theorem rlimbs_zero (a : Option Addr) (c : Nat) (w : World) :
    Calls Tryz.prog 201 #[.slice a 0 c] w fun e w' => e = .returned (.slice none 0 0) ∧ w' = w := by
  have tr := rtrim_none w
  go_enter Tryz.func201, Tryz.ntmps201
  go_wp2_with fail
  refine wp_loop_rounds 1 ?_
  rw [rounds_succ]
  go_wp2_with fail
  go_at_call 24
  refine tr.mono ?_
  rintro e w2 ⟨rfl, rfl⟩
  go_wp2_with fail
  go_ret
  exact ⟨rfl, rfl⟩
/-- A list that is not empty lies somewhere. -/
theorem Sl.there3 {w : World} {a : Option Addr} {l c : Nat} {zs : List Int} (h : Sl w a l zs) (hu : usedN zs = l) (h0 : num zs ≠ 0) : a = none → l = 0 ∧ c = 0 := by
  intro e
  have hl : 0 < l := by
    rcases Nat.eq_zero_or_pos l with h' | h'
    · exact absurd ((num_eq_zero h.2.1).2 (by omega)) h0
    · exact h'
  obtain ⟨b, off, e2, -⟩ := h.2.2 hl
  rw [e] at e2; cases e2
theorem int_of3 {a b : Int} (h : a = b) : Value.int .i64 a = .int .i64 b := by rw [h]
end Go.Proofs.YtebbblhafjaaiaaGreatDoor
