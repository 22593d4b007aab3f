/-
  numeral.Text, given what FormatUint answers and the pieces that apart answers.
-/
import Derived.Test.YtpfbcicjfnfpgaaDoorFmt10
import Derived.Test.YtpfbcicjfnfpgaaDoorJoinFew
import Derived.Test.YtpfbcicjfnfpgaaDoorBsH
import Derived.Test.YtpfbcicjfnfpgaaDoorBsM
import Derived.Shelf.Strings.BuilderK
import Derived.Shelf.Strings.Builder2
import Derived.Shelf.Strings.Repeat
namespace Go.Proofs.YtpfbcicjfnfpgaaDoor
open Go.RowKit Go.Shelf
set_option linter.unusedVariables false

/-- Pieces of a number, the lowest first. -/
def AP (W : World) (g off len : Nat) (D : Nat → Dg) (V By : Int) : Prop :=
  1 ≤ len ∧ len ≤ 1000000 ∧ g < W.heap.size ∧ (∀ j, j < len → W.cell? ⟨g, off + j, none⟩ = some (dv (D j))) ∧ (∀ j, Nt W (D j).1 (D j).2.1 (D j).2.2.1 (D j).2.2.2) ∧ (∀ j, num (D j).2.2.2 < By) ∧ dsum By D (down len len) = V ∧ (1 < len → num (D (len - 1)).2.2.2 ≠ 0)
theorem AP.after {W W' : World} (hb : Below W.heap.size W W') {g off len : Nat} {D : Nat → Dg} {V By : Int} (h : AP W g off len D V By) : AP W' g off len D V By :=
  ⟨h.1, h.2.1, Nat.lt_of_lt_of_le h.2.2.1 hb.size, fun j hj => (hb.cell (p := ⟨g, off + j, none⟩) h.2.2.1).trans (h.2.2.2.1 j hj), fun j => Nt.after hb (h.2.2.2.2.1 j), h.2.2.2.2.2⟩
/-- A builder stays one where memory is only made. -/
theorem bld_after {T e : TypeId} {B b : Nat} {bs : List Value} {W W' : World} (hb : Below W.heap.size W W') (h : Go.Lib.IsBuilderF T e B b bs W) : Go.Lib.IsBuilderF T e B b bs W' := by
  have one : ∀ p, Go.Lib.BuilderAtF T e B b p bs W → Go.Lib.BuilderAtF T e B b p bs W' := fun p h => by
    obtain ⟨h1, v, h2, h3, h4⟩ := h
    have hg : W.grownBy W' none := ⟨hb.os, hb.tape, hb.output, hb.size, fun k hk _ => hb.block k hk⟩
    exact ⟨h1, v, (hb.block b (Array.getElem?_eq_some_iff.1 h2).1).trans h2, h3.kept hg (by cases h : v.ownBlock <;> simp), h4⟩
  exact h.elim (fun x => .inl (one _ x)) (fun x => .inr (one _ x))
theorem wstr (B b : Nat) (l : List UInt8) (t : List UInt8) (w : World) (h : Go.Lib.IsBuilderF 55 5 B b (Go.Lib.byteCells l) w) (hlen : l.length + t.length ≤ 140737488355328) (hBw : B ≤ w.heap.size) :
    Calls Tryd.prog 24 #[.pointer (some ⟨b, 0, none⟩), .string ⟨t.toArray⟩] w fun e w' => (∃ v, e = .returned v) ∧ Go.Lib.IsBuilderF 55 5 B b (Go.Lib.byteCells (l ++ t)) w' ∧ Below B w w' := by
  refine (Any.Builder_WriteString_k { Tryd.lays105 with } Tryd.Builder_Extra_105 B b (Go.Lib.byteCells l) ⟨t.toArray⟩ w h (by simp [Go.Lib.byteCells]; exact hlen) hBw).mono ?_
  rintro e w' ⟨rfl, h1, h2, -⟩
  refine ⟨⟨_, rfl⟩, ?_, h2⟩
  rw [Go.Lib.byteCells_append]
  exact .inr h1
theorem repeat_noughts (n : Nat) : Go.Lib.repeatL [48] n = List.replicate n 48 := by
  induction n with
  | zero => simp [Go.Lib.repeatL]
  | succ n ih => simp_all [Go.Lib.repeatL, List.replicate_succ]
theorem zrep (n : Nat) (hn : n ≤ 1000000) (w : World) : Calls Tryd.prog 25 #[.string ⟨#[48]⟩, .int .i64 n] w fun e w' => e = .returned (.string ⟨(List.replicate n (48 : UInt8)).toArray⟩) ∧ Below w.heap.size w w' := by
  have := Tryd.strings_Repeat ⟨#[48]⟩ n w (by omega) (by show 1 * n ≤ _; omega)
  rw [show (ByteArray.mk #[48]).data.toList = [48] from rfl, repeat_noughts] at this
  exact this
/-- What stands between two rounds. -/
def TxI (bn sz len k : Nat) (D : Nat → Dg) (By : Int) (acc : List UInt8) : Prop := k ≤ len ∧ acc.length ≤ k * sz ∧ (k = 0 → acc = []) ∧ (0 < k → ∃ V : Nat, dsum By D (down len k) = V ∧ Tx bn acc V ∧ (1 < len → V ≠ 0))
theorem down_one (len : Nat) : down len 1 = [len - 1] := by simp [down]
theorem txI_on {w : World} {bn sz len k u : Nat} {D : Nat → Dg} {By : Int} {acc l : List UInt8} (h : TxI bn sz len k D By acc) (hk : k < len) (hb2 : 2 ≤ bn) (hBy : By = ((bn ^ sz : Nat) : Int)) (hu : num (D (len - 1 - k)).2.2.2 = u) (hl : Tx bn l u) (hlen : l.length ≤ sz) (hnn : ∀ j, 0 ≤ num (D j).2.2.2) (htop : 1 < len → num (D (len - 1)).2.2.2 ≠ 0) :
    TxI bn sz len (k + 1) D By (if k = 0 then l else acc ++ (List.replicate (sz - l.length) 48 ++ l)) := by
  obtain ⟨h1, h2, h3, h4⟩ := h
  have hB1 : 1 ≤ By := by rw [hBy]; have : 0 < bn ^ sz := Nat.pow_pos (by omega); omega
  by_cases h0 : k = 0
  · subst h0
    rw [if_pos rfl]
    refine ⟨by omega, by omega, fun h => by omega, fun _ => ⟨u, ?_, hl, fun hl1 e => ?_⟩⟩
    · rw [down_one]; simp only [dsum, List.foldl_cons, List.foldl_nil]; rw [show len - 1 = len - 1 - 0 by omega, hu]; omega
    · have := htop hl1
      rw [show len - 1 = len - 1 - 0 by omega, hu] at this
      omega
  · rw [if_neg h0]
    obtain ⟨V, hV, ht, hne⟩ := h4 (by omega)
    have hlm : (List.replicate (sz - l.length) (48 : UInt8) ++ l).length = sz := by simp; omega
    have hm := ht.more (m := List.replicate (sz - l.length) 48 ++ l) (hne (by omega)) ((dig_noughts hb2 _).append hl.dig)
    rw [hlm, tv_ahead, hl.val] at hm
    refine ⟨by omega, ?_, fun h => by omega, fun _ => ⟨V * bn ^ sz + u, ?_, hm, fun hl1 e => ?_⟩⟩
    · rw [List.length_append, hlm, Nat.add_mul]; omega
    · rw [down_succ, dsum_snoc, hV, hu, hBy]; simp
    · have hp : 0 < bn ^ sz := Nat.pow_pos (by omega)
      have : 0 < V * bn ^ sz := Nat.mul_pos (by have := hne hl1; omega) hp
      omega

set_option maxHeartbeats 8000000 in
set_option maxRecDepth 20000 in
theorem text_of (T : World → Prop) (hTo : ∀ W W', Below W.heap.size W W' → T W → T W') (bn sz : Nat) (By : Int) (hb2 : 2 ≤ bn) (hb36 : bn ≤ 36) (hs1 : 1 ≤ sz) (hs63 : sz ≤ 63) (hBy : By = ((bn ^ sz : Nat) : Int)) (hBw : Word By) (hB0 : By ≠ 0)
    (hgp : ∀ w, Calls Tryd.prog 17 #[.int .i64 bn] w fun e w' => e = .returned (.tuple #[.int .u64 By, .int .i64 sz]) ∧ w' = w)
    (hF : ∀ (u : Nat) (w : World), u < 18446744073709551616 → T w → Calls Tryd.prog 22 #[.int .u64 u, .int .i64 bn] w fun e w' => ∃ l, e = .returned (.string ⟨List.toArray l⟩) ∧ Tx bn l u ∧ Below w.heap.size w w')
    (a : Option Addr) (l c : Nat) (xs : List Int) (w : World) (h0 : Nt w a l c xs) (hT : T w)
    (hA : ∀ W a2 l2 c2, Below w.heap.size w W → Nt W a2 l2 c2 [By] → Nt W a l c xs → Calls Tryd.prog 18 #[.agg #[.slice a l c], .agg #[.slice a2 l2 c2]] W fun e W' => ∃ g off len cap D, e = .returned (.slice (some ⟨g, off, none⟩) len cap) ∧ len ≤ cap ∧ Hid (AP W' g off len D (num xs) By) ∧ Below W.heap.size W W') :
    Calls Tryd.prog 11 #[.agg #[.slice a l c], .int .i64 bn] w fun e W' => ∃ t, e = .returned (.tuple #[.string ⟨List.toArray t⟩, .int .i64 0]) ∧ Tx bn t (num xs).toNat ∧ Below w.heap.size w W' := by
  have HTo : Hid (∀ W W', Below W.heap.size W W' → T W → T W') := hTo
  clear hTo
  have HBY : Hid (By = ((bn ^ sz : Nat) : Int)) := hBy
  have HF : Hid _ := hF
  have HA : Hid _ := hA
  clear hBy hF hA
  have B0 : Below w.heap.size w w := Below.refl _ _
  go_enter Tryd.func11, Tryd.ntmps11
  go_wp2_with fail
  refine ent1 w _ _ (Q := fun W => Calls Tryd.prog _ _ W _) ?_
  intro x1 hb hs_x1 V0
  replace h0 := Nt.after hb h0
  replace B0 := step B0 hb
  clear hb hs_x1
  refine (isBase_any bn (by omega) (by omega) _).mono ?_
  rintro e w' ⟨rfl, rfl⟩
  go_wp2_with fail
  refine (hgp _).mono ?_
  rintro e w' ⟨rfl, rfl⟩
  clear hgp
  go_wp2_with fail
  refine wp_region_noPanic ?_
  replace V0 : Va w'.drew _ _ _ := V0
  replace h0 := h0.drw
  replace B0 := Below.drew B0
  refine wp_region_held_drew (S := (fun W => W.cell? ⟨w.heap.size, 0, none⟩ = some (.slice a l c))) (by kernel_rfl) V0.cell (fun hHeld => ?_)
  obtain ⟨x2, hxd⟩ : ∃ xd, xd = w'.drew := ⟨_, rfl⟩
  rw [← hxd] at V0 h0 B0 hHeld ⊢
  clear hxd
  refine wpAnyH_take (i := 0) (v := ?_) rfl (by kernel_rfl) (by kernel_rfl) (by kernel_rfl) (fun _ _ _ h => h) (Or.inl ⟨by rfl, ?_⟩) hHeld ?_
  rotate_left
  · (intro W hSw; (try dsimp only at hSw); go_simp; all_goals (with_reducible rfl))
  simp only [List.getElem_toArray, List.getElem_cons_zero, Act.put, List.setIfInBounds_toArray, List.set_cons_zero, List.set_cons_succ]
  refine wpAnyH_take (i := 1) (v := ?_) rfl (by kernel_rfl) (by kernel_rfl) (by kernel_rfl) (fun _ _ _ h => h) (Or.inl ⟨by rfl, ?_⟩) hHeld ?_
  rotate_left
  · (intro W hSw; (try dsimp only at hSw); go_simp; all_goals (with_reducible rfl))
  simp only [List.getElem_toArray, List.getElem_cons_zero, List.getElem_cons_succ, Act.put, List.setIfInBounds_toArray, List.set_cons_zero, List.set_cons_succ]
  refine wpAnyH_ready (rs := [2]) (by kernel_rfl) (by simp) ?_
  refine AllReadyH.cons rfl (fun K hK => ?_) AllReadyH.nil
  simp only [List.getElem_toArray, List.getElem_cons_zero, List.getElem_cons_succ]
  go_simp
  refine (small_pos By hBw hB0 _).mono ?_
  rintro e x3 ⟨rfl, hS, hb⟩
  replace V0 := Va.after hb V0
  replace h0 := Nt.after hb h0
  replace B0 := step B0 hb
  clear hb
  try go_wp2_with fail
  refine hK.out _ _ V0.cell (fun hHeld => ?_)
  clear hK K
  refine wpAnyH_ready (rs := [3]) (by kernel_rfl) (by simp) ?_
  refine AllReadyH.cons rfl (fun K hK => ?_) AllReadyH.nil
  simp only [List.getElem_toArray, List.getElem_cons_zero, List.getElem_cons_succ]
  go_simp
  refine (HA.out _ _ _ _ B0 hS h0).mono ?_
  rintro e x4 ⟨g, off, len, cap, D, rfl, hcap, hAP', hb⟩
  replace V0 := Va.after hb V0
  replace h0 := Nt.after hb h0
  replace hS := Nt.after hb hS
  replace B0 := step B0 hb
  clear hb
  have hAP := hAP'.out
  clear hAP' HA
  try go_wp2_with fail
  refine hK.out _ _ V0.cell (fun hHeld => ?_)
  clear hK K
  refine wpAnyH_take (i := 4) (v := ?_) rfl (by kernel_rfl) (by kernel_rfl) (by kernel_rfl) (fun _ _ _ h => h) (Or.inl ⟨by rfl, ?_⟩) hHeld ?_
  rotate_left
  · (intro W hSw; (try dsimp only at hSw); go_simp; all_goals (with_reducible rfl))
  simp only [List.getElem_toArray, List.getElem_cons_zero, List.getElem_cons_succ, Act.put, List.setIfInBounds_toArray, List.set_cons_zero, List.set_cons_succ]
  refine wpAnyH_done (by kernel_rfl) ?_ _
  refine NoPanic.normal ?_
  clear hHeld
  have HAP : Hid (AP x4 g off len D (num xs) By) := hAP
  have hlen1 : 1 ≤ len := HAP.out.1
  have hlen2 : len ≤ 1000000 := HAP.out.2.1
  have HPt : Hid (T x4) := HTo.out _ _ B0 hT
  have HB0 : Hid (Below w.heap.size w x4) := B0
  obtain ⟨M, hM⟩ : ∃ M : Nat, wrap64 ((len : Int) * sz) = M := ⟨len * sz, by
    have : len * sz ≤ 1000000 * 63 := Nat.mul_le_mul hlen2 hs63
    have e : (len : Int) * sz = ((len * sz : Nat) : Int) := by simp
    unfold wrap64; omega⟩
  have HM : Hid (M ≤ 100000000) := by
    have : len * sz ≤ 1000000 * 63 := Nat.mul_le_mul hlen2 hs63
    have e : (len : Int) * sz = ((len * sz : Nat) : Int) := by simp
    have e2 : (M : Int) = len * sz := by rw [← hM]; unfold wrap64; omega
    show M ≤ _
    omega
  clear hAP B0 h0 hS V0 hT
  go_wp2_with fail
  refine (Tryd.Builder_Grow_fresh x4.heap.size x4.heap.size M _ (Nat.le_refl _) (Va.new _ _ _) (by simp) (by have := HM.out; omega)).mono ?_
  rintro e y0 ⟨rfl, hbl, hb⟩
  have HBl : Hid (Go.Lib.IsBuilderF 55 5 x4.heap.size x4.heap.size (Go.Lib.byteCells []) y0) := .inr (Go.Lib.BuilderAtF.of hbl)
  have HBX : Hid (Below x4.heap.size x4 y0) := ((Below.refl _ _).alloc (Nat.le_refl _) _).trans hb
  clear hbl hb hM
  go_wp2_with fail
  go_loopw [10] (fun i wr => ∃ (k : Nat) (acc : List UInt8), i = .int .i64 ((len : Int) - 1 - k) ∧ k ≤ len ∧ Hid (TxI bn sz len k D By acc) ∧ Hid (Go.Lib.IsBuilderF 55 5 x4.heap.size x4.heap.size (Go.Lib.byteCells acc) wr) ∧ Hid (Below x4.heap.size x4 wr)) (fun i _ => ((intOf i) + 1).toNat)
  case atStart => exact ⟨0, [], by go_num, by omega, ⟨by omega, by simp, fun _ => rfl, fun h => absurd h (by omega)⟩, HBl.out, HBX.out⟩
  case round =>
    obtain ⟨k, acc, rfl, hkl, HI, HL, HW⟩ := hrel
    by_cases hk : k < len
    · obtain ⟨q, hq⟩ : ∃ q, q = len - 1 - k := ⟨_, rfl⟩
      have eq : (len : Int) - 1 - k = q := by omega
      rw [eq]
      have HQ : Hid (q = len - 1 - k) := hq
      have hql : q < len := by omega
      have hq0 : (0 : Int) ≤ q := by omega
      have HA2 := HAP.out.after HW.out
      have hcq := HA2.2.2.2.1 q hql
      have hNq := HA2.2.2.2.2.1 q
      have hUq := HA2.2.2.2.2.2.1 q
      have HNN : Hid (∀ j, 0 ≤ num (D j).2.2.2) := fun j => (HA2.2.2.2.2.1 j).nonneg
      have HTP : Hid (1 < len → num (D (len - 1)).2.2.2 ≠ 0) := HA2.2.2.2.2.2.2.2
      obtain ⟨u, hu⟩ : ∃ u : Nat, num (D q).2.2.2 = u := ⟨(num (D q).2.2.2).toNat, by have := HNN.out q; omega⟩
      have HU : Hid (num (D (len - 1 - k)).2.2.2 = u) := by rw [← hq]; exact hu
      have HUB : Hid (u < bn ^ sz) := by rw [hu, HBY.out] at hUq; show u < bn ^ sz; omega
      have hu64 : u < 18446744073709551616 := by rw [hu] at hUq; have := hBw.2; omega
      obtain ⟨dq, hdq⟩ : ∃ d, D q = d := ⟨_, rfl⟩
      obtain ⟨aq, lq, cq, zq⟩ := dq
      rw [hdq] at hcq hNq hu
      simp only [dv] at hcq hNq hu
      have hUc : Calls Tryd.prog 21 #[.agg #[.slice aq lq cq]] wr fun e w' => e = .returned (.tuple #[.int .u64 (u : Int), .bool true]) ∧ Below wr.heap.size wr w' := by
        have := uint64_small aq lq cq zq wr hNq (by rw [hu]; omega)
        rw [hu] at this
        exact this
      have hgw : g < wr.heap.size := HA2.2.2.1
      clear hq eq hdq hu hUq HA2 hNq
      go_wp2_with fail
      refine hUc.mono ?_
      rintro e y1 ⟨rfl, hb1⟩
      have HL1 : Hid (Go.Lib.IsBuilderF 55 5 x4.heap.size x4.heap.size (Go.Lib.byteCells acc) y1) := bld_after hb1 HL.out
      have HW1 : Hid (Below x4.heap.size x4 y1) := step HW.out hb1
      clear hb1 hUc hcq hgw
      go_wp2_with fail
      refine (HF.out u y1 hu64 (HTo.out _ _ HW1.out HPt.out)).mono ?_
      rintro e y2 ⟨t, rfl, htx, hB2⟩
      have HL2 : Hid (Go.Lib.IsBuilderF 55 5 x4.heap.size x4.heap.size (Go.Lib.byteCells acc) y2) := bld_after hB2 HL1.out
      have HW2 : Hid (Below x4.heap.size x4 y2) := step HW1.out hB2
      have HTX : Hid (Tx bn t u) := htx
      have htl : t.length ≤ sz := htx.le hb2 HUB.out hs1
      clear hB2 HL1 HW1 htx
      have hLen : Calls Tryd.prog 23 #[.pointer (some ⟨x4.heap.size, 0, none⟩)] y2 fun e w' => e = .returned (.int .i64 (acc.length : Int)) ∧ w' = y2 := by
        have := Tryd.Builder_Len_f x4.heap.size x4.heap.size _ y2 HL2.out
        rw [Go.Lib.byteCells_length] at this
        exact this
      have HX4 : Hid (x4.heap.size ≤ y2.heap.size) := HW2.out.size
      have HAL : Hid (acc.length ≤ 63000000) := by
        have h1 := HI.out.2.1
        have h2 : k * sz ≤ 1000000 * 63 := Nat.mul_le_mul (by omega) hs63
        show acc.length ≤ _
        omega
      by_cases hk0 : k = 0
      · have HA0 : Hid (acc = []) := HI.out.2.2.1 hk0
        have hal : ¬ (0 : Int) < (acc.length : Int) := by rw [HA0.out]; simp
        have HK0 : Hid (k = 0) := hk0
        clear hk0
        go_wp2_with fail
        refine hLen.mono ?_
        rintro e w' ⟨rfl, rfl⟩
        go_wp2_with fail
        refine (wstr x4.heap.size x4.heap.size acc t w' HL2.out (by have := HAL.out; omega) HX4.out).mono ?_
        rintro e y3 ⟨⟨v, rfl⟩, hL3, hb3⟩
        have HL3 : Hid (Go.Lib.IsBuilderF 55 5 x4.heap.size x4.heap.size (Go.Lib.byteCells t) y3) := by rw [HA0.out] at hL3; exact hL3
        have HW3 : Hid (Below x4.heap.size x4 y3) := HW2.out.trans hb3
        clear hL3 hb3 hLen
        go_wp2_with fail
        go_roundw
        case rel =>
          have hI := txI_on (w := w') HI.out hk hb2 HBY.out HU.out HTX.out htl HNN.out HTP.out
          rw [if_pos HK0.out] at hI
          exact ⟨k + 1, t, by have := HQ.out; congr 1; omega, by omega, hI, HL3.out, HW3.out⟩
        case measure => simp [intOf]
      · have hal : (0 : Int) < (acc.length : Int) := by
          obtain ⟨V, -, ht, -⟩ := HI.out.2.2.2 (by omega)
          have := ht.pos
          omega
        obtain ⟨Z, hZ⟩ : ∃ Z : Nat, (sz : Int) - t.length = Z := ⟨sz - t.length, by omega⟩
        have HZ : Hid (Z = sz - t.length) := by show Z = _; omega
        have HZ6 : Hid (Z ≤ 63) := by show Z ≤ _; omega
        go_wp2_with fail
        refine hLen.mono ?_
        rintro e w' ⟨rfl, rfl⟩
        go_wp2_with fail
        refine (zrep Z (by have := HZ6.out; omega) w').mono ?_
        rintro e y3 ⟨rfl, hb3⟩
        have HL3 : Hid (Go.Lib.IsBuilderF 55 5 x4.heap.size x4.heap.size (Go.Lib.byteCells acc) y3) := bld_after hb3 HL2.out
        have HW3 : Hid (Below x4.heap.size x4 y3) := step HW2.out hb3
        clear hb3 hLen
        go_wp2_with fail
        refine (wstr x4.heap.size x4.heap.size acc (List.replicate Z 48) y3 HL3.out (by have := HAL.out; have := HZ6.out; simp; omega) HW3.out.size).mono ?_
        rintro e y4 ⟨⟨v, rfl⟩, hL4, hb4⟩
        have HL4 : Hid (Go.Lib.IsBuilderF 55 5 x4.heap.size x4.heap.size (Go.Lib.byteCells (acc ++ List.replicate Z 48)) y4) := hL4
        have HW4 : Hid (Below x4.heap.size x4 y4) := HW3.out.trans hb4
        clear hL4 hb4
        go_wp2_with fail
        refine (wstr x4.heap.size x4.heap.size (acc ++ List.replicate Z 48) t y4 HL4.out (by have := HAL.out; have := HZ6.out; simp; omega) HW4.out.size).mono ?_
        rintro e y5 ⟨⟨v2, rfl⟩, hL5, hb5⟩
        have HL5 : Hid (Go.Lib.IsBuilderF 55 5 x4.heap.size x4.heap.size (Go.Lib.byteCells (acc ++ (List.replicate (sz - t.length) 48 ++ t))) y5) := by rw [← HZ.out, ← List.append_assoc]; exact hL5
        have HW5 : Hid (Below x4.heap.size x4 y5) := HW4.out.trans hb5
        clear hL5 hb5 hZ
        go_wp2_with fail
        go_roundw
        case rel =>
          have hI := txI_on (w := y5) HI.out hk hb2 HBY.out HU.out HTX.out htl HNN.out HTP.out
          rw [if_neg hk0] at hI
          exact ⟨k + 1, _, by have := HQ.out; congr 1; omega, by omega, hI, HL5.out, HW5.out⟩
        case measure => simp [intOf]
    · have hkl2 : k = len := by omega
      subst hkl2
      have HX : Hid (x4.heap.size ≤ wr.heap.size) := HW.out.size
      have hneg : ¬ (0 : Int) ≤ (k : Int) - 1 - k := by omega
      clear hk
      go_wp2_with fail
      refine (Tryd.Builder_String_any_k x4.heap.size x4.heap.size acc wr HL.out HX.out).mono ?_
      rintro e y1 ⟨rfl, -, hb1, -⟩
      go_wp2_with fail
      go_ret2
      obtain ⟨V, hV, ht, -⟩ := HI.out.2.2.2 (by omega)
      have hE := HAP.out.2.2.2.2.2.2.1
      rw [hV] at hE
      refine ⟨acc, rfl, ?_, step HB0.out (HW.out.trans hb1)⟩
      rw [← hE]
      exact ht
end Go.Proofs.YtpfbcicjfnfpgaaDoor
