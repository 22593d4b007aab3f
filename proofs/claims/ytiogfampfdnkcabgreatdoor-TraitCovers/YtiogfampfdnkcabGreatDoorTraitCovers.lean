/-
  TraitCovers (P13.1, P13.6): a class covers itself, what covers what covers a class covers it, of two that cover one class the one covers the other, and the parts with points between them are the class. For every three texts; under the condition that the listed variables (decimal's powers of ten, among others) hold what the program's text lays.
-/
import Derived.Test.YtiogfampfdnkcabGreatDoorTre
import Derived.Test.YtiogfampfdnkcabGreatDoorCards
import Derived.ProofKit
import Derived.OpenShut
import Derived.ShutString
import Derived.ChangeOld
import Derived.SizedLaws
import Derived.SliceStrings
import Derived.Deep.Slices
import Derived.Lib.SmallJoins
import Derived.Lib.LaidTab
import Derived.Stop.LaidErr
import Derived.Test.YtiogfampfdnkcabGreatDoorTie
import Derived.Lay
import Derived.LaidLaws
import Derived.MakeChecks
import Derived.SevenTiedAt
import Derived.WalkKit
namespace Go.Proofs.YtiogfampfdnkcabGreatDoor
open Go.RowKit Go.Shelf
set_option linter.unusedVariables false

theorem drop_n {l : List Nd} {j : Nat} (h : j < l.length) : l.drop j = l.getD j nd0 :: l.drop (j + 1) := by
  rw [List.drop_eq_getElem_cons h, List.getD_eq_getElem?_getD, List.getElem?_eq_getElem h]; rfl
end Go.Proofs.YtiogfampfdnkcabGreatDoor
namespace Go.Proofs.YtiogfampfdnkcabGreatDoor
open Go.RowKit Go.Shelf
set_option linter.unusedVariables false

/-- Where the first point stands. -/
def ix (s : List UInt8) : Int := Go.Lib.indexByte s 46
theorem ix_range : ∀ s : List UInt8, ix s = -1 ∨ (0 ≤ ix s ∧ ix s < s.length)
  | [] => .inl rfl
  | b :: l => by
    unfold ix Go.Lib.indexByte
    have ih := ix_range l
    unfold ix at ih
    split
    · right; first | (simp; done) | (simp; omega)
    split
    · left; rfl
    · rename_i h1 h2
      have h2' : ¬ Go.Lib.indexByte l 46 = -1 := by simpa using h2
      right; simp; omega
/-- A text between its points, the last piece behind the k-th one whole. -/
def spl : Nat → List UInt8 → List (List UInt8)
  | 0, s => [s]
  | k + 1, s => if ix s < 0 then [s] else s.take (ix s).toNat :: spl k (s.drop ((ix s).toNat + 1))
theorem spl_succ (k : Nat) (s : List UInt8) : spl (k + 1) s = if ix s < 0 then [s] else s.take (ix s).toNat :: spl k (s.drop ((ix s).toNat + 1)) := rfl
theorem spl_more : ∀ (k : Nat) (s : List UInt8), s.length ≤ k → spl k s = spl s.length s
  | 0, s, h => by have : s = [] := List.length_eq_zero_iff.1 (by omega); subst this; rfl
  | k + 1, s, h => by
    cases hs : s.length with
    | zero =>
      have : s = [] := List.length_eq_zero_iff.1 hs
      subst this
      simp [spl, ix, Go.Lib.indexByte]
    | succ n =>
      unfold spl
      rcases ix_range s with h1 | h1
      · rw [h1]; rfl
      · rw [if_neg (by omega), if_neg (by omega)]
        congr 1
        have h2 : (s.drop ((ix s).toNat + 1)).length ≤ n := by rw [List.length_drop]; omega
        rw [spl_more k _ (by omega), spl_more n _ h2]
termination_by k s => k
theorem le_left {α : Type} {E : El α} {w : World} {b off n : Nat} {xs ys : List α} (h : Le E w (some ⟨b, off, none⟩) n (xs ++ ys)) (hm : xs.length ≤ n) : Le E w (some ⟨b, off, none⟩) xs.length xs := by
  refine ⟨rfl, fun h0 => ⟨b, off, rfl, fun i u hu => ?_⟩⟩
  obtain ⟨b', off', e, hc⟩ := h.2 (by omega)
  cases e
  refine hc i u ?_
  have hi : i < (rowE E xs).length := by
    rcases Nat.lt_or_ge i (rowE E xs).length with h' | h'
    · exact h'
    · rw [List.getElem?_eq_none h'] at hu; cases hu
  rw [rowE_append, List.getElem?_append_left hi]; exact hu
theorem made_s (n : Nat) : (madeCells (Value.string ⟨#[]⟩).cells (n * 1)).toList = rowE elS (List.replicate n []) := by
  have : rowE elS (List.replicate n []) = List.replicate n (sv []) := by
    induction n with
    | zero => rfl
    | succ n ih => rw [List.replicate_succ, rowE_cons, ih]; rfl
  rw [this]
  simp only [madeCells, Value.cells]
  have h2 : (fun x : Nat => ([Value.string ⟨#[]⟩] : List Value)[x % 1]?.getD default) = fun _ => sv [] := by funext x; rw [Nat.mod_one]; rfl
  simp [h2]
  rw [show (fun _ : Nat => sv []) = Function.const Nat (sv []) from rfl, List.map_const]; simp
theorem bytesStr (i : TypeInfo) (h : Tryz.prog.info? 9 = some i) : i.bytes = 16 := by
  have := infoStr
  rw [h] at this
  simp at this
  exact this.2.2
set_option maxHeartbeats 8000000 in
theorem genSplit_any (s : List UInt8) (w : World) (hl : s.length ≤ 140737488355328) :
    Calls Tryz.prog 40 #[sv s, .string ⟨#[46]⟩, .int .i64 0, .int .i64 9] w fun e w' => ∃ a' c', e = .returned (.slice a' (spl 8 s).length c') ∧ Le elS w' a' (spl 8 s).length (spl 8 s) ∧ (spl 8 s).length ≤ c' ∧ Below w.heap.size w w' := by
  obtain ⟨N, hN⟩ : ∃ N : Nat, N = min 9 (s.length + 1) := ⟨_, rfl⟩
  obtain ⟨K, hK⟩ : ∃ K : Nat, N = K + 1 := ⟨N - 1, by omega⟩
  have HSP : Hid (spl 8 s = spl K s) := by
    show _ = _
    by_cases h : s.length ≤ 8
    · have : K = s.length := by omega
      rw [this, spl_more 8 s h]
    · have : K = 8 := by omega
      rw [this]
  have hmin : min 9 ((s.length : Int) + 1) = (N : Int) := by omega
  have hN9 : N ≤ 9 := by omega
  have xl : IntKind.i64.wrap ((s.length : Int) + 1) = (s.length : Int) + 1 := by rw [IntKind.wrap_i64]; omega
  have xN : IntKind.i64.wrap ((N : Int) - 1) = (K : Int) := by rw [IntKind.wrap_i64]; omega
  obtain ⟨SL, hSL⟩ : ∃ SL, spl 8 s = SL := ⟨_, rfl⟩
  rw [hSL] at HSP ⊢
  replace HSP : Hid (SL = spl K s) := HSP
  clear hN hSL
  obtain ⟨i0, hi0, hz0, hz1, hz2⟩ := info_parts infoStr
  have HB8 : Hid (i0.bytes * N ≤ 281474976710656) := by show _ ≤ _; rw [hz2]; omega
  have HN8 : Hid (N ≤ maxLen) := by show _ ≤ maxLen; unfold maxLen; omega
  have HNK : Hid (N = K + 1) := hK
  clear hK
  go_enter Tryz.func40, Tryz.ntmps40
  go_wp2_with (at_make; go_loud (refine wpList_make_full w rfl _ _ 23 rfl w.heap.size 9 i0 (.string ⟨#[]⟩) 1 Tryz.underlying23 hi0 hz0 hz1 .i64 .i64 _ _ N rfl rfl rfl rfl HB8.out HN8.out (Nat.le_refl _) ?_; intro W1 hr1 hg1))
  have HG1 : Hid (Ge elS W1 w.heap.size (.slice (some ⟨w.heap.size, 0, none⟩) N N) (List.replicate N [])) := by
    show World.ownsRow _ _ _ _ _ _ _
    rw [List.length_replicate]
    have := hr1
    rw [made_s] at this
    exact this
  have HB1 : Hid (Below w.heap.size w W1) := (Below.refl _ _).grown hg1 (Nat.le_refl _) (fun k h => by cases h)
  have hsz1 := (World.ownsRow.lt hr1 w.heap.size rfl).2
  clear hr1 hg1 hi0 hz0 hz1 hz2 HB8 HN8
  go_wp2_with fail
  go_loopw [0, 10, 11] (fun ts j _ wr => ∃ (i : Nat) (t : List UInt8) (pre : List (List UInt8)), ts = sv t ∧ j = .int .i64 i ∧ i ≤ K ∧ t.length ≤ s.length ∧ pre.length = i ∧ Hid (spl K s = pre ++ spl (K - i) t) ∧ Hid (Ge elS wr w.heap.size (.slice (some ⟨w.heap.size, 0, none⟩) N N) (pre ++ List.replicate (N - i) [])) ∧ Hid (Below w.heap.size w wr)) (fun _ j _ _ => (K - (intOf j).toNat : Nat))
  case atStart => exact ⟨0, s, [], rfl, rfl, Nat.zero_le _, Nat.le_refl _, rfl, rfl, HG1.out, HB1.out⟩
  case round =>
    clear HG1 HB1 hsz1
    obtain ⟨i, t, pre, rfl, rfl, hiK, htl, hpl, HI, HG, HB⟩ := hrel
    have hNK := HNK.out
    rcases Nat.lt_or_ge i K with hlt | hge
    · have hlt' : (i : Int) < K := by omega
      have C9 := Tryz.strings_Index_one ⟨t.toArray⟩ 46 wr
      have hix : Go.Lib.indexByte (⟨t.toArray⟩ : ByteArray).data.toList 46 = ix t := by simp [ix]
      rw [hix] at C9
      obtain ⟨kk, hkk⟩ : ∃ kk, K - i = kk + 1 := ⟨K - i - 1, by omega⟩
      rcases ix_range t with h1 | h1
      · have HEND : spl K s = pre ++ [t] := by
          have := HI.out
          rw [hkk, spl_succ, if_pos (by omega)] at this
          exact this
        rw [h1] at C9
        clear hix hkk hNK
        go_wp2_with fail
        refine C9.mono ?_
        rintro e w2 ⟨rfl, hw2⟩
        rw [hw2]; clear hw2 w2 C9
        have hNK := HNK.out
        obtain ⟨R, hR⟩ : ∃ R, N = i + 1 + R := ⟨N - i - 1, by omega⟩
        have HG7 : Hid (Ge elS (wr.setCell ⟨w.heap.size, i, none⟩ (sv t)) w.heap.size (.slice (some ⟨w.heap.size, 0, none⟩) N N) (pre ++ t :: List.replicate R [])) := by
          have h1 : (pre ++ List.replicate (N - i) ([] : List UInt8)).set i t = pre ++ t :: List.replicate R [] := by
            have e : N - i = R + 1 := by omega
            rw [e, List.replicate_succ, ← hpl, List.set_append_right _ _ (Nat.le_refl _), Nat.sub_self, List.set_cons_zero]
          have := HG.out.put i (by simp; omega) 0 (by decide) (sv t) t rfl
          rw [h1] at this
          rw [show i * elS.s + 0 = i by show i * 1 + 0 = i; omega] at this
          exact this
        have HB7 : Hid (Below w.heap.size w (wr.setCell ⟨w.heap.size, i, none⟩ (sv t))) := HB.out.setCell (p := ⟨w.heap.size, i, none⟩) (Nat.le_refl _) _
        have f9 := HG.out.frozen i
        have c9 : wr.cell? ⟨w.heap.size, i, none⟩ = some (sv []) := by
          have h2 : (pre ++ List.replicate (N - i) ([] : List UInt8)).getD i [] = [] := by
            rw [List.getD_eq_getElem?_getD, List.getElem?_append_right (by omega), hpl, Nat.sub_self, List.getElem?_replicate]
            split <;> rfl
          have h3 := HG.out.toLe.at i (by omega) 0 (sv []) (by rw [show elS.dft = [] from rfl, h2]; rfl)
          have e : 0 + (i * elS.s + 0) = i := by show 0 + (i * 1 + 0) = i; omega
          rw [e] at h3
          exact h3
        have hiN : (i : Int) < N := by omega
        have hiN2 : (i : Int) + 1 ≤ N := by omega
        have xi : IntKind.i64.wrap ((i : Int) + 1) = (i : Int) + 1 := by rw [IntKind.wrap_i64]; omega
        have HF : Hid (spl K s = pre ++ [t]) := HEND
        have HPL : Hid (pre.length = i) := hpl
        have HRR : Hid (N = i + 1 + R) := hR
        clear hpl HI hR hNK
        go_upto_region 18 with fail
        obtain ⟨W7, hW7⟩ : ∃ W7, W7 = wr.setCell ⟨w.heap.size, i, none⟩ (sv t) := ⟨_, rfl⟩
        first | rw [← hW7] at HG7 HB7 ⊢ | (rw [show (sv t : Value) = .string ⟨t.toArray⟩ from rfl] at hW7; rw [← hW7] at HG7 HB7 ⊢)
        clear hW7 f9 c9 HG HB
        go_wp2_with fail
        go_ret
        refine ⟨some ⟨w.heap.size, 0, none⟩, N, ?_, ?_, ?_, HB7.out⟩
        · have h5 : (spl K s).length = i + 1 := by rw [HF.out, List.length_append, HPL.out]; rfl
          rw [HSP.out, h5]; first | rfl | (simp; done) | (simp; omega)
        · rw [HSP.out, HF.out]
          have h6 := HG7.out.toLe
          rw [show pre ++ t :: List.replicate R [] = (pre ++ [t]) ++ List.replicate R [] by simp] at h6
          exact le_left h6 (by simp; have := HRR.out; have := HPL.out; omega)
        · rw [HSP.out, HF.out, List.length_append, HPL.out]; have := HRR.out; simp; omega
      · obtain ⟨m, hm⟩ : ∃ m : Nat, ix t = m := ⟨(ix t).toNat, by omega⟩
        rw [hm] at C9 h1
        have hml : m < t.length := by omega
        have HI2 : Hid (spl K s = (pre ++ [t.take m]) ++ spl (K - (i + 1)) (t.drop (m + 1))) := by
          have := HI.out
          rw [hkk, spl_succ, if_neg (by omega), hm] at this
          show _ = _
          rw [show K - (i + 1) = kk by omega]
          simpa using this
        have sh := slice_hi t
        have sl := slice_lo t
        have e1 := slice_hi t (m : Int) m rfl (by omega)
        have e2 := slice_lo t ((m : Int) + 1) (m + 1) rfl (by omega)
        have x1 : IntKind.i64.wrap ((m : Int) + 1) = (m : Int) + 1 := by rw [IntKind.wrap_i64]; omega
        have x0 : IntKind.i64.wrap (m : Int) = m := by rw [IntKind.wrap_i64]; omega
        have xi : IntKind.i64.wrap ((i : Int) + 1) = (i : Int) + 1 := by rw [IntKind.wrap_i64]; omega
        have hm0 : ¬ (m : Int) < 0 := by omega
        have hiN : (i : Int) < N := by omega
        have HGx : Hid (∀ v, Ge elS (wr.setCell ⟨w.heap.size, i, none⟩ (sv v)) w.heap.size (.slice (some ⟨w.heap.size, 0, none⟩) N N) ((pre ++ [v]) ++ List.replicate (N - (i + 1)) [])) := fun v => by
          have h1 : (pre ++ List.replicate (N - i) ([] : List UInt8)).set i v = (pre ++ [v]) ++ List.replicate (N - (i + 1)) [] := by
            have e : N - i = (N - (i + 1)) + 1 := by omega
            rw [e, List.replicate_succ, ← hpl, List.set_append_right _ _ (Nat.le_refl _), Nat.sub_self, List.set_cons_zero]
            simp
          have := HG.out.put i (by simp; omega) 0 (by decide) (sv v) v rfl
          rw [h1, show i * elS.s + 0 = i by show i * 1 + 0 = i; omega] at this
          exact this
        have f9 := HG.out.frozen i
        have c9 : wr.cell? ⟨w.heap.size, i, none⟩ = some (sv []) := by
          have h2 : (pre ++ List.replicate (N - i) ([] : List UInt8)).getD i [] = [] := by
            rw [List.getD_eq_getElem?_getD, List.getElem?_append_right (by omega), hpl, Nat.sub_self, List.getElem?_replicate]
            split <;> rfl
          have h3 := HG.out.toLe.at i (by omega) 0 (sv []) (by rw [show elS.dft = [] from rfl, h2]; rfl)
          have e : 0 + (i * elS.s + 0) = i := by show 0 + (i * 1 + 0) = i; omega
          rw [e] at h3
          exact h3
        have HPL : Hid (pre.length = i) := hpl
        clear hix hkk hm h1 HI sh sl hpl hNK
        go_wp2_with fail
        refine C9.mono ?_
        rintro e w2 ⟨rfl, hw2⟩
        rw [hw2]; clear hw2 w2 C9
        go_wp2_with fail
        go_roundw
        case rel => exact ⟨i + 1, t.drop (m + 1), pre ++ [t.take m], rfl, rfl, by omega, by rw [List.length_drop]; omega, by rw [List.length_append, HPL.out]; rfl, HI2.out, HGx.out _, HB.out.setCell (p := ⟨w.heap.size, i, none⟩) (Nat.le_refl _) _⟩
        case measure => simp [intOf]; omega
    · obtain rfl : i = K := by omega
      have HEND : spl i s = pre ++ [t] := by
        have := HI.out
        rw [Nat.sub_self] at this
        exact this
      obtain ⟨R, hR⟩ : ∃ R, N = i + 1 + R := ⟨N - i - 1, by omega⟩
      have HG7 : Hid (Ge elS (wr.setCell ⟨w.heap.size, i, none⟩ (sv t)) w.heap.size (.slice (some ⟨w.heap.size, 0, none⟩) N N) (pre ++ t :: List.replicate R [])) := by
        have h1 : (pre ++ List.replicate (N - i) ([] : List UInt8)).set i t = pre ++ t :: List.replicate R [] := by
          have e : N - i = R + 1 := by omega
          rw [e, List.replicate_succ, ← hpl, List.set_append_right _ _ (Nat.le_refl _), Nat.sub_self, List.set_cons_zero]
        have := HG.out.put i (by simp; omega) 0 (by decide) (sv t) t rfl
        rw [h1] at this
        rw [show i * elS.s + 0 = i by show i * 1 + 0 = i; omega] at this
        exact this
      have HB7 : Hid (Below w.heap.size w (wr.setCell ⟨w.heap.size, i, none⟩ (sv t))) := HB.out.setCell (p := ⟨w.heap.size, i, none⟩) (Nat.le_refl _) _
      have f9 := HG.out.frozen i
      have c9 : wr.cell? ⟨w.heap.size, i, none⟩ = some (sv []) := by
        have h2 : (pre ++ List.replicate (N - i) ([] : List UInt8)).getD i [] = [] := by
          rw [List.getD_eq_getElem?_getD, List.getElem?_append_right (by omega), hpl, Nat.sub_self, List.getElem?_replicate]
          split <;> rfl
        have h3 := HG.out.toLe.at i (by omega) 0 (sv []) (by rw [show elS.dft = [] from rfl, h2]; rfl)
        have e : 0 + (i * elS.s + 0) = i := by show 0 + (i * 1 + 0) = i; omega
        rw [e] at h3
        exact h3
      have hiN : (i : Int) < N := by omega
      have hiN2 : (i : Int) + 1 ≤ N := by omega
      have xi : IntKind.i64.wrap ((i : Int) + 1) = (i : Int) + 1 := by rw [IntKind.wrap_i64]; omega
      have HF : Hid (spl i s = pre ++ [t]) := HEND
      have HPL : Hid (pre.length = i) := hpl
      have HRR : Hid (N = i + 1 + R) := hR
      clear hpl HI hR hNK
      go_upto_region 18 with fail
      obtain ⟨W7, hW7⟩ : ∃ W7, W7 = wr.setCell ⟨w.heap.size, i, none⟩ (sv t) := ⟨_, rfl⟩
      first | rw [← hW7] at HG7 HB7 ⊢ | (rw [show (sv t : Value) = .string ⟨t.toArray⟩ from rfl] at hW7; rw [← hW7] at HG7 HB7 ⊢)
      clear hW7 f9 c9 HG HB
      go_wp2_with fail
      go_ret
      refine ⟨some ⟨w.heap.size, 0, none⟩, N, ?_, ?_, ?_, HB7.out⟩
      · have h5 : (spl i s).length = i + 1 := by rw [HF.out, List.length_append, HPL.out]; rfl
        rw [HSP.out, h5]; first | rfl | (simp; done) | (simp; omega)
      · rw [HSP.out, HF.out]
        have h6 := HG7.out.toLe
        rw [show pre ++ t :: List.replicate R [] = (pre ++ [t]) ++ List.replicate R [] by simp] at h6
        exact le_left h6 (by simp; have := HRR.out; have := HPL.out; omega)
      · rw [HSP.out, HF.out, List.length_append, HPL.out]; have := HRR.out; simp; omega
end Go.Proofs.YtiogfampfdnkcabGreatDoor
namespace Go.Proofs.YtiogfampfdnkcabGreatDoor
open Go.RowKit Go.Shelf
set_option linter.unusedVariables false

theorem splitN_any (s : List UInt8) (w : World) (hl : s.length ≤ 140737488355328) :
    Calls Tryz.prog 26 #[sv s, .string ⟨#[46]⟩, .int .i64 9] w fun e w' => ∃ a' c', e = .returned (.slice a' (spl 8 s).length c') ∧ Le elS w' a' (spl 8 s).length (spl 8 s) ∧ (spl 8 s).length ≤ c' ∧ Below w.heap.size w w' := by
  have C9 := genSplit_any s w hl
  generalize spl 8 s = P at *
  clear hl
  go_enter Tryz.func26, Tryz.ntmps26
  go_wp2_with fail
  refine C9.mono ?_
  rintro e W ⟨a', c', rfl, h1, h2, hb⟩
  clear C9
  go_wp2_with fail
  go_ret
  exact ⟨a', c', rfl, h1, h2, hb⟩
/-- Is a text a class? -/
def clB (s : List UInt8) : Bool := decide ((spl 8 s).length ≤ 8) && (spl 8 s).all wdB
/-- How Class ends. -/
def ClE (s : List UInt8) (w : World) (e : Ending) (w' : World) : Prop := (clB s = false ∧ e = .returned (.tuple #[.slice none 0 0, .int .i64 140]) ∧ Below w.heap.size w w') ∨
  (clB s = true ∧ ∃ a' c', e = .returned (.tuple #[.slice a' (spl 8 s).length c', .int .i64 0]) ∧ Le elS w' a' (spl 8 s).length (spl 8 s) ∧ (spl 8 s).length ≤ c' ∧ (spl 8 s).length ≤ 8 ∧ Below w.heap.size w w')
theorem spl_len : ∀ (k : Nat) (s : List UInt8), (spl k s).length ≤ k + 1
  | 0, s => by simp [spl]
  | k + 1, s => by
    rw [spl_succ]
    split
    · simp
    · have := spl_len k (s.drop ((ix s).toNat + 1)); simp only [List.length_cons]; omega
theorem spl_ne : ∀ (k : Nat) (s : List UInt8), 0 < (spl k s).length
  | 0, s => by simp [spl]
  | k + 1, s => by rw [spl_succ]; split <;> simp
set_option maxHeartbeats 2000000 in
theorem class_any (s : List UInt8) (w : World) (hl : s.length ≤ 140737488355328) : Calls Tryz.prog 13 #[sv s] w (ClE s w) := by
  have C9 := splitN_any s w hl
  have h9 := spl_len 8 s
  have hcl : clB s = (decide ((spl 8 s).length ≤ 8) && (spl 8 s).all wdB) := rfl
  have HE : Hid (∀ e w', ((clB s = false ∧ e = .returned (.tuple #[.slice none 0 0, .int .i64 140]) ∧ Below w.heap.size w w') ∨ (clB s = true ∧ ∃ a' c', e = .returned (.tuple #[.slice a' (spl 8 s).length c', .int .i64 0]) ∧ Le elS w' a' (spl 8 s).length (spl 8 s) ∧ (spl 8 s).length ≤ c' ∧ (spl 8 s).length ≤ 8 ∧ Below w.heap.size w w')) → ClE s w e w') := fun e w' h => h
  generalize clB s = B at *
  generalize spl 8 s = P at *
  clear hl
  have HCL : Hid (B = (decide (P.length ≤ 8) && P.all wdB)) := hcl
  clear hcl
  go_enter Tryz.func13, Tryz.ntmps13
  go_wp2_with fail
  refine C9.mono ?_
  rintro e W ⟨a', c', rfl, h1, h2, hb⟩
  have HL : Hid (Le elS W a' P.length P) := h1
  have HCP : Hid (P.length ≤ c') := h2
  have HB : Hid (Below w.heap.size w W) := hb
  clear C9 h1 h2 hb
  rcases Nat.lt_or_ge 8 P.length with h8 | h8
  · have h8' : (8 : Int) < P.length := by omega
    have HF : Hid (B = false) := by show _ = _; rw [HCL.out]; simp; intro h; omega
    go_wp2_with fail
    go_ret2
    exact HE.out _ _ (.inl ⟨HF.out, rfl, HB.out⟩)
  · have h8' : ¬ (8 : Int) < P.length := by omega
    have C2 := areWords_any P a' c' W HL.out (by omega)
    cases hw : P.all wdB with
    | false =>
      rw [hw] at C2
      have HF : Hid (B = false) := by show _ = _; rw [HCL.out, hw]; simp
      clear hw
      go_wp2_with fail
      refine C2.mono ?_
      rintro e W2 ⟨rfl, hb2⟩
      have B2 := step HB.out hb2
      clear C2 hb2
      go_wp2_with fail
      go_ret2
      exact HE.out _ _ (.inl ⟨HF.out, rfl, B2⟩)
    | true =>
      rw [hw] at C2
      have HF : Hid (B = true) := by show _ = _; rw [HCL.out, hw]; simp [h8]
      clear hw
      go_wp2_with fail
      refine C2.mono ?_
      rintro e W2 ⟨rfl, hb2⟩
      have B2 := step HB.out hb2
      have HL2 : Hid (Le elS W2 a' P.length P) := HL.out.after hb2
      clear C2 hb2
      go_wp2_with fail
      go_ret2
      exact HE.out _ _ (.inr ⟨HF.out, a', c', rfl, HL2.out, HCP.out, h8, B2⟩)
/-- What Covers answers. -/
def cvB (o s : List UInt8) : Bool := clB s && (decide (o = []) || (clB o && decide ((spl 8 o).length ≤ (spl 8 s).length) && decide (spl 8 o = (spl 8 s).take (spl 8 o).length)))
theorem map_ba_inj {l m : List (List UInt8)} : l.map (fun s => (⟨s.toArray⟩ : ByteArray)) = m.map (fun s => (⟨s.toArray⟩ : ByteArray)) ↔ l = m := by
  constructor
  · intro h
    have := congrArg (List.map (fun b : ByteArray => b.data.toList)) h
    simpa [List.map_map, Function.comp_def] using this
  · intro h; rw [h]
theorem equal_s (xs ys : List (List UInt8)) (b1 o1 c b2 o2 d : Nat) (w : World) (h1 : Le elS w (some ⟨b1, o1, none⟩) xs.length xs) (h2 : Le elS w (some ⟨b2, o2, none⟩) ys.length ys) (hx : xs.length ≤ 100) (hy : ys.length ≤ 100) :
    Calls Tryz.prog 28 #[.slice (some ⟨b1, o1, none⟩) xs.length c, .slice (some ⟨b2, o2, none⟩) ys.length d] w fun e w' => e = .returned (.bool (decide (xs = ys))) ∧ Below w.heap.size w w' := by
  have cells : ∀ (l : List (List UInt8)) (b o : Nat), Le elS w (some ⟨b, o, none⟩) l.length l → ∀ j, j < (l.map (fun s => (⟨s.toArray⟩ : ByteArray))).length → w.cell? ⟨b, o + j, none⟩ = some (.string ((l.map (fun s => (⟨s.toArray⟩ : ByteArray))).getD j ByteArray.empty)) := by
    intro l b o h j hj
    have hj' : j < l.length := by simpa using hj
    have e1 := h.at j hj' 0 (sv (l.getD j [])) rfl
    have e2 : (l.map (fun s => (⟨s.toArray⟩ : ByteArray))).getD j ByteArray.empty = ⟨(l.getD j []).toArray⟩ := by
      rw [List.getD_eq_getElem?_getD, List.getElem?_map, List.getD_eq_getElem?_getD, List.getElem?_eq_getElem hj']; rfl
    rw [e2]
    simpa [elS] using e1
  have := Tryz.slices_Equal_string b1 o1 xs.length c b2 o2 ys.length d (xs.map (fun s => (⟨s.toArray⟩ : ByteArray))) (ys.map (fun s => (⟨s.toArray⟩ : ByteArray))) w (by simp) (by simp) (by omega) (by omega) (cells xs b1 o1 h1) (cells ys b2 o2 h2)
  refine this.mono ?_
  rintro e w' ⟨rfl, q, rfl⟩
  refine ⟨?_, below_drewN (Below.refl _ _) q⟩
  congr 2
  rw [List.take_of_length_le (by simp), List.take_of_length_le (by simp), decide_eq_decide, map_ba_inj]
set_option maxHeartbeats 4000000 in
theorem covers_any (o s : List UInt8) (w : World) (ho : o.length ≤ 140737488355328) (hs : s.length ≤ 140737488355328) : Calls Tryz.prog 14 #[sv o, sv s] w fun e w' => e = .returned (.bool (cvB o s)) ∧ Below w.heap.size w w' := by
  have C1 := class_any s w hs
  have C2 := fun W => class_any o W ho
  obtain ⟨R, hR⟩ : ∃ R, cvB o s = R := ⟨_, rfl⟩
  have HR : Hid (cvB o s = R) := hR
  rw [hR]
  have hpo := spl_ne 8 o
  clear hR
  go_enter Tryz.func14, Tryz.ntmps14
  go_wp2_with fail
  refine C1.mono ?_
  rintro e W1 (⟨hc, rfl, hb⟩ | ⟨hc, a1, c1, rfl, hl1, hcp1, h81, hb⟩)
  · have HF : Hid (R = false) := by show _ = _; rw [← HR.out]; simp [cvB, hc]
    clear hc C1 C2
    go_wp2_with fail
    go_ret
    exact ⟨by rw [HF.out]; rfl, hb⟩
  · have HB1 : Hid (Below w.heap.size w W1) := hb
    have HL1 : Hid (Le elS W1 a1 (spl 8 s).length (spl 8 s)) := hl1
    have D2 := C2 W1
    have HC : Hid (clB s = true) := hc
    clear hc C1 C2 hb hl1
    cases ho0 : o with
    | nil =>
      have HF : Hid (R = true) := by show _ = _; rw [← HR.out, ho0]; simp [cvB, HC.out]
      clear D2
      go_wp2_with fail
      go_ret
      exact ⟨by rw [HF.out]; rfl, HB1.out⟩
    | cons x l =>
      have hne : o ≠ [] := by rw [ho0]; simp
      rw [← ho0]
      have n1 : (o == []) = false := by simpa using hne
      have n2 : ([] == o) = false := by simpa using hne
      have HNE : Hid (o ≠ []) := hne
      clear ho0 hne
      go_wp2_with fail
      refine D2.mono ?_
      rintro e W2 (⟨hc2, rfl, hb2⟩ | ⟨hc2, a2, c2, rfl, hl2, hcp2, h82, hb2⟩)
      · have HF : Hid (R = false) := by show _ = _; rw [← HR.out]; simp [cvB, hc2, HNE.out]
        have B2 := step HB1.out hb2
        clear hc2 D2 hb2
        go_wp2_with fail
        go_ret
        exact ⟨by rw [HF.out]; rfl, B2⟩
      · have B2 := step HB1.out hb2
        have L1 := HL1.out.after hb2
        have HRV : Hid (R = (decide ((spl 8 o).length ≤ (spl 8 s).length) && decide (spl 8 o = (spl 8 s).take (spl 8 o).length))) := by show _ = _; rw [← HR.out]; simp [cvB, HC.out, hc2, HNE.out]
        generalize spl 8 o = P at *
        generalize spl 8 s = S at *
        clear hc2 D2 hb2 HL1 HR HC HNE
        rcases Nat.lt_or_ge S.length P.length with hlt | hge
        · have hlt' : ¬ (P.length : Int) ≤ S.length := by omega
          have HF : Hid (R = false) := by show _ = _; rw [HRV.out]; simp; intro h; omega
          go_wp2_with fail
          go_ret
          exact ⟨by rw [HF.out]; rfl, B2⟩
        · have hge' : (P.length : Int) ≤ S.length := by omega
          obtain ⟨b2, o2, rfl⟩ := hl2.ex hpo
          obtain ⟨b1, o1, rfl⟩ := L1.ex (by omega)
          have hcc : (P.length : Int) ≤ c1 := by omega
          have htl : (S.take P.length).length = P.length := by rw [List.length_take]; omega
          have LT : Le elS W2 (some ⟨b1, o1, none⟩) (S.take P.length).length (S.take P.length) := by
            have h6 := L1
            rw [← List.take_append_drop P.length S] at h6
            have h7 := le_left (xs := S.take P.length) (ys := S.drop P.length) (n := S.length) (by simpa using h6) (by omega)
            exact h7
          have C9 := equal_s P (S.take P.length) b2 o2 c2 b1 o1 c1 W2 hl2 LT (by omega) (by omega)
          rw [htl] at C9
          have HRV2 : Hid (R = decide (P = S.take P.length)) := by show _ = _; rw [HRV.out]; simp [hge]
          generalize decide (P = S.take P.length) = X at *
          clear LT htl L1 hl2 HRV
          go_wp2_with fail
          refine C9.mono ?_
          rintro e W3 ⟨rfl, hb3⟩
          have B3 := step B2 hb3
          clear C9 hb3
          go_wp2_with fail
          go_ret
          exact ⟨by rw [HRV2.out]; rfl, B3⟩
end Go.Proofs.YtiogfampfdnkcabGreatDoor
namespace Go.Proofs.YtiogfampfdnkcabGreatDoor
set_option linter.unusedVariables false

/-- Pieces put together with points. -/
def jnP : List (List UInt8) → List UInt8
  | [] => []
  | [x] => x
  | x :: y :: l => x ++ 46 :: jnP (y :: l)
theorem ix_split : ∀ (s : List UInt8), 0 ≤ ix s → s = s.take (ix s).toNat ++ 46 :: s.drop ((ix s).toNat + 1) ∧ ix (s.take (ix s).toNat) = -1
  | [], h => by simp [ix, Go.Lib.indexByte] at h
  | b :: l, h => by
    by_cases hb : b = 46
    · subst hb; simp [ix, Go.Lib.indexByte]
    · have e : ix (b :: l) = if ix l == -1 then -1 else ix l + 1 := by simp [ix, Go.Lib.indexByte, hb]
      by_cases h1 : ix l = -1
      · rw [e] at h; simp [h1] at h
      · have h2 : ix (b :: l) = ix l + 1 := by rw [e]; simp [h1]
        have h3 : 0 ≤ ix l := by rcases ix_range l with h' | h' <;> omega
        obtain ⟨i1, i2⟩ := ix_split l h3
        have h4 : (ix (b :: l)).toNat = (ix l).toNat + 1 := by omega
        rw [h4]
        refine ⟨?_, ?_⟩
        · simp only [List.take_succ_cons, List.drop_succ_cons, List.cons_append]
          rw [← i1]
        · simp only [List.take_succ_cons]
          have e2 : ix (b :: l.take (ix l).toNat) = if ix (l.take (ix l).toNat) == -1 then -1 else ix (l.take (ix l).toNat) + 1 := by simp [ix, Go.Lib.indexByte, hb]
          rw [e2, i2]; rfl
theorem ix_app : ∀ (x r : List UInt8), ix x = -1 → ix (x ++ 46 :: r) = x.length ∧ ∀ b ∈ x, b ≠ 46
  | [], r, _ => ⟨by simp [ix, Go.Lib.indexByte], fun b hb => by simp at hb⟩
  | b :: l, r, h => by
    by_cases hb : b = 46
    · subst hb; simp [ix, Go.Lib.indexByte] at h
    · have e : ix (b :: l) = if ix l == -1 then -1 else ix l + 1 := by simp [ix, Go.Lib.indexByte, hb]
      have hl : ix l = -1 := by
        rcases ix_range l with h' | h'
        · exact h'
        · rw [e, if_neg (by simp; omega)] at h; omega
      obtain ⟨i1, i2⟩ := ix_app l r hl
      refine ⟨?_, fun c hc => ?_⟩
      · show ix (b :: (l ++ 46 :: r)) = _
        have e2 : ix (b :: (l ++ 46 :: r)) = if ix (l ++ 46 :: r) == -1 then -1 else ix (l ++ 46 :: r) + 1 := by simp [ix, Go.Lib.indexByte, hb]
        rw [e2, i1]; first | (simp; done) | (simp; omega)
      · rcases List.mem_cons.1 hc with rfl | hc
        · exact hb
        · exact i2 c hc
theorem jn_spl : ∀ (k : Nat) (s : List UInt8), jnP (spl k s) = s
  | 0, s => rfl
  | k + 1, s => by
    rw [spl_succ]
    split
    · rfl
    · rename_i h
      obtain ⟨h1, -⟩ := ix_split s (by omega)
      have ih := jn_spl k (s.drop ((ix s).toNat + 1))
      have hne := spl_ne k (s.drop ((ix s).toNat + 1))
      match hs : spl k (s.drop ((ix s).toNat + 1)), hne with
      | y :: l, _ =>
        rw [hs] at ih
        show s.take (ix s).toNat ++ 46 :: jnP (y :: l) = s
        rw [ih]; exact h1.symm
/-- Pieces that have no point: all but the last, and the last if there are few. -/
theorem spl_np : ∀ (k : Nat) (s : List UInt8), (spl k s).length ≤ k → ∀ x ∈ spl k s, ix x = -1
  | 0, s, h, _, _ => by simp [spl] at h
  | k + 1, s, h, x, hx => by
    rw [spl_succ] at h hx
    split at hx
    · rename_i hi
      simp at hx
      subst hx
      rcases ix_range x with h' | h' <;> omega
    · rename_i hi
      rw [if_neg hi] at h
      simp only [List.length_cons] at h
      rcases List.mem_cons.1 hx with rfl | hx
      · exact (ix_split s (by omega)).2
      · exact spl_np k _ (by omega) x hx
theorem spl_jn : ∀ (k : Nat) (l : List (List UInt8)), l ≠ [] → l.length ≤ k + 1 → (∀ x ∈ l, ix x = -1) → spl k (jnP l) = l
  | _, [], h, _, _ => absurd rfl h
  | 0, [x], _, _, _ => rfl
  | k + 1, [x], _, _, hx => by rw [show jnP [x] = x from rfl, spl_succ, if_pos (by rw [hx x (by simp)]; decide)]
  | 0, x :: y :: l, _, h, _ => by simp at h
  | k + 1, x :: y :: l, _, h, hx => by
    have h1 := (ix_app x (jnP (y :: l)) (hx x (by simp))).1
    show spl (k + 1) (x ++ 46 :: jnP (y :: l)) = _
    rw [spl_succ, h1, if_neg (by omega)]
    have ih := spl_jn k (y :: l) (by simp) (by simp at h ⊢; omega) (fun z hz => hx z (List.mem_cons_of_mem _ hz))
    simp only [Int.toNat_natCast, List.take_left]
    rw [show x.length + 1 = (x ++ [46]).length by simp, show x ++ 46 :: jnP (y :: l) = (x ++ [46]) ++ jnP (y :: l) by simp, List.drop_left, ih]
theorem wd_ne {s : List UInt8} (h : wdB s = true) : s ≠ [] := by
  intro e; subst e; revert h; decide +kernel
theorem clB_iff (s : List UInt8) : clB s = true ↔ (spl 8 s).length ≤ 8 ∧ ∀ x ∈ spl 8 s, wdB x = true := by
  simp [clB]
theorem cl_ne {s : List UInt8} (h : clB s = true) : s ≠ [] := by
  intro e; subst e; revert h; decide +kernel
/-- The parts of a class, cut short. -/
theorem cl_take {s : List UInt8} (h : clB s = true) (i : Nat) (hi : i < (spl 8 s).length) : cvB (jnP ((spl 8 s).take (i + 1))) s = true := by
  obtain ⟨h8, hw⟩ := (clB_iff s).1 h
  have hne : (spl 8 s).take (i + 1) ≠ [] := by
    intro e; have := congrArg List.length e; rw [List.length_take, List.length_nil] at this; omega
  have hsp : spl 8 (jnP ((spl 8 s).take (i + 1))) = (spl 8 s).take (i + 1) := spl_jn 8 _ hne (by rw [List.length_take]; omega) (fun x hx => spl_np 8 s h8 x (List.mem_of_mem_take hx))
  have hcl : clB (jnP ((spl 8 s).take (i + 1))) = true := by
    rw [clB_iff, hsp]
    exact ⟨by rw [List.length_take]; omega, fun x hx => hw x (List.mem_of_mem_take hx)⟩
  unfold cvB
  rw [hcl, h, hsp]
  have hl : ((spl 8 s).take (i + 1)).length = i + 1 := by rw [List.length_take]; omega
  simp [hl]; omega
theorem cv_nil {s : List UInt8} (h : clB s = true) : cvB [] s = true := by simp [cvB, h]
theorem cv_no {a s : List UInt8} (h : clB s = false) : cvB a s = false := by simp [cvB, h]
theorem cv_iff {a s : List UInt8} : cvB a s = true ↔ clB s = true ∧ (a = [] ∨ (clB a = true ∧ (spl 8 a).length ≤ (spl 8 s).length ∧ spl 8 a = (spl 8 s).take (spl 8 a).length)) := by
  simp [cvB, and_assoc]
theorem cv_self {s : List UInt8} (h : clB s = true) : cvB s s = true := cv_iff.2 ⟨h, .inr ⟨h, Nat.le_refl _, by rw [List.take_length]⟩⟩
theorem cv_trans {a b c : List UInt8} (h1 : cvB a b = true) (h2 : cvB b c = true) : cvB a c = true := by
  obtain ⟨hb, h1⟩ := cv_iff.1 h1
  obtain ⟨hc, h2⟩ := cv_iff.1 h2
  rcases h2 with h2 | ⟨-, h3, h4⟩
  · exact absurd h2 (cl_ne hb)
  · rcases h1 with rfl | ⟨ha, h5, h6⟩
    · exact cv_nil hc
    · refine cv_iff.2 ⟨hc, .inr ⟨ha, by omega, ?_⟩⟩
      conv => lhs; rw [h6, h4]
      rw [List.take_take]; congr 1; omega
theorem cv_both {a b c : List UInt8} (h1 : cvB a c = true) (h2 : cvB b c = true) (ha : a ≠ []) (hb : b ≠ []) : cvB a b = true ∨ cvB b a = true := by
  obtain ⟨hc, h1⟩ := cv_iff.1 h1
  obtain ⟨-, h2⟩ := cv_iff.1 h2
  obtain ⟨ka, l1, e1⟩ := h1.resolve_left ha
  obtain ⟨kb, l2, e2⟩ := h2.resolve_left hb
  rcases Nat.le_total (spl 8 a).length (spl 8 b).length with h | h
  · refine .inl (cv_iff.2 ⟨kb, .inr ⟨ka, h, ?_⟩⟩)
    conv => lhs; rw [e1]
    conv => rhs; rw [e2]
    rw [List.take_take]; congr 1; omega
  · refine .inr (cv_iff.2 ⟨ka, .inr ⟨kb, h, ?_⟩⟩)
    conv => lhs; rw [e2]
    conv => rhs; rw [e1]
    rw [List.take_take]; congr 1; omega
theorem jn_snoc : ∀ (l : List (List UInt8)) (x : List UInt8), l ≠ [] → jnP (l ++ [x]) = jnP l ++ 46 :: x
  | [], x, h => absurd rfl h
  | [y], x, _ => rfl
  | y :: z :: l, x, _ => by
    have := jn_snoc (z :: l) x (by simp)
    show y ++ 46 :: jnP (z :: l ++ [x]) = (y ++ 46 :: jnP (z :: l)) ++ 46 :: x
    rw [this]; simp
theorem jn_len : ∀ (l m : List (List UInt8)), (jnP l).length ≤ (jnP (l ++ m)).length
  | [], m => by simp [jnP]
  | [x], [] => by simp
  | [x], y :: m => by
    show x.length ≤ (x ++ 46 :: jnP (y :: m)).length
    simp
  | x :: y :: l, m => by
    have := jn_len (y :: l) m
    show (x ++ 46 :: jnP (y :: l)).length ≤ (x ++ 46 :: jnP (y :: l ++ m)).length
    simp at this ⊢; omega
end Go.Proofs.YtiogfampfdnkcabGreatDoor
namespace Go.Proofs.YtiogfampfdnkcabGreatDoor
open Go.RowKit Go.Shelf
set_option linter.unusedVariables false

def eu9 : List UInt8 := [101, 117]
def food9 : List UInt8 := [102, 111, 111, 100]
def awK : Fo := .cons ⟨4, 0, eu9, 0, 0, 0⟩ .nil (.cons ndN (.cons ⟨5, 0, food9, 0, 0, 0⟩ .nil .nil) .nil)
def awN : List Nd := (Fo.cons ⟨2, 2, [], 0, 0, 0⟩ awK .nil).flat
theorem wd_eu : wdB eu9 = true := by decide +kernel
theorem wd_food : wdB food9 = true := by decide +kernel
theorem aw_ok : (Fo.cons ⟨2, 2, [], 0, 0, 0⟩ awK .nil).Ok wdB 0 1 := by
  refine ⟨⟨.inl ⟨.inr rfl, by decide, rfl, rfl, rfl, rfl⟩, by decide, by decide, rfl, ?_⟩, trivial⟩
  refine ⟨⟨.inr (.inr (.inl ⟨.inl rfl, rfl, wd_eu, rfl, rfl, rfl⟩)), by decide, by decide, rfl, trivial⟩, ?_⟩
  refine ⟨⟨.inr (.inl ⟨rfl, rfl, rfl, rfl, rfl, rfl⟩), by decide, by decide, rfl, ?_⟩, trivial⟩
  exact ⟨⟨.inr (.inr (.inl ⟨.inr rfl, rfl, wd_food, rfl, rfl, rfl⟩)), by decide, by decide, rfl, trivial⟩, trivial⟩
theorem aw_cond : Cond wdB awN := .inr ⟨by decide, _, _, rfl, aw_ok⟩
theorem aw_64 : ∀ n ∈ awN, N64 n := by
  intro n hn
  have : n ∈ [(⟨2, 2, [], 0, 0, 0⟩ : Nd), ⟨4, 0, eu9, 0, 0, 0⟩, ndN, ⟨5, 0, food9, 0, 0, 0⟩] := hn
  simp at this
  rcases this with rfl | rfl | rfl | rfl <;> (intro x hx; simp [ndN] at hx; omega)
theorem tr_one {s : List UInt8} (h : wdB s = true) : Trs [s] := ⟨by simp, by simp [h], fun j hj => by simp at hj⟩
theorem tr_nil : Trs [] := ⟨by simp, rfl, fun j hj => by simp at hj⟩
theorem aw_one : hoB awN ⟨[eu9], [], 0, 0, 1⟩ = true ∧ hoE awN ⟨[eu9], [], 0, 0, 1⟩ = 0 := by
  have hf : FtOk [eu9] [] 0 0 1 := ⟨tr_one wd_eu, tr_nil, by decide, by decide, by decide, by decide⟩
  have hf' : Fx.Ok ⟨[eu9], [], 0, 0, 1⟩ := hf
  refine ⟨?_, ?_⟩
  · unfold hoB
    rw [if_pos ⟨aw_cond, hf'⟩, hoV_eq (ns := awN) rfl aw_ok]
    simp [val, awK, Fo.ev, Fx.vf, vfa, ndN]
  · unfold hoE
    rw [if_pos aw_cond]; exact ftE_ok hf
theorem aw_two : hoB awN ⟨[eu9], [food9], 0, 0, 1⟩ = false ∧ hoE awN ⟨[eu9], [food9], 0, 0, 1⟩ = 0 := by
  have hf : FtOk [eu9] [food9] 0 0 1 := ⟨tr_one wd_eu, tr_one wd_food, by decide, by decide, by decide, by decide⟩
  have hf' : Fx.Ok ⟨[eu9], [food9], 0, 0, 1⟩ := hf
  refine ⟨?_, ?_⟩
  · unfold hoB
    rw [if_pos ⟨aw_cond, hf'⟩, hoV_eq (ns := awN) rfl aw_ok]
    simp [val, awK, Fo.ev, Fx.vf, vfa, ndN]
  · unfold hoE
    rw [if_pos aw_cond]; exact ftE_ok hf
def bread9 : List UInt8 := [102, 111, 111, 100, 46, 98, 114, 101, 97, 100]
theorem aw_cv : cvB food9 bread9 = true := by decide +kernel
set_option maxHeartbeats 4000000 in
theorem awake13 (w : World) (hT : Tn w) : Calls Tryz.prog 7 #[] w fun e w' => e = .returned (.bool true) ∧ Below w.heap.size w w' := by
  have HT : Hid (Tn w) := hT
  clear hT
  go_enter Tryz.func7, Tryz.ntmps7
  go_upto_region 2 with fail
  refine ent1 w _ _ (Q := fun W => Code.wp _ _ _ _ W) ?_
  intro W1 hb1 hs1 V1
  have HL1 : Hid (Le elN W1 (some ⟨w.heap.size, 0, none⟩) awN.length awN) := (Ge.of (E := elN) (xs := awN) (B := 0) V1 (Nat.zero_le _) rfl rfl (by decide)).toLe
  have HB1 : Hid (Below w.heap.size w W1) := hb1
  clear V1 hb1 hs1
  go_wp2_with fail
  refine ent1 W1 _ _ (Q := fun W => Calls Tryz.prog _ _ W _) ?_
  intro W2 hb2 hs2 V2
  have B2 := step HB1.out hb2
  have HL2 : Hid (Le elN W2 (some ⟨w.heap.size, 0, none⟩) awN.length awN) := HL1.out.after hb2
  have LF : Lf W2 (some ⟨W1.heap.size, 0, none⟩) 1 none 0 ⟨[eu9], [], 0, 0, 1⟩ := ⟨(Ge.of (E := elS) (xs := [eu9]) (B := 0) V2 (Nat.zero_le _) rfl rfl (by decide)).toLe, Le.nil _ _, by constructor <;> decide, by constructor <;> decide, by constructor <;> decide⟩
  have D1 := holds_any awN (some ⟨w.heap.size, 0, none⟩) 4 (some ⟨W1.heap.size, 0, none⟩) 1 none 0 ⟨[eu9], [], 0, 0, 1⟩ W2 HL2.out aw_64 LF (HT.out.to B2)
  rw [aw_one.1, aw_one.2] at D1
  clear LF V2 hs2 hb2
  refine Calls.mono D1 ?_
  rintro e W3 ⟨rfl, hb3⟩
  have B3 := step B2 hb3
  have HL3 : Hid (Le elN W3 (some ⟨w.heap.size, 0, none⟩) awN.length awN) := HL2.out.after hb3
  clear D1 hb3 B2 HL2 HL1 HB1
  go_wp2_with fail
  refine ent2 W3 _ _ _ _ (Q := fun W => Calls Tryz.prog _ _ W _) ?_
  intro W4 hb4 hs4 V4 V5
  have B4 := step B3 hb4
  have HL4 : Hid (Le elN W4 (some ⟨w.heap.size, 0, none⟩) awN.length awN) := HL3.out.after hb4
  have LF : Lf W4 (some ⟨W3.heap.size, 0, none⟩) 1 (some ⟨W3.heap.size + 1, 0, none⟩) 1 ⟨[eu9], [food9], 0, 0, 1⟩ := ⟨(Ge.of (E := elS) (xs := [eu9]) (B := 0) V4 (Nat.zero_le _) rfl rfl (by decide)).toLe, (Ge.of (E := elS) (xs := [food9]) (B := 0) V5 (Nat.zero_le _) rfl rfl (by decide)).toLe, by constructor <;> decide, by constructor <;> decide, by constructor <;> decide⟩
  have D2 := holds_any awN (some ⟨w.heap.size, 0, none⟩) 4 (some ⟨W3.heap.size, 0, none⟩) 1 (some ⟨W3.heap.size + 1, 0, none⟩) 1 ⟨[eu9], [food9], 0, 0, 1⟩ W4 HL4.out aw_64 LF (HT.out.to B4)
  rw [aw_two.1, aw_two.2] at D2
  clear LF V4 V5 hs4 hb4
  refine Calls.mono D2 ?_
  rintro e W5 ⟨rfl, hb5⟩
  have B5 := step B4 hb5
  have D3 := covers_any food9 bread9 W5 (by decide) (by decide)
  rw [aw_cv] at D3
  clear D2 hb5 B4 B3 HL3 HL4
  go_wp2_with fail
  refine Calls.mono D3 ?_
  rintro e W6 ⟨rfl, hb6⟩
  have B6 := step B5 hb6
  clear D3 hb6 B5
  go_wp2_with fail
  go_ret
  exact ⟨rfl, B6⟩
end Go.Proofs.YtiogfampfdnkcabGreatDoor
namespace Go.Proofs.YtiogfampfdnkcabGreatDoor
open Go.RowKit Go.Shelf
set_option linter.unusedVariables false

set_option maxHeartbeats 16000000 in
theorem traitCovers_walk (a b c : List UInt8) (w : World) (ha : a.length ≤ 140737488351232) (hb : b.length ≤ 140737488351232) (hc : c.length ≤ 140737488351232) (hT : Tn w) :
    Calls Tryz.prog 5 #[sv a, sv b, sv c] w fun e w' => e = .returned (.bool true) ∧ Below w.heap.size w w' := by
  have HT : Hid (Tn w) := hT
  have cv := fun (x y : List UInt8) (hx : x.length ≤ 140737488355328) (hy : y.length ≤ 140737488355328) W => covers_any x y W hx hy
  have D0 := class_any c w (by omega)
  clear hT
  go_enter Tryz.func5, Tryz.ntmps5
  go_wp2_with fail
  refine Calls.mono D0 ?_
  rintro e W1 (⟨hcl, rfl, hb1⟩ | ⟨hcl, al, cl, rfl, hl, hcp, h8, hb1⟩)
  · have D1 := cv a c (by omega) (by omega) W1
    have D2 := cv [] c (by simp) (by omega)
    rw [cv_no hcl] at D1
    rw [cv_no hcl] at D2
    clear D0 cv hcl
    go_wp2_with fail
    refine Calls.mono D1 ?_
    rintro e W2 ⟨rfl, hb2⟩
    have B2 := step hb1 hb2
    clear D1 hb2
    go_wp2_with fail
    refine Calls.mono (D2 W2) ?_
    rintro e W3 ⟨rfl, hb3⟩
    have B3 := step B2 hb3
    have D9 := awake13 W3 (HT.out.to B3)
    clear D2 hb3 B2
    go_wp2_with fail
    refine Calls.mono D9 ?_
    rintro e W4 ⟨rfl, hb4⟩
    have B4 := step B3 hb4
    clear D9 hb4 B3
    go_wp2_with fail
    go_ret
    exact ⟨rfl, B4⟩
  have HB1 : Hid (Below w.heap.size w W1) := hb1
  have HL1 : Hid (Le elS W1 al (spl 8 c).length (spl 8 c)) := hl
  have HCL : Hid (clB c = true) := hcl
  have HJ : Hid (jnP (spl 8 c) = c) := jn_spl 8 c
  obtain ⟨P, hP⟩ : ∃ P, spl 8 c = P := ⟨_, rfl⟩
  have HP : Hid (spl 8 c = P) := hP
  rw [hP] at HL1 HJ h8 ⊢
  clear D0 hb1 hl hcl hcp hP
  go_wp2_with fail
  go_loopw [9, 10] (fun s j wr => ∃ i : Nat, s = sv (jnP (P.take i)) ∧ j = .int .i64 i ∧ i ≤ P.length ∧ Hid (Below w.heap.size w wr) ∧ Hid (Below W1.heap.size W1 wr)) (fun _ j _ => (P.length - (intOf j).toNat : Nat))
  case atStart => exact ⟨0, by rw [List.take_zero]; rfl, rfl, Nat.zero_le _, HB1.out, Below.refl _ _⟩
  case round =>
    clear HB1
    obtain ⟨i, rfl, rfl, hi, HB, HX⟩ := hrel
    rcases Nat.lt_or_ge i P.length with hlt | hge
    · have hii : (i : Int) < P.length := by omega
      obtain ⟨bl, ol, rfl⟩ := HL1.out.ex (by omega)
      have c0 : wr.cell? ⟨bl, ol + i, none⟩ = some (sv (P.getD i [])) := by have := (HL1.out.after HX.out).at i hlt 0 (sv (P.getD i [])) rfl; simpa [elS] using this
      have hjn : jnP (P.take (i + 1)) = if i = 0 then P.getD i [] else jnP (P.take i) ++ 46 :: P.getD i [] := by
        rw [take_one (d := []) hlt]
        split
        · rename_i h0; subst h0; simp [jnP]
        · rename_i h0
          exact jn_snoc _ _ (by intro e; have := congrArg List.length e; rw [List.length_take, List.length_nil] at this; omega)
      have hle : (jnP (P.take (i + 1))).length ≤ c.length := by
        have := jn_len (P.take (i + 1)) (P.drop (i + 1))
        rw [List.take_append_drop, HJ.out] at this
        exact this
      have hcv : cvB (jnP (P.take (i + 1))) c = true := by
        have := cl_take HCL.out i (by rw [HP.out]; exact hlt)
        rw [HP.out] at this; exact this
      have D1 := cv (jnP (P.take (i + 1))) c (by omega) (by omega) wr
      rw [hcv] at D1
      obtain ⟨x, hx⟩ : ∃ x, P.getD i [] = x := ⟨_, rfl⟩
      rw [hx] at c0 hjn
      have HJN : Hid (jnP (P.take (i + 1)) = if i = 0 then x else jnP (P.take i) ++ 46 :: x) := hjn
      obtain ⟨J, hJ⟩ : ∃ J, jnP (P.take i) = J := ⟨_, rfl⟩
      rw [hJ] at HJN ⊢
      rw [hjn, hJ] at hle D1
      have hJ0 : i = 0 → J = [] := fun h => by rw [← hJ, h]; rfl
      clear hjn hcv hx hJ
      rcases Nat.eq_zero_or_pos i with h0 | h0
      · subst h0
        obtain rfl := hJ0 rfl
        rw [Nat.add_zero] at c0
        rw [if_pos rfl] at hle D1
        have k1 := catS [] x
        rw [List.nil_append] at k1
        have hxl : x.length ≤ 140737488351232 := by omega
        have HJ2 : Hid (jnP (P.take 1) = x) := by have := HJN.out; rw [if_pos rfl] at this; exact this
        clear HJN hle
        go_wp2_with fail
        refine Calls.mono D1 ?_
        rintro e W2 ⟨rfl, hb2⟩
        have HB2 : Hid (Below w.heap.size w W2) := step HB.out hb2
        have HX2 : Hid (Below W1.heap.size W1 W2) := step HX.out hb2
        clear D1 hb2 HB HX c0
        go_wp2_with fail
        go_roundw
        case rel => exact ⟨1, by rw [HJ2.out], rfl, by omega, HB2.out, HX2.out⟩
        case measure => simp [intOf]; omega
      · rw [if_neg (by omega)] at hle D1
        have hi0 : (0 : Int) < i := by omega
        have k1 := catS J [46]
        have k2 := catS (J ++ [46]) x
        rw [List.append_assoc] at k2
        have k3 : J ++ ([46] ++ x) = J ++ 46 :: x := rfl
        rw [k3] at k2
        clear k3
        have hlen : J.length + 1 + x.length ≤ 140737488351232 := by rw [List.length_append, List.length_cons] at hle; omega
        have hlen2 : (J ++ [46]).length = J.length + 1 := by simp
        have HJ2 : Hid (jnP (P.take (i + 1)) = J ++ 46 :: x) := by have := HJN.out; rw [if_neg (by omega)] at this; exact this
        clear HJN hle hJ0
        go_wp2_with fail
        refine Calls.mono D1 ?_
        rintro e W2 ⟨rfl, hb2⟩
        have HB2 : Hid (Below w.heap.size w W2) := step HB.out hb2
        have HX2 : Hid (Below W1.heap.size W1 W2) := step HX.out hb2
        clear D1 hb2 HB HX c0
        go_wp2_with fail
        go_roundw
        case rel => exact ⟨i + 1, by rw [HJ2.out], rfl, by omega, HB2.out, HX2.out⟩
        case measure => simp [intOf]; omega
    · obtain rfl : i = P.length := by omega
      rw [List.take_length, HJ.out]
      have D1 := cv c c (by omega) (by omega) wr
      have D2 := cv [] c (by simp) (by omega)
      have D3 := cv a c (by omega) (by omega)
      have D4 := cv b c (by omega) (by omega)
      have D5 := cv a b (by omega) (by omega)
      have D6 := cv b a (by omega) (by omega)
      rw [cv_self HCL.out] at D1
      rw [cv_nil HCL.out] at D2
      have HTR : Hid (cvB a b = true → cvB b c = true → cvB a c = true) := fun h1 h2 => cv_trans h1 h2
      have HBO : Hid (cvB a c = true → cvB b c = true → a ≠ [] → b ≠ [] → cvB a b = true ∨ cvB b a = true) := cv_both
      generalize cvB a c = x at *
      generalize cvB b c = y at *
      generalize cvB a b = z at *
      generalize cvB b a = t at *
      clear cv hge hi HL1 HCL HJ HP HX
      go_wp2_with fail
      refine Calls.mono D1 ?_
      rintro e W2 ⟨rfl, hb2⟩
      have B2 := step HB.out hb2
      clear D1 hb2 HB
      go_wp2_with fail
      refine Calls.mono (D2 W2) ?_
      rintro e W3 ⟨rfl, hb3⟩
      have B3 := step B2 hb3
      clear D2 hb3 B2
      go_wp2_with fail
      refine Calls.mono (D3 W3) ?_
      rintro e W4 ⟨rfl, hb4⟩
      have B4 := step B3 hb4
      clear D3 hb4 B3
      go_wp2_with fail
      refine Calls.mono (D4 W4) ?_
      rintro e W5 ⟨rfl, hb5⟩
      have B5 := step B4 hb5
      clear D4 hb5 B4
      go_wp2_with fail
      refine Calls.mono (D5 W5) ?_
      rintro e W6 ⟨rfl, hb6⟩
      have B6 := step B5 hb6
      clear hb6 B5
      have DA := fun W (h : Below w.heap.size w W) => awake13 W (HT.out.to h)
      cases x with
      | false =>
        cases z with
        | false =>
          go_wp2_with fail
          refine Calls.mono (DA _ B6) ?_
          rintro e Wz ⟨rfl, hbz⟩
          have Bz := step B6 hbz
          go_wp2_with fail
          go_ret
          exact ⟨rfl, Bz⟩
        | true =>
          cases y with
          | true => exact absurd (HTR.out rfl rfl) (by decide)
          | false =>
            go_wp2_with fail
            refine Calls.mono (DA _ B6) ?_
            rintro e Wz ⟨rfl, hbz⟩
            have Bz := step B6 hbz
            go_wp2_with fail
            go_ret
            exact ⟨rfl, Bz⟩
      | true =>
        cases y with
        | false =>
          cases z with
          | false =>
            go_wp2_with fail
            refine Calls.mono (DA _ B6) ?_
            rintro e Wz ⟨rfl, hbz⟩
            have Bz := step B6 hbz
            go_wp2_with fail
            go_ret
            exact ⟨rfl, Bz⟩
          | true =>
            go_wp2_with fail
            refine Calls.mono (DA _ B6) ?_
            rintro e Wz ⟨rfl, hbz⟩
            have Bz := step B6 hbz
            go_wp2_with fail
            go_ret
            exact ⟨rfl, Bz⟩
        | true =>
          cases z with
          | false =>
            by_cases a0 : a = []
            · subst a0
              go_wp2_with fail
              refine Calls.mono (DA _ B6) ?_
              rintro e Wz ⟨rfl, hbz⟩
              have Bz := step B6 hbz
              go_wp2_with fail
              go_ret
              exact ⟨rfl, Bz⟩
            · have n1 : (a == []) = false := by simpa using a0
              have n2 : ([] == a) = false := by simpa using a0
              by_cases b0 : b = []
              · subst b0
                go_wp2_with fail
                refine Calls.mono (DA _ B6) ?_
                rintro e Wz ⟨rfl, hbz⟩
                have Bz := step B6 hbz
                go_wp2_with fail
                go_ret
                exact ⟨rfl, Bz⟩
              · have n3 : (b == []) = false := by simpa using b0
                have n4 : ([] == b) = false := by simpa using b0
                have HBO2 := HBO.out rfl rfl a0 b0
                clear a0 b0
                go_wp2_with fail
                refine Calls.mono (D5 W6) ?_
                rintro e W7 ⟨rfl, hb7⟩
                have B7 := step B6 hb7
                clear hb7
                have ht : t = true := HBO2.resolve_left (by decide)
                subst ht
                go_wp2_with fail
                refine Calls.mono (D6 W7) ?_
                rintro e W8 ⟨rfl, hb8⟩
                have B8 := step B7 hb8
                clear hb8
                go_wp2_with fail
                refine Calls.mono (DA _ B8) ?_
                rintro e Wz ⟨rfl, hbz⟩
                have Bz := step B8 hbz
                go_wp2_with fail
                go_ret
                exact ⟨rfl, Bz⟩
          | true =>
            by_cases a0 : a = []
            · subst a0
              go_wp2_with fail
              refine Calls.mono (DA _ B6) ?_
              rintro e Wz ⟨rfl, hbz⟩
              have Bz := step B6 hbz
              go_wp2_with fail
              go_ret
              exact ⟨rfl, Bz⟩
            · have n1 : (a == []) = false := by simpa using a0
              have n2 : ([] == a) = false := by simpa using a0
              by_cases b0 : b = []
              · subst b0
                go_wp2_with fail
                refine Calls.mono (DA _ B6) ?_
                rintro e Wz ⟨rfl, hbz⟩
                have Bz := step B6 hbz
                go_wp2_with fail
                go_ret
                exact ⟨rfl, Bz⟩
              · have n3 : (b == []) = false := by simpa using b0
                have n4 : ([] == b) = false := by simpa using b0
                have HBO2 := HBO.out rfl rfl a0 b0
                clear a0 b0
                go_wp2_with fail
                refine Calls.mono (D5 W6) ?_
                rintro e W7 ⟨rfl, hb7⟩
                have B7 := step B6 hb7
                clear hb7
                go_wp2_with fail
                refine Calls.mono (DA _ B7) ?_
                rintro e Wz ⟨rfl, hbz⟩
                have Bz := step B7 hbz
                go_wp2_with fail
                go_ret
                exact ⟨rfl, Bz⟩
end Go.Proofs.YtiogfampfdnkcabGreatDoor
namespace Go.Proofs.YtiogfampfdnkcabGreatDoor
open Go.RowKit Go.Shelf
set_option linter.unusedVariables false

theorem n64_of_ok : ∀ (a : Fo) (o : Int) (d : Nat), a.Ok wdB o d → a.flat.length ≤ 64 → (∀ n ∈ a.flat, N64 n) → ∀ neg, ∀ n ∈ (a.plain neg).flat, N64 n
  | .nil, _, _, _, _, _, _, n, hn => by simp [Fo.plain, Fo.flat] at hn
  | .cons n k r, o, d, h, hl, h6, neg, m, hm => by
    simp only [Fo.flat, List.length_cons, List.length_append] at hl
    have hr := n64_of_ok r o d h.2 (by omega) (fun x hx => h6 x (by simp [Fo.flat, hx])) neg
    have hkk := fun ng => n64_of_ok k n.kd (d + 1) h.1.2.2.2.2 (by omega) (fun x hx => h6 x (by simp [Fo.flat, hx])) ng
    have hn6 : N64 n := h6 n (by simp [Fo.flat])
    have hlen := plain_len k neg _ _ h.1.2.2.2.2
    unfold Fo.plain at hm
    rw [Fo.flat_app, List.mem_append] at hm
    rcases hm with hm | hm
    · have hin : ∀ (c : Int) (a : Fo), ∀ x ∈ (a.melt c).flat, x ∈ a.flat := by
        intro c a
        induction a with
        | nil => intro x hx; exact hx
        | cons n' k' r' _ ih =>
          intro x hx
          unfold Fo.melt at hx
          split at hx
          · rw [Fo.flat_app, List.mem_append] at hx
            simp only [Fo.flat, List.mem_cons, List.mem_append]
            rcases hx with hx | hx
            · exact .inr (.inl hx)
            · exact .inr (.inr (ih x hx))
          · simp only [Fo.flat, List.mem_cons, List.mem_append] at hx ⊢
            rcases hx with hx | hx | hx
            · exact .inl hx
            · exact .inr (.inl hx)
            · exact .inr (.inr (ih x hx))
      split at hm
      · rename_i e
        simp only [Fo.flat, List.mem_cons, List.append_nil] at hm
        rcases hm with rfl | hm
        · intro x hx
          have h1 := Fo.len_flat ((k.plain neg).melt (if neg = true then 3 - n.kd else n.kd))
          have h2 := melt_size (if neg = true then 3 - n.kd else n.kd) (k.plain neg)
          have h3 := plain_size k neg
          simp only [List.mem_cons, List.not_mem_nil, or_false] at hx
          rcases hx with rfl | rfl | rfl | rfl | rfl
          · split <;> omega
          all_goals omega
        · exact hkk neg m (hin _ _ m hm)
      split at hm
      · exact hkk (!neg) m hm
      split at hm
      · split at hm
        · simp [Fo.flat] at hm
          rcases hm with rfl | rfl
          · intro x hx; simp [ndN] at hx; omega
          · exact hn6
        · simp [Fo.flat] at hm
          rw [hm]; exact hn6
      · rename_i e1 e2 e3
        simp [Fo.flat] at hm
        rw [hm]
        split
        · intro x hx
          have h4 : 1 ≤ n.op ∧ n.op ≤ 4 := by
            rcases h.1.1 with ⟨h', -⟩ | ⟨h', -⟩ | ⟨h', -⟩ | ⟨-, -, -, h1, h2, -⟩
            · exact absurd h' e1
            · exact absurd h' e2
            · exact absurd h' e3
            · exact ⟨h1, h2⟩
          simp only [List.mem_cons, List.not_mem_nil, or_false] at hx
          rcases hx with rfl | rfl | rfl | rfl | rfl
          · exact hn6 _ (by simp)
          · exact hn6 _ (by simp)
          · omega
          · exact hn6 _ (by simp)
          · exact hn6 _ (by simp)
        · exact hn6
    · exact hr m hm
/-- All that is asked of a condition made plain. -/
structure Pln (ns out : List Nd) : Prop where
  c1 : Cond wdB ns
  c2 : Cond wdB out
  pl : ∀ o e, PlR out o e → o = out ∧ e = 0
  sg : sgl out = true
  n6 : ∀ n ∈ out, N64 n
  l : out.length ≤ 64
  em : (out.length = 0) ↔ (ns.length = 0)
  hB : ∀ f : Fx, hoB ns f = hoB out f
  hE : ∀ f : Fx, hoE ns f = hoE out f
  n4 : nms 4 ns = nms 4 out
  n5 : nms 5 ns = nms 5 out
theorem cond_nil : Cond wdB [] := .inl rfl
theorem hoE_of {ns out : List Nd} (h1 : Cond wdB ns) (h2 : Cond wdB out) (f : Fx) : hoE ns f = hoE out f := by simp [hoE, h1, h2]
theorem pln_of {ns out : List Nd} {er : Int} (h : PlR ns out er) (he : er = 0) (h6 : ∀ n ∈ ns, N64 n) : Pln ns out := by
  rcases h with ⟨-, -, h⟩ | ⟨rfl, rfl, -⟩ | ⟨n, k, e, ok, hl, h⟩
  · omega
  · refine ⟨cond_nil, cond_nil, ?_, rfl, by simp, by simp, Iff.rfl, fun f => rfl, fun f => rfl, rfl, rfl⟩
    rintro o e (⟨h, -⟩ | ⟨-, rfl, rfl⟩ | ⟨n, k, h, -⟩)
    · exact absurd cond_nil h
    · exact ⟨rfl, rfl⟩
    · simp [Fo.flat] at h
  · rcases h with ⟨-, -, h⟩ | ⟨hp, rfl, -⟩
    · omega
    · obtain ⟨m, j, e1, ok2, pid, sg, hev, hnm⟩ := plain_all ok
      have h6' := n64_of_ok _ _ _ ok (by rw [← e]; exact hl) (by rw [← e]; exact h6) false
      rw [e1] at hp h6' ⊢
      have c1 : Cond wdB ns := .inr ⟨hl, n, k, e, ok⟩
      have c2 : Cond wdB (Fo.cons m j .nil).flat := .inr ⟨hp, m, j, rfl, ok2⟩
      refine ⟨c1, c2, ?_, sg, h6', hp, ?_, ?_, fun f => hoE_of c1 c2 f, ?_, ?_⟩
      · rintro o er (⟨h, -⟩ | ⟨h, -⟩ | ⟨n', k', h, ok', -, h'⟩)
        · exact absurd c2 h
        · simp [Fo.flat] at h
        · have := (flat_inj _ _ _ _ _ _ [] [] ok2 ok' rfl (by rw [h])).1
          rw [← this, pid] at h'
          rcases h' with ⟨h', -⟩ | ⟨-, rfl, rfl⟩
          · omega
          · exact ⟨rfl, rfl⟩
      · rw [e]; simp [Fo.flat]
      · intro f
        unfold hoB
        by_cases hf : f.Ok
        · rw [if_pos ⟨c1, hf⟩, if_pos ⟨c2, hf⟩, hoV_eq e ok, hoV_eq rfl ok2]
          have := hev f.vf (vfa_turns _ _ _ _)
          rw [ev_cons, ev_cons] at this
          simp only [List.cons.injEq] at this
          exact this.1.symm
        · rw [if_neg (fun h => hf h.2), if_neg (fun h => hf h.2)]
      · rw [e]; exact (hnm 4 (.inl rfl)).symm
      · rw [e]; exact (hnm 5 (.inr rfl)).symm
theorem plr_bad {ns out : List Nd} {er : Int} (h : PlR ns out er) (he : er ≠ 0) : out = [] ∧ ((er = 3 ∧ Cond wdB ns) ∨ (er = 131 ∧ ¬ Cond wdB ns)) := by
  rcases h with ⟨h, rfl, rfl⟩ | ⟨-, -, h⟩ | ⟨n, k, e, ok, hl, h⟩
  · exact ⟨rfl, .inr ⟨rfl, h⟩⟩
  · exact absurd h he
  · rcases h with ⟨-, rfl, rfl⟩ | ⟨-, -, h⟩
    · exact ⟨rfl, .inl ⟨rfl, .inr ⟨hl, n, k, e, ok⟩⟩⟩
    · exact absurd h he
end Go.Proofs.YtiogfampfdnkcabGreatDoor
namespace Go.Proofs.YtiogfampfdnkcabGreatDoor
open Go.RowKit Go.Shelf
set_option linter.unusedVariables false

theorem len_srt (l : List (List UInt8)) : (srt l).length ≤ l.length := by
  unfold srt
  exact Nat.le_trans (compact_le _) (by rw [List.length_mergeSort]; exact Nat.le_refl _)
theorem len_nms (c : Int) (l : List Nd) : (nms c l).length ≤ l.length := by
  unfold nms
  rw [List.length_map]; exact List.length_filter_le _ _
theorem cond_len {ns : List Nd} (h : Cond wdB ns) : ns.length ≤ 64 := by
  rcases h with rfl | h
  · simp
  · exact h.1
end Go.Proofs.YtiogfampfdnkcabGreatDoor
namespace Go.Proofs.YtiogfampfdnkcabGreatDoor
open Go.ChangeShapes Go.WideShapes Go.ChangeAt Go.RowKit
set_option linter.unusedVariables false

theorem gTens : Tryz.prog.globalNamed "tollbook/decimal.tens" = some 0 := by kernel_rfl
theorem gTensT : (Tryz.prog.globals[0]?).map (·.type) = some 85 := by kernel_rfl
theorem cTens : Tryz.prog.cellsOf 85 = 10 := by kernel_rfl
theorem cI64 : Tryz.prog.cellsOf 2 = 1 := by kernel_rfl
theorem tnOf {W : World} {rest : List (String × DataW Unit)} (h : laidMet Tryz.prog (("tollbook/decimal.tens", Rows.laid_tollbook_decimal_tens) :: rest) W) : Tn W :=
  Go.Lib.tabIs_of_head (zs := [1, 10, 100, 1000, 10000, 100000, 1000000, 10000000, 100000000, 1000000000]) gTens gTensT Tryz.underlying85 Tryz.underlying2 cI64 cTens h
theorem list5 {α : Type} {l : List α} (h : l.length = 5) : ∃ a b c d e, l = [a, b, c, d, e] := by
  match l, h with
  | [a, b, c, d, e], _ => exact ⟨a, b, c, d, e, rfl⟩
theorem list6 {α : Type} {l : List α} (h : l.length = 6) : ∃ a b c d e f, l = [a, b, c, d, e, f] := by
  match l, h with
  | [a, b, c, d, e, f], _ => exact ⟨a, b, c, d, e, f, rfl⟩
theorem B64_of_wf {x : Int} (h : (Lit.int .i64 x).wf = true) : -9223372036854775808 ≤ x ∧ x ≤ 9223372036854775807 := by
  simp [Lit.wf, IntKind.min, IntKind.max, IntKind.signed, IntKind.bits] at h
  omega
theorem sv_of (s : ByteArray) : Value.string s = sv s.data.toList := by simp [sv]
instance : Inhabited Nd := ⟨nd0⟩
theorem cNode : Tryz.prog.cellsOf 35 = 6 := by kernel_rfl
section
variable {H : Type} {enc : TypeId × Value → H} {W : World} {sp : Nat → Bool} {hd : Bool}
theorem node_open {n : Nat} {cs : List Value} {y : DataW H × List MemPlace} (h2 : DataW.trod enc Tryz.prog W 0 sp hd n 35 cs = some y) : ∃ nd : Nd, cs = encN nd ∧ N64 nd := by
  obtain ⟨xs, k, _, _, hl, hxl, hf⟩ := DataW.trod_struct Tryz.underlying35 h2
  obtain ⟨v0, v1, v2, v3, v4, v5, rfl⟩ := list6 (hl.trans cNode)
  obtain ⟨y0, y1, y2, y3, y4, rfl⟩ := list5 hxl
  have g0 := hf 0 _ rfl
  have g1 := hf 1 _ rfl
  have g2 := hf 2 _ rfl
  have g3 := hf 3 _ rfl
  have g4 := hf 4 _ rfl
  have e1 : Tryz.prog.cellsOf 30 = 1 := by kernel_rfl
  have e2 : Tryz.prog.cellsOf 3 = 1 := by kernel_rfl
  have e3 : Tryz.prog.cellsOf 9 = 1 := by kernel_rfl
  have e4 : Tryz.prog.cellsOf 31 = 1 := by kernel_rfl
  have e5 : Tryz.prog.cellsOf 33 = 2 := by kernel_rfl
  simp [e1, e2, e3, e4, e5] at g0 g1 g2 g3 g4
  obtain ⟨kd, h0, -, w0⟩ := DataW.trod_int Tryz.underlying30 g0
  obtain ⟨ks, h1, -, w1⟩ := DataW.trod_int Tryz.underlying3 g1
  obtain ⟨nm, h2', -, -⟩ := DataW.trod_string Tryz.underlying9 g2
  obtain ⟨op, h3, -, w3⟩ := DataW.trod_int Tryz.underlying31 g3
  obtain ⟨xs5, k5, _, _, hl5, hxl5, hf5⟩ := DataW.trod_struct Tryz.underlying33 g4
  have q0 := hf5 0 _ rfl
  have q1 := hf5 1 _ rfl
  have e6 : Tryz.prog.cellsOf 2 = 1 := by kernel_rfl
  have hx5 : xs5.length = 2 := hxl5
  match xs5, hx5 with
  | [z0, z1], _ =>
    simp [e6, e2] at q0 q1
    obtain ⟨un, h4, -, w4⟩ := DataW.trod_int Tryz.underlying2 q0
    obtain ⟨pl, h5, -, w5⟩ := DataW.trod_int Tryz.underlying3 q1
    simp at h0 h1 h2' h3 h4 h5
    subst h0 h1 h2' h3 h4 h5
    refine ⟨⟨kd, ks, nm.data.toList, op, un, pl⟩, by simp [encN, sv], ?_⟩
    intro x hx
    simp only [List.mem_cons, List.not_mem_nil, or_false] at hx
    rcases hx with rfl | rfl | rfl | rfl | rfl
    · exact B64_of_wf w0
    · exact B64_of_wf w1
    · exact B64_of_wf w3
    · exact B64_of_wf w4
    · exact B64_of_wf w5
theorem open_nodes {a : Option Addr} {len cap : Nat} {d : DataW H} {p : List MemPlace} (h : DataW.Trod enc Tryz.prog W 0 sp hd 22 (.slice a len cap) d p) :
    ∃ ns : List Nd, Le elN W a len ns ∧ (∀ n ∈ ns, N64 n) := by
  obtain ⟨fuel, hf⟩ := h
  rcases Go.Deep.open_slice Tryz.underlying22 hf with ⟨hcs, _⟩ | ⟨ad, l, c, m, n, D, Pl, hcs, _, hl, hm, hmm, _, hx⟩
  · simp [Value.cells] at hcs
    obtain ⟨rfl, rfl, rfl⟩ := hcs
    exact ⟨[], Le.nil _ _, fun n hn => by simp at hn⟩
  · simp [Value.cells] at hcs
    obtain ⟨rfl, rfl, rfl⟩ := hcs
    have hlm : len ≤ m := by rw [hmm]; split <;> omega
    have each : ∀ i, i < len → ∃ nd : Nd, (∀ j u, (encN nd)[j]? = some u → W.cell? ((ad.add (i * 6)).add j) = some u) ∧ N64 nd := by
      intro i hi
      obtain ⟨cs', h1, h2⟩ := hx i (by omega)
      rw [cNode] at h1
      obtain ⟨nd, rfl, h6⟩ := node_open h2
      obtain ⟨_, hlen, hcell⟩ := World.cells?_some h1
      refine ⟨nd, fun j u hj => ?_, h6⟩
      have hj6 : j < 6 := by
        rcases Nat.lt_or_ge j 6 with h' | h'
        · exact h'
        · rw [List.getElem?_eq_none (by exact h')] at hj; cases hj
      have := hcell j hj6
      rw [this, hj]
    obtain ⟨Q, hQ⟩ := Go.Deep.choose_lt each
    refine ⟨(List.range len).map Q, ⟨by simp, fun h0 => ?_⟩, fun n hn => ?_⟩
    · obtain ⟨b, off, spot⟩ := ad
      have hspot : spot = none := by
        have := (hQ 0 h0).1 0 _ rfl
        simpa [Addr.add] using World.cell?_spot this
      subst hspot
      refine ⟨b, off, rfl, fun i u hu => ?_⟩
      have hlen : (rowE elN ((List.range len).map Q)).length = len * 6 := by rw [rowE_length]; simp; rfl
      have hi : i < len * 6 := by
        rcases Nat.lt_or_ge i (rowE elN ((List.range len).map Q)).length with h' | h'
        · omega
        · rw [List.getElem?_eq_none h'] at hu; cases hu
      have hq := rowE_get elN (i % 6) (Nat.mod_lt _ (by decide)) ((List.range len).map Q) (i / 6) (by simp; omega)
      rw [show i / 6 * elN.s + i % 6 = i by show i / 6 * 6 + i % 6 = i; omega, hu] at hq
      have hg : ((List.range len).map Q).getD (i / 6) elN.dft = Q (i / 6) := by simp [show i / 6 < len by omega]
      rw [hg] at hq
      have := (hQ (i / 6) (by omega)).1 (i % 6) u hq.symm
      rw [Go.WideShapes.add_plain, Go.WideShapes.add_plain] at this
      rw [← this]
      congr 2
      omega
    · simp only [List.mem_map, List.mem_range] at hn
      obtain ⟨i, hi, rfl⟩ := hn
      exact (hQ i hi).2
theorem texts_open {n : Nat} {cs : List Value} {y : DataW H × List MemPlace} (h : DataW.trod enc Tryz.prog W 0 sp hd n 23 cs = some y) : ∃ (a : Option Addr) (c : Nat) (l : List (List UInt8)), cs = [.slice a l.length c] ∧ Le elS W a l.length l := by
  rcases open_strings Tryz.underlying23 Tryz.underlying9 (by kernel_rfl) h with ⟨hcs, _⟩ | ⟨ad, l, c, ss, hcs, _, hl, hm, hz, hx, hcell, _⟩
  · exact ⟨none, 0, [], hcs, Le.nil _ _⟩
  · have hzl : l ≤ ss.length := by rw [hz]; split <;> omega
    have hll : ((ss.take l).map (fun s : ByteArray => s.data.toList)).length = l := by simp; omega
    refine ⟨some ad, c, (ss.take l).map (fun s : ByteArray => s.data.toList), by rw [hll]; exact hcs, rfl, fun h0 => ?_⟩
    rw [hll] at h0
    obtain ⟨b, off, spot⟩ := ad
    have hspot : spot = none := by
      have := hcell 0 (by omega)
      simpa [Addr.add] using World.cell?_spot this
    subst hspot
    refine ⟨b, off, rfl, fun i u hu => ?_⟩
    have hi : i < l := by
      rcases Nat.lt_or_ge i (rowE elS ((ss.take l).map (fun s : ByteArray => s.data.toList))).length with h' | h'
      · rw [rowE_length, hll] at h'
        have h'' : i < l * 1 := h'
        omega
      · rw [List.getElem?_eq_none h'] at hu; cases hu
    have hq := rowE_get elS 0 (by decide) ((ss.take l).map (fun s : ByteArray => s.data.toList)) i (by rw [hll]; exact hi)
    rw [show i * elS.s + 0 = i by show i * 1 + 0 = i; omega, hu] at hq
    have hg : ((ss.take l).map (fun s : ByteArray => s.data.toList)).getD i elS.dft = (ss.getD i ByteArray.empty).data.toList := by
      rw [List.getD_eq_getElem?_getD, List.getElem?_map, List.getElem?_take_of_lt hi, List.getD_eq_getElem?_getD, List.getElem?_eq_getElem (by omega)]; rfl
    rw [hg] at hq
    have e : u = sv (ss.getD i ByteArray.empty).data.toList := by simpa [elS] using hq
    have := hcell i (by omega)
    rw [Go.WideShapes.add_plain] at this
    rw [this, e, sv_of]
set_option maxRecDepth 100000 in
theorem open_facts {r : Reach} {b0 : Nat} {v : Value} {d : DataW H} {p : List MemPlace} (hv : Value.okWide Tryz.prog W r b0 25 v) (h : DataW.Trod enc Tryz.prog W 0 sp hd 25 v d p) :
    ∃ (a1 : Option Addr) (c1 : Nat) (a2 : Option Addr) (c2 : Nat) (f : Fx), v = fxv a1 c1 a2 c2 f ∧ Lf W a1 c1 a2 c2 f := by
  obtain ⟨cs, rfl, hsz⟩ := okWide_struct Tryz.underlying25 hv
  obtain ⟨fuel, hf⟩ := h
  obtain ⟨xs, k, _, _, hl, hxl, hf⟩ := DataW.trod_struct Tryz.underlying25 hf
  have hC : Tryz.prog.cellsOf 25 = 5 := by kernel_rfl
  have hcl : (Value.agg cs).cells.toList.length = 5 := hl.trans hC
  obtain ⟨v0, v1, v2, v3, v4, hcs⟩ := list5 hcl
  have hcs' : cs.toList = [v0, v1, v2, v3, v4] := hcs
  obtain rfl : cs = #[v0, v1, v2, v3, v4] := by rw [← hcs']
  obtain ⟨y0, y1, y2, y3, y4, rfl⟩ := list5 hxl
  have g0 := hf 0 _ rfl
  have g1 := hf 1 _ rfl
  have g2 := hf 2 _ rfl
  have g3 := hf 3 _ rfl
  have g4 := hf 4 _ rfl
  have e1 : Tryz.prog.cellsOf 23 = 1 := by kernel_rfl
  have e2 : Tryz.prog.cellsOf 3 = 1 := by kernel_rfl
  have e3 : Tryz.prog.cellsOf 2 = 1 := by kernel_rfl
  rw [hcs] at g0 g1 g2 g3 g4
  simp [e1, e2, e3] at g0 g1 g2 g3 g4
  obtain ⟨a1, c1, l1, h0, L1⟩ := texts_open g0
  obtain ⟨a2, c2, l2, h1, L2⟩ := texts_open g1
  obtain ⟨am, h2, -, w2⟩ := DataW.trod_int Tryz.underlying2 g2
  obtain ⟨dg, h3, -, w3⟩ := DataW.trod_int Tryz.underlying3 g3
  obtain ⟨qt, h4, -, w4⟩ := DataW.trod_int Tryz.underlying2 g4
  simp at h0 h1 h2 h3 h4
  subst h0 h1 h2 h3 h4
  exact ⟨a1, c1, a2, c2, ⟨l1, l2, am, dg, qt⟩, rfl, L1, L2, B64_of_wf w2, B64_of_wf w3, B64_of_wf w4⟩
end
end Go.Proofs.YtiogfampfdnkcabGreatDoor
namespace Go.Proofs.YtiogfampfdnkcabGreatDoor
open Go.RowKit
set_option linter.unusedVariables false
theorem traitCovers_w (a b c : ByteArray) (w : World) (ha : a.data.toList.length ≤ 140737488351232) (hb : b.data.toList.length ≤ 140737488351232) (hc : c.data.toList.length ≤ 140737488351232) (hT : Tn w) :
    Calls Tryz.prog 5 #[.string a, .string b, .string c] w fun e w' => e = .returned (.bool true) ∧ Below w.heap.size w w' := by
  rw [sv_of a, sv_of b, sv_of c]
  exact traitCovers_walk _ _ _ w ha hb hc hT
end Go.Proofs.YtiogfampfdnkcabGreatDoor
namespace Go.Proofs.YtiogfampfdnkcabGreatDoor.traitCovers
open Go.ChangeShapes Go.WideShapes Go.ChangeAt Go.RowKit
set_option linter.unusedVariables false

theorem own : ownKnob Tryz.prog.godebug = none := by kernel_rfl
theorem laidOut : laidOutB Tryz.prog = true := by kernel_rfl

set_option maxRecDepth 100000 in
theorem contract (H : Type) (enc : TypeId × Value → H) (W : World) (base : Nat) (args : Array Value) (ds gs : List (DataW H)) (before : List MemPlace)
    (hval : ∀ (j : Nat) t v, Tryz.f5.params[j]? = some t → args[j]? = some v → Value.okWide Tryz.prog W .any base t v)
    (hW : DataW.Whole enc Tryz.prog Tryz.f5.params.toList Rows.traitCoversSpec.vars false W args.toList ds gs before) (hsz : (DataW.weightsEach Tryz.prog (Tryz.f5.params.toList ++ Rows.traitCoversSpec.plain.varTypes Tryz.prog) (ds ++ gs)).all (· ≤ reachBytes) = true) (hL0 : laidMetH Tryz.prog Rows.traitCoversRow.laid W) :
    Calls Tryz.prog 5 args W fun e W' => ∃ v, e = .returned v ∧ Rows.traitCoversSpec.post enc Tryz.prog Tryz.f5 false true false false W args v W' := by
  rw [MakeChecks.laidMetH_plain _ _ _ (by kernel_rfl)] at hL0
  have tb0 := by first | exact tnOf hL0 | exact tnOf hL0.tail | exact tnOf hL0.tail.tail | exact tnOf hL0.tail.tail.tail | exact tnOf hL0.tail.tail.tail.tail | exact tnOf hL0.tail.tail.tail.tail.tail
  have hW' := hW
  obtain ⟨p, q, hA0, hV, rfl, hfz, hnd⟩ := hW
  have hA : DataW.TrodAll enc Tryz.prog W 0 (fun _ => true) true Tryz.f5.params.toList args.toList ds p := hA0
  rw [Tryz.params5] at hA hval hsz
  obtain ⟨v0, vs0, d0, ds0, p0, q0, hargs, rfl, rfl, h0, r0⟩ := trodAll_cons hA
  obtain ⟨v1, vs1, d1, ds1, p1, q1, rfl, rfl, rfl, h1, r1⟩ := trodAll_cons r0
  obtain ⟨v2, vs2, d2, ds2, p2, q2, rfl, rfl, rfl, h2, r2⟩ := trodAll_cons r1
  obtain ⟨rfl, rfl, rfl⟩ := trodAll_nil r2
  obtain rfl : args = #[v0, v1, v2] := by cases args; simp_all
  obtain ⟨rfl, rfl⟩ := trodVars_none hV
  obtain ⟨s0, rfl, rfl, rfl, hs0⟩ := Go.ChangeMaps.open_string Tryz.underlying9 (hval 0 9 v0 rfl rfl) h0
  have b0 : s0.data.toList.length ≤ 140737488351232 := by have := sized_string hsz (j := 0) (t := 9) rfl rfl; simpa [reachBytes] using this
  obtain ⟨s1, rfl, rfl, rfl, hs1⟩ := Go.ChangeMaps.open_string Tryz.underlying9 (hval 1 9 v1 rfl rfl) h1
  have b1 : s1.data.toList.length ≤ 140737488351232 := by have := sized_string hsz (j := 1) (t := 9) rfl rfl; simpa [reachBytes] using this
  obtain ⟨s2, rfl, rfl, rfl, hs2⟩ := Go.ChangeMaps.open_string Tryz.underlying9 (hval 2 9 v2 rfl rfl) h2
  have b2 : s2.data.toList.length ≤ 140737488351232 := by have := sized_string hsz (j := 2) (t := 9) rfl rfl; simpa [reachBytes] using this
  clear hA0
  refine (traitCovers_w s0 s1 s2 W b0 b1 b2 tb0).mono fun e W' ⟨he, bel⟩ => ?_
  subst he
  exact ⟨_, rfl, _, _, _, [], _, [], hW', trodAll_mk1 (shut_bool Tryz.underlying4 _), (trodAll_cons_mk (Go.ChangeMaps.shut_string Tryz.underlying9 hs0) (trodAll_cons_mk (Go.ChangeMaps.shut_string Tryz.underlying9 hs1) (trodAll_cons_mk (Go.ChangeMaps.shut_string Tryz.underlying9 hs2) trodAll_mk0))), rfl, bel.frame _, fun h => by cases h⟩

set_option maxRecDepth 100000 in
theorem lifted (os : Os) (started : os.Started) (H : Type) (enc : TypeId × Value → H) :
    ReturnsInHanded {} Tryz.checked os 5 .any (fun w args => (Rows.traitCoversSpec.pre enc Tryz.prog Tryz.f5 [] false w args ∧ laidMetH Tryz.prog Rows.traitCoversRow.laid w) ∧ sizedMet enc Tryz.prog Tryz.f5 (OpenSpec.ofChange Rows.traitCoversSpec) false w args)
      (Rows.traitCoversSpec.post enc Tryz.prog Tryz.f5 false true false false) := by
  refine returnsInHanded_of_change_and (C := Tryz.checked) (X := fun w _ => laidMetH Tryz.prog Rows.traitCoversRow.laid w) (fun _ _ _ hh h => h.of_heap hh) own started (by kernel_rfl) Tryz.func5
    (ChangeSpec.witness_shaped (enc := enc) (C := Tryz.checked) (os := os) (X := fun w _ => laidMetH Tryz.prog Rows.traitCoversRow.laid w) false (World.laidAll Tryz.prog os Rows.traitCoversRow.laid) #[.string ⟨#[]⟩, .string ⟨#[]⟩, .string ⟨#[]⟩] 8 (World.laidAll_os _ _ _)
      (World.shaped_of_ZipB (by kernel_rfl) (by kernel_rfl)) (by kernel_rfl) (by kernel_rfl) (by kernel_rfl)
      (by rw [MakeChecks.laidMetH_plain _ _ _ (by kernel_rfl)]; exact laidMet_laidAll _ (by kernel_rfl) (by kernel_rfl))) ?_
  intro W base args ds gs before hval0 hW _ hsz0 hL _
  exact contract H enc W base args ds gs before hval0 hW hsz0 hL

theorem over : Rows.traitCoversRow.holds Tryz.pinned (OpenSpec.ofChange Rows.traitCoversSpec) :=
  OpenClaim.holds_of_wide 5 Tryz.f5 rfl rfl rfl rfl rfl rfl rfl ⟨rfl, rfl, rfl, rfl, rfl⟩ rfl rfl rfl rfl rfl (by kernel_rfl) Tryz.func5 (by kernel_rfl)
    (of_decide_eq_true (by kernel_rfl)) (by unfold Func.isWrapper; first | (rw [if_pos (by decide +kernel)]; kernel_rfl) | (rw [if_neg (by decide +kernel)]; exact ⟨rfl, rfl⟩))
    (fun os started H enc _ => lifted os started H enc)
end Go.Proofs.YtiogfampfdnkcabGreatDoor.traitCovers
namespace Go.Proofs.YtiogfampfdnkcabGreatDoor
theorem traitCovers_plain (f : FuncId) (fn : Func) (hf : Tryz.pinned.checked.prog.funcNamed "tollbook/tollbooklaw13.TraitCovers" = some f) (hfn : Tryz.pinned.checked.prog.funcs[f]? = some fn) :
    false = Tryz.pinned.checked.prog.looks [] ∧ ∀ (j : Nat) t, fn.params[j]? = some t → Tryz.pinned.checked.prog.wantsStandIn t = false := by
  obtain rfl : f = 5 := Option.some.inj ((show Tryz.prog.funcNamed "tollbook/tollbooklaw13.TraitCovers" = some 5 by kernel_rfl).symm.trans hf) |>.symm
  obtain rfl : fn = Tryz.f5 := (Option.some.inj (Tryz.func5.symm.trans hfn)).symm
  refine ⟨by kernel_rfl, fun j t ht => ?_⟩
  rw [Tryz.params5] at ht
  have hm : t ∈ [9, 9, 9] := by have := Array.mem_of_getElem? ht; simp at this; simp; omega
  have hall : ([9, 9, 9].all fun u => !Tryz.prog.wantsStandIn u) = true := by kernel_rfl
  exact (show Tryz.prog.wantsStandIn t = false by simpa using List.all_eq_true.1 hall t hm)
theorem traitCoversCard_holds : Rows.TraitCoversCardSaid :=
  Claim7.holds_tied_plain_at .later [] _ _ _ _ traitCovers.over (fun _ h => by cases h) (by kernel_rfl) (fun _ h => by cases h) traitCovers_row_tie rfl ⟨rfl, rfl⟩ (by kernel_rfl) rfl traitCovers_plain (by kernel_rfl)
#print axioms traitCoversCard_holds
end Go.Proofs.YtiogfampfdnkcabGreatDoor
