/-
  TraitClasses (P13.1): what a class is and what it covers is as the document's own walk over its parts says, of any two texts that have together no more bytes than the second form allows; under the condition that the listed variables (decimal's powers of ten, among others) hold what the program's text lays.
-/
import Derived.Test.YtcfjgebfjgkmnaaGreatDoorTre
import Derived.Test.YtcfjgebfjgkmnaaGreatDoorTu9
import Derived.BigQuiet
import Derived.Deep.QuietTactic
import Derived.Test.YtcfjgebfjgkmnaaGreatDoorCards
import Derived.ProofKit
import Derived.OpenShut
import Derived.ShutString
import Derived.ChangeOld
import Derived.SizedLaws
import Derived.SliceStrings
import Derived.Deep.Slices
import Derived.Lib.SmallJoins
import Derived.Lib.LaidTab
import Derived.Stop.LaidErr
import Derived.Test.YtcfjgebfjgkmnaaGreatDoorRows
import Derived.Test.YtcfjgebfjgkmnaaGreatDoorTie
import Derived.Lay
import Derived.LaidLaws
import Derived.MakeChecks
import Derived.SevenTiedAt
import Derived.WalkKit
import Derived.Deep.DeepHandedRow
namespace Go.Proofs.YtcfjgebfjgkmnaaGreatDoor
open Go.RowKit Go.Shelf
set_option linter.unusedVariables false

set_option maxHeartbeats 4000000 in
theorem sameTexts_eq (l : List (List UInt8)) (a1 : Option Addr) (c1 : Nat) (a2 : Option Addr) (c2 : Nat) (w : World) (h1 : Le elS w a1 l.length l) (h2 : Le elS w a2 l.length l) (hl : l.length ≤ 100000) :
    Calls Tryz.prog 6 #[.slice a1 l.length c1, .slice a2 l.length c2] w fun e w' => e = .returned (.bool true) ∧ Below w.heap.size w w' := by
  have H1 : Hid (Le elS w a1 l.length l) := h1
  have H2 : Hid (Le elS w a2 l.length l) := h2
  clear h1 h2
  go_enter Tryz.func6, Tryz.ntmps6
  go_wp2_with fail
  go_loopw [5] (fun j wr => ∃ i : Nat, j = .int .i64 i ∧ i ≤ l.length ∧ Hid (Below w.heap.size w wr)) (fun j _ => (l.length - (intOf j).toNat : Nat))
  case atStart => exact ⟨0, rfl, Nat.zero_le _, Below.refl _ _⟩
  case round =>
    obtain ⟨i, rfl, hi, HB⟩ := hrel
    rcases Nat.lt_or_ge i l.length with hlt | hge
    · have hii : (i : Int) < l.length := by omega
      obtain ⟨b1, o1, rfl⟩ := H1.out.ex (by omega)
      obtain ⟨b2, o2, rfl⟩ := H2.out.ex (by omega)
      have k1 : wr.cell? ⟨b1, o1 + i, none⟩ = some (sv (l.getD i [])) := by have := (H1.out.after HB.out).at i hlt 0 (sv (l.getD i [])) rfl; simpa [elS] using this
      have k2 : wr.cell? ⟨b2, o2 + i, none⟩ = some (sv (l.getD i [])) := by have := (H2.out.after HB.out).at i hlt 0 (sv (l.getD i [])) rfl; simpa [elS] using this
      generalize l.getD i [] = x at *
      go_wp2_with fail
      go_quiet (fail)
      refine nameR wr _ (Q := fun W => Exit.then _ _ _ _ W) (fun wq hcell hBw hsq => ?_)
      have HBq : Hid (Below w.heap.size w wq) := step HB.out hBw
      clear hcell hBw hsq HB k1 k2
      go_wp2_with fail
      go_roundw
      case rel => exact ⟨i + 1, rfl, by omega, HBq.out⟩
      case measure => simp [intOf]; omega
    · obtain rfl : i = l.length := by omega
      clear hge hi
      go_wp2_with fail
      go_ret
      exact ⟨rfl, HB.out⟩
theorem drop_n {l : List Nd} {j : Nat} (h : j < l.length) : l.drop j = l.getD j nd0 :: l.drop (j + 1) := by
  rw [List.drop_eq_getElem_cons h, List.getD_eq_getElem?_getD, List.getElem?_eq_getElem h]; rfl
end Go.Proofs.YtcfjgebfjgkmnaaGreatDoor
namespace Go.Proofs.YtcfjgebfjgkmnaaGreatDoor
open Go.RowKit Go.Shelf
set_option linter.unusedVariables false

/-- Where the first point stands. -/
def ix (s : List UInt8) : Int := Go.Lib.indexByte s 46
theorem ix_range : ∀ s : List UInt8, ix s = -1 ∨ (0 ≤ ix s ∧ ix s < s.length)
  | [] => .inl rfl
  | b :: l => by
    unfold ix Go.Lib.indexByte
    have ih := ix_range l
    unfold ix at ih
    split
    · right; first | (simp; done) | (simp; omega)
    split
    · left; rfl
    · rename_i h1 h2
      have h2' : ¬ Go.Lib.indexByte l 46 = -1 := by simpa using h2
      right; simp; omega
/-- A text between its points, the last piece behind the k-th one whole. -/
def spl : Nat → List UInt8 → List (List UInt8)
  | 0, s => [s]
  | k + 1, s => if ix s < 0 then [s] else s.take (ix s).toNat :: spl k (s.drop ((ix s).toNat + 1))
theorem spl_succ (k : Nat) (s : List UInt8) : spl (k + 1) s = if ix s < 0 then [s] else s.take (ix s).toNat :: spl k (s.drop ((ix s).toNat + 1)) := rfl
theorem spl_more : ∀ (k : Nat) (s : List UInt8), s.length ≤ k → spl k s = spl s.length s
  | 0, s, h => by have : s = [] := List.length_eq_zero_iff.1 (by omega); subst this; rfl
  | k + 1, s, h => by
    cases hs : s.length with
    | zero =>
      have : s = [] := List.length_eq_zero_iff.1 hs
      subst this
      simp [spl, ix, Go.Lib.indexByte]
    | succ n =>
      unfold spl
      rcases ix_range s with h1 | h1
      · rw [h1]; rfl
      · rw [if_neg (by omega), if_neg (by omega)]
        congr 1
        have h2 : (s.drop ((ix s).toNat + 1)).length ≤ n := by rw [List.length_drop]; omega
        rw [spl_more k _ (by omega), spl_more n _ h2]
termination_by k s => k
theorem le_left {α : Type} {E : El α} {w : World} {b off n : Nat} {xs ys : List α} (h : Le E w (some ⟨b, off, none⟩) n (xs ++ ys)) (hm : xs.length ≤ n) : Le E w (some ⟨b, off, none⟩) xs.length xs := by
  refine ⟨rfl, fun h0 => ⟨b, off, rfl, fun i u hu => ?_⟩⟩
  obtain ⟨b', off', e, hc⟩ := h.2 (by omega)
  cases e
  refine hc i u ?_
  have hi : i < (rowE E xs).length := by
    rcases Nat.lt_or_ge i (rowE E xs).length with h' | h'
    · exact h'
    · rw [List.getElem?_eq_none h'] at hu; cases hu
  rw [rowE_append, List.getElem?_append_left hi]; exact hu
theorem made_s (n : Nat) : (madeCells (Value.string ⟨#[]⟩).cells (n * 1)).toList = rowE elS (List.replicate n []) := by
  have : rowE elS (List.replicate n []) = List.replicate n (sv []) := by
    induction n with
    | zero => rfl
    | succ n ih => rw [List.replicate_succ, rowE_cons, ih]; rfl
  rw [this]
  simp only [madeCells, Value.cells]
  have h2 : (fun x : Nat => ([Value.string ⟨#[]⟩] : List Value)[x % 1]?.getD default) = fun _ => sv [] := by funext x; rw [Nat.mod_one]; rfl
  simp [h2]
  rw [show (fun _ : Nat => sv []) = Function.const Nat (sv []) from rfl, List.map_const]; simp
theorem bytesStr (i : TypeInfo) (h : Tryz.prog.info? 9 = some i) : i.bytes = 16 := by
  have := infoStr
  rw [h] at this
  simp at this
  exact this.2.2
set_option maxHeartbeats 8000000 in
theorem genSplit_any (s : List UInt8) (w : World) (hl : s.length ≤ 140737488355328) :
    Calls Tryz.prog 16 #[sv s, .string ⟨#[46]⟩, .int .i64 0, .int .i64 9] w fun e w' => ∃ a' c', e = .returned (.slice a' (spl 8 s).length c') ∧ Le elS w' a' (spl 8 s).length (spl 8 s) ∧ (spl 8 s).length ≤ c' ∧ Below w.heap.size w w' := by
  obtain ⟨N, hN⟩ : ∃ N : Nat, N = min 9 (s.length + 1) := ⟨_, rfl⟩
  obtain ⟨K, hK⟩ : ∃ K : Nat, N = K + 1 := ⟨N - 1, by omega⟩
  have HSP : Hid (spl 8 s = spl K s) := by
    show _ = _
    by_cases h : s.length ≤ 8
    · have : K = s.length := by omega
      rw [this, spl_more 8 s h]
    · have : K = 8 := by omega
      rw [this]
  have hmin : min 9 ((s.length : Int) + 1) = (N : Int) := by omega
  have hN9 : N ≤ 9 := by omega
  have xl : IntKind.i64.wrap ((s.length : Int) + 1) = (s.length : Int) + 1 := by rw [IntKind.wrap_i64]; omega
  have xN : IntKind.i64.wrap ((N : Int) - 1) = (K : Int) := by rw [IntKind.wrap_i64]; omega
  obtain ⟨SL, hSL⟩ : ∃ SL, spl 8 s = SL := ⟨_, rfl⟩
  rw [hSL] at HSP ⊢
  replace HSP : Hid (SL = spl K s) := HSP
  clear hN hSL
  obtain ⟨i0, hi0, hz0, hz1, hz2⟩ := info_parts infoStr
  have HB8 : Hid (i0.bytes * N ≤ 281474976710656) := by show _ ≤ _; rw [hz2]; omega
  have HN8 : Hid (N ≤ maxLen) := by show _ ≤ maxLen; unfold maxLen; omega
  have HNK : Hid (N = K + 1) := hK
  clear hK
  go_enter Tryz.func16, Tryz.ntmps16
  go_wp2_with (at_make; go_loud (refine wpList_make_full w rfl _ _ 22 rfl w.heap.size 9 i0 (.string ⟨#[]⟩) 1 Tryz.underlying22 hi0 hz0 hz1 .i64 .i64 _ _ N rfl rfl rfl rfl HB8.out HN8.out (Nat.le_refl _) ?_; intro W1 hr1 hg1))
  have HG1 : Hid (Ge elS W1 w.heap.size (.slice (some ⟨w.heap.size, 0, none⟩) N N) (List.replicate N [])) := by
    show World.ownsRow _ _ _ _ _ _ _
    rw [List.length_replicate]
    have := hr1
    rw [made_s] at this
    exact this
  have HB1 : Hid (Below w.heap.size w W1) := (Below.refl _ _).grown hg1 (Nat.le_refl _) (fun k h => by cases h)
  have hsz1 := (World.ownsRow.lt hr1 w.heap.size rfl).2
  clear hr1 hg1 hi0 hz0 hz1 hz2 HB8 HN8
  go_wp2_with fail
  go_loopw [0, 10, 11] (fun ts j _ wr => ∃ (i : Nat) (t : List UInt8) (pre : List (List UInt8)), ts = sv t ∧ j = .int .i64 i ∧ i ≤ K ∧ t.length ≤ s.length ∧ pre.length = i ∧ Hid (spl K s = pre ++ spl (K - i) t) ∧ Hid (Ge elS wr w.heap.size (.slice (some ⟨w.heap.size, 0, none⟩) N N) (pre ++ List.replicate (N - i) [])) ∧ Hid (Below w.heap.size w wr)) (fun _ j _ _ => (K - (intOf j).toNat : Nat))
  case atStart => exact ⟨0, s, [], rfl, rfl, Nat.zero_le _, Nat.le_refl _, rfl, rfl, HG1.out, HB1.out⟩
  case round =>
    clear HG1 HB1 hsz1
    obtain ⟨i, t, pre, rfl, rfl, hiK, htl, hpl, HI, HG, HB⟩ := hrel
    have hNK := HNK.out
    rcases Nat.lt_or_ge i K with hlt | hge
    · have hlt' : (i : Int) < K := by omega
      have C9 := Tryz.strings_Index_one ⟨t.toArray⟩ 46 wr
      have hix : Go.Lib.indexByte (⟨t.toArray⟩ : ByteArray).data.toList 46 = ix t := by simp [ix]
      rw [hix] at C9
      obtain ⟨kk, hkk⟩ : ∃ kk, K - i = kk + 1 := ⟨K - i - 1, by omega⟩
      rcases ix_range t with h1 | h1
      · have HEND : spl K s = pre ++ [t] := by
          have := HI.out
          rw [hkk, spl_succ, if_pos (by omega)] at this
          exact this
        rw [h1] at C9
        clear hix hkk hNK
        go_wp2_with fail
        refine C9.mono ?_
        rintro e w2 ⟨rfl, hw2⟩
        rw [hw2]; clear hw2 w2 C9
        have hNK := HNK.out
        obtain ⟨R, hR⟩ : ∃ R, N = i + 1 + R := ⟨N - i - 1, by omega⟩
        have HG7 : Hid (Ge elS (wr.setCell ⟨w.heap.size, i, none⟩ (sv t)) w.heap.size (.slice (some ⟨w.heap.size, 0, none⟩) N N) (pre ++ t :: List.replicate R [])) := by
          have h1 : (pre ++ List.replicate (N - i) ([] : List UInt8)).set i t = pre ++ t :: List.replicate R [] := by
            have e : N - i = R + 1 := by omega
            rw [e, List.replicate_succ, ← hpl, List.set_append_right _ _ (Nat.le_refl _), Nat.sub_self, List.set_cons_zero]
          have := HG.out.put i (by simp; omega) 0 (by decide) (sv t) t rfl
          rw [h1] at this
          rw [show i * elS.s + 0 = i by show i * 1 + 0 = i; omega] at this
          exact this
        have HB7 : Hid (Below w.heap.size w (wr.setCell ⟨w.heap.size, i, none⟩ (sv t))) := HB.out.setCell (p := ⟨w.heap.size, i, none⟩) (Nat.le_refl _) _
        have f9 := HG.out.frozen i
        have c9 : wr.cell? ⟨w.heap.size, i, none⟩ = some (sv []) := by
          have h2 : (pre ++ List.replicate (N - i) ([] : List UInt8)).getD i [] = [] := by
            rw [List.getD_eq_getElem?_getD, List.getElem?_append_right (by omega), hpl, Nat.sub_self, List.getElem?_replicate]
            split <;> rfl
          have h3 := HG.out.toLe.at i (by omega) 0 (sv []) (by rw [show elS.dft = [] from rfl, h2]; rfl)
          have e : 0 + (i * elS.s + 0) = i := by show 0 + (i * 1 + 0) = i; omega
          rw [e] at h3
          exact h3
        have hiN : (i : Int) < N := by omega
        have hiN2 : (i : Int) + 1 ≤ N := by omega
        have xi : IntKind.i64.wrap ((i : Int) + 1) = (i : Int) + 1 := by rw [IntKind.wrap_i64]; omega
        have HF : Hid (spl K s = pre ++ [t]) := HEND
        have HPL : Hid (pre.length = i) := hpl
        have HRR : Hid (N = i + 1 + R) := hR
        clear hpl HI hR hNK
        go_upto_region 18 with fail
        obtain ⟨W7, hW7⟩ : ∃ W7, W7 = wr.setCell ⟨w.heap.size, i, none⟩ (sv t) := ⟨_, rfl⟩
        first | rw [← hW7] at HG7 HB7 ⊢ | (rw [show (sv t : Value) = .string ⟨t.toArray⟩ from rfl] at hW7; rw [← hW7] at HG7 HB7 ⊢)
        clear hW7 f9 c9 HG HB
        go_wp2_with fail
        go_ret
        refine ⟨some ⟨w.heap.size, 0, none⟩, N, ?_, ?_, ?_, HB7.out⟩
        · have h5 : (spl K s).length = i + 1 := by rw [HF.out, List.length_append, HPL.out]; rfl
          rw [HSP.out, h5]; first | rfl | (simp; done) | (simp; omega)
        · rw [HSP.out, HF.out]
          have h6 := HG7.out.toLe
          rw [show pre ++ t :: List.replicate R [] = (pre ++ [t]) ++ List.replicate R [] by simp] at h6
          exact le_left h6 (by simp; have := HRR.out; have := HPL.out; omega)
        · rw [HSP.out, HF.out, List.length_append, HPL.out]; have := HRR.out; simp; omega
      · obtain ⟨m, hm⟩ : ∃ m : Nat, ix t = m := ⟨(ix t).toNat, by omega⟩
        rw [hm] at C9 h1
        have hml : m < t.length := by omega
        have HI2 : Hid (spl K s = (pre ++ [t.take m]) ++ spl (K - (i + 1)) (t.drop (m + 1))) := by
          have := HI.out
          rw [hkk, spl_succ, if_neg (by omega), hm] at this
          show _ = _
          rw [show K - (i + 1) = kk by omega]
          simpa using this
        have sh := slice_hi t
        have sl := slice_lo t
        have e1 := slice_hi t (m : Int) m rfl (by omega)
        have e2 := slice_lo t ((m : Int) + 1) (m + 1) rfl (by omega)
        have x1 : IntKind.i64.wrap ((m : Int) + 1) = (m : Int) + 1 := by rw [IntKind.wrap_i64]; omega
        have x0 : IntKind.i64.wrap (m : Int) = m := by rw [IntKind.wrap_i64]; omega
        have xi : IntKind.i64.wrap ((i : Int) + 1) = (i : Int) + 1 := by rw [IntKind.wrap_i64]; omega
        have hm0 : ¬ (m : Int) < 0 := by omega
        have hiN : (i : Int) < N := by omega
        have HGx : Hid (∀ v, Ge elS (wr.setCell ⟨w.heap.size, i, none⟩ (sv v)) w.heap.size (.slice (some ⟨w.heap.size, 0, none⟩) N N) ((pre ++ [v]) ++ List.replicate (N - (i + 1)) [])) := fun v => by
          have h1 : (pre ++ List.replicate (N - i) ([] : List UInt8)).set i v = (pre ++ [v]) ++ List.replicate (N - (i + 1)) [] := by
            have e : N - i = (N - (i + 1)) + 1 := by omega
            rw [e, List.replicate_succ, ← hpl, List.set_append_right _ _ (Nat.le_refl _), Nat.sub_self, List.set_cons_zero]
            simp
          have := HG.out.put i (by simp; omega) 0 (by decide) (sv v) v rfl
          rw [h1, show i * elS.s + 0 = i by show i * 1 + 0 = i; omega] at this
          exact this
        have f9 := HG.out.frozen i
        have c9 : wr.cell? ⟨w.heap.size, i, none⟩ = some (sv []) := by
          have h2 : (pre ++ List.replicate (N - i) ([] : List UInt8)).getD i [] = [] := by
            rw [List.getD_eq_getElem?_getD, List.getElem?_append_right (by omega), hpl, Nat.sub_self, List.getElem?_replicate]
            split <;> rfl
          have h3 := HG.out.toLe.at i (by omega) 0 (sv []) (by rw [show elS.dft = [] from rfl, h2]; rfl)
          have e : 0 + (i * elS.s + 0) = i := by show 0 + (i * 1 + 0) = i; omega
          rw [e] at h3
          exact h3
        have HPL : Hid (pre.length = i) := hpl
        clear hix hkk hm h1 HI sh sl hpl hNK
        go_wp2_with fail
        refine C9.mono ?_
        rintro e w2 ⟨rfl, hw2⟩
        rw [hw2]; clear hw2 w2 C9
        go_wp2_with fail
        go_roundw
        case rel => exact ⟨i + 1, t.drop (m + 1), pre ++ [t.take m], rfl, rfl, by omega, by rw [List.length_drop]; omega, by rw [List.length_append, HPL.out]; rfl, HI2.out, HGx.out _, HB.out.setCell (p := ⟨w.heap.size, i, none⟩) (Nat.le_refl _) _⟩
        case measure => simp [intOf]; omega
    · obtain rfl : i = K := by omega
      have HEND : spl i s = pre ++ [t] := by
        have := HI.out
        rw [Nat.sub_self] at this
        exact this
      obtain ⟨R, hR⟩ : ∃ R, N = i + 1 + R := ⟨N - i - 1, by omega⟩
      have HG7 : Hid (Ge elS (wr.setCell ⟨w.heap.size, i, none⟩ (sv t)) w.heap.size (.slice (some ⟨w.heap.size, 0, none⟩) N N) (pre ++ t :: List.replicate R [])) := by
        have h1 : (pre ++ List.replicate (N - i) ([] : List UInt8)).set i t = pre ++ t :: List.replicate R [] := by
          have e : N - i = R + 1 := by omega
          rw [e, List.replicate_succ, ← hpl, List.set_append_right _ _ (Nat.le_refl _), Nat.sub_self, List.set_cons_zero]
        have := HG.out.put i (by simp; omega) 0 (by decide) (sv t) t rfl
        rw [h1] at this
        rw [show i * elS.s + 0 = i by show i * 1 + 0 = i; omega] at this
        exact this
      have HB7 : Hid (Below w.heap.size w (wr.setCell ⟨w.heap.size, i, none⟩ (sv t))) := HB.out.setCell (p := ⟨w.heap.size, i, none⟩) (Nat.le_refl _) _
      have f9 := HG.out.frozen i
      have c9 : wr.cell? ⟨w.heap.size, i, none⟩ = some (sv []) := by
        have h2 : (pre ++ List.replicate (N - i) ([] : List UInt8)).getD i [] = [] := by
          rw [List.getD_eq_getElem?_getD, List.getElem?_append_right (by omega), hpl, Nat.sub_self, List.getElem?_replicate]
          split <;> rfl
        have h3 := HG.out.toLe.at i (by omega) 0 (sv []) (by rw [show elS.dft = [] from rfl, h2]; rfl)
        have e : 0 + (i * elS.s + 0) = i := by show 0 + (i * 1 + 0) = i; omega
        rw [e] at h3
        exact h3
      have hiN : (i : Int) < N := by omega
      have hiN2 : (i : Int) + 1 ≤ N := by omega
      have xi : IntKind.i64.wrap ((i : Int) + 1) = (i : Int) + 1 := by rw [IntKind.wrap_i64]; omega
      have HF : Hid (spl i s = pre ++ [t]) := HEND
      have HPL : Hid (pre.length = i) := hpl
      have HRR : Hid (N = i + 1 + R) := hR
      clear hpl HI hR hNK
      go_upto_region 18 with fail
      obtain ⟨W7, hW7⟩ : ∃ W7, W7 = wr.setCell ⟨w.heap.size, i, none⟩ (sv t) := ⟨_, rfl⟩
      first | rw [← hW7] at HG7 HB7 ⊢ | (rw [show (sv t : Value) = .string ⟨t.toArray⟩ from rfl] at hW7; rw [← hW7] at HG7 HB7 ⊢)
      clear hW7 f9 c9 HG HB
      go_wp2_with fail
      go_ret
      refine ⟨some ⟨w.heap.size, 0, none⟩, N, ?_, ?_, ?_, HB7.out⟩
      · have h5 : (spl i s).length = i + 1 := by rw [HF.out, List.length_append, HPL.out]; rfl
        rw [HSP.out, h5]; first | rfl | (simp; done) | (simp; omega)
      · rw [HSP.out, HF.out]
        have h6 := HG7.out.toLe
        rw [show pre ++ t :: List.replicate R [] = (pre ++ [t]) ++ List.replicate R [] by simp] at h6
        exact le_left h6 (by simp; have := HRR.out; have := HPL.out; omega)
      · rw [HSP.out, HF.out, List.length_append, HPL.out]; have := HRR.out; simp; omega
end Go.Proofs.YtcfjgebfjgkmnaaGreatDoor
namespace Go.Proofs.YtcfjgebfjgkmnaaGreatDoor
open Go.RowKit Go.Shelf
set_option linter.unusedVariables false

theorem splitN_any (s : List UInt8) (w : World) (hl : s.length ≤ 140737488355328) :
    Calls Tryz.prog 10 #[sv s, .string ⟨#[46]⟩, .int .i64 9] w fun e w' => ∃ a' c', e = .returned (.slice a' (spl 8 s).length c') ∧ Le elS w' a' (spl 8 s).length (spl 8 s) ∧ (spl 8 s).length ≤ c' ∧ Below w.heap.size w w' := by
  have C9 := genSplit_any s w hl
  generalize spl 8 s = P at *
  clear hl
  go_enter Tryz.func10, Tryz.ntmps10
  go_wp2_with fail
  refine C9.mono ?_
  rintro e W ⟨a', c', rfl, h1, h2, hb⟩
  clear C9
  go_wp2_with fail
  go_ret
  exact ⟨a', c', rfl, h1, h2, hb⟩
/-- Is a text a class? -/
def clB (s : List UInt8) : Bool := decide ((spl 8 s).length ≤ 8) && (spl 8 s).all wdB
/-- How Class ends. -/
def ClE (s : List UInt8) (w : World) (e : Ending) (w' : World) : Prop := (clB s = false ∧ e = .returned (.tuple #[.slice none 0 0, .int .i64 140]) ∧ Below w.heap.size w w') ∨
  (clB s = true ∧ ∃ a' c', e = .returned (.tuple #[.slice a' (spl 8 s).length c', .int .i64 0]) ∧ Le elS w' a' (spl 8 s).length (spl 8 s) ∧ (spl 8 s).length ≤ c' ∧ (spl 8 s).length ≤ 8 ∧ Below w.heap.size w w')
theorem spl_len : ∀ (k : Nat) (s : List UInt8), (spl k s).length ≤ k + 1
  | 0, s => by simp [spl]
  | k + 1, s => by
    rw [spl_succ]
    split
    · simp
    · have := spl_len k (s.drop ((ix s).toNat + 1)); simp only [List.length_cons]; omega
theorem spl_ne : ∀ (k : Nat) (s : List UInt8), 0 < (spl k s).length
  | 0, s => by simp [spl]
  | k + 1, s => by rw [spl_succ]; split <;> simp
set_option maxHeartbeats 2000000 in
theorem class_any (s : List UInt8) (w : World) (hl : s.length ≤ 140737488355328) : Calls Tryz.prog 4 #[sv s] w (ClE s w) := by
  have C9 := splitN_any s w hl
  have h9 := spl_len 8 s
  have hcl : clB s = (decide ((spl 8 s).length ≤ 8) && (spl 8 s).all wdB) := rfl
  have HE : Hid (∀ e w', ((clB s = false ∧ e = .returned (.tuple #[.slice none 0 0, .int .i64 140]) ∧ Below w.heap.size w w') ∨ (clB s = true ∧ ∃ a' c', e = .returned (.tuple #[.slice a' (spl 8 s).length c', .int .i64 0]) ∧ Le elS w' a' (spl 8 s).length (spl 8 s) ∧ (spl 8 s).length ≤ c' ∧ (spl 8 s).length ≤ 8 ∧ Below w.heap.size w w')) → ClE s w e w') := fun e w' h => h
  generalize clB s = B at *
  generalize spl 8 s = P at *
  clear hl
  have HCL : Hid (B = (decide (P.length ≤ 8) && P.all wdB)) := hcl
  clear hcl
  go_enter Tryz.func4, Tryz.ntmps4
  go_wp2_with fail
  refine C9.mono ?_
  rintro e W ⟨a', c', rfl, h1, h2, hb⟩
  have HL : Hid (Le elS W a' P.length P) := h1
  have HCP : Hid (P.length ≤ c') := h2
  have HB : Hid (Below w.heap.size w W) := hb
  clear C9 h1 h2 hb
  rcases Nat.lt_or_ge 8 P.length with h8 | h8
  · have h8' : (8 : Int) < P.length := by omega
    have HF : Hid (B = false) := by show _ = _; rw [HCL.out]; simp; intro h; omega
    go_wp2_with fail
    go_ret2
    exact HE.out _ _ (.inl ⟨HF.out, rfl, HB.out⟩)
  · have h8' : ¬ (8 : Int) < P.length := by omega
    have C2 := areWords_any P a' c' W HL.out (by omega)
    cases hw : P.all wdB with
    | false =>
      rw [hw] at C2
      have HF : Hid (B = false) := by show _ = _; rw [HCL.out, hw]; simp
      clear hw
      go_wp2_with fail
      refine C2.mono ?_
      rintro e W2 ⟨rfl, hb2⟩
      have B2 := step HB.out hb2
      clear C2 hb2
      go_wp2_with fail
      go_ret2
      exact HE.out _ _ (.inl ⟨HF.out, rfl, B2⟩)
    | true =>
      rw [hw] at C2
      have HF : Hid (B = true) := by show _ = _; rw [HCL.out, hw]; simp [h8]
      clear hw
      go_wp2_with fail
      refine C2.mono ?_
      rintro e W2 ⟨rfl, hb2⟩
      have B2 := step HB.out hb2
      have HL2 : Hid (Le elS W2 a' P.length P) := HL.out.after hb2
      clear C2 hb2
      go_wp2_with fail
      go_ret2
      exact HE.out _ _ (.inr ⟨HF.out, a', c', rfl, HL2.out, HCP.out, h8, B2⟩)
/-- What Covers answers. -/
def cvB (o s : List UInt8) : Bool := clB s && (decide (o = []) || (clB o && decide ((spl 8 o).length ≤ (spl 8 s).length) && decide (spl 8 o = (spl 8 s).take (spl 8 o).length)))
theorem map_ba_inj {l m : List (List UInt8)} : l.map (fun s => (⟨s.toArray⟩ : ByteArray)) = m.map (fun s => (⟨s.toArray⟩ : ByteArray)) ↔ l = m := by
  constructor
  · intro h
    have := congrArg (List.map (fun b : ByteArray => b.data.toList)) h
    simpa [List.map_map, Function.comp_def] using this
  · intro h; rw [h]
theorem equal_s (xs ys : List (List UInt8)) (b1 o1 c b2 o2 d : Nat) (w : World) (h1 : Le elS w (some ⟨b1, o1, none⟩) xs.length xs) (h2 : Le elS w (some ⟨b2, o2, none⟩) ys.length ys) (hx : xs.length ≤ 100) (hy : ys.length ≤ 100) :
    Calls Tryz.prog 14 #[.slice (some ⟨b1, o1, none⟩) xs.length c, .slice (some ⟨b2, o2, none⟩) ys.length d] w fun e w' => e = .returned (.bool (decide (xs = ys))) ∧ Below w.heap.size w w' := by
  have cells : ∀ (l : List (List UInt8)) (b o : Nat), Le elS w (some ⟨b, o, none⟩) l.length l → ∀ j, j < (l.map (fun s => (⟨s.toArray⟩ : ByteArray))).length → w.cell? ⟨b, o + j, none⟩ = some (.string ((l.map (fun s => (⟨s.toArray⟩ : ByteArray))).getD j ByteArray.empty)) := by
    intro l b o h j hj
    have hj' : j < l.length := by simpa using hj
    have e1 := h.at j hj' 0 (sv (l.getD j [])) rfl
    have e2 : (l.map (fun s => (⟨s.toArray⟩ : ByteArray))).getD j ByteArray.empty = ⟨(l.getD j []).toArray⟩ := by
      rw [List.getD_eq_getElem?_getD, List.getElem?_map, List.getD_eq_getElem?_getD, List.getElem?_eq_getElem hj']; rfl
    rw [e2]
    simpa [elS] using e1
  have := Tryz.slices_Equal_string b1 o1 xs.length c b2 o2 ys.length d (xs.map (fun s => (⟨s.toArray⟩ : ByteArray))) (ys.map (fun s => (⟨s.toArray⟩ : ByteArray))) w (by simp) (by simp) (by omega) (by omega) (cells xs b1 o1 h1) (cells ys b2 o2 h2)
  refine this.mono ?_
  rintro e w' ⟨rfl, q, rfl⟩
  refine ⟨?_, below_drewN (Below.refl _ _) q⟩
  congr 2
  rw [List.take_of_length_le (by simp), List.take_of_length_le (by simp), decide_eq_decide, map_ba_inj]
set_option maxHeartbeats 4000000 in
theorem covers_any (o s : List UInt8) (w : World) (ho : o.length ≤ 140737488355328) (hs : s.length ≤ 140737488355328) : Calls Tryz.prog 7 #[sv o, sv s] w fun e w' => e = .returned (.bool (cvB o s)) ∧ Below w.heap.size w w' := by
  have C1 := class_any s w hs
  have C2 := fun W => class_any o W ho
  obtain ⟨R, hR⟩ : ∃ R, cvB o s = R := ⟨_, rfl⟩
  have HR : Hid (cvB o s = R) := hR
  rw [hR]
  have hpo := spl_ne 8 o
  clear hR
  go_enter Tryz.func7, Tryz.ntmps7
  go_wp2_with fail
  refine C1.mono ?_
  rintro e W1 (⟨hc, rfl, hb⟩ | ⟨hc, a1, c1, rfl, hl1, hcp1, h81, hb⟩)
  · have HF : Hid (R = false) := by show _ = _; rw [← HR.out]; simp [cvB, hc]
    clear hc C1 C2
    go_wp2_with fail
    go_ret
    exact ⟨by rw [HF.out]; rfl, hb⟩
  · have HB1 : Hid (Below w.heap.size w W1) := hb
    have HL1 : Hid (Le elS W1 a1 (spl 8 s).length (spl 8 s)) := hl1
    have D2 := C2 W1
    have HC : Hid (clB s = true) := hc
    clear hc C1 C2 hb hl1
    cases ho0 : o with
    | nil =>
      have HF : Hid (R = true) := by show _ = _; rw [← HR.out, ho0]; simp [cvB, HC.out]
      clear D2
      go_wp2_with fail
      go_ret
      exact ⟨by rw [HF.out]; rfl, HB1.out⟩
    | cons x l =>
      have hne : o ≠ [] := by rw [ho0]; simp
      rw [← ho0]
      have n1 : (o == []) = false := by simpa using hne
      have n2 : ([] == o) = false := by simpa using hne
      have HNE : Hid (o ≠ []) := hne
      clear ho0 hne
      go_wp2_with fail
      refine D2.mono ?_
      rintro e W2 (⟨hc2, rfl, hb2⟩ | ⟨hc2, a2, c2, rfl, hl2, hcp2, h82, hb2⟩)
      · have HF : Hid (R = false) := by show _ = _; rw [← HR.out]; simp [cvB, hc2, HNE.out]
        have B2 := step HB1.out hb2
        clear hc2 D2 hb2
        go_wp2_with fail
        go_ret
        exact ⟨by rw [HF.out]; rfl, B2⟩
      · have B2 := step HB1.out hb2
        have L1 := HL1.out.after hb2
        have HRV : Hid (R = (decide ((spl 8 o).length ≤ (spl 8 s).length) && decide (spl 8 o = (spl 8 s).take (spl 8 o).length))) := by show _ = _; rw [← HR.out]; simp [cvB, HC.out, hc2, HNE.out]
        generalize spl 8 o = P at *
        generalize spl 8 s = S at *
        clear hc2 D2 hb2 HL1 HR HC HNE
        rcases Nat.lt_or_ge S.length P.length with hlt | hge
        · have hlt' : ¬ (P.length : Int) ≤ S.length := by omega
          have HF : Hid (R = false) := by show _ = _; rw [HRV.out]; simp; intro h; omega
          go_wp2_with fail
          go_ret
          exact ⟨by rw [HF.out]; rfl, B2⟩
        · have hge' : (P.length : Int) ≤ S.length := by omega
          obtain ⟨b2, o2, rfl⟩ := hl2.ex hpo
          obtain ⟨b1, o1, rfl⟩ := L1.ex (by omega)
          have hcc : (P.length : Int) ≤ c1 := by omega
          have htl : (S.take P.length).length = P.length := by rw [List.length_take]; omega
          have LT : Le elS W2 (some ⟨b1, o1, none⟩) (S.take P.length).length (S.take P.length) := by
            have h6 := L1
            rw [← List.take_append_drop P.length S] at h6
            have h7 := le_left (xs := S.take P.length) (ys := S.drop P.length) (n := S.length) (by simpa using h6) (by omega)
            exact h7
          have C9 := equal_s P (S.take P.length) b2 o2 c2 b1 o1 c1 W2 hl2 LT (by omega) (by omega)
          rw [htl] at C9
          have HRV2 : Hid (R = decide (P = S.take P.length)) := by show _ = _; rw [HRV.out]; simp [hge]
          generalize decide (P = S.take P.length) = X at *
          clear LT htl L1 hl2 HRV
          go_wp2_with fail
          refine C9.mono ?_
          rintro e W3 ⟨rfl, hb3⟩
          have B3 := step B2 hb3
          clear C9 hb3
          go_wp2_with fail
          go_ret
          exact ⟨by rw [HRV2.out]; rfl, B3⟩
end Go.Proofs.YtcfjgebfjgkmnaaGreatDoor
namespace Go.Proofs.YtcfjgebfjgkmnaaGreatDoor
set_option linter.unusedVariables false

/-- A text put ahead of the first of some. -/
def glue (c : List UInt8) : List (List UInt8) → List (List UInt8)
  | [] => [c]
  | p :: r => (c ++ p) :: r
/-- What stands between the points. -/
def prt : List UInt8 → List (List UInt8)
  | [] => [[]]
  | b :: l => if b = 46 then [] :: prt l else glue [b] (prt l)
theorem glue_nil {l : List (List UInt8)} (h : l ≠ []) : glue [] l = l := by
  cases l with
  | nil => exact absurd rfl h
  | cons p r => rfl
theorem glue_glue (a b : List UInt8) (l : List (List UInt8)) : glue a (glue b l) = glue (a ++ b) l := by
  cases l with
  | nil => rfl
  | cons p r => simp [glue]
theorem glue_len (c : List UInt8) {l : List (List UInt8)} (h : l ≠ []) : (glue c l).length = l.length := by
  cases l with
  | nil => exact absurd rfl h
  | cons p r => rfl
theorem prt_cons (b : UInt8) (l : List UInt8) : prt (b :: l) = if b = 46 then [] :: prt l else glue [b] (prt l) := rfl
theorem prt_ne : ∀ s, prt s ≠ []
  | [] => by simp [prt]
  | b :: l => by
    unfold prt
    split
    · simp
    · intro h
      have := glue_len [b] (prt_ne l)
      rw [h] at this
      exact prt_ne l (List.length_eq_zero_iff.1 this.symm)
theorem prt_len : ∀ s, (prt s).length ≤ s.length + 1
  | [] => by simp [prt]
  | b :: l => by
    have := prt_len l
    unfold prt
    split
    · simp only [List.length_cons]; omega
    · rw [glue_len _ (prt_ne l)]; simp only [List.length_cons]; omega
theorem ix_nil : ix [] = -1 := rfl
theorem ix_cons (b : UInt8) (l : List UInt8) : ix (b :: l) = if b = 46 then 0 else if ix l < 0 then -1 else ix l + 1 := by
  have ih := ix_range l
  unfold ix at *
  conv => lhs; unfold Go.Lib.indexByte
  by_cases h : b = 46
  · simp [h]
  · simp [h]
    rcases ih with e | ⟨h0, h1⟩
    · simp [e]
    · have : ¬ Go.Lib.indexByte l 46 < 0 := by omega
      simp [this]
      try omega
theorem prt_ix : ∀ s, prt s = if ix s < 0 then [s] else s.take (ix s).toNat :: prt (s.drop ((ix s).toNat + 1))
  | [] => rfl
  | b :: l => by
    have ih := prt_ix l
    have hr := ix_range l
    rw [ix_cons, prt_cons]
    by_cases h : b = 46
    · simp [h]
    · rw [if_neg h, if_neg h]
      by_cases h2 : ix l < 0
      · rw [if_pos h2] at ih
        rw [ih]; simp [h2, glue]
      · rw [if_neg h2] at ih
        rw [ih, if_neg h2]
        have e : (ix l + 1).toNat = (ix l).toNat + 1 := by omega
        have h3 : ¬ ix l + 1 < 0 := by omega
        rw [if_neg h3, e]
        simp [glue]
theorem prt_one {s : List UInt8} (h : ¬ ix s < 0) : 2 ≤ (prt s).length := by
  rw [prt_ix, if_neg h, List.length_cons]
  have := List.length_pos_iff.2 (prt_ne (s.drop ((ix s).toNat + 1)))
  omega
theorem spl_prt : ∀ (k : Nat) (s : List UInt8), (prt s).length ≤ k + 1 → spl k s = prt s
  | 0, s, h => by
    by_cases h2 : ix s < 0
    · rw [prt_ix, if_pos h2]; rfl
    · have := prt_one h2; omega
  | k + 1, s, h => by
    rw [spl_succ]
    by_cases h2 : ix s < 0
    · rw [prt_ix, if_pos h2, if_pos h2]
    · rw [prt_ix, if_neg h2] at h
      rw [prt_ix, if_neg h2, if_neg h2, spl_prt k _ (by rw [List.length_cons] at h; omega)]
theorem spl_long : ∀ (k : Nat) (s : List UInt8), k + 1 < (prt s).length → (spl k s).length = k + 1
  | 0, s, h => rfl
  | k + 1, s, h => by
    rw [spl_succ]
    by_cases h2 : ix s < 0
    · rw [prt_ix, if_pos h2] at h; simp at h
    · rw [prt_ix, if_neg h2, List.length_cons] at h
      rw [if_neg h2, List.length_cons, spl_long k _ (by omega)]
theorem clB_prt (s : List UInt8) : clB s = (decide ((prt s).length ≤ 8) && (prt s).all wdB) := by
  unfold clB
  rcases Nat.lt_or_ge 9 (prt s).length with h | h
  · have h1 := spl_long 8 s h
    rw [h1, decide_eq_false (by omega), decide_eq_false (by omega)]; rfl
  · rw [spl_prt 8 s h]
theorem spl_of {s : List UInt8} (h : clB s = true) : spl 8 s = prt s := by
  rw [clB_prt, Bool.and_eq_true, decide_eq_true_iff] at h
  exact spl_prt 8 s (by omega)
theorem take_snoc8 {s : List UInt8} {f i : Nat} (hf : f ≤ i) (hi : i < s.length) : (s.take (i + 1)).drop f = (s.take i).drop f ++ [s.getD i 0] := by
  rw [List.take_succ_eq_append_getElem hi, List.drop_append_of_le_length (by rw [List.length_take]; omega)]
  simp [List.getD_eq_getElem?_getD, List.getElem?_eq_getElem hi]
/-- A step of the document's loop over the bytes, past a byte that is no point. -/
theorem prt_on {s T : List (List UInt8)} {t : List UInt8} {f i : Nat} (hf : f ≤ i) (hi : i < t.length) (hb : t.getD i 0 ≠ 46) (h : s ++ glue ((t.take i).drop f) (prt (t.drop i)) = T) : s ++ glue ((t.take (i + 1)).drop f) (prt (t.drop (i + 1))) = T := by
  rw [← h, take_snoc8 hf hi, ← glue_glue]
  congr 2
  rw [List.drop_eq_getElem_cons hi]
  rw [prt_cons]
  have : t[i] ≠ 46 := by rwa [List.getD_eq_getElem?_getD, List.getElem?_eq_getElem hi] at hb
  rw [if_neg this]
  simp [List.getD_eq_getElem?_getD, List.getElem?_eq_getElem hi]
/-- The same at a point. -/
theorem prt_dot {s T : List (List UInt8)} {t : List UInt8} {f i : Nat} (hi : i < t.length) (hb : t.getD i 0 = 46) (h : s ++ glue ((t.take i).drop f) (prt (t.drop i)) = T) : (s ++ [(t.take i).drop f]) ++ glue ((t.take (i + 1)).drop (i + 1)) (prt (t.drop (i + 1))) = T := by
  rw [← h]
  have e : (t.take (i + 1)).drop (i + 1) = [] := List.drop_eq_nil_of_le (by rw [List.length_take]; omega)
  rw [e, glue_nil (prt_ne _), List.append_assoc]
  congr 1
  rw [List.drop_eq_getElem_cons hi]
  rw [prt_cons]
  have : t[i] = 46 := by rwa [List.getD_eq_getElem?_getD, List.getElem?_eq_getElem hi] at hb
  rw [if_pos this]
  simp [glue]
theorem prt_end {s T : List (List UInt8)} {t : List UInt8} {f : Nat} (h : s ++ glue ((t.take t.length).drop f) (prt (t.drop t.length)) = T) : s ++ [t.drop f] = T := by
  rw [← h, List.take_length, List.drop_length]; simp [prt, glue]
end Go.Proofs.YtcfjgebfjgkmnaaGreatDoor
namespace Go.Proofs.YtcfjgebfjgkmnaaGreatDoor
open Go.RowKit Go.Shelf
set_option linter.unusedVariables false

def eu9 : List UInt8 := [101, 117]
def food9 : List UInt8 := [102, 111, 111, 100]
def awK : Fo := .cons ⟨4, 0, eu9, 0, 0, 0⟩ .nil (.cons ndN (.cons ⟨5, 0, food9, 0, 0, 0⟩ .nil .nil) .nil)
def awN : List Nd := (Fo.cons ⟨2, 2, [], 0, 0, 0⟩ awK .nil).flat
theorem wd_eu : wdB eu9 = true := by decide +kernel
theorem wd_food : wdB food9 = true := by decide +kernel
theorem aw_ok : (Fo.cons ⟨2, 2, [], 0, 0, 0⟩ awK .nil).Ok wdB 0 1 := by
  refine ⟨⟨.inl ⟨.inr rfl, by decide, rfl, rfl, rfl, rfl⟩, by decide, by decide, rfl, ?_⟩, trivial⟩
  refine ⟨⟨.inr (.inr (.inl ⟨.inl rfl, rfl, wd_eu, rfl, rfl, rfl⟩)), by decide, by decide, rfl, trivial⟩, ?_⟩
  refine ⟨⟨.inr (.inl ⟨rfl, rfl, rfl, rfl, rfl, rfl⟩), by decide, by decide, rfl, ?_⟩, trivial⟩
  exact ⟨⟨.inr (.inr (.inl ⟨.inr rfl, rfl, wd_food, rfl, rfl, rfl⟩)), by decide, by decide, rfl, trivial⟩, trivial⟩
theorem aw_cond : Cond wdB awN := .inr ⟨by decide, _, _, rfl, aw_ok⟩
theorem aw_64 : ∀ n ∈ awN, N64 n := by
  intro n hn
  have : n ∈ [(⟨2, 2, [], 0, 0, 0⟩ : Nd), ⟨4, 0, eu9, 0, 0, 0⟩, ndN, ⟨5, 0, food9, 0, 0, 0⟩] := hn
  simp at this
  rcases this with rfl | rfl | rfl | rfl <;> (intro x hx; simp [ndN] at hx; omega)
theorem tr_one {s : List UInt8} (h : wdB s = true) : Trs [s] := ⟨by simp, by simp [h], fun j hj => by simp at hj⟩
theorem tr_nil : Trs [] := ⟨by simp, rfl, fun j hj => by simp at hj⟩
theorem aw_one : hoB awN ⟨[eu9], [], 0, 0, 1⟩ = true ∧ hoE awN ⟨[eu9], [], 0, 0, 1⟩ = 0 := by
  have hf : FtOk [eu9] [] 0 0 1 := ⟨tr_one wd_eu, tr_nil, by decide, by decide, by decide, by decide⟩
  have hf' : Fx.Ok ⟨[eu9], [], 0, 0, 1⟩ := hf
  refine ⟨?_, ?_⟩
  · unfold hoB
    rw [if_pos ⟨aw_cond, hf'⟩, hoV_eq (ns := awN) rfl aw_ok]
    simp [val, awK, Fo.ev, Fx.vf, vfa, ndN]
  · unfold hoE
    rw [if_pos aw_cond]; exact ftE_ok hf
theorem aw_two : hoB awN ⟨[eu9], [food9], 0, 0, 1⟩ = false ∧ hoE awN ⟨[eu9], [food9], 0, 0, 1⟩ = 0 := by
  have hf : FtOk [eu9] [food9] 0 0 1 := ⟨tr_one wd_eu, tr_one wd_food, by decide, by decide, by decide, by decide⟩
  have hf' : Fx.Ok ⟨[eu9], [food9], 0, 0, 1⟩ := hf
  refine ⟨?_, ?_⟩
  · unfold hoB
    rw [if_pos ⟨aw_cond, hf'⟩, hoV_eq (ns := awN) rfl aw_ok]
    simp [val, awK, Fo.ev, Fx.vf, vfa, ndN]
  · unfold hoE
    rw [if_pos aw_cond]; exact ftE_ok hf
def bread9 : List UInt8 := [102, 111, 111, 100, 46, 98, 114, 101, 97, 100]
theorem aw_cv : cvB food9 bread9 = true := by decide +kernel
set_option maxHeartbeats 4000000 in
theorem awake13 (w : World) (hT : Tn w) : Calls Tryz.prog 9 #[] w fun e w' => e = .returned (.bool true) ∧ Below w.heap.size w w' := by
  have HT : Hid (Tn w) := hT
  clear hT
  go_enter Tryz.func9, Tryz.ntmps9
  go_upto_region 2 with fail
  refine ent1 w _ _ (Q := fun W => Code.wp _ _ _ _ W) ?_
  intro W1 hb1 hs1 V1
  have HL1 : Hid (Le elN W1 (some ⟨w.heap.size, 0, none⟩) awN.length awN) := (Ge.of (E := elN) (xs := awN) (B := 0) V1 (Nat.zero_le _) rfl rfl (by decide)).toLe
  have HB1 : Hid (Below w.heap.size w W1) := hb1
  clear V1 hb1 hs1
  go_wp2_with fail
  refine ent1 W1 _ _ (Q := fun W => Calls Tryz.prog _ _ W _) ?_
  intro W2 hb2 hs2 V2
  have B2 := step HB1.out hb2
  have HL2 : Hid (Le elN W2 (some ⟨w.heap.size, 0, none⟩) awN.length awN) := HL1.out.after hb2
  have LF : Lf W2 (some ⟨W1.heap.size, 0, none⟩) 1 none 0 ⟨[eu9], [], 0, 0, 1⟩ := ⟨(Ge.of (E := elS) (xs := [eu9]) (B := 0) V2 (Nat.zero_le _) rfl rfl (by decide)).toLe, Le.nil _ _, by constructor <;> decide, by constructor <;> decide, by constructor <;> decide⟩
  have D1 := holds_any awN (some ⟨w.heap.size, 0, none⟩) 4 (some ⟨W1.heap.size, 0, none⟩) 1 none 0 ⟨[eu9], [], 0, 0, 1⟩ W2 HL2.out aw_64 LF (HT.out.to B2)
  rw [aw_one.1, aw_one.2] at D1
  clear LF V2 hs2 hb2
  refine Calls.mono D1 ?_
  rintro e W3 ⟨rfl, hb3⟩
  have B3 := step B2 hb3
  have HL3 : Hid (Le elN W3 (some ⟨w.heap.size, 0, none⟩) awN.length awN) := HL2.out.after hb3
  clear D1 hb3 B2 HL2 HL1 HB1
  go_wp2_with fail
  refine ent2 W3 _ _ _ _ (Q := fun W => Calls Tryz.prog _ _ W _) ?_
  intro W4 hb4 hs4 V4 V5
  have B4 := step B3 hb4
  have HL4 : Hid (Le elN W4 (some ⟨w.heap.size, 0, none⟩) awN.length awN) := HL3.out.after hb4
  have LF : Lf W4 (some ⟨W3.heap.size, 0, none⟩) 1 (some ⟨W3.heap.size + 1, 0, none⟩) 1 ⟨[eu9], [food9], 0, 0, 1⟩ := ⟨(Ge.of (E := elS) (xs := [eu9]) (B := 0) V4 (Nat.zero_le _) rfl rfl (by decide)).toLe, (Ge.of (E := elS) (xs := [food9]) (B := 0) V5 (Nat.zero_le _) rfl rfl (by decide)).toLe, by constructor <;> decide, by constructor <;> decide, by constructor <;> decide⟩
  have D2 := holds_any awN (some ⟨w.heap.size, 0, none⟩) 4 (some ⟨W3.heap.size, 0, none⟩) 1 (some ⟨W3.heap.size + 1, 0, none⟩) 1 ⟨[eu9], [food9], 0, 0, 1⟩ W4 HL4.out aw_64 LF (HT.out.to B4)
  rw [aw_two.1, aw_two.2] at D2
  clear LF V4 V5 hs4 hb4
  refine Calls.mono D2 ?_
  rintro e W5 ⟨rfl, hb5⟩
  have B5 := step B4 hb5
  have D3 := covers_any food9 bread9 W5 (by decide) (by decide)
  rw [aw_cv] at D3
  clear D2 hb5 B4 B3 HL3 HL4
  go_wp2_with fail
  refine Calls.mono D3 ?_
  rintro e W6 ⟨rfl, hb6⟩
  have B6 := step B5 hb6
  clear D3 hb6 B5
  go_wp2_with fail
  go_ret
  exact ⟨rfl, B6⟩
end Go.Proofs.YtcfjgebfjgkmnaaGreatDoor
namespace Go.Proofs.YtcfjgebfjgkmnaaGreatDoor
open Go.RowKit Go.Shelf
set_option linter.unusedVariables false
set_option maxRecDepth 20000

theorem rSmall_any (c : UInt8) (w : World) : Calls Tryz.prog 33 #[.int .u8 c.toNat] w fun e w' => e = .returned (.bool (sm c)) ∧ w' = w := by
  have hs : sm c = (decide ((97 : Int) ≤ c.toNat) && decide ((c.toNat : Int) ≤ 122)) := by
    unfold sm; rw [Bool.eq_iff_iff]; simp; omega
  have HS : Hid (sm c = (decide ((97 : Int) ≤ c.toNat) && decide ((c.toNat : Int) ≤ 122))) := hs
  clear hs
  by_cases h1 : (97 : Int) ≤ c.toNat
  · by_cases h2 : (c.toNat : Int) ≤ 122
    · go_enter Tryz.func33, Tryz.ntmps33
      go_wp2_with fail
      go_ret
      exact ⟨by rw [HS.out]; simp [h1, h2], rfl⟩
    · go_enter Tryz.func33, Tryz.ntmps33
      go_wp2_with fail
      go_ret
      exact ⟨by rw [HS.out]; simp [h1, h2], rfl⟩
  · go_enter Tryz.func33, Tryz.ntmps33
    go_wp2_with fail
    go_ret
    exact ⟨by rw [HS.out]; simp; omega, rfl⟩
theorem rdigit_any (c : UInt8) (w : World) : Calls Tryz.prog 51 #[.int .u8 c.toNat] w fun e w' => e = .returned (.bool (dg c)) ∧ w' = w := by
  have hs : dg c = (decide ((48 : Int) ≤ c.toNat) && decide ((c.toNat : Int) ≤ 57)) := by
    unfold dg; rw [Bool.eq_iff_iff]; simp; omega
  have HS : Hid (dg c = (decide ((48 : Int) ≤ c.toNat) && decide ((c.toNat : Int) ≤ 57))) := hs
  clear hs
  by_cases h1 : (48 : Int) ≤ c.toNat
  · by_cases h2 : (c.toNat : Int) ≤ 57
    · go_enter Tryz.func51, Tryz.ntmps51
      go_wp2_with fail
      go_ret
      exact ⟨by rw [HS.out]; simp [h1, h2], rfl⟩
    · go_enter Tryz.func51, Tryz.ntmps51
      go_wp2_with fail
      go_ret
      exact ⟨by rw [HS.out]; simp [h1, h2], rfl⟩
  · go_enter Tryz.func51, Tryz.ntmps51
    go_wp2_with fail
    go_ret
    exact ⟨by rw [HS.out]; simp; omega, rfl⟩
theorem rwithin_any (c : UInt8) (w : World) : Calls Tryz.prog 34 #[.int .u8 c.toNat] w fun e w' => e = .returned (.bool (ip c)) ∧ w' = w := by
  have c1 := fun W => rSmall_any c W
  have c2 := fun W => rdigit_any c W
  have he := u8_eq c 95 (by omega)
  have HS : Hid (ip c = (sm c || dg c || c == 95)) := rfl
  cases h1 : sm c
  · cases h2 : dg c
    · rw [h1] at c1; rw [h2] at c2
      by_cases h3 : (c.toNat : Int) = 95
      · have HE : Hid (ip c = true) := by
          have : c = 95 := he.1 h3
          show _ = _
          rw [HS.out]; simp [this]
        clear HS h1 h2 he
        have hb : ((c.toNat : Int) == 95) = true := by simpa using h3
        clear h3
        go_enter Tryz.func34, Tryz.ntmps34
        go_wp2_with (first | (go_at_call 33; refine (c1 _).mono ?_; rintro e w' ⟨rfl, rfl⟩) | (go_at_call 51; refine (c2 _).mono ?_; rintro e w' ⟨rfl, rfl⟩))
        go_ret
        exact ⟨by rw [HE.out]; rfl, rfl⟩
      · have HE : Hid (ip c = false) := by
          have : ¬ c = 95 := fun h => h3 (he.2 h)
          show _ = _
          rw [HS.out]; simp [this, h1, h2]
        clear HS h1 h2 he
        have hb : ((c.toNat : Int) == 95) = false := by simpa using h3
        clear h3
        go_enter Tryz.func34, Tryz.ntmps34
        go_wp2_with (first | (go_at_call 33; refine (c1 _).mono ?_; rintro e w' ⟨rfl, rfl⟩) | (go_at_call 51; refine (c2 _).mono ?_; rintro e w' ⟨rfl, rfl⟩))
        go_ret
        exact ⟨by rw [HE.out]; rfl, rfl⟩
    · have HE : Hid (ip c = true) := by show _ = _; rw [HS.out]; simp [h2]
      rw [h1] at c1; rw [h2] at c2
      clear HS h1 h2 he
      go_enter Tryz.func34, Tryz.ntmps34
      go_wp2_with (first | (go_at_call 33; refine (c1 _).mono ?_; rintro e w' ⟨rfl, rfl⟩) | (go_at_call 51; refine (c2 _).mono ?_; rintro e w' ⟨rfl, rfl⟩))
      go_ret
      exact ⟨by rw [HE.out]; rfl, rfl⟩
  · have HE : Hid (ip c = true) := by show _ = _; rw [HS.out]; simp [h1]
    rw [h1] at c1
    clear HS h1 he c2
    go_enter Tryz.func34, Tryz.ntmps34
    go_wp2_with (go_at_call 33; refine (c1 _).mono ?_; rintro e w' ⟨rfl, rfl⟩)
    go_ret
    exact ⟨by rw [HE.out]; rfl, rfl⟩
theorem rpart_any (s : List UInt8) (w : World) (hl : s.length ≤ 140737488355328) :
    Calls Tryz.prog 18 #[sv s] w fun e w' => e = .returned (.int .i64 (pt s)) ∧ w' = w := by
  cases s with
  | nil =>
    go_enter Tryz.func18, Tryz.ntmps18
    go_wp2_with fail
    go_ret
    exact ⟨rfl, rfl⟩
  | cons c t =>
    have c1 := fun W => rSmall_any c W
    have HP : Hid (pt (c :: t) = if sm c then rn ip (c :: t) else 0) := rfl
    have HR : Hid (sm c = true → 1 + rn ip ((c :: t).drop 1) = rn ip (c :: t)) := by
      intro h
      show 1 + rn ip t = rn ip (c :: t)
      rw [rn, if_pos (sm_ip h)]; omega
    have hat := str_at (c :: t) 0 c rfl
    have hi : (0 : Int) < (c :: t).length := by simp
    have hn0 : ¬ ((c :: t).length : Int) = 0 := by simp; omega
    have hn0b : (((c :: t).length : Int) == 0) = false := by simpa using hn0
    have hl1 : 1 ≤ (c :: t).length := by simp
    generalize hs : c :: t = s at *
    clear hs
    cases hp : sm c
    · rw [hp] at c1
      have HE : Hid (pt s = 0) := by show _ = _; rw [HP.out, hp]; rfl
      clear HP hp HR
      go_enter Tryz.func18, Tryz.ntmps18
      go_wp2_with (go_at_call 33; refine (c1 _).mono ?_; rintro e w' ⟨rfl, rfl⟩)
      go_ret
      exact ⟨by rw [HE.out]; rfl, rfl⟩
    · rw [hp] at c1
      have HE : Hid (pt s = rn ip s) := by show _ = _; rw [HP.out, hp]; rfl
      have HR1 : Hid (1 + rn ip (s.drop 1) = rn ip s) := HR.out hp
      clear HP hp HR
      go_enter Tryz.func18, Tryz.ntmps18
      go_wp2_with fail
      refine (c1 _).mono ?_
      rintro e w' ⟨rfl, hw'⟩
      rw [hw']; clear hw' w'
      go_wp2_with fail
      go_loopw [3] (fun i wr => ∃ n : Nat, i = .int .i64 n ∧ n ≤ s.length ∧ Hid (n + rn ip (s.drop n) = rn ip s) ∧ wr = w) (fun i _ => (s.length - (intOf i).toNat : Nat))
      case atStart => exact ⟨1, rfl, hl1, HR1.out, rfl⟩
      case round =>
        clear HR1 hat c1
        obtain ⟨n, rfl, hn, HN, hw⟩ := hrel
        subst hw
        rcases Nat.lt_or_ge n s.length with hlt | hge
        · obtain ⟨x, hc, hcd⟩ := byte_at s n hlt
          have hat := str_at s n x hc
          have hi2 : (n : Int) < s.length := by omega
          have hkc := rwithin_any x
          clear hc
          cases hp : ip x
          · have HE2 : Hid ((n : Int) = rn ip s) := by
              have := HN.out
              rw [hcd, rn, hp] at this
              show _ = _
              simp at this
              omega
            rw [hp] at hkc
            clear hcd hp HN
            go_wp2_with (go_at_call 34; refine (hkc _).mono ?_; rintro e w' ⟨rfl, rfl⟩)
            go_ret
            exact ⟨by rw [HE.out, ← HE2.out]; rfl, rfl⟩
          · have HE2 : Hid ((n + 1) + rn ip (s.drop (n + 1)) = rn ip s) := by
              have := HN.out
              rw [hcd, rn, hp] at this
              show _ = _
              simp at this
              omega
            rw [hp] at hkc
            clear hcd hp HN
            go_wp2_with fail
            refine (hkc _).mono ?_
            rintro e w' ⟨rfl, hw'⟩
            rw [hw']; clear hw' w'
            go_wp2_with fail
            go_roundw
            case rel => exact ⟨n + 1, rfl, by omega, HE2.out, trivial⟩
            case measure => simp [intOf]; omega
        · obtain rfl : n = s.length := by omega
          have HE2 : Hid (rn ip s = s.length) := by
            have := HN.out
            rw [List.drop_length] at this
            show _ = _
            simp [rn] at this
            omega
          clear HN hge
          go_wp2_with fail
          go_ret
          exact ⟨by rw [HE.out, HE2.out]; rfl, rfl⟩
theorem kw_len : kwL.length = 29 := rfl
def kwC : Array Value := (kwL.map (fun l : List UInt8 => sv l)).toArray
theorem kwC_at (k : Nat) (h : k < 29) : kwC[k]? = some (sv (kwL.getD k [])) := by
  have : k < kwL.length := h
  simp [kwC, List.getD_eq_getElem?_getD, List.getElem?_eq_getElem this]
set_option maxRecDepth 10000 in
set_option maxHeartbeats 1000000 in
theorem rkept_any (s : List UInt8) (w : World) : Calls Tryz.prog 19 #[sv s] w fun e w' => e = .returned (.bool (kwL.any (fun x => x == s))) ∧ Below w.heap.size w w' := by
  obtain ⟨R, hR⟩ : ∃ R, (kwL.any (fun x => x == s)) = R := ⟨_, rfl⟩
  rw [hR]
  have HR : Hid ((kwL.drop 0).any (fun x => x == s) = R) := hR
  clear hR
  go_enter Tryz.func19, Tryz.ntmps19
  go_wp2_with fail
  refine ent1 w _ _ (Q := fun W => Code.wp _ _ _ _ W) ?_
  intro W0 hB0 hs0 V0
  have HV : Hid (Va W0 w.heap.size 9 kwC) := V0
  have HB : Hid (Below w.heap.size w W0) := hB0
  clear V0 hB0 hs0
  go_loopw [4] (fun i wr => ∃ k : Nat, i = .int .i64 k ∧ k ≤ 29 ∧ Hid ((kwL.drop k).any (fun x => x == s) = R) ∧ wr = W0) (fun i _ => (29 - (intOf i).toNat : Nat))
  case atStart => exact ⟨0, rfl, Nat.zero_le _, HR.out, rfl⟩
  case round =>
    clear HR
    obtain ⟨k, rfl, hk, HR, hw⟩ := hrel
    subst hw
    rcases Nat.lt_or_ge k 29 with hlt | hge
    · have hki : (k : Int) < 29 := by omega
      have c0 : wr.cell? ⟨w.heap.size, k, none⟩ = some (sv (kwL.getD k [])) := by rw [HV.out.cellAt k, kwC_at k hlt]
      have hdr : kwL.drop k = kwL.getD k [] :: kwL.drop (k + 1) := by
        have h' : k < kwL.length := hlt
        rw [List.drop_eq_getElem_cons h', List.getD_eq_getElem?_getD, List.getElem?_eq_getElem h']; rfl
      have HE : Hid (((kwL.getD k [] == s) || (kwL.drop (k + 1)).any (fun x => x == s)) = R) := by
        have := HR.out
        rw [hdr] at this
        exact this
      clear hdr HR
      generalize kwL.getD k [] = X at *
      cases hx : (X == s) with
      | true =>
        have HE2 : Hid (R = true) := by have := HE.out; rw [hx] at this; exact this.symm
        clear HE
        go_wp2_with fail
        go_ret
        exact ⟨by rw [HE2.out]; rfl, HB.out⟩
      | false =>
        have HE2 : Hid ((kwL.drop (k + 1)).any (fun x => x == s) = R) := by have := HE.out; rw [hx] at this; exact this
        clear HE
        go_wp2_with fail
        go_roundw
        case rel => exact ⟨k + 1, rfl, by omega, HE2.out, trivial⟩
        case measure => simp [intOf]; omega
    · obtain rfl : k = 29 := by omega
      have HE2 : Hid (R = false) := by have := HR.out; exact this.symm
      clear hge HR
      go_wp2_with fail
      go_ret
      exact ⟨by rw [HE2.out]; rfl, HB.out⟩
theorem rWord_any (s : List UInt8) (w : World) : Calls Tryz.prog 13 #[sv s] w fun e w' => e = .returned (.bool (wdB s)) ∧ Below w.heap.size w w' := by
  cases hs0 : s with
  | nil =>
    go_enter Tryz.func13, Tryz.ntmps13
    go_wp2_with fail
    go_ret
    exact ⟨rfl, Below.refl _ _⟩
  | cons c t =>
    rw [← hs0]
    have hne : s ≠ [] := by rw [hs0]; simp
    have hl0 : (0 : Int) < s.length := by rw [hs0]; simp
    clear hs0
    rcases Nat.lt_or_ge 24 s.length with h24 | h24
    · have HE : Hid (wdB s = false) := by show _ = _; unfold wdB; simp; intro h; omega
      have hi : (24 : Int) < s.length := by omega
      clear h24 hne
      go_enter Tryz.func13, Tryz.ntmps13
      go_wp2_with fail
      go_ret
      exact ⟨by rw [HE.out]; rfl, Below.refl _ _⟩
    · have hi : (s.length : Int) ≤ 24 := by omega
      have hp := fun W => rpart_any s W (by omega)
      have hk := rkept_any s
      have HW : Hid (wdB s = (decide (pt s = s.length) && !(kwL.any (fun x => x == s)))) := by show _ = _; unfold wdB; simp [hne, h24]
      generalize pt s = q at *
      by_cases hq : q = s.length
      · subst hq
        have HE : Hid (wdB s = !(kwL.any (fun x => x == s))) := by show _ = _; rw [HW.out]; simp
        clear HW h24 hne
        generalize (kwL.any (fun x => x == s)) = R at *
        go_enter Tryz.func13, Tryz.ntmps13
        go_wp2_with fail
        refine (hp _).mono ?_
        rintro e w' ⟨rfl, hw'⟩
        rw [hw']; clear hw' w' hp
        go_wp2_with fail
        refine (hk _).mono ?_
        rintro e w1 ⟨rfl, hb⟩
        go_wp2_with fail
        go_ret
        exact ⟨by rw [HE.out]; rfl, hb⟩
      · have HE : Hid (wdB s = false) := by show _ = _; rw [HW.out]; simp [hq]
        have hqb : ((q : Int) == s.length) = false := by simp; omega
        clear HW hq h24 hne
        go_enter Tryz.func13, Tryz.ntmps13
        go_wp2_with fail
        refine (hp _).mono ?_
        rintro e w' ⟨rfl, hw'⟩
        rw [hw']; clear hw' w' hp
        go_wp2_with fail
        go_ret
        exact ⟨by rw [HE.out]; rfl, Below.refl _ _⟩
end Go.Proofs.YtcfjgebfjgkmnaaGreatDoor
namespace Go.Proofs.YtcfjgebfjgkmnaaGreatDoor
open Go.RowKit Go.Shelf
set_option linter.unusedVariables false

theorem cell8 {w w' : World} (hb : Below w.heap.size w w') {b off : Nat} {l : List (List UInt8)} {n : Nat} (h : Le elS w (some ⟨b, off, none⟩) n l) {i : Nat} (hi : i < n) : w'.cell? ⟨b, off + i, none⟩ = some (sv (l.getD i [])) := by
  have := (h.after hb).at i hi 0 (sv (l.getD i [])) rfl
  simpa [elS] using this
set_option maxHeartbeats 8000000 in
theorem rparts_any (s : List UInt8) (w : World) (hl : s.length ≤ 100000000) :
    Calls Tryz.prog 12 #[sv s] w fun e w' => ∃ a' c', e = .returned (.slice a' (prt s).length c') ∧ Le elS w' a' (prt s).length (prt s) ∧ (prt s).length ≤ c' ∧ Below w.heap.size w w' := by
  obtain ⟨T, hT⟩ : ∃ T, prt s = T := ⟨_, rfl⟩
  have HT0 : Hid (([] : List (List UInt8)) ++ glue ((s.drop 0).take (0 - 0)) (prt (s.drop 0)) = T) := by
    show _ = _
    rw [List.drop_zero, Nat.sub_zero, List.take_zero, List.nil_append, glue_nil (prt_ne s), hT]
  rw [hT]
  clear hT
  go_enter Tryz.func12, Tryz.ntmps12
  go_wp2_with fail
  go_loopw [3, 4, 5] (fun v fr u wr => ∃ (f i : Nat) (out : List (List UInt8)), fr = .int .i64 f ∧ u = .int .i64 i ∧ i ≤ s.length + 1 ∧ f ≤ i ∧ out.length ≤ i ∧ Hid (∃ a c, v = .slice a out.length c) ∧ Hid ((i ≤ s.length ∧ out ++ glue ((s.drop f).take (i - f)) (prt (s.drop i)) = T) ∨ (i = s.length + 1 ∧ out = T)) ∧ Hid (Ge elS wr w.heap.size v out) ∧ Hid (Below w.heap.size w wr)) (fun _ _ u _ => (s.length + 1 - (intOf u).toNat : Nat))
  case atStart => exact ⟨0, 0, [], rfl, rfl, Nat.zero_le _, Nat.le_refl _, Nat.le_refl _, ⟨_, _, rfl⟩, .inl ⟨Nat.zero_le _, HT0.out⟩, Ge.nil _ _, Below.refl _ _⟩
  case round =>
    clear HT0
    obtain ⟨f, i, out, rfl, rfl, hi, hfi, hol, HVs, HI, HG, HB⟩ := hrel
    obtain ⟨av, cv, rfl⟩ := HVs.out
    clear HVs
    have hsz := HB.out.size
    rcases Nat.lt_or_ge i s.length with hlt | hge
    · have HE : Hid (out ++ glue ((s.drop f).take (i - f)) (prt (s.drop i)) = T) := by
        rcases HI.out with h | h
        · exact h.2
        · omega
      clear HI
      obtain ⟨x, hc, hcd⟩ := byte_at s i hlt
      have hat := str_at s i x hc
      have hii : (i : Int) ≤ (s.length : Int) := by omega
      have hi2 : (i : Int) < (s.length : Int) := by omega
      have q1 : ((i : Int) == (s.length : Int)) = false := by rw [beq_eq_false_iff_ne]; omega
      have HTK : Hid ((s.drop f).take (i + 1 - f) = (s.drop f).take (i - f) ++ [x]) := by
        show _ = _
        rw [show i + 1 - f = (i - f) + 1 by omega, List.take_add_one, List.getElem?_drop, show f + (i - f) = i by omega, hc]
        rfl
      have HCD : Hid (s.drop i = x :: s.drop (i + 1)) := hcd
      clear hc hcd
      by_cases hx : x = 46
      · subst hx
        have q2 : (((46 : UInt8).toNat : Int) == 46) = true := by decide
        have hsl := slice_mid s f i f i rfl rfl hfi (Nat.le_of_lt hlt)
        have HE2 : Hid ((out ++ [(s.drop f).take (i - f)]) ++ glue ((s.drop (i + 1)).take (i + 1 - (i + 1))) (prt (s.drop (i + 1))) = T) := by
          show _ = _
          rw [← HE.out, HCD.out, prt_cons, if_pos rfl, Nat.sub_self, List.take_zero, glue_nil (prt_ne _), List.append_assoc]
          simp [glue]
        obtain ⟨P, hP⟩ : ∃ P, (s.drop f).take (i - f) = P := ⟨_, rfl⟩
        rw [hP] at hsl HE2
        have hon : (out ++ [P]).length = out.length + 1 := by simp
        have HN : Hid (Le elS (wr.alloc (.cells #[sv P] 9)) (some ⟨wr.heap.size, 0, none⟩) 1 [P]) := Le.one (Va.new wr _ _) rfl
        clear hP HE HTK HCD
        go_wp2_with (at_builtin; refine wpList_appE rfl _ _ _ rfl elS rfl w.heap.size _ out rfl (HG.out.al _) wr.heap.size 0 1 1 [P] rfl HN.out (by omega) (by simp; omega) ?_; intro v6 w6 hg6 hgr6 hob6; obtain ⟨a6, c6, rfl, -, -, -⟩ := hg6.shape)
        have HG6 : Hid (Ge elS w6 w.heap.size (.slice a6 (out ++ [P]).length c6) (out ++ [P])) := hg6
        have HB6 : Hid (Below w.heap.size w w6) := HB.out.trans (appE_below hgr6 HG.out (by simp; omega) ((Below.refl _ _).alloc (by omega) _))
        clear hg6 hgr6 hob6 HG HB HN
        go_wp2_with fail
        go_roundw
        case rel => exact ⟨i + 1, i + 1, out ++ [P], by go_num, by go_num, by omega, Nat.le_refl _, by omega, ⟨a6, c6, by first | rfl | rw [hon]⟩, .inl ⟨by omega, HE2.out⟩, by have h9 := HG6.out; first | exact h9 | (rw [hon] at h9; exact h9), HB6.out⟩
        case measure => simp [intOf]; omega
      · have q2 : ((x.toNat : Int) == 46) = false := by
          rw [beq_eq_false_iff_ne]
          intro h
          apply hx
          apply UInt8.toNat_inj.1
          show x.toNat = 46
          omega
        have HE2 : Hid (out ++ glue ((s.drop f).take (i + 1 - f)) (prt (s.drop (i + 1))) = T) := by
          show _ = _
          rw [← HE.out, HTK.out, HCD.out, prt_cons, if_neg hx, glue_glue]
        clear HE HTK HCD hx
        go_wp2_with fail
        go_roundw
        case rel => exact ⟨f, i + 1, out, by go_num, by go_num, by omega, by omega, by omega, ⟨_, _, rfl⟩, .inl ⟨by omega, HE2.out⟩, HG.out, HB.out⟩
        case measure => simp [intOf]; omega
    · rcases Nat.lt_or_ge s.length i with hgt | hle
      · have HE : Hid (out = T) := by
          rcases HI.out with h | h
          · omega
          · exact h.2
        clear HI
        have hii : ¬ (i : Int) ≤ (s.length : Int) := by omega
        go_wp2_with fail
        go_ret
        have h9 := HG.out.toLe
        obtain ⟨a9, c9, e9, h8, -, -⟩ := HG.out.shape
        have hE := HE.out
        cases e9
        subst hE
        first | exact ⟨av, cv, rfl, h9, h8, HB.out⟩ | exact ⟨av, ⟨cv, rfl, h8⟩, h9, HB.out⟩ | exact ⟨av, ⟨cv, rfl⟩, h9, h8, HB.out⟩
      · obtain rfl : i = s.length := by omega
        have HE : Hid (out ++ [(s.drop f).take (s.length - f)] = T) := by
          rcases HI.out with h | h
          · show _ = _
            rw [← h.2, List.drop_length]; simp [prt, glue]
          · omega
        clear HI
        have hii : (s.length : Int) ≤ (s.length : Int) := Int.le_refl _
        have q1 : ((s.length : Int) == (s.length : Int)) = true := by simp
        have hsl := slice_mid s f s.length f s.length rfl rfl hfi (Nat.le_refl _)
        obtain ⟨P, hP⟩ : ∃ P, (s.drop f).take (s.length - f) = P := ⟨_, rfl⟩
        rw [hP] at hsl HE
        have hon : (out ++ [P]).length = out.length + 1 := by simp
        have HN : Hid (Le elS (wr.alloc (.cells #[sv P] 9)) (some ⟨wr.heap.size, 0, none⟩) 1 [P]) := Le.one (Va.new wr _ _) rfl
        clear hP
        go_wp2_with (at_builtin; refine wpList_appE rfl _ _ _ rfl elS rfl w.heap.size _ out rfl (HG.out.al _) wr.heap.size 0 1 1 [P] rfl HN.out (by omega) (by simp; omega) ?_; intro v6 w6 hg6 hgr6 hob6; obtain ⟨a6, c6, rfl, -, -, -⟩ := hg6.shape)
        have HG6 : Hid (Ge elS w6 w.heap.size (.slice a6 (out ++ [P]).length c6) (out ++ [P])) := hg6
        have HB6 : Hid (Below w.heap.size w w6) := HB.out.trans (appE_below hgr6 HG.out (by simp; omega) ((Below.refl _ _).alloc (by omega) _))
        clear hg6 hgr6 hob6 HG HB HN
        go_wp2_with fail
        go_roundw
        case rel => exact ⟨s.length + 1, s.length + 1, out ++ [P], by go_num, by go_num, by omega, Nat.le_refl _, by omega, ⟨a6, c6, by first | rfl | rw [hon]⟩, .inr ⟨rfl, HE.out⟩, by have h9 := HG6.out; first | exact h9 | (rw [hon] at h9; exact h9), HB6.out⟩
        case measure => first | (simp [intOf]; done) | (simp [intOf]; omega)
set_option maxHeartbeats 8000000 in
theorem rclass_any (s : List UInt8) (w : World) (hl : s.length ≤ 100000000) : Calls Tryz.prog 5 #[sv s] w (ClE s w) := by
  have C9 := rparts_any s w hl
  have hcl := clB_prt s
  have HE : Hid (∀ e w', ((clB s = false ∧ e = .returned (.tuple #[.slice none 0 0, .int .i64 140]) ∧ Below w.heap.size w w') ∨ (clB s = true ∧ ∃ a' c', e = .returned (.tuple #[.slice a' (prt s).length c', .int .i64 0]) ∧ Le elS w' a' (prt s).length (prt s) ∧ (prt s).length ≤ c' ∧ (prt s).length ≤ 8 ∧ Below w.heap.size w w')) → ClE s w e w') := fun e w' h => by
    rcases h with h | ⟨h1, h2⟩
    · exact .inl h
    · exact .inr ⟨h1, by rw [spl_of h1]; exact h2⟩
  generalize clB s = B at *
  generalize prt s = P at *
  clear hl
  have HCL : Hid (B = (decide (P.length ≤ 8) && P.all wdB)) := hcl
  clear hcl
  go_enter Tryz.func5, Tryz.ntmps5
  go_wp2_with fail
  refine C9.mono ?_
  rintro e W1 ⟨a1, c1, rfl, h1, h2, hb⟩
  have HL : Hid (Le elS W1 a1 P.length P) := h1
  have HCP : Hid (P.length ≤ c1) := h2
  have HB : Hid (Below w.heap.size w W1) := hb
  clear C9 h1 h2 hb
  rcases Nat.lt_or_ge 8 P.length with h8 | h8
  · have h8' : (8 : Int) < P.length := by omega
    have HF : Hid (B = false) := by show _ = _; rw [HCL.out]; simp; intro h; omega
    go_wp2_with fail
    go_ret2
    exact HE.out _ _ (.inl ⟨HF.out, rfl, HB.out⟩)
  · have h8' : ¬ (8 : Int) < P.length := by omega
    go_wp2_with fail
    go_loopw [5, 6] (fun j _ wr => ∃ i : Nat, j = .int .i64 i ∧ i ≤ P.length ∧ Hid ((P.take i).all wdB = true) ∧ Hid (Below W1.heap.size W1 wr)) (fun j _ _ => (P.length - (intOf j).toNat : Nat))
    case atStart => exact ⟨0, rfl, Nat.zero_le _, rfl, Below.refl _ _⟩
    case round =>
      obtain ⟨i, rfl, hi, HA, HX⟩ := hrel
      rcases Nat.lt_or_ge i P.length with hlt | hge
      · have hii : (i : Int) < P.length := by omega
        obtain ⟨b, off, rfl⟩ := HL.out.ex (by omega)
        have c0 := cell8 HX.out HL.out hlt
        obtain ⟨x, hx⟩ : ∃ x, P.getD i [] = x := ⟨_, rfl⟩
        have HXX : Hid ((P.take (i + 1)).all wdB = wdB x) := by
          show _ = _
          rw [List.take_succ_eq_append_getElem hlt, List.all_append, HA.out, ← hx, List.getD_eq_getElem?_getD, List.getElem?_eq_getElem hlt]
          simp
        have HMX : Hid (x ∈ P) := by
          show _ ∈ P
          rw [← hx, List.getD_eq_getElem?_getD, List.getElem?_eq_getElem hlt]; exact List.getElem_mem _
        rw [hx] at c0
        have D1 := rWord_any x wr
        clear hx HA
        cases hw : wdB x
        · rw [hw] at D1
          have HF : Hid (B = false) := by
            show _ = _
            rw [HCL.out, Bool.and_eq_false_iff]
            right
            rw [← Bool.not_eq_true, List.all_eq_true]
            intro h
            have := h x HMX.out
            rw [hw] at this; cases this
          clear hw HMX HXX
          go_wp2_with fail
          refine D1.mono ?_
          rintro e W2 ⟨rfl, hb2⟩
          have B2 := step HB.out (step HX.out hb2)
          clear D1 hb2 c0
          go_wp2_with fail
          go_ret2
          exact HE.out _ _ (.inl ⟨HF.out, rfl, B2⟩)
        · rw [hw] at D1 HXX
          clear hw HMX
          go_wp2_with fail
          refine D1.mono ?_
          rintro e W2 ⟨rfl, hb2⟩
          have HX2 : Hid (Below W1.heap.size W1 W2) := step HX.out hb2
          clear D1 hb2 c0 HX
          go_wp2_with fail
          go_roundw
          case rel => exact ⟨i + 1, rfl, by omega, HXX.out, HX2.out⟩
          case measure => simp [intOf]; omega
      · obtain rfl : i = P.length := by omega
        have HF : Hid (B = true) := by
          show _ = _
          have h9 := HA.out
          rw [List.take_length] at h9
          rw [HCL.out, h9]; simp [h8]
        have B2 := step HB.out HX.out
        have HL2 : Hid (Le elS wr a1 P.length P) := HL.out.after HX.out
        clear HL
        go_wp2_with fail
        go_ret2
        exact HE.out _ _ (.inr ⟨HF.out, a1, c1, rfl, HL2.out, HCP.out, h8, B2⟩)
end Go.Proofs.YtcfjgebfjgkmnaaGreatDoor
namespace Go.Proofs.YtcfjgebfjgkmnaaGreatDoor
open Go.RowKit Go.Shelf
set_option linter.unusedVariables false

set_option maxHeartbeats 8000000 in
theorem rcovers_any (o s : List UInt8) (w : World) (ho : o.length ≤ 100000000) (hs : s.length ≤ 100000000) : Calls Tryz.prog 8 #[sv o, sv s] w fun e w' => e = .returned (.bool (cvB o s)) ∧ Below w.heap.size w w' := by
  have C1 := rclass_any s w hs
  have C2 := fun W => rclass_any o W ho
  obtain ⟨R, hR⟩ : ∃ R, cvB o s = R := ⟨_, rfl⟩
  have HR : Hid (cvB o s = R) := hR
  rw [hR]
  clear hR
  go_enter Tryz.func8, Tryz.ntmps8
  go_wp2_with fail
  refine C1.mono ?_
  rintro e W1 (⟨hc, rfl, hb⟩ | ⟨hc, a1, c1, rfl, hl1, hcp1, h81, hb⟩)
  · have HF : Hid (R = false) := by show _ = _; rw [← HR.out]; simp [cvB, hc]
    clear hc C1 C2
    go_wp2_with fail
    go_ret
    exact ⟨by rw [HF.out]; rfl, hb⟩
  · have HB1 : Hid (Below w.heap.size w W1) := hb
    have HL1 : Hid (Le elS W1 a1 (spl 8 s).length (spl 8 s)) := hl1
    have D2 := C2 W1
    have HC : Hid (clB s = true) := hc
    clear hc C1 C2 hb hl1
    cases ho0 : o with
    | nil =>
      have HF : Hid (R = true) := by show _ = _; rw [← HR.out, ho0]; simp [cvB, HC.out]
      clear D2
      go_wp2_with fail
      go_ret
      exact ⟨by rw [HF.out]; rfl, HB1.out⟩
    | cons x l =>
      have hne : o ≠ [] := by rw [ho0]; simp
      rw [← ho0]
      have n1 : (o == []) = false := by simpa using hne
      have n2 : ([] == o) = false := by simpa using hne
      have HNE : Hid (o ≠ []) := hne
      clear ho0 hne
      go_wp2_with fail
      refine D2.mono ?_
      rintro e W2 (⟨hc2, rfl, hb2⟩ | ⟨hc2, a2, c2, rfl, hl2, hcp2, h82, hb2⟩)
      · have HF : Hid (R = false) := by show _ = _; rw [← HR.out]; simp [cvB, hc2, HNE.out]
        have B2 := step HB1.out hb2
        clear hc2 D2 hb2
        go_wp2_with fail
        go_ret
        exact ⟨by rw [HF.out]; rfl, B2⟩
      · have B2 := step HB1.out hb2
        have L1 := HL1.out.after hb2
        have HRV : Hid (R = (decide ((spl 8 o).length ≤ (spl 8 s).length) && decide (spl 8 o = (spl 8 s).take (spl 8 o).length))) := by show _ = _; rw [← HR.out]; simp [cvB, HC.out, hc2, HNE.out]
        generalize spl 8 o = P at *
        generalize spl 8 s = S at *
        have HP : Hid (Le elS W2 a2 P.length P) := hl2
        have HS : Hid (Le elS W2 a1 S.length S) := L1
        have HB2 : Hid (Below w.heap.size w W2) := B2
        clear hc2 D2 hb2 HL1 HR HC HNE hl2 L1 B2
        rcases Nat.lt_or_ge S.length P.length with hlt | hge
        · have hlt' : (S.length : Int) < (P.length : Int) := by omega
          have HF : Hid (R = false) := by show _ = _; rw [HRV.out]; simp; intro h; omega
          go_wp2_with fail
          go_ret
          exact ⟨by rw [HF.out]; rfl, HB2.out⟩
        · have hge' : ¬ (S.length : Int) < (P.length : Int) := by omega
          have HRV2 : Hid (R = decide (P = S.take P.length)) := by show _ = _; rw [HRV.out]; simp [hge]
          clear HRV
          go_wp2_with fail
          go_loopw [8] (fun j wr => ∃ i : Nat, j = .int .i64 i ∧ i ≤ P.length ∧ Hid (P.take i = S.take i) ∧ Hid (Below W2.heap.size W2 wr)) (fun j _ => (P.length - (intOf j).toNat : Nat))
          case atStart => exact ⟨0, rfl, Nat.zero_le _, rfl, Below.refl _ _⟩
          case round =>
            obtain ⟨i, rfl, hi, HA, HX⟩ := hrel
            rcases Nat.lt_or_ge i P.length with hlt | hge2
            · have hii : (i : Int) < P.length := by omega
              have hiS : i < S.length := by omega
              have hii2 : (i : Int) < S.length := by omega
              obtain ⟨b2, o2, rfl⟩ := HP.out.ex (by omega)
              obtain ⟨b1, o1, rfl⟩ := HS.out.ex (by omega)
              have k2 := cell8 HX.out HP.out hlt
              have k1 := cell8 HX.out HS.out hiS
              obtain ⟨x, hx⟩ : ∃ x, P.getD i [] = x := ⟨_, rfl⟩
              obtain ⟨y, hy⟩ : ∃ y, S.getD i [] = y := ⟨_, rfl⟩
              have HXX : Hid (P.take (i + 1) = P.take i ++ [x]) := by
                show _ = _
                rw [List.take_succ_eq_append_getElem hlt, ← hx, List.getD_eq_getElem?_getD, List.getElem?_eq_getElem hlt]; rfl
              have HYY : Hid (S.take (i + 1) = S.take i ++ [y]) := by
                show _ = _
                rw [List.take_succ_eq_append_getElem hiS, ← hy, List.getD_eq_getElem?_getD, List.getElem?_eq_getElem hiS]; rfl
              rw [hx] at k2
              rw [hy] at k1
              clear hx hy
              by_cases e : x = y
              · subst e
                have q1 : (x == x) = true := by simp
                have HA2 : Hid (P.take (i + 1) = S.take (i + 1)) := by show _ = _; rw [HXX.out, HYY.out, HA.out]
                clear HXX HYY HA
                go_wp2_with fail
                go_quiet (fail)
                obtain ⟨W3, hW3⟩ : ∃ W, W = wr.drewN nq := ⟨_, rfl⟩
                rw [← hW3]
                have HX3 : Hid (Below W2.heap.size W2 W3) := by rw [hW3]; exact below_drewN HX.out nq
                clear hW3 nq HX k1 k2
                go_wp2_with fail
                go_roundw
                case rel => exact ⟨i + 1, by go_num, by omega, HA2.out, HX3.out⟩
                case measure => simp [intOf]; omega
              · have q1 : (x == y) = false := by rw [beq_eq_false_iff_ne]; exact e
                have q2 : (y == x) = false := by rw [beq_eq_false_iff_ne]; exact fun h => e h.symm
                have HF : Hid (R = false) := by
                  show _ = _
                  rw [HRV2.out, decide_eq_false_iff_not]
                  intro h
                  have h1 : P.take (i + 1) = S.take (i + 1) := by
                    conv => lhs; rw [h, List.take_take, Nat.min_eq_left (by omega)]
                  rw [HXX.out, HYY.out, HA.out] at h1
                  have h2 := List.append_cancel_left h1
                  exact e (by simpa using h2)
                clear HXX HYY HA e
                go_wp2_with fail
                go_quiet (fail)
                obtain ⟨W3, hW3⟩ : ∃ W, W = wr.drewN nq := ⟨_, rfl⟩
                rw [← hW3]
                have B3 : Below w.heap.size w W3 := by rw [hW3]; exact below_drewN (step HB2.out HX.out) nq
                clear hW3 nq HX k1 k2
                go_wp2_with fail
                go_ret
                exact ⟨by rw [HF.out]; rfl, B3⟩
            · obtain rfl : i = P.length := by omega
              have HF : Hid (R = true) := by
                show _ = _
                have h9 := HA.out
                rw [List.take_length] at h9
                rw [HRV2.out, decide_eq_true_iff]; exact h9
              have B3 := step HB2.out HX.out
              clear HX
              go_wp2_with fail
              go_ret
              exact ⟨by rw [HF.out]; rfl, B3⟩
set_option maxHeartbeats 8000000 in
theorem classes_walk (o s : List UInt8) (w : World) (ho : o.length ≤ 1048576) (hs : s.length ≤ 1048576) (hT : Tn w) :
    Calls Tryz.prog 3 #[sv o, sv s] w fun e w' => e = .returned (.bool true) ∧ Below w.heap.size w w' := by
  have HT : Hid (Tn w) := hT
  clear hT
  obtain ⟨X, hX⟩ : ∃ x, cvB o s = x := ⟨_, rfl⟩
  obtain ⟨Y, hY⟩ : ∃ x, cvB s o = x := ⟨_, rfl⟩
  have C1 := fun W => covers_any o s W (by omega) (by omega)
  have C2 := fun W => rcovers_any o s W (by omega) (by omega)
  have C3 := fun W => covers_any s o W (by omega) (by omega)
  have C4 := fun W => rcovers_any s o W (by omega) (by omega)
  have A1 := class_any s w (by omega)
  have A2 := fun W => rclass_any s W (by omega)
  simp only [hX, hY] at C1 C2 C3 C4
  have qX : (X == X) = true := by simp
  have qY : (Y == Y) = true := by simp
  clear hX hY ho hs
  go_enter Tryz.func3, Tryz.ntmps3
  go_wp2_with fail
  refine A1.mono ?_
  rintro e W1 (⟨hc, rfl, B⟩ | ⟨hc, a1, c1, rfl, hl1, -, h8, B⟩)
  · have D := A2 W1
    clear A1 A2
    go_wp2_with fail
    refine D.mono ?_
    rintro e W2 (⟨hc2, rfl, hb⟩ | ⟨hc2, -⟩)
    rotate_left
    · rw [hc] at hc2; cases hc2
    replace B := step B hb
    have D3 := sameTexts_eq [] none 0 none 0 W2 (Le.nil _ _) (Le.nil _ _) (by decide)
    clear hb hc hc2 D
    go_wp2_with fail
    refine Calls.mono D3 ?_
    rintro e W3 ⟨rfl, hb⟩
    replace B := step B hb
    clear hb D3
    go_wp2_with fail
    refine Calls.mono (C1 W3) ?_
    rintro e W4 ⟨rfl, hb⟩
    replace B := step B hb
    clear hb
    go_wp2_with fail
    refine Calls.mono (C2 W4) ?_
    rintro e W5 ⟨rfl, hb⟩
    replace B := step B hb
    clear hb
    go_wp2_with fail
    refine Calls.mono (C3 W5) ?_
    rintro e W6 ⟨rfl, hb⟩
    replace B := step B hb
    clear hb
    go_wp2_with fail
    refine Calls.mono (C4 W6) ?_
    rintro e W7 ⟨rfl, hb⟩
    replace B := step B hb
    clear hb
    have D9 := awake13 W7 (HT.out.to B)
    go_wp2_with fail
    refine Calls.mono D9 ?_
    rintro e W8 ⟨rfl, hb⟩
    replace B := step B hb
    clear D9 hb C1 C2 C3 C4
    go_wp2_with fail
    go_ret
    exact ⟨rfl, B⟩
  · have D := A2 W1
    have HL1 : Hid (Le elS W1 a1 (spl 8 s).length (spl 8 s)) := hl1
    clear A1 A2 hl1
    go_wp2_with fail
    refine D.mono ?_
    rintro e W2 (⟨hc2, -⟩ | ⟨hc2, a2, c2, rfl, hl2, -, -, hb⟩)
    · rw [hc] at hc2; cases hc2
    replace B := step B hb
    have D3 := sameTexts_eq (spl 8 s) a1 c1 a2 c2 W2 (HL1.out.after hb) hl2 (by omega)
    clear hb hc hc2 D HL1 hl2
    generalize spl 8 s = P at *
    go_wp2_with fail
    refine Calls.mono D3 ?_
    rintro e W3 ⟨rfl, hb⟩
    replace B := step B hb
    clear hb D3
    go_wp2_with fail
    refine Calls.mono (C1 W3) ?_
    rintro e W4 ⟨rfl, hb⟩
    replace B := step B hb
    clear hb
    go_wp2_with fail
    refine Calls.mono (C2 W4) ?_
    rintro e W5 ⟨rfl, hb⟩
    replace B := step B hb
    clear hb
    go_wp2_with fail
    refine Calls.mono (C3 W5) ?_
    rintro e W6 ⟨rfl, hb⟩
    replace B := step B hb
    clear hb
    go_wp2_with fail
    refine Calls.mono (C4 W6) ?_
    rintro e W7 ⟨rfl, hb⟩
    replace B := step B hb
    clear hb
    have D9 := awake13 W7 (HT.out.to B)
    go_wp2_with fail
    refine Calls.mono D9 ?_
    rintro e W8 ⟨rfl, hb⟩
    replace B := step B hb
    clear D9 hb C1 C2 C3 C4
    go_wp2_with fail
    go_ret
    exact ⟨rfl, B⟩
end Go.Proofs.YtcfjgebfjgkmnaaGreatDoor
namespace Go.Proofs.YtcfjgebfjgkmnaaGreatDoor
open Go.RowKit Go.Shelf
set_option linter.unusedVariables false

theorem n64_of_ok : ∀ (a : Fo) (o : Int) (d : Nat), a.Ok wdB o d → a.flat.length ≤ 64 → (∀ n ∈ a.flat, N64 n) → ∀ neg, ∀ n ∈ (a.plain neg).flat, N64 n
  | .nil, _, _, _, _, _, _, n, hn => by simp [Fo.plain, Fo.flat] at hn
  | .cons n k r, o, d, h, hl, h6, neg, m, hm => by
    simp only [Fo.flat, List.length_cons, List.length_append] at hl
    have hr := n64_of_ok r o d h.2 (by omega) (fun x hx => h6 x (by simp [Fo.flat, hx])) neg
    have hkk := fun ng => n64_of_ok k n.kd (d + 1) h.1.2.2.2.2 (by omega) (fun x hx => h6 x (by simp [Fo.flat, hx])) ng
    have hn6 : N64 n := h6 n (by simp [Fo.flat])
    have hlen := plain_len k neg _ _ h.1.2.2.2.2
    unfold Fo.plain at hm
    rw [Fo.flat_app, List.mem_append] at hm
    rcases hm with hm | hm
    · have hin : ∀ (c : Int) (a : Fo), ∀ x ∈ (a.melt c).flat, x ∈ a.flat := by
        intro c a
        induction a with
        | nil => intro x hx; exact hx
        | cons n' k' r' _ ih =>
          intro x hx
          unfold Fo.melt at hx
          split at hx
          · rw [Fo.flat_app, List.mem_append] at hx
            simp only [Fo.flat, List.mem_cons, List.mem_append]
            rcases hx with hx | hx
            · exact .inr (.inl hx)
            · exact .inr (.inr (ih x hx))
          · simp only [Fo.flat, List.mem_cons, List.mem_append] at hx ⊢
            rcases hx with hx | hx | hx
            · exact .inl hx
            · exact .inr (.inl hx)
            · exact .inr (.inr (ih x hx))
      split at hm
      · rename_i e
        simp only [Fo.flat, List.mem_cons, List.append_nil] at hm
        rcases hm with rfl | hm
        · intro x hx
          have h1 := Fo.len_flat ((k.plain neg).melt (if neg = true then 3 - n.kd else n.kd))
          have h2 := melt_size (if neg = true then 3 - n.kd else n.kd) (k.plain neg)
          have h3 := plain_size k neg
          simp only [List.mem_cons, List.not_mem_nil, or_false] at hx
          rcases hx with rfl | rfl | rfl | rfl | rfl
          · split <;> omega
          all_goals omega
        · exact hkk neg m (hin _ _ m hm)
      split at hm
      · exact hkk (!neg) m hm
      split at hm
      · split at hm
        · simp [Fo.flat] at hm
          rcases hm with rfl | rfl
          · intro x hx; simp [ndN] at hx; omega
          · exact hn6
        · simp [Fo.flat] at hm
          rw [hm]; exact hn6
      · rename_i e1 e2 e3
        simp [Fo.flat] at hm
        rw [hm]
        split
        · intro x hx
          have h4 : 1 ≤ n.op ∧ n.op ≤ 4 := by
            rcases h.1.1 with ⟨h', -⟩ | ⟨h', -⟩ | ⟨h', -⟩ | ⟨-, -, -, h1, h2, -⟩
            · exact absurd h' e1
            · exact absurd h' e2
            · exact absurd h' e3
            · exact ⟨h1, h2⟩
          simp only [List.mem_cons, List.not_mem_nil, or_false] at hx
          rcases hx with rfl | rfl | rfl | rfl | rfl
          · exact hn6 _ (by simp)
          · exact hn6 _ (by simp)
          · omega
          · exact hn6 _ (by simp)
          · exact hn6 _ (by simp)
        · exact hn6
    · exact hr m hm
/-- All that is asked of a condition made plain. -/
structure Pln (ns out : List Nd) : Prop where
  c1 : Cond wdB ns
  c2 : Cond wdB out
  pl : ∀ o e, PlR out o e → o = out ∧ e = 0
  sg : sgl out = true
  n6 : ∀ n ∈ out, N64 n
  l : out.length ≤ 64
  em : (out.length = 0) ↔ (ns.length = 0)
  hB : ∀ f : Fx, hoB ns f = hoB out f
  hE : ∀ f : Fx, hoE ns f = hoE out f
  n4 : nms 4 ns = nms 4 out
  n5 : nms 5 ns = nms 5 out
theorem cond_nil : Cond wdB [] := .inl rfl
theorem hoE_of {ns out : List Nd} (h1 : Cond wdB ns) (h2 : Cond wdB out) (f : Fx) : hoE ns f = hoE out f := by simp [hoE, h1, h2]
theorem pln_of {ns out : List Nd} {er : Int} (h : PlR ns out er) (he : er = 0) (h6 : ∀ n ∈ ns, N64 n) : Pln ns out := by
  rcases h with ⟨-, -, h⟩ | ⟨rfl, rfl, -⟩ | ⟨n, k, e, ok, hl, h⟩
  · omega
  · refine ⟨cond_nil, cond_nil, ?_, rfl, by simp, by simp, Iff.rfl, fun f => rfl, fun f => rfl, rfl, rfl⟩
    rintro o e (⟨h, -⟩ | ⟨-, rfl, rfl⟩ | ⟨n, k, h, -⟩)
    · exact absurd cond_nil h
    · exact ⟨rfl, rfl⟩
    · simp [Fo.flat] at h
  · rcases h with ⟨-, -, h⟩ | ⟨hp, rfl, -⟩
    · omega
    · obtain ⟨m, j, e1, ok2, pid, sg, hev, hnm⟩ := plain_all ok
      have h6' := n64_of_ok _ _ _ ok (by rw [← e]; exact hl) (by rw [← e]; exact h6) false
      rw [e1] at hp h6' ⊢
      have c1 : Cond wdB ns := .inr ⟨hl, n, k, e, ok⟩
      have c2 : Cond wdB (Fo.cons m j .nil).flat := .inr ⟨hp, m, j, rfl, ok2⟩
      refine ⟨c1, c2, ?_, sg, h6', hp, ?_, ?_, fun f => hoE_of c1 c2 f, ?_, ?_⟩
      · rintro o er (⟨h, -⟩ | ⟨h, -⟩ | ⟨n', k', h, ok', -, h'⟩)
        · exact absurd c2 h
        · simp [Fo.flat] at h
        · have := (flat_inj _ _ _ _ _ _ [] [] ok2 ok' rfl (by rw [h])).1
          rw [← this, pid] at h'
          rcases h' with ⟨h', -⟩ | ⟨-, rfl, rfl⟩
          · omega
          · exact ⟨rfl, rfl⟩
      · rw [e]; simp [Fo.flat]
      · intro f
        unfold hoB
        by_cases hf : f.Ok
        · rw [if_pos ⟨c1, hf⟩, if_pos ⟨c2, hf⟩, hoV_eq e ok, hoV_eq rfl ok2]
          have := hev f.vf (vfa_turns _ _ _ _)
          rw [ev_cons, ev_cons] at this
          simp only [List.cons.injEq] at this
          exact this.1.symm
        · rw [if_neg (fun h => hf h.2), if_neg (fun h => hf h.2)]
      · rw [e]; exact (hnm 4 (.inl rfl)).symm
      · rw [e]; exact (hnm 5 (.inr rfl)).symm
theorem plr_bad {ns out : List Nd} {er : Int} (h : PlR ns out er) (he : er ≠ 0) : out = [] ∧ ((er = 3 ∧ Cond wdB ns) ∨ (er = 131 ∧ ¬ Cond wdB ns)) := by
  rcases h with ⟨h, rfl, rfl⟩ | ⟨-, -, h⟩ | ⟨n, k, e, ok, hl, h⟩
  · exact ⟨rfl, .inr ⟨rfl, h⟩⟩
  · exact absurd h he
  · rcases h with ⟨-, rfl, rfl⟩ | ⟨-, -, h⟩
    · exact ⟨rfl, .inl ⟨rfl, .inr ⟨hl, n, k, e, ok⟩⟩⟩
    · exact absurd h he
end Go.Proofs.YtcfjgebfjgkmnaaGreatDoor
namespace Go.Proofs.YtcfjgebfjgkmnaaGreatDoor
open Go.RowKit Go.Shelf
set_option linter.unusedVariables false

theorem len_srt (l : List (List UInt8)) : (srt l).length ≤ l.length := by
  unfold srt
  exact Nat.le_trans (compact_le _) (by rw [List.length_mergeSort]; exact Nat.le_refl _)
theorem len_nms (c : Int) (l : List Nd) : (nms c l).length ≤ l.length := by
  unfold nms
  rw [List.length_map]; exact List.length_filter_le _ _
theorem cond_len {ns : List Nd} (h : Cond wdB ns) : ns.length ≤ 64 := by
  rcases h with rfl | h
  · simp
  · exact h.1
end Go.Proofs.YtcfjgebfjgkmnaaGreatDoor
namespace Go.Proofs.YtcfjgebfjgkmnaaGreatDoor
open Go.ChangeShapes Go.WideShapes Go.ChangeAt Go.RowKit
set_option linter.unusedVariables false

theorem gTens : Tryz.prog.globalNamed "tollbook/decimal.tens" = some 0 := by kernel_rfl
theorem gTensT : (Tryz.prog.globals[0]?).map (·.type) = some 87 := by kernel_rfl
theorem cTens : Tryz.prog.cellsOf 87 = 10 := by kernel_rfl
theorem cI64 : Tryz.prog.cellsOf 2 = 1 := by kernel_rfl
theorem tnOf {W : World} {rest : List (String × DataW Unit)} (h : laidMet Tryz.prog (("tollbook/decimal.tens", Rows.laid_tollbook_decimal_tens) :: rest) W) : Tn W :=
  Go.Lib.tabIs_of_head (zs := [1, 10, 100, 1000, 10000, 100000, 1000000, 10000000, 100000000, 1000000000]) gTens gTensT Tryz.underlying87 Tryz.underlying2 cI64 cTens h
theorem list5 {α : Type} {l : List α} (h : l.length = 5) : ∃ a b c d e, l = [a, b, c, d, e] := by
  match l, h with
  | [a, b, c, d, e], _ => exact ⟨a, b, c, d, e, rfl⟩
theorem list6 {α : Type} {l : List α} (h : l.length = 6) : ∃ a b c d e f, l = [a, b, c, d, e, f] := by
  match l, h with
  | [a, b, c, d, e, f], _ => exact ⟨a, b, c, d, e, f, rfl⟩
theorem B64_of_wf {x : Int} (h : (Lit.int .i64 x).wf = true) : -9223372036854775808 ≤ x ∧ x ≤ 9223372036854775807 := by
  simp [Lit.wf, IntKind.min, IntKind.max, IntKind.signed, IntKind.bits] at h
  omega
theorem sv_of (s : ByteArray) : Value.string s = sv s.data.toList := by simp [sv]
instance : Inhabited Nd := ⟨nd0⟩
theorem cNode : Tryz.prog.cellsOf 38 = 6 := by kernel_rfl
section
variable {H : Type} {enc : TypeId × Value → H} {W : World} {sp : Nat → Bool} {hd : Bool}
theorem node_open {n : Nat} {cs : List Value} {y : DataW H × List MemPlace} (h2 : DataW.trod enc Tryz.prog W 0 sp hd n 38 cs = some y) : ∃ nd : Nd, cs = encN nd ∧ N64 nd := by
  obtain ⟨xs, k, _, _, hl, hxl, hf⟩ := DataW.trod_struct Tryz.underlying38 h2
  obtain ⟨v0, v1, v2, v3, v4, v5, rfl⟩ := list6 (hl.trans cNode)
  obtain ⟨y0, y1, y2, y3, y4, rfl⟩ := list5 hxl
  have g0 := hf 0 _ rfl
  have g1 := hf 1 _ rfl
  have g2 := hf 2 _ rfl
  have g3 := hf 3 _ rfl
  have g4 := hf 4 _ rfl
  have e1 : Tryz.prog.cellsOf 33 = 1 := by kernel_rfl
  have e2 : Tryz.prog.cellsOf 3 = 1 := by kernel_rfl
  have e3 : Tryz.prog.cellsOf 9 = 1 := by kernel_rfl
  have e4 : Tryz.prog.cellsOf 34 = 1 := by kernel_rfl
  have e5 : Tryz.prog.cellsOf 36 = 2 := by kernel_rfl
  simp [e1, e2, e3, e4, e5] at g0 g1 g2 g3 g4
  obtain ⟨kd, h0, -, w0⟩ := DataW.trod_int Tryz.underlying33 g0
  obtain ⟨ks, h1, -, w1⟩ := DataW.trod_int Tryz.underlying3 g1
  obtain ⟨nm, h2', -, -⟩ := DataW.trod_string Tryz.underlying9 g2
  obtain ⟨op, h3, -, w3⟩ := DataW.trod_int Tryz.underlying34 g3
  obtain ⟨xs5, k5, _, _, hl5, hxl5, hf5⟩ := DataW.trod_struct Tryz.underlying36 g4
  have q0 := hf5 0 _ rfl
  have q1 := hf5 1 _ rfl
  have e6 : Tryz.prog.cellsOf 2 = 1 := by kernel_rfl
  have hx5 : xs5.length = 2 := hxl5
  match xs5, hx5 with
  | [z0, z1], _ =>
    simp [e6, e2] at q0 q1
    obtain ⟨un, h4, -, w4⟩ := DataW.trod_int Tryz.underlying2 q0
    obtain ⟨pl, h5, -, w5⟩ := DataW.trod_int Tryz.underlying3 q1
    simp at h0 h1 h2' h3 h4 h5
    subst h0 h1 h2' h3 h4 h5
    refine ⟨⟨kd, ks, nm.data.toList, op, un, pl⟩, by simp [encN, sv], ?_⟩
    intro x hx
    simp only [List.mem_cons, List.not_mem_nil, or_false] at hx
    rcases hx with rfl | rfl | rfl | rfl | rfl
    · exact B64_of_wf w0
    · exact B64_of_wf w1
    · exact B64_of_wf w3
    · exact B64_of_wf w4
    · exact B64_of_wf w5
theorem open_nodes {a : Option Addr} {len cap : Nat} {d : DataW H} {p : List MemPlace} (h : DataW.Trod enc Tryz.prog W 0 sp hd 39 (.slice a len cap) d p) :
    ∃ ns : List Nd, Le elN W a len ns ∧ (∀ n ∈ ns, N64 n) := by
  obtain ⟨fuel, hf⟩ := h
  rcases Go.Deep.open_slice Tryz.underlying39 hf with ⟨hcs, _⟩ | ⟨ad, l, c, m, n, D, Pl, hcs, _, hl, hm, hmm, _, hx⟩
  · simp [Value.cells] at hcs
    obtain ⟨rfl, rfl, rfl⟩ := hcs
    exact ⟨[], Le.nil _ _, fun n hn => by simp at hn⟩
  · simp [Value.cells] at hcs
    obtain ⟨rfl, rfl, rfl⟩ := hcs
    have hlm : len ≤ m := by rw [hmm]; split <;> omega
    have each : ∀ i, i < len → ∃ nd : Nd, (∀ j u, (encN nd)[j]? = some u → W.cell? ((ad.add (i * 6)).add j) = some u) ∧ N64 nd := by
      intro i hi
      obtain ⟨cs', h1, h2⟩ := hx i (by omega)
      rw [cNode] at h1
      obtain ⟨nd, rfl, h6⟩ := node_open h2
      obtain ⟨_, hlen, hcell⟩ := World.cells?_some h1
      refine ⟨nd, fun j u hj => ?_, h6⟩
      have hj6 : j < 6 := by
        rcases Nat.lt_or_ge j 6 with h' | h'
        · exact h'
        · rw [List.getElem?_eq_none (by exact h')] at hj; cases hj
      have := hcell j hj6
      rw [this, hj]
    obtain ⟨Q, hQ⟩ := Go.Deep.choose_lt each
    refine ⟨(List.range len).map Q, ⟨by simp, fun h0 => ?_⟩, fun n hn => ?_⟩
    · obtain ⟨b, off, spot⟩ := ad
      have hspot : spot = none := by
        have := (hQ 0 h0).1 0 _ rfl
        simpa [Addr.add] using World.cell?_spot this
      subst hspot
      refine ⟨b, off, rfl, fun i u hu => ?_⟩
      have hlen : (rowE elN ((List.range len).map Q)).length = len * 6 := by rw [rowE_length]; simp; rfl
      have hi : i < len * 6 := by
        rcases Nat.lt_or_ge i (rowE elN ((List.range len).map Q)).length with h' | h'
        · omega
        · rw [List.getElem?_eq_none h'] at hu; cases hu
      have hq := rowE_get elN (i % 6) (Nat.mod_lt _ (by decide)) ((List.range len).map Q) (i / 6) (by simp; omega)
      rw [show i / 6 * elN.s + i % 6 = i by show i / 6 * 6 + i % 6 = i; omega, hu] at hq
      have hg : ((List.range len).map Q).getD (i / 6) elN.dft = Q (i / 6) := by simp [show i / 6 < len by omega]
      rw [hg] at hq
      have := (hQ (i / 6) (by omega)).1 (i % 6) u hq.symm
      rw [Go.WideShapes.add_plain, Go.WideShapes.add_plain] at this
      rw [← this]
      congr 2
      omega
    · simp only [List.mem_map, List.mem_range] at hn
      obtain ⟨i, hi, rfl⟩ := hn
      exact (hQ i hi).2
theorem texts_open {n : Nat} {cs : List Value} {y : DataW H × List MemPlace} (h : DataW.trod enc Tryz.prog W 0 sp hd n 22 cs = some y) : ∃ (a : Option Addr) (c : Nat) (l : List (List UInt8)), cs = [.slice a l.length c] ∧ Le elS W a l.length l := by
  rcases open_strings Tryz.underlying22 Tryz.underlying9 (by kernel_rfl) h with ⟨hcs, _⟩ | ⟨ad, l, c, ss, hcs, _, hl, hm, hz, hx, hcell, _⟩
  · exact ⟨none, 0, [], hcs, Le.nil _ _⟩
  · have hzl : l ≤ ss.length := by rw [hz]; split <;> omega
    have hll : ((ss.take l).map (fun s : ByteArray => s.data.toList)).length = l := by simp; omega
    refine ⟨some ad, c, (ss.take l).map (fun s : ByteArray => s.data.toList), by rw [hll]; exact hcs, rfl, fun h0 => ?_⟩
    rw [hll] at h0
    obtain ⟨b, off, spot⟩ := ad
    have hspot : spot = none := by
      have := hcell 0 (by omega)
      simpa [Addr.add] using World.cell?_spot this
    subst hspot
    refine ⟨b, off, rfl, fun i u hu => ?_⟩
    have hi : i < l := by
      rcases Nat.lt_or_ge i (rowE elS ((ss.take l).map (fun s : ByteArray => s.data.toList))).length with h' | h'
      · rw [rowE_length, hll] at h'
        have h'' : i < l * 1 := h'
        omega
      · rw [List.getElem?_eq_none h'] at hu; cases hu
    have hq := rowE_get elS 0 (by decide) ((ss.take l).map (fun s : ByteArray => s.data.toList)) i (by rw [hll]; exact hi)
    rw [show i * elS.s + 0 = i by show i * 1 + 0 = i; omega, hu] at hq
    have hg : ((ss.take l).map (fun s : ByteArray => s.data.toList)).getD i elS.dft = (ss.getD i ByteArray.empty).data.toList := by
      rw [List.getD_eq_getElem?_getD, List.getElem?_map, List.getElem?_take_of_lt hi, List.getD_eq_getElem?_getD, List.getElem?_eq_getElem (by omega)]; rfl
    rw [hg] at hq
    have e : u = sv (ss.getD i ByteArray.empty).data.toList := by simpa [elS] using hq
    have := hcell i (by omega)
    rw [Go.WideShapes.add_plain] at this
    rw [this, e, sv_of]
set_option maxRecDepth 100000 in
theorem open_facts {r : Reach} {b0 : Nat} {v : Value} {d : DataW H} {p : List MemPlace} (hv : Value.okWide Tryz.prog W r b0 43 v) (h : DataW.Trod enc Tryz.prog W 0 sp hd 43 v d p) :
    ∃ (a1 : Option Addr) (c1 : Nat) (a2 : Option Addr) (c2 : Nat) (f : Fx), v = fxv a1 c1 a2 c2 f ∧ Lf W a1 c1 a2 c2 f := by
  obtain ⟨cs, rfl, hsz⟩ := okWide_struct Tryz.underlying43 hv
  obtain ⟨fuel, hf⟩ := h
  obtain ⟨xs, k, _, _, hl, hxl, hf⟩ := DataW.trod_struct Tryz.underlying43 hf
  have hC : Tryz.prog.cellsOf 43 = 5 := by kernel_rfl
  have hcl : (Value.agg cs).cells.toList.length = 5 := hl.trans hC
  obtain ⟨v0, v1, v2, v3, v4, hcs⟩ := list5 hcl
  have hcs' : cs.toList = [v0, v1, v2, v3, v4] := hcs
  obtain rfl : cs = #[v0, v1, v2, v3, v4] := by rw [← hcs']
  obtain ⟨y0, y1, y2, y3, y4, rfl⟩ := list5 hxl
  have g0 := hf 0 _ rfl
  have g1 := hf 1 _ rfl
  have g2 := hf 2 _ rfl
  have g3 := hf 3 _ rfl
  have g4 := hf 4 _ rfl
  have e1 : Tryz.prog.cellsOf 22 = 1 := by kernel_rfl
  have e2 : Tryz.prog.cellsOf 3 = 1 := by kernel_rfl
  have e3 : Tryz.prog.cellsOf 2 = 1 := by kernel_rfl
  rw [hcs] at g0 g1 g2 g3 g4
  simp [e1, e2, e3] at g0 g1 g2 g3 g4
  obtain ⟨a1, c1, l1, h0, L1⟩ := texts_open g0
  obtain ⟨a2, c2, l2, h1, L2⟩ := texts_open g1
  obtain ⟨am, h2, -, w2⟩ := DataW.trod_int Tryz.underlying2 g2
  obtain ⟨dg, h3, -, w3⟩ := DataW.trod_int Tryz.underlying3 g3
  obtain ⟨qt, h4, -, w4⟩ := DataW.trod_int Tryz.underlying2 g4
  simp at h0 h1 h2 h3 h4
  subst h0 h1 h2 h3 h4
  exact ⟨a1, c1, a2, c2, ⟨l1, l2, am, dg, qt⟩, rfl, L1, L2, B64_of_wf w2, B64_of_wf w3, B64_of_wf w4⟩
end
end Go.Proofs.YtcfjgebfjgkmnaaGreatDoor
namespace Go.Proofs.YtcfjgebfjgkmnaaGreatDoor
open Go.ChangeShapes

theorem bulk_lits {H : Type} : ∀ zs : List Int, Rows.uptoBulkAll (lits (H := H) .u64 zs) = zs.length
  | [] => rfl
  | z :: r => by
    have ih := bulk_lits (H := H) r
    simp only [lits, List.map_cons, Rows.uptoBulkAll, Rows.uptoBulk, List.length_cons] at ih ⊢
    omega
theorem bulk_row {H : Type} (zs : List Int) (n : Nat) : Rows.uptoBulk (DataW.slice (lits (H := H) .u64 (zs.take n)) (lits .u64 (zs.drop n))) = zs.length + 1 := by
  simp only [Rows.uptoBulk, bulk_lits, List.length_take, List.length_drop]
  omega
end Go.Proofs.YtcfjgebfjgkmnaaGreatDoor
namespace Go.Proofs.YtcfjgebfjgkmnaaGreatDoor
set_option linter.unusedVariables false
theorem traitClasses_walk0 (s0 s1 : ByteArray) (w : World) (b0 : s0.data.toList.length ≤ 1048576) (b1 : s1.data.toList.length ≤ 1048576) (hT : Tn w) :
    Calls Tryz.prog 3 #[.string s0, .string s1] w fun e w' => e = .returned (.bool true) ∧ RowKit.Below w.heap.size w w' := by
  have e : ∀ s : ByteArray, Value.string s = sv s.data.toList := fun s => by unfold sv; rw [Array.toArray_toList]
  rw [e s0, e s1]
  exact classes_walk _ _ w b0 b1 hT
end Go.Proofs.YtcfjgebfjgkmnaaGreatDoor
namespace Go.Proofs.YtcfjgebfjgkmnaaGreatDoor.traitClasses
open Go.ChangeShapes Go.WideShapes Go.ChangeAt Go.RowKit
set_option linter.unusedVariables false

theorem own : ownKnob Tryz.prog.godebug = none := by kernel_rfl
theorem laidOut : laidOutB Tryz.prog = true := by kernel_rfl
theorem bytes8 : Tryz.prog.bytesOf 100 = 8 := by kernel_rfl

set_option maxRecDepth 100000 in
theorem contract (H : Type) (enc : TypeId × Value → H) (W : World) (base : Nat) (args : Array Value) (ds gs : List (DataW H)) (before : List MemPlace)
    (hval : ∀ (j : Nat) t v, Tryz.f3.params[j]? = some t → args[j]? = some v → Value.okWide Tryz.prog W .any base t v)
    (hW : DataW.Whole enc Tryz.prog Tryz.f3.params.toList Rows.traitClassesSpec.vars false W args.toList ds gs before) (hk : Rows.uptoSmall H (ds ++ gs) = true) (hL0 : laidMetH Tryz.prog Rows.traitClassesUptoRow.laid W) :
    Calls Tryz.prog 3 args W fun e W' => ∃ v, e = .returned v ∧ Rows.traitClassesSpec.post enc Tryz.prog Tryz.f3 false true false false W args v W' := by
  rw [MakeChecks.laidMetH_plain _ _ _ (by kernel_rfl)] at hL0
  have tb0 := by first | exact tnOf hL0 | exact tnOf hL0.tail | exact tnOf hL0.tail.tail | exact tnOf hL0.tail.tail.tail | exact tnOf hL0.tail.tail.tail.tail | exact tnOf hL0.tail.tail.tail.tail.tail | exact tnOf hL0.tail.tail.tail.tail.tail.tail | exact tnOf hL0.tail.tail.tail.tail.tail.tail.tail
  have hW' := hW
  obtain ⟨p, q, hA0, hV, rfl, hfz, hnd⟩ := hW
  have hA : DataW.TrodAll enc Tryz.prog W 0 (fun _ => true) true Tryz.f3.params.toList args.toList ds p := hA0
  rw [Tryz.params3] at hA hval
  obtain ⟨v0, vs0, d0, ds0, p0, q0, hargs, rfl, rfl, h0, r0⟩ := trodAll_cons hA
  obtain ⟨v1, vs1, d1, ds1, p1, q1, rfl, rfl, rfl, h1, r1⟩ := trodAll_cons r0
  obtain ⟨rfl, rfl, rfl⟩ := trodAll_nil r1
  obtain rfl : args = #[v0, v1] := by cases args; simp_all
  obtain ⟨rfl, rfl⟩ := trodVars_none hV
  obtain ⟨s0, rfl, rfl, rfl, hs0⟩ := Go.ChangeMaps.open_string Tryz.underlying9 (hval 0 9 v0 rfl rfl) h0
  have b0 : s0.data.toList.length ≤ 1048576 := by
    have hb : Rows.uptoBulkAll _ ≤ 1048576 := of_decide_eq_true hk
    simp [Rows.uptoBulkAll, Rows.uptoBulk] at hb ⊢
    omega
  obtain ⟨s1, rfl, rfl, rfl, hs1⟩ := Go.ChangeMaps.open_string Tryz.underlying9 (hval 1 9 v1 rfl rfl) h1
  have b1 : s1.data.toList.length ≤ 1048576 := by
    have hb : Rows.uptoBulkAll _ ≤ 1048576 := of_decide_eq_true hk
    simp [Rows.uptoBulkAll, Rows.uptoBulk] at hb ⊢
    omega
  clear hA0
  refine (traitClasses_walk0 s0 s1 W b0 b1 tb0).mono fun e W' ⟨he, bel⟩ => ?_
  subst he
  exact ⟨_, rfl, _, _, _, [], _, [], hW', trodAll_mk1 (shut_bool Tryz.underlying4 _), (trodAll_cons_mk (Go.ChangeMaps.shut_string Tryz.underlying9 hs0) (trodAll_cons_mk (Go.ChangeMaps.shut_string Tryz.underlying9 hs1) trodAll_mk0)), rfl, bel.frame _, fun h => by cases h⟩

set_option maxRecDepth 100000 in
theorem reads (os : Os) {H : Type} (enc : TypeId × Value → H) : DataW.whole enc Tryz.prog ((World.laidAll Tryz.prog os Rows.traitClassesUptoRow.laid).forCall (fun _ _ => 0) ⟨#[], #[.string ⟨#[]⟩, .string ⟨#[]⟩], []⟩).memory Tryz.f3.params.toList Rows.traitClassesSpec.vars false #[.string ⟨#[]⟩, .string ⟨#[]⟩].toList 8 = some ([.lit (.string []), .lit (.string [])], [], []) := by kernel_rfl
set_option maxRecDepth 100000 in
theorem lifted (os : Os) (started : os.Started) (H : Type) (enc : TypeId × Value → H) (F : Stop.Interp) :
    ReturnsInHanded {} Tryz.checked os 3 .any ((Rows.OpenSpec.upto Rows.traitClassesSpec).preRow enc Tryz.prog Tryz.f3 Rows.traitClassesUptoRow.domain false Rows.traitClassesUptoRow.laid) (((Rows.OpenSpec.upto Rows.traitClassesSpec).at F).post enc Tryz.prog Tryz.f3 false true false false) := by
  refine returnsInHanded_of_row (C := Tryz.checked) (s := Rows.OpenSpec.upto Rows.traitClassesSpec) own started (by kernel_rfl) Tryz.func3
    (witness_row_at (enc := enc) (C := Tryz.checked) false (World.laidAll Tryz.prog os Rows.traitClassesUptoRow.laid) #[.string ⟨#[]⟩, .string ⟨#[]⟩] (World.laidAll_os _ _ _) (by kernel_rfl) (by kernel_rfl) (by kernel_rfl)
      (OpenSpec.preRow_of_cond 8 (reads os enc) (by kernel_rfl) (fun k hk => by cases hk; kernel_rfl) (by kernel_rfl)
        (by rw [MakeChecks.laidMetH_plain _ _ _ (by kernel_rfl)]; exact laidMet_laidAll _ (by kernel_rfl) (by kernel_rfl)))) ?_
  intro W base args ds gs before hval hW _ hcond _ hL _ _
  exact contract H enc W base args ds gs before hval hW (hcond _ rfl) hL

theorem over : Rows.traitClassesUptoRow.holds Tryz.pinned (Rows.OpenSpec.upto Rows.traitClassesSpec) :=
  OpenClaim.holds_of_cond 3 Tryz.f3 rfl rfl rfl rfl rfl rfl rfl ⟨rfl, rfl, rfl, rfl, rfl⟩ rfl rfl rfl rfl rfl (by kernel_rfl) Tryz.func3 (by kernel_rfl)
    (of_decide_eq_true (by kernel_rfl)) (by unfold Func.isWrapper; first | (rw [if_pos (by decide +kernel)]; kernel_rfl) | (rw [if_neg (by decide +kernel)]; exact ⟨rfl, rfl⟩))
    (fun os started H enc _ F => by rw [OpenClaim.pre_eq_preRow]; exact lifted os started H enc F)
end Go.Proofs.YtcfjgebfjgkmnaaGreatDoor.traitClasses
namespace Go.Proofs.YtcfjgebfjgkmnaaGreatDoor
theorem traitClasses_plain (f : FuncId) (fn : Func) (hf : Tryz.pinned.checked.prog.funcNamed "tollbook/tollbooklaw13.TraitClasses" = some f) (hfn : Tryz.pinned.checked.prog.funcs[f]? = some fn) :
    false = Tryz.pinned.checked.prog.looks [] ∧ ∀ (j : Nat) t, fn.params[j]? = some t → Tryz.pinned.checked.prog.wantsStandIn t = false := by
  obtain rfl : f = 3 := Option.some.inj ((show Tryz.prog.funcNamed "tollbook/tollbooklaw13.TraitClasses" = some 3 by kernel_rfl).symm.trans hf) |>.symm
  obtain rfl : fn = Tryz.f3 := (Option.some.inj (Tryz.func3.symm.trans hfn)).symm
  refine ⟨by kernel_rfl, fun j t ht => ?_⟩
  rw [Tryz.params3] at ht
  have hm : t ∈ [9] := by have := Array.mem_of_getElem? ht; simp at this; simp; omega
  have hall : ([9].all fun u => !Tryz.prog.wantsStandIn u) = true := by kernel_rfl
  exact (show Tryz.prog.wantsStandIn t = false by simpa using List.all_eq_true.1 hall t hm)
theorem traitClassesUptoCard_holds : Rows.TraitClassesUptoCardSaid :=
  Claim7.holds_tied_plain_at .later [] _ _ _ _ traitClasses.over (fun _ h => by cases h) (by kernel_rfl) (fun _ h => by cases h) traitClassesUpto_row_tie rfl ⟨rfl, rfl⟩ (by kernel_rfl) rfl traitClasses_plain (by kernel_rfl)
#print axioms traitClassesUptoCard_holds
end Go.Proofs.YtcfjgebfjgkmnaaGreatDoor
