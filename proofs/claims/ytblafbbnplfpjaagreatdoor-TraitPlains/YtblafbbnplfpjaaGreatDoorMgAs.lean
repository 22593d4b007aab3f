/-
  strings.SplitN at a point: at most nine pieces.
-/
import Derived.Test.YtblafbbnplfpjaaGreatDoorMgAq
namespace Go.Proofs.YtblafbbnplfpjaaGreatDoor
open Go.RowKit Go.Shelf
set_option linter.unusedVariables false

/-- Where the first point stands. -/
def ix (s : List UInt8) : Int := Go.Lib.indexByte s 46
theorem ix_range : ∀ s : List UInt8, ix s = -1 ∨ (0 ≤ ix s ∧ ix s < s.length)
  | [] => .inl rfl
  | b :: l => by
    unfold ix Go.Lib.indexByte
    have ih := ix_range l
    unfold ix at ih
    split
    · right; first | (simp; done) | (simp; omega)
    split
    · left; rfl
    · rename_i h1 h2
      have h2' : ¬ Go.Lib.indexByte l 46 = -1 := by simpa using h2
      right; simp; omega
/-- A text between its points, the last piece behind the k-th one whole. -/
def spl : Nat → List UInt8 → List (List UInt8)
  | 0, s => [s]
  | k + 1, s => if ix s < 0 then [s] else s.take (ix s).toNat :: spl k (s.drop ((ix s).toNat + 1))
theorem spl_succ (k : Nat) (s : List UInt8) : spl (k + 1) s = if ix s < 0 then [s] else s.take (ix s).toNat :: spl k (s.drop ((ix s).toNat + 1)) := rfl
theorem spl_more : ∀ (k : Nat) (s : List UInt8), s.length ≤ k → spl k s = spl s.length s
  | 0, s, h => by have : s = [] := List.length_eq_zero_iff.1 (by omega); subst this; rfl
  | k + 1, s, h => by
    cases hs : s.length with
    | zero =>
      have : s = [] := List.length_eq_zero_iff.1 hs
      subst this
      simp [spl, ix, Go.Lib.indexByte]
    | succ n =>
      unfold spl
      rcases ix_range s with h1 | h1
      · rw [h1]; rfl
      · rw [if_neg (by omega), if_neg (by omega)]
        congr 1
        have h2 : (s.drop ((ix s).toNat + 1)).length ≤ n := by rw [List.length_drop]; omega
        rw [spl_more k _ (by omega), spl_more n _ h2]
termination_by k s => k
theorem le_left {α : Type} {E : El α} {w : World} {b off n : Nat} {xs ys : List α} (h : Le E w (some ⟨b, off, none⟩) n (xs ++ ys)) (hm : xs.length ≤ n) : Le E w (some ⟨b, off, none⟩) xs.length xs := by
  refine ⟨rfl, fun h0 => ⟨b, off, rfl, fun i u hu => ?_⟩⟩
  obtain ⟨b', off', e, hc⟩ := h.2 (by omega)
  cases e
  refine hc i u ?_
  have hi : i < (rowE E xs).length := by
    rcases Nat.lt_or_ge i (rowE E xs).length with h' | h'
    · exact h'
    · rw [List.getElem?_eq_none h'] at hu; cases hu
  rw [rowE_append, List.getElem?_append_left hi]; exact hu
theorem made_s (n : Nat) : (madeCells (Value.string ⟨#[]⟩).cells (n * 1)).toList = rowE elS (List.replicate n []) := by
  have : rowE elS (List.replicate n []) = List.replicate n (sv []) := by
    induction n with
    | zero => rfl
    | succ n ih => rw [List.replicate_succ, rowE_cons, ih]; rfl
  rw [this]
  simp only [madeCells, Value.cells]
  have h2 : (fun x : Nat => ([Value.string ⟨#[]⟩] : List Value)[x % 1]?.getD default) = fun _ => sv [] := by funext x; rw [Nat.mod_one]; rfl
  simp [h2]
  rw [show (fun _ : Nat => sv []) = Function.const Nat (sv []) from rfl, List.map_const]; simp
set_option maxHeartbeats 8000000 in
theorem genSplit_any (s : List UInt8) (w : World) (hl : s.length ≤ 140737488355328) :
    Calls Tryz.prog 96 #[sv s, .string ⟨#[46]⟩, .int .i64 0, .int .i64 9] w fun e w' => ∃ a' c', e = .returned (.slice a' (spl 8 s).length c') ∧ Le elS w' a' (spl 8 s).length (spl 8 s) ∧ (spl 8 s).length ≤ c' ∧ Below w.heap.size w w' := by
  obtain ⟨N, hN⟩ : ∃ N : Nat, N = min 9 (s.length + 1) := ⟨_, rfl⟩
  obtain ⟨K, hK⟩ : ∃ K : Nat, N = K + 1 := ⟨N - 1, by omega⟩
  have HSP : Hid (spl 8 s = spl K s) := by
    show _ = _
    by_cases h : s.length ≤ 8
    · have : K = s.length := by omega
      rw [this, spl_more 8 s h]
    · have : K = 8 := by omega
      rw [this]
  have hmin : min 9 ((s.length : Int) + 1) = (N : Int) := by omega
  have hN9 : N ≤ 9 := by omega
  have xl : IntKind.i64.wrap ((s.length : Int) + 1) = (s.length : Int) + 1 := by rw [IntKind.wrap_i64]; omega
  have xN : IntKind.i64.wrap ((N : Int) - 1) = (K : Int) := by rw [IntKind.wrap_i64]; omega
  obtain ⟨SL, hSL⟩ : ∃ SL, spl 8 s = SL := ⟨_, rfl⟩
  rw [hSL] at HSP ⊢
  replace HSP : Hid (SL = spl K s) := HSP
  clear hN hSL
  obtain ⟨i0, hi0, hz0, hz1, hz2⟩ := info_parts infoStr
  have HB8 : Hid (i0.bytes * N ≤ 281474976710656) := by show _ ≤ _; rw [hz2]; omega
  have HN8 : Hid (N ≤ maxLen) := by show _ ≤ maxLen; unfold maxLen; omega
  have HNK : Hid (N = K + 1) := hK
  clear hK
  go_enter Tryz.func96, Tryz.ntmps96
  go_wp2_with (at_make; go_loud (refine wpList_make_full w rfl _ _ 23 rfl w.heap.size 9 i0 (.string ⟨#[]⟩) 1 Tryz.underlying23 hi0 hz0 hz1 .i64 .i64 _ _ N rfl rfl rfl rfl HB8.out HN8.out (Nat.le_refl _) ?_; intro W1 hr1 hg1))
  have HG1 : Hid (Ge elS W1 w.heap.size (.slice (some ⟨w.heap.size, 0, none⟩) N N) (List.replicate N [])) := by
    show World.ownsRow _ _ _ _ _ _ _
    rw [List.length_replicate]
    have := hr1
    rw [made_s] at this
    exact this
  have HB1 : Hid (Below w.heap.size w W1) := (Below.refl _ _).grown hg1 (Nat.le_refl _) (fun k h => by cases h)
  have hsz1 := (World.ownsRow.lt hr1 w.heap.size rfl).2
  clear hr1 hg1 hi0 hz0 hz1 hz2 HB8 HN8
  go_wp2_with fail
  go_loopw [0, 10, 11] (fun ts j _ wr => ∃ (i : Nat) (t : List UInt8) (pre : List (List UInt8)), ts = sv t ∧ j = .int .i64 i ∧ i ≤ K ∧ t.length ≤ s.length ∧ pre.length = i ∧ Hid (spl K s = pre ++ spl (K - i) t) ∧ Hid (Ge elS wr w.heap.size (.slice (some ⟨w.heap.size, 0, none⟩) N N) (pre ++ List.replicate (N - i) [])) ∧ Hid (Below w.heap.size w wr)) (fun _ j _ _ => (K - (intOf j).toNat : Nat))
  case atStart => exact ⟨0, s, [], rfl, rfl, Nat.zero_le _, Nat.le_refl _, rfl, rfl, HG1.out, HB1.out⟩
  case round =>
    clear HG1 HB1 hsz1
    obtain ⟨i, t, pre, rfl, rfl, hiK, htl, hpl, HI, HG, HB⟩ := hrel
    have hNK := HNK.out
    rcases Nat.lt_or_ge i K with hlt | hge
    · have hlt' : (i : Int) < K := by omega
      have C9 := Tryz.strings_Index_one ⟨t.toArray⟩ 46 wr
      have hix : Go.Lib.indexByte (⟨t.toArray⟩ : ByteArray).data.toList 46 = ix t := by simp [ix]
      rw [hix] at C9
      obtain ⟨kk, hkk⟩ : ∃ kk, K - i = kk + 1 := ⟨K - i - 1, by omega⟩
      rcases ix_range t with h1 | h1
      · have HEND : spl K s = pre ++ [t] := by
          have := HI.out
          rw [hkk, spl_succ, if_pos (by omega)] at this
          exact this
        rw [h1] at C9
        clear hix hkk hNK
        go_wp2_with fail
        refine C9.mono ?_
        rintro e w2 ⟨rfl, hw2⟩
        rw [hw2]; clear hw2 w2 C9
        have hNK := HNK.out
        obtain ⟨R, hR⟩ : ∃ R, N = i + 1 + R := ⟨N - i - 1, by omega⟩
        have HG7 : Hid (Ge elS (wr.setCell ⟨w.heap.size, i, none⟩ (sv t)) w.heap.size (.slice (some ⟨w.heap.size, 0, none⟩) N N) (pre ++ t :: List.replicate R [])) := by
          have h1 : (pre ++ List.replicate (N - i) ([] : List UInt8)).set i t = pre ++ t :: List.replicate R [] := by
            have e : N - i = R + 1 := by omega
            rw [e, List.replicate_succ, ← hpl, List.set_append_right _ _ (Nat.le_refl _), Nat.sub_self, List.set_cons_zero]
          have := HG.out.put i (by simp; omega) 0 (by decide) (sv t) t rfl
          rw [h1] at this
          rw [show i * elS.s + 0 = i by show i * 1 + 0 = i; omega] at this
          exact this
        have HB7 : Hid (Below w.heap.size w (wr.setCell ⟨w.heap.size, i, none⟩ (sv t))) := HB.out.setCell (p := ⟨w.heap.size, i, none⟩) (Nat.le_refl _) _
        have f9 := HG.out.frozen i
        have c9 : wr.cell? ⟨w.heap.size, i, none⟩ = some (sv []) := by
          have h2 : (pre ++ List.replicate (N - i) ([] : List UInt8)).getD i [] = [] := by
            rw [List.getD_eq_getElem?_getD, List.getElem?_append_right (by omega), hpl, Nat.sub_self, List.getElem?_replicate]
            split <;> rfl
          have h3 := HG.out.toLe.at i (by omega) 0 (sv []) (by rw [show elS.dft = [] from rfl, h2]; rfl)
          have e : 0 + (i * elS.s + 0) = i := by show 0 + (i * 1 + 0) = i; omega
          rw [e] at h3
          exact h3
        have hiN : (i : Int) < N := by omega
        have hiN2 : (i : Int) + 1 ≤ N := by omega
        have xi : IntKind.i64.wrap ((i : Int) + 1) = (i : Int) + 1 := by rw [IntKind.wrap_i64]; omega
        have HF : Hid (spl K s = pre ++ [t]) := HEND
        have HPL : Hid (pre.length = i) := hpl
        have HRR : Hid (N = i + 1 + R) := hR
        clear hpl HI hR hNK
        go_upto_region 18 with fail
        obtain ⟨W7, hW7⟩ : ∃ W7, W7 = wr.setCell ⟨w.heap.size, i, none⟩ (sv t) := ⟨_, rfl⟩
        first | rw [← hW7] at HG7 HB7 ⊢ | (rw [show (sv t : Value) = .string ⟨t.toArray⟩ from rfl] at hW7; rw [← hW7] at HG7 HB7 ⊢)
        clear hW7 f9 c9 HG HB
        go_wp2_with fail
        go_ret
        refine ⟨some ⟨w.heap.size, 0, none⟩, N, ?_, ?_, ?_, HB7.out⟩
        · have h5 : (spl K s).length = i + 1 := by rw [HF.out, List.length_append, HPL.out]; rfl
          rw [HSP.out, h5]; first | rfl | (simp; done) | (simp; omega)
        · rw [HSP.out, HF.out]
          have h6 := HG7.out.toLe
          rw [show pre ++ t :: List.replicate R [] = (pre ++ [t]) ++ List.replicate R [] by simp] at h6
          exact le_left h6 (by simp; have := HRR.out; have := HPL.out; omega)
        · rw [HSP.out, HF.out, List.length_append, HPL.out]; have := HRR.out; simp; omega
      · obtain ⟨m, hm⟩ : ∃ m : Nat, ix t = m := ⟨(ix t).toNat, by omega⟩
        rw [hm] at C9 h1
        have hml : m < t.length := by omega
        have HI2 : Hid (spl K s = (pre ++ [t.take m]) ++ spl (K - (i + 1)) (t.drop (m + 1))) := by
          have := HI.out
          rw [hkk, spl_succ, if_neg (by omega), hm] at this
          show _ = _
          rw [show K - (i + 1) = kk by omega]
          simpa using this
        have sh := slice_hi t
        have sl := slice_lo t
        have e1 := slice_hi t (m : Int) m rfl (by omega)
        have e2 := slice_lo t ((m : Int) + 1) (m + 1) rfl (by omega)
        have x1 : IntKind.i64.wrap ((m : Int) + 1) = (m : Int) + 1 := by rw [IntKind.wrap_i64]; omega
        have x0 : IntKind.i64.wrap (m : Int) = m := by rw [IntKind.wrap_i64]; omega
        have xi : IntKind.i64.wrap ((i : Int) + 1) = (i : Int) + 1 := by rw [IntKind.wrap_i64]; omega
        have hm0 : ¬ (m : Int) < 0 := by omega
        have hiN : (i : Int) < N := by omega
        have HGx : Hid (∀ v, Ge elS (wr.setCell ⟨w.heap.size, i, none⟩ (sv v)) w.heap.size (.slice (some ⟨w.heap.size, 0, none⟩) N N) ((pre ++ [v]) ++ List.replicate (N - (i + 1)) [])) := fun v => by
          have h1 : (pre ++ List.replicate (N - i) ([] : List UInt8)).set i v = (pre ++ [v]) ++ List.replicate (N - (i + 1)) [] := by
            have e : N - i = (N - (i + 1)) + 1 := by omega
            rw [e, List.replicate_succ, ← hpl, List.set_append_right _ _ (Nat.le_refl _), Nat.sub_self, List.set_cons_zero]
            simp
          have := HG.out.put i (by simp; omega) 0 (by decide) (sv v) v rfl
          rw [h1, show i * elS.s + 0 = i by show i * 1 + 0 = i; omega] at this
          exact this
        have f9 := HG.out.frozen i
        have c9 : wr.cell? ⟨w.heap.size, i, none⟩ = some (sv []) := by
          have h2 : (pre ++ List.replicate (N - i) ([] : List UInt8)).getD i [] = [] := by
            rw [List.getD_eq_getElem?_getD, List.getElem?_append_right (by omega), hpl, Nat.sub_self, List.getElem?_replicate]
            split <;> rfl
          have h3 := HG.out.toLe.at i (by omega) 0 (sv []) (by rw [show elS.dft = [] from rfl, h2]; rfl)
          have e : 0 + (i * elS.s + 0) = i := by show 0 + (i * 1 + 0) = i; omega
          rw [e] at h3
          exact h3
        have HPL : Hid (pre.length = i) := hpl
        clear hix hkk hm h1 HI sh sl hpl hNK
        go_wp2_with fail
        refine C9.mono ?_
        rintro e w2 ⟨rfl, hw2⟩
        rw [hw2]; clear hw2 w2 C9
        go_wp2_with fail
        go_roundw
        case rel => exact ⟨i + 1, t.drop (m + 1), pre ++ [t.take m], rfl, rfl, by omega, by rw [List.length_drop]; omega, by rw [List.length_append, HPL.out]; rfl, HI2.out, HGx.out _, HB.out.setCell (p := ⟨w.heap.size, i, none⟩) (Nat.le_refl _) _⟩
        case measure => simp [intOf]; omega
    · obtain rfl : i = K := by omega
      have HEND : spl i s = pre ++ [t] := by
        have := HI.out
        rw [Nat.sub_self] at this
        exact this
      obtain ⟨R, hR⟩ : ∃ R, N = i + 1 + R := ⟨N - i - 1, by omega⟩
      have HG7 : Hid (Ge elS (wr.setCell ⟨w.heap.size, i, none⟩ (sv t)) w.heap.size (.slice (some ⟨w.heap.size, 0, none⟩) N N) (pre ++ t :: List.replicate R [])) := by
        have h1 : (pre ++ List.replicate (N - i) ([] : List UInt8)).set i t = pre ++ t :: List.replicate R [] := by
          have e : N - i = R + 1 := by omega
          rw [e, List.replicate_succ, ← hpl, List.set_append_right _ _ (Nat.le_refl _), Nat.sub_self, List.set_cons_zero]
        have := HG.out.put i (by simp; omega) 0 (by decide) (sv t) t rfl
        rw [h1] at this
        rw [show i * elS.s + 0 = i by show i * 1 + 0 = i; omega] at this
        exact this
      have HB7 : Hid (Below w.heap.size w (wr.setCell ⟨w.heap.size, i, none⟩ (sv t))) := HB.out.setCell (p := ⟨w.heap.size, i, none⟩) (Nat.le_refl _) _
      have f9 := HG.out.frozen i
      have c9 : wr.cell? ⟨w.heap.size, i, none⟩ = some (sv []) := by
        have h2 : (pre ++ List.replicate (N - i) ([] : List UInt8)).getD i [] = [] := by
          rw [List.getD_eq_getElem?_getD, List.getElem?_append_right (by omega), hpl, Nat.sub_self, List.getElem?_replicate]
          split <;> rfl
        have h3 := HG.out.toLe.at i (by omega) 0 (sv []) (by rw [show elS.dft = [] from rfl, h2]; rfl)
        have e : 0 + (i * elS.s + 0) = i := by show 0 + (i * 1 + 0) = i; omega
        rw [e] at h3
        exact h3
      have hiN : (i : Int) < N := by omega
      have hiN2 : (i : Int) + 1 ≤ N := by omega
      have xi : IntKind.i64.wrap ((i : Int) + 1) = (i : Int) + 1 := by rw [IntKind.wrap_i64]; omega
      have HF : Hid (spl i s = pre ++ [t]) := HEND
      have HPL : Hid (pre.length = i) := hpl
      have HRR : Hid (N = i + 1 + R) := hR
      clear hpl HI hR hNK
      go_upto_region 18 with fail
      obtain ⟨W7, hW7⟩ : ∃ W7, W7 = wr.setCell ⟨w.heap.size, i, none⟩ (sv t) := ⟨_, rfl⟩
      first | rw [← hW7] at HG7 HB7 ⊢ | (rw [show (sv t : Value) = .string ⟨t.toArray⟩ from rfl] at hW7; rw [← hW7] at HG7 HB7 ⊢)
      clear hW7 f9 c9 HG HB
      go_wp2_with fail
      go_ret
      refine ⟨some ⟨w.heap.size, 0, none⟩, N, ?_, ?_, ?_, HB7.out⟩
      · have h5 : (spl i s).length = i + 1 := by rw [HF.out, List.length_append, HPL.out]; rfl
        rw [HSP.out, h5]; first | rfl | (simp; done) | (simp; omega)
      · rw [HSP.out, HF.out]
        have h6 := HG7.out.toLe
        rw [show pre ++ t :: List.replicate R [] = (pre ++ [t]) ++ List.replicate R [] by simp] at h6
        exact le_left h6 (by simp; have := HRR.out; have := HPL.out; omega)
      · rw [HSP.out, HF.out, List.length_append, HPL.out]; have := HRR.out; simp; omega
end Go.Proofs.YtblafbbnplfpjaaGreatDoor
namespace Go.Proofs.YtblafbbnplfpjaaGreatDoor
open Go.RowKit Go.Shelf
set_option linter.unusedVariables false

theorem splitN_any (s : List UInt8) (w : World) (hl : s.length ≤ 140737488355328) :
    Calls Tryz.prog 78 #[sv s, .string ⟨#[46]⟩, .int .i64 9] w fun e w' => ∃ a' c', e = .returned (.slice a' (spl 8 s).length c') ∧ Le elS w' a' (spl 8 s).length (spl 8 s) ∧ (spl 8 s).length ≤ c' ∧ Below w.heap.size w w' := by
  have C9 := genSplit_any s w hl
  generalize spl 8 s = P at *
  clear hl
  go_enter Tryz.func78, Tryz.ntmps78
  go_wp2_with fail
  refine C9.mono ?_
  rintro e W ⟨a', c', rfl, h1, h2, hb⟩
  clear C9
  go_wp2_with fail
  go_ret
  exact ⟨a', c', rfl, h1, h2, hb⟩
/-- Is a text a class? -/
def clB (s : List UInt8) : Bool := decide ((spl 8 s).length ≤ 8) && (spl 8 s).all wdB
/-- How Class ends. -/
def ClE (s : List UInt8) (w : World) (e : Ending) (w' : World) : Prop := (clB s = false ∧ e = .returned (.tuple #[.slice none 0 0, .int .i64 140]) ∧ Below w.heap.size w w') ∨
  (clB s = true ∧ ∃ a' c', e = .returned (.tuple #[.slice a' (spl 8 s).length c', .int .i64 0]) ∧ Le elS w' a' (spl 8 s).length (spl 8 s) ∧ (spl 8 s).length ≤ c' ∧ (spl 8 s).length ≤ 8 ∧ Below w.heap.size w w')
theorem spl_len : ∀ (k : Nat) (s : List UInt8), (spl k s).length ≤ k + 1
  | 0, s => by simp [spl]
  | k + 1, s => by
    rw [spl_succ]
    split
    · simp
    · have := spl_len k (s.drop ((ix s).toNat + 1)); simp only [List.length_cons]; omega
theorem spl_ne : ∀ (k : Nat) (s : List UInt8), 0 < (spl k s).length
  | 0, s => by simp [spl]
  | k + 1, s => by rw [spl_succ]; split <;> simp
set_option maxHeartbeats 2000000 in
theorem class_any (s : List UInt8) (w : World) (hl : s.length ≤ 140737488355328) : Calls Tryz.prog 54 #[sv s] w (ClE s w) := by
  have C9 := splitN_any s w hl
  have h9 := spl_len 8 s
  have hcl : clB s = (decide ((spl 8 s).length ≤ 8) && (spl 8 s).all wdB) := rfl
  have HE : Hid (∀ e w', ((clB s = false ∧ e = .returned (.tuple #[.slice none 0 0, .int .i64 140]) ∧ Below w.heap.size w w') ∨ (clB s = true ∧ ∃ a' c', e = .returned (.tuple #[.slice a' (spl 8 s).length c', .int .i64 0]) ∧ Le elS w' a' (spl 8 s).length (spl 8 s) ∧ (spl 8 s).length ≤ c' ∧ (spl 8 s).length ≤ 8 ∧ Below w.heap.size w w')) → ClE s w e w') := fun e w' h => h
  generalize clB s = B at *
  generalize spl 8 s = P at *
  clear hl
  have HCL : Hid (B = (decide (P.length ≤ 8) && P.all wdB)) := hcl
  clear hcl
  go_enter Tryz.func54, Tryz.ntmps54
  go_wp2_with fail
  refine C9.mono ?_
  rintro e W ⟨a', c', rfl, h1, h2, hb⟩
  have HL : Hid (Le elS W a' P.length P) := h1
  have HCP : Hid (P.length ≤ c') := h2
  have HB : Hid (Below w.heap.size w W) := hb
  clear C9 h1 h2 hb
  rcases Nat.lt_or_ge 8 P.length with h8 | h8
  · have h8' : (8 : Int) < P.length := by omega
    have HF : Hid (B = false) := by show _ = _; rw [HCL.out]; simp; intro h; omega
    go_wp2_with fail
    go_ret2
    exact HE.out _ _ (.inl ⟨HF.out, rfl, HB.out⟩)
  · have h8' : ¬ (8 : Int) < P.length := by omega
    have C2 := areWords_any P a' c' W HL.out (by omega)
    cases hw : P.all wdB with
    | false =>
      rw [hw] at C2
      have HF : Hid (B = false) := by show _ = _; rw [HCL.out, hw]; simp
      clear hw
      go_wp2_with fail
      refine C2.mono ?_
      rintro e W2 ⟨rfl, hb2⟩
      have B2 := step HB.out hb2
      clear C2 hb2
      go_wp2_with fail
      go_ret2
      exact HE.out _ _ (.inl ⟨HF.out, rfl, B2⟩)
    | true =>
      rw [hw] at C2
      have HF : Hid (B = true) := by show _ = _; rw [HCL.out, hw]; simp [h8]
      clear hw
      go_wp2_with fail
      refine C2.mono ?_
      rintro e W2 ⟨rfl, hb2⟩
      have B2 := step HB.out hb2
      have HL2 : Hid (Le elS W2 a' P.length P) := HL.out.after hb2
      clear C2 hb2
      go_wp2_with fail
      go_ret2
      exact HE.out _ _ (.inr ⟨HF.out, a', c', rfl, HL2.out, HCP.out, h8, B2⟩)
/-- What Covers answers. -/
def cvB (o s : List UInt8) : Bool := clB s && (decide (o = []) || (clB o && decide ((spl 8 o).length ≤ (spl 8 s).length) && decide (spl 8 o = (spl 8 s).take (spl 8 o).length)))
theorem map_ba_inj {l m : List (List UInt8)} : l.map (fun s => (⟨s.toArray⟩ : ByteArray)) = m.map (fun s => (⟨s.toArray⟩ : ByteArray)) ↔ l = m := by
  constructor
  · intro h
    have := congrArg (List.map (fun b : ByteArray => b.data.toList)) h
    simpa [List.map_map, Function.comp_def] using this
  · intro h; rw [h]
theorem equal_s (xs ys : List (List UInt8)) (b1 o1 c b2 o2 d : Nat) (w : World) (h1 : Le elS w (some ⟨b1, o1, none⟩) xs.length xs) (h2 : Le elS w (some ⟨b2, o2, none⟩) ys.length ys) (hx : xs.length ≤ 100) (hy : ys.length ≤ 100) :
    Calls Tryz.prog 55 #[.slice (some ⟨b1, o1, none⟩) xs.length c, .slice (some ⟨b2, o2, none⟩) ys.length d] w fun e w' => e = .returned (.bool (decide (xs = ys))) ∧ Below w.heap.size w w' := by
  have cells : ∀ (l : List (List UInt8)) (b o : Nat), Le elS w (some ⟨b, o, none⟩) l.length l → ∀ j, j < (l.map (fun s => (⟨s.toArray⟩ : ByteArray))).length → w.cell? ⟨b, o + j, none⟩ = some (.string ((l.map (fun s => (⟨s.toArray⟩ : ByteArray))).getD j ByteArray.empty)) := by
    intro l b o h j hj
    have hj' : j < l.length := by simpa using hj
    have e1 := h.at j hj' 0 (sv (l.getD j [])) rfl
    have e2 : (l.map (fun s => (⟨s.toArray⟩ : ByteArray))).getD j ByteArray.empty = ⟨(l.getD j []).toArray⟩ := by
      rw [List.getD_eq_getElem?_getD, List.getElem?_map, List.getD_eq_getElem?_getD, List.getElem?_eq_getElem hj']; rfl
    rw [e2]
    simpa [elS] using e1
  have := Tryz.slices_Equal_string b1 o1 xs.length c b2 o2 ys.length d (xs.map (fun s => (⟨s.toArray⟩ : ByteArray))) (ys.map (fun s => (⟨s.toArray⟩ : ByteArray))) w (by simp) (by simp) (by omega) (by omega) (cells xs b1 o1 h1) (cells ys b2 o2 h2)
  refine this.mono ?_
  rintro e w' ⟨rfl, q, rfl⟩
  refine ⟨?_, below_drewN (Below.refl _ _) q⟩
  congr 2
  rw [List.take_of_length_le (by simp), List.take_of_length_le (by simp), decide_eq_decide, map_ba_inj]
set_option maxHeartbeats 4000000 in
theorem covers_any (o s : List UInt8) (w : World) (ho : o.length ≤ 140737488355328) (hs : s.length ≤ 140737488355328) : Calls Tryz.prog 32 #[sv o, sv s] w fun e w' => e = .returned (.bool (cvB o s)) ∧ Below w.heap.size w w' := by
  have C1 := class_any s w hs
  have C2 := fun W => class_any o W ho
  obtain ⟨R, hR⟩ : ∃ R, cvB o s = R := ⟨_, rfl⟩
  have HR : Hid (cvB o s = R) := hR
  rw [hR]
  have hpo := spl_ne 8 o
  clear hR
  go_enter Tryz.func32, Tryz.ntmps32
  go_wp2_with fail
  refine C1.mono ?_
  rintro e W1 (⟨hc, rfl, hb⟩ | ⟨hc, a1, c1, rfl, hl1, hcp1, h81, hb⟩)
  · have HF : Hid (R = false) := by show _ = _; rw [← HR.out]; simp [cvB, hc]
    clear hc C1 C2
    go_wp2_with fail
    go_ret
    exact ⟨by rw [HF.out]; rfl, hb⟩
  · have HB1 : Hid (Below w.heap.size w W1) := hb
    have HL1 : Hid (Le elS W1 a1 (spl 8 s).length (spl 8 s)) := hl1
    have D2 := C2 W1
    have HC : Hid (clB s = true) := hc
    clear hc C1 C2 hb hl1
    cases ho0 : o with
    | nil =>
      have HF : Hid (R = true) := by show _ = _; rw [← HR.out, ho0]; simp [cvB, HC.out]
      clear D2
      go_wp2_with fail
      go_ret
      exact ⟨by rw [HF.out]; rfl, HB1.out⟩
    | cons x l =>
      have hne : o ≠ [] := by rw [ho0]; simp
      rw [← ho0]
      have n1 : (o == []) = false := by simpa using hne
      have n2 : ([] == o) = false := by simpa using hne
      have HNE : Hid (o ≠ []) := hne
      clear ho0 hne
      go_wp2_with fail
      refine D2.mono ?_
      rintro e W2 (⟨hc2, rfl, hb2⟩ | ⟨hc2, a2, c2, rfl, hl2, hcp2, h82, hb2⟩)
      · have HF : Hid (R = false) := by show _ = _; rw [← HR.out]; simp [cvB, hc2, HNE.out]
        have B2 := step HB1.out hb2
        clear hc2 D2 hb2
        go_wp2_with fail
        go_ret
        exact ⟨by rw [HF.out]; rfl, B2⟩
      · have B2 := step HB1.out hb2
        have L1 := HL1.out.after hb2
        have HRV : Hid (R = (decide ((spl 8 o).length ≤ (spl 8 s).length) && decide (spl 8 o = (spl 8 s).take (spl 8 o).length))) := by show _ = _; rw [← HR.out]; simp [cvB, HC.out, hc2, HNE.out]
        generalize spl 8 o = P at *
        generalize spl 8 s = S at *
        clear hc2 D2 hb2 HL1 HR HC HNE
        rcases Nat.lt_or_ge S.length P.length with hlt | hge
        · have hlt' : ¬ (P.length : Int) ≤ S.length := by omega
          have HF : Hid (R = false) := by show _ = _; rw [HRV.out]; simp; intro h; omega
          go_wp2_with fail
          go_ret
          exact ⟨by rw [HF.out]; rfl, B2⟩
        · have hge' : (P.length : Int) ≤ S.length := by omega
          obtain ⟨b2, o2, rfl⟩ := hl2.ex hpo
          obtain ⟨b1, o1, rfl⟩ := L1.ex (by omega)
          have hcc : (P.length : Int) ≤ c1 := by omega
          have htl : (S.take P.length).length = P.length := by rw [List.length_take]; omega
          have LT : Le elS W2 (some ⟨b1, o1, none⟩) (S.take P.length).length (S.take P.length) := by
            have h6 := L1
            rw [← List.take_append_drop P.length S] at h6
            have h7 := le_left (xs := S.take P.length) (ys := S.drop P.length) (n := S.length) (by simpa using h6) (by omega)
            exact h7
          have C9 := equal_s P (S.take P.length) b2 o2 c2 b1 o1 c1 W2 hl2 LT (by omega) (by omega)
          rw [htl] at C9
          have HRV2 : Hid (R = decide (P = S.take P.length)) := by show _ = _; rw [HRV.out]; simp [hge]
          generalize decide (P = S.take P.length) = X at *
          clear LT htl L1 hl2 HRV
          go_wp2_with fail
          refine C9.mono ?_
          rintro e W3 ⟨rfl, hb3⟩
          have B3 := step B2 hb3
          clear C9 hb3
          go_wp2_with fail
          go_ret
          exact ⟨by rw [HRV2.out]; rfl, B3⟩
end Go.Proofs.YtblafbbnplfpjaaGreatDoor
