/-
  strings.SplitN at a point: at most nine pieces.
-/
import Derived.Test.YtmjfkciaohbkoaaDoorMgAk
namespace Go.Proofs.YtmjfkciaohbkoaaDoor
open Go.RowKit Go.Shelf
set_option linter.unusedVariables false

/-- Where the first point stands. -/
def ix (s : List UInt8) : Int := Go.Lib.indexByte s 46
theorem ix_range : ∀ s : List UInt8, ix s = -1 ∨ (0 ≤ ix s ∧ ix s < s.length)
  | [] => .inl rfl
  | b :: l => by
    unfold ix Go.Lib.indexByte
    have ih := ix_range l
    unfold ix at ih
    split
    · right; first | (simp; done) | (simp; omega)
    split
    · left; rfl
    · rename_i h1 h2
      have h2' : ¬ Go.Lib.indexByte l 46 = -1 := by simpa using h2
      right; simp; omega
/-- A text between its points, the last piece behind the k-th one whole. -/
def spl : Nat → List UInt8 → List (List UInt8)
  | 0, s => [s]
  | k + 1, s => if ix s < 0 then [s] else s.take (ix s).toNat :: spl k (s.drop ((ix s).toNat + 1))
theorem spl_succ (k : Nat) (s : List UInt8) : spl (k + 1) s = if ix s < 0 then [s] else s.take (ix s).toNat :: spl k (s.drop ((ix s).toNat + 1)) := rfl
theorem spl_more : ∀ (k : Nat) (s : List UInt8), s.length ≤ k → spl k s = spl s.length s
  | 0, s, h => by have : s = [] := List.length_eq_zero_iff.1 (by omega); subst this; rfl
  | k + 1, s, h => by
    cases hs : s.length with
    | zero =>
      have : s = [] := List.length_eq_zero_iff.1 hs
      subst this
      simp [spl, ix, Go.Lib.indexByte]
    | succ n =>
      unfold spl
      rcases ix_range s with h1 | h1
      · rw [h1]; rfl
      · rw [if_neg (by omega), if_neg (by omega)]
        congr 1
        have h2 : (s.drop ((ix s).toNat + 1)).length ≤ n := by rw [List.length_drop]; omega
        rw [spl_more k _ (by omega), spl_more n _ h2]
termination_by k s => k
theorem le_left {α : Type} {E : El α} {w : World} {b off n : Nat} {xs ys : List α} (h : Le E w (some ⟨b, off, none⟩) n (xs ++ ys)) (hm : xs.length ≤ n) : Le E w (some ⟨b, off, none⟩) xs.length xs := by
  refine ⟨rfl, fun h0 => ⟨b, off, rfl, fun i u hu => ?_⟩⟩
  obtain ⟨b', off', e, hc⟩ := h.2 (by omega)
  cases e
  refine hc i u ?_
  have hi : i < (rowE E xs).length := by
    rcases Nat.lt_or_ge i (rowE E xs).length with h' | h'
    · exact h'
    · rw [List.getElem?_eq_none h'] at hu; cases hu
  rw [rowE_append, List.getElem?_append_left hi]; exact hu
theorem made_s (n : Nat) : (madeCells (Value.string ⟨#[]⟩).cells (n * 1)).toList = rowE elS (List.replicate n []) := by
  have : rowE elS (List.replicate n []) = List.replicate n (sv []) := by
    induction n with
    | zero => rfl
    | succ n ih => rw [List.replicate_succ, rowE_cons, ih]; rfl
  rw [this]
  simp only [madeCells, Value.cells]
  have h2 : (fun x : Nat => ([Value.string ⟨#[]⟩] : List Value)[x % 1]?.getD default) = fun _ => sv [] := by funext x; rw [Nat.mod_one]; rfl
  simp [h2]
  rw [show (fun _ : Nat => sv []) = Function.const Nat (sv []) from rfl, List.map_const]; simp
theorem bytesStr (i : TypeInfo) (h : Tryd.prog.info? 9 = some i) : i.bytes = 16 := by
  have := infoStr
  rw [h] at this
  simp at this
  exact this.2.2
set_option maxHeartbeats 8000000 in
theorem genSplit_any (s : List UInt8) (w : World) (hl : s.length ≤ 140737488355328) :
    Calls Tryd.prog 25 #[sv s, .string ⟨#[46]⟩, .int .i64 0, .int .i64 9] w fun e w' => ∃ a' c', e = .returned (.slice a' (spl 8 s).length c') ∧ Le elS w' a' (spl 8 s).length (spl 8 s) ∧ (spl 8 s).length ≤ c' ∧ Below w.heap.size w w' := by
  obtain ⟨N, hN⟩ : ∃ N : Nat, N = min 9 (s.length + 1) := ⟨_, rfl⟩
  obtain ⟨K, hK⟩ : ∃ K : Nat, N = K + 1 := ⟨N - 1, by omega⟩
  have HSP : Hid (spl 8 s = spl K s) := by
    show _ = _
    by_cases h : s.length ≤ 8
    · have : K = s.length := by omega
      rw [this, spl_more 8 s h]
    · have : K = 8 := by omega
      rw [this]
  have hmin : min 9 ((s.length : Int) + 1) = (N : Int) := by omega
  have hN9 : N ≤ 9 := by omega
  have xl : IntKind.i64.wrap ((s.length : Int) + 1) = (s.length : Int) + 1 := by rw [IntKind.wrap_i64]; omega
  have xN : IntKind.i64.wrap ((N : Int) - 1) = (K : Int) := by rw [IntKind.wrap_i64]; omega
  obtain ⟨SL, hSL⟩ : ∃ SL, spl 8 s = SL := ⟨_, rfl⟩
  rw [hSL] at HSP ⊢
  replace HSP : Hid (SL = spl K s) := HSP
  clear hN hSL
  obtain ⟨i0, hi0, hz0, hz1, hz2⟩ := info_parts infoStr
  have HB8 : Hid (i0.bytes * N ≤ 281474976710656) := by show _ ≤ _; rw [hz2]; omega
  have HN8 : Hid (N ≤ maxLen) := by show _ ≤ maxLen; unfold maxLen; omega
  have HNK : Hid (N = K + 1) := hK
  clear hK
  go_enter Tryd.func25, Tryd.ntmps25
  go_wp2_with (at_make; go_loud (refine wpList_make_full w rfl _ _ 35 rfl w.heap.size 9 i0 (.string ⟨#[]⟩) 1 Tryd.underlying35 hi0 hz0 hz1 .i64 .i64 _ _ N rfl rfl rfl rfl HB8.out HN8.out (Nat.le_refl _) ?_; intro W1 hr1 hg1))
  have HG1 : Hid (Ge elS W1 w.heap.size (.slice (some ⟨w.heap.size, 0, none⟩) N N) (List.replicate N [])) := by
    show World.ownsRow _ _ _ _ _ _ _
    rw [List.length_replicate]
    have := hr1
    rw [made_s] at this
    exact this
  have HB1 : Hid (Below w.heap.size w W1) := (Below.refl _ _).grown hg1 (Nat.le_refl _) (fun k h => by cases h)
  have hsz1 := (World.ownsRow.lt hr1 w.heap.size rfl).2
  clear hr1 hg1 hi0 hz0 hz1 hz2 HB8 HN8
  go_wp2_with fail
  go_loopw [0, 10, 11] (fun ts j _ wr => ∃ (i : Nat) (t : List UInt8) (pre : List (List UInt8)), ts = sv t ∧ j = .int .i64 i ∧ i ≤ K ∧ t.length ≤ s.length ∧ pre.length = i ∧ Hid (spl K s = pre ++ spl (K - i) t) ∧ Hid (Ge elS wr w.heap.size (.slice (some ⟨w.heap.size, 0, none⟩) N N) (pre ++ List.replicate (N - i) [])) ∧ Hid (Below w.heap.size w wr)) (fun _ j _ _ => (K - (intOf j).toNat : Nat))
  case atStart => exact ⟨0, s, [], rfl, rfl, Nat.zero_le _, Nat.le_refl _, rfl, rfl, HG1.out, HB1.out⟩
  case round =>
    clear HG1 HB1 hsz1
    obtain ⟨i, t, pre, rfl, rfl, hiK, htl, hpl, HI, HG, HB⟩ := hrel
    have hNK := HNK.out
    rcases Nat.lt_or_ge i K with hlt | hge
    · have hlt' : (i : Int) < K := by omega
      have C9 := Tryd.strings_Index_one ⟨t.toArray⟩ 46 wr
      have hix : Go.Lib.indexByte (⟨t.toArray⟩ : ByteArray).data.toList 46 = ix t := by simp [ix]
      rw [hix] at C9
      obtain ⟨kk, hkk⟩ : ∃ kk, K - i = kk + 1 := ⟨K - i - 1, by omega⟩
      rcases ix_range t with h1 | h1
      · have HEND : spl K s = pre ++ [t] := by
          have := HI.out
          rw [hkk, spl_succ, if_pos (by omega)] at this
          exact this
        rw [h1] at C9
        clear hix hkk hNK
        go_wp2_with fail
        refine C9.mono ?_
        rintro e w2 ⟨rfl, hw2⟩
        rw [hw2]; clear hw2 w2 C9
        have hNK := HNK.out
        obtain ⟨R, hR⟩ : ∃ R, N = i + 1 + R := ⟨N - i - 1, by omega⟩
        have HG7 : Hid (Ge elS (wr.setCell ⟨w.heap.size, i, none⟩ (sv t)) w.heap.size (.slice (some ⟨w.heap.size, 0, none⟩) N N) (pre ++ t :: List.replicate R [])) := by
          have h1 : (pre ++ List.replicate (N - i) ([] : List UInt8)).set i t = pre ++ t :: List.replicate R [] := by
            have e : N - i = R + 1 := by omega
            rw [e, List.replicate_succ, ← hpl, List.set_append_right _ _ (Nat.le_refl _), Nat.sub_self, List.set_cons_zero]
          have := HG.out.put i (by simp; omega) 0 (by decide) (sv t) t rfl
          rw [h1] at this
          rw [show i * elS.s + 0 = i by show i * 1 + 0 = i; omega] at this
          exact this
        have HB7 : Hid (Below w.heap.size w (wr.setCell ⟨w.heap.size, i, none⟩ (sv t))) := HB.out.setCell (p := ⟨w.heap.size, i, none⟩) (Nat.le_refl _) _
        have f9 := HG.out.frozen i
        have c9 : wr.cell? ⟨w.heap.size, i, none⟩ = some (sv []) := by
          have h2 : (pre ++ List.replicate (N - i) ([] : List UInt8)).getD i [] = [] := by
            rw [List.getD_eq_getElem?_getD, List.getElem?_append_right (by omega), hpl, Nat.sub_self, List.getElem?_replicate]
            split <;> rfl
          have h3 := HG.out.toLe.at i (by omega) 0 (sv []) (by rw [show elS.dft = [] from rfl, h2]; rfl)
          have e : 0 + (i * elS.s + 0) = i := by show 0 + (i * 1 + 0) = i; omega
          rw [e] at h3
          exact h3
        have hiN : (i : Int) < N := by omega
        have hiN2 : (i : Int) + 1 ≤ N := by omega
        have xi : IntKind.i64.wrap ((i : Int) + 1) = (i : Int) + 1 := by rw [IntKind.wrap_i64]; omega
        have HF : Hid (spl K s = pre ++ [t]) := HEND
        have HPL : Hid (pre.length = i) := hpl
        have HRR : Hid (N = i + 1 + R) := hR
        clear hpl HI hR hNK
        go_upto_region 18 with fail
        obtain ⟨W7, hW7⟩ : ∃ W7, W7 = wr.setCell ⟨w.heap.size, i, none⟩ (sv t) := ⟨_, rfl⟩
        first | rw [← hW7] at HG7 HB7 ⊢ | (rw [show (sv t : Value) = .string ⟨t.toArray⟩ from rfl] at hW7; rw [← hW7] at HG7 HB7 ⊢)
        clear hW7 f9 c9 HG HB
        go_wp2_with fail
        go_ret
        refine ⟨some ⟨w.heap.size, 0, none⟩, N, ?_, ?_, ?_, HB7.out⟩
        · have h5 : (spl K s).length = i + 1 := by rw [HF.out, List.length_append, HPL.out]; rfl
          rw [HSP.out, h5]; first | rfl | (simp; done) | (simp; omega)
        · rw [HSP.out, HF.out]
          have h6 := HG7.out.toLe
          rw [show pre ++ t :: List.replicate R [] = (pre ++ [t]) ++ List.replicate R [] by simp] at h6
          exact le_left h6 (by simp; have := HRR.out; have := HPL.out; omega)
        · rw [HSP.out, HF.out, List.length_append, HPL.out]; have := HRR.out; simp; omega
      · obtain ⟨m, hm⟩ : ∃ m : Nat, ix t = m := ⟨(ix t).toNat, by omega⟩
        rw [hm] at C9 h1
        have hml : m < t.length := by omega
        have HI2 : Hid (spl K s = (pre ++ [t.take m]) ++ spl (K - (i + 1)) (t.drop (m + 1))) := by
          have := HI.out
          rw [hkk, spl_succ, if_neg (by omega), hm] at this
          show _ = _
          rw [show K - (i + 1) = kk by omega]
          simpa using this
        have sh := slice_hi t
        have sl := slice_lo t
        have e1 := slice_hi t (m : Int) m rfl (by omega)
        have e2 := slice_lo t ((m : Int) + 1) (m + 1) rfl (by omega)
        have x1 : IntKind.i64.wrap ((m : Int) + 1) = (m : Int) + 1 := by rw [IntKind.wrap_i64]; omega
        have x0 : IntKind.i64.wrap (m : Int) = m := by rw [IntKind.wrap_i64]; omega
        have xi : IntKind.i64.wrap ((i : Int) + 1) = (i : Int) + 1 := by rw [IntKind.wrap_i64]; omega
        have hm0 : ¬ (m : Int) < 0 := by omega
        have hiN : (i : Int) < N := by omega
        have HGx : Hid (∀ v, Ge elS (wr.setCell ⟨w.heap.size, i, none⟩ (sv v)) w.heap.size (.slice (some ⟨w.heap.size, 0, none⟩) N N) ((pre ++ [v]) ++ List.replicate (N - (i + 1)) [])) := fun v => by
          have h1 : (pre ++ List.replicate (N - i) ([] : List UInt8)).set i v = (pre ++ [v]) ++ List.replicate (N - (i + 1)) [] := by
            have e : N - i = (N - (i + 1)) + 1 := by omega
            rw [e, List.replicate_succ, ← hpl, List.set_append_right _ _ (Nat.le_refl _), Nat.sub_self, List.set_cons_zero]
            simp
          have := HG.out.put i (by simp; omega) 0 (by decide) (sv v) v rfl
          rw [h1, show i * elS.s + 0 = i by show i * 1 + 0 = i; omega] at this
          exact this
        have f9 := HG.out.frozen i
        have c9 : wr.cell? ⟨w.heap.size, i, none⟩ = some (sv []) := by
          have h2 : (pre ++ List.replicate (N - i) ([] : List UInt8)).getD i [] = [] := by
            rw [List.getD_eq_getElem?_getD, List.getElem?_append_right (by omega), hpl, Nat.sub_self, List.getElem?_replicate]
            split <;> rfl
          have h3 := HG.out.toLe.at i (by omega) 0 (sv []) (by rw [show elS.dft = [] from rfl, h2]; rfl)
          have e : 0 + (i * elS.s + 0) = i := by show 0 + (i * 1 + 0) = i; omega
          rw [e] at h3
          exact h3
        have HPL : Hid (pre.length = i) := hpl
        clear hix hkk hm h1 HI sh sl hpl hNK
        go_wp2_with fail
        refine C9.mono ?_
        rintro e w2 ⟨rfl, hw2⟩
        rw [hw2]; clear hw2 w2 C9
        go_wp2_with fail
        go_roundw
        case rel => exact ⟨i + 1, t.drop (m + 1), pre ++ [t.take m], rfl, rfl, by omega, by rw [List.length_drop]; omega, by rw [List.length_append, HPL.out]; rfl, HI2.out, HGx.out _, HB.out.setCell (p := ⟨w.heap.size, i, none⟩) (Nat.le_refl _) _⟩
        case measure => simp [intOf]; omega
    · obtain rfl : i = K := by omega
      have HEND : spl i s = pre ++ [t] := by
        have := HI.out
        rw [Nat.sub_self] at this
        exact this
      obtain ⟨R, hR⟩ : ∃ R, N = i + 1 + R := ⟨N - i - 1, by omega⟩
      have HG7 : Hid (Ge elS (wr.setCell ⟨w.heap.size, i, none⟩ (sv t)) w.heap.size (.slice (some ⟨w.heap.size, 0, none⟩) N N) (pre ++ t :: List.replicate R [])) := by
        have h1 : (pre ++ List.replicate (N - i) ([] : List UInt8)).set i t = pre ++ t :: List.replicate R [] := by
          have e : N - i = R + 1 := by omega
          rw [e, List.replicate_succ, ← hpl, List.set_append_right _ _ (Nat.le_refl _), Nat.sub_self, List.set_cons_zero]
        have := HG.out.put i (by simp; omega) 0 (by decide) (sv t) t rfl
        rw [h1] at this
        rw [show i * elS.s + 0 = i by show i * 1 + 0 = i; omega] at this
        exact this
      have HB7 : Hid (Below w.heap.size w (wr.setCell ⟨w.heap.size, i, none⟩ (sv t))) := HB.out.setCell (p := ⟨w.heap.size, i, none⟩) (Nat.le_refl _) _
      have f9 := HG.out.frozen i
      have c9 : wr.cell? ⟨w.heap.size, i, none⟩ = some (sv []) := by
        have h2 : (pre ++ List.replicate (N - i) ([] : List UInt8)).getD i [] = [] := by
          rw [List.getD_eq_getElem?_getD, List.getElem?_append_right (by omega), hpl, Nat.sub_self, List.getElem?_replicate]
          split <;> rfl
        have h3 := HG.out.toLe.at i (by omega) 0 (sv []) (by rw [show elS.dft = [] from rfl, h2]; rfl)
        have e : 0 + (i * elS.s + 0) = i := by show 0 + (i * 1 + 0) = i; omega
        rw [e] at h3
        exact h3
      have hiN : (i : Int) < N := by omega
      have hiN2 : (i : Int) + 1 ≤ N := by omega
      have xi : IntKind.i64.wrap ((i : Int) + 1) = (i : Int) + 1 := by rw [IntKind.wrap_i64]; omega
      have HF : Hid (spl i s = pre ++ [t]) := HEND
      have HPL : Hid (pre.length = i) := hpl
      have HRR : Hid (N = i + 1 + R) := hR
      clear hpl HI hR hNK
      go_upto_region 18 with fail
      obtain ⟨W7, hW7⟩ : ∃ W7, W7 = wr.setCell ⟨w.heap.size, i, none⟩ (sv t) := ⟨_, rfl⟩
      first | rw [← hW7] at HG7 HB7 ⊢ | (rw [show (sv t : Value) = .string ⟨t.toArray⟩ from rfl] at hW7; rw [← hW7] at HG7 HB7 ⊢)
      clear hW7 f9 c9 HG HB
      go_wp2_with fail
      go_ret
      refine ⟨some ⟨w.heap.size, 0, none⟩, N, ?_, ?_, ?_, HB7.out⟩
      · have h5 : (spl i s).length = i + 1 := by rw [HF.out, List.length_append, HPL.out]; rfl
        rw [HSP.out, h5]; first | rfl | (simp; done) | (simp; omega)
      · rw [HSP.out, HF.out]
        have h6 := HG7.out.toLe
        rw [show pre ++ t :: List.replicate R [] = (pre ++ [t]) ++ List.replicate R [] by simp] at h6
        exact le_left h6 (by simp; have := HRR.out; have := HPL.out; omega)
      · rw [HSP.out, HF.out, List.length_append, HPL.out]; have := HRR.out; simp; omega
end Go.Proofs.YtmjfkciaohbkoaaDoor
namespace Go.Proofs.YtmjfkciaohbkoaaDoor
open Go.RowKit Go.Shelf
set_option linter.unusedVariables false

theorem splitN_any (s : List UInt8) (w : World) (hl : s.length ≤ 140737488355328) :
    Calls Tryd.prog 14 #[sv s, .string ⟨#[46]⟩, .int .i64 9] w fun e w' => ∃ a' c', e = .returned (.slice a' (spl 8 s).length c') ∧ Le elS w' a' (spl 8 s).length (spl 8 s) ∧ (spl 8 s).length ≤ c' ∧ Below w.heap.size w w' := by
  have C9 := genSplit_any s w hl
  generalize spl 8 s = P at *
  clear hl
  go_enter Tryd.func14, Tryd.ntmps14
  go_wp2_with fail
  refine C9.mono ?_
  rintro e W ⟨a', c', rfl, h1, h2, hb⟩
  clear C9
  go_wp2_with fail
  go_ret
  exact ⟨a', c', rfl, h1, h2, hb⟩
/-- Is a text a class? -/
def clB (s : List UInt8) : Bool := decide ((spl 8 s).length ≤ 8) && (spl 8 s).all wdB
/-- How Class ends. -/
def ClE (s : List UInt8) (w : World) (e : Ending) (w' : World) : Prop := (clB s = false ∧ e = .returned (.tuple #[.slice none 0 0, .int .i64 140]) ∧ Below w.heap.size w w') ∨
  (clB s = true ∧ ∃ a' c', e = .returned (.tuple #[.slice a' (spl 8 s).length c', .int .i64 0]) ∧ Le elS w' a' (spl 8 s).length (spl 8 s) ∧ (spl 8 s).length ≤ c' ∧ (spl 8 s).length ≤ 8 ∧ Below w.heap.size w w')
theorem spl_len : ∀ (k : Nat) (s : List UInt8), (spl k s).length ≤ k + 1
  | 0, s => by simp [spl]
  | k + 1, s => by
    rw [spl_succ]
    split
    · simp
    · have := spl_len k (s.drop ((ix s).toNat + 1)); simp only [List.length_cons]; omega
theorem spl_ne : ∀ (k : Nat) (s : List UInt8), 0 < (spl k s).length
  | 0, s => by simp [spl]
  | k + 1, s => by rw [spl_succ]; split <;> simp
set_option maxHeartbeats 2000000 in
theorem class_any (s : List UInt8) (w : World) (hl : s.length ≤ 140737488355328) : Calls Tryd.prog 8 #[sv s] w (ClE s w) := by
  have C9 := splitN_any s w hl
  have h9 := spl_len 8 s
  have hcl : clB s = (decide ((spl 8 s).length ≤ 8) && (spl 8 s).all wdB) := rfl
  have HE : Hid (∀ e w', ((clB s = false ∧ e = .returned (.tuple #[.slice none 0 0, .int .i64 140]) ∧ Below w.heap.size w w') ∨ (clB s = true ∧ ∃ a' c', e = .returned (.tuple #[.slice a' (spl 8 s).length c', .int .i64 0]) ∧ Le elS w' a' (spl 8 s).length (spl 8 s) ∧ (spl 8 s).length ≤ c' ∧ (spl 8 s).length ≤ 8 ∧ Below w.heap.size w w')) → ClE s w e w') := fun e w' h => h
  generalize clB s = B at *
  generalize spl 8 s = P at *
  clear hl
  have HCL : Hid (B = (decide (P.length ≤ 8) && P.all wdB)) := hcl
  clear hcl
  go_enter Tryd.func8, Tryd.ntmps8
  go_wp2_with fail
  refine C9.mono ?_
  rintro e W ⟨a', c', rfl, h1, h2, hb⟩
  have HL : Hid (Le elS W a' P.length P) := h1
  have HCP : Hid (P.length ≤ c') := h2
  have HB : Hid (Below w.heap.size w W) := hb
  clear C9 h1 h2 hb
  rcases Nat.lt_or_ge 8 P.length with h8 | h8
  · have h8' : (8 : Int) < P.length := by omega
    have HF : Hid (B = false) := by show _ = _; rw [HCL.out]; simp; intro h; omega
    go_wp2_with fail
    go_ret2
    exact HE.out _ _ (.inl ⟨HF.out, rfl, HB.out⟩)
  · have h8' : ¬ (8 : Int) < P.length := by omega
    have C2 := areWords_any P a' c' W HL.out (by omega)
    cases hw : P.all wdB with
    | false =>
      rw [hw] at C2
      have HF : Hid (B = false) := by show _ = _; rw [HCL.out, hw]; simp
      clear hw
      go_wp2_with fail
      refine C2.mono ?_
      rintro e W2 ⟨rfl, hb2⟩
      have B2 := step HB.out hb2
      clear C2 hb2
      go_wp2_with fail
      go_ret2
      exact HE.out _ _ (.inl ⟨HF.out, rfl, B2⟩)
    | true =>
      rw [hw] at C2
      have HF : Hid (B = true) := by show _ = _; rw [HCL.out, hw]; simp [h8]
      clear hw
      go_wp2_with fail
      refine C2.mono ?_
      rintro e W2 ⟨rfl, hb2⟩
      have B2 := step HB.out hb2
      have HL2 : Hid (Le elS W2 a' P.length P) := HL.out.after hb2
      clear C2 hb2
      go_wp2_with fail
      go_ret2
      exact HE.out _ _ (.inr ⟨HF.out, a', c', rfl, HL2.out, HCP.out, h8, B2⟩)
/-- What Covers answers. -/
def cvB (o s : List UInt8) : Bool := clB s && (decide (o = []) || (clB o && decide ((spl 8 o).length ≤ (spl 8 s).length) && decide (spl 8 o = (spl 8 s).take (spl 8 o).length)))
theorem map_ba_inj {l m : List (List UInt8)} : l.map (fun s => (⟨s.toArray⟩ : ByteArray)) = m.map (fun s => (⟨s.toArray⟩ : ByteArray)) ↔ l = m := by
  constructor
  · intro h
    have := congrArg (List.map (fun b : ByteArray => b.data.toList)) h
    simpa [List.map_map, Function.comp_def] using this
  · intro h; rw [h]
end Go.Proofs.YtmjfkciaohbkoaaDoor
namespace Go.Proofs.YtmjfkciaohbkoaaDoor
set_option linter.unusedVariables false

def buyN : Nd := ⟨4, 0, [97], 0, 0, 0⟩
def linN : Nd := ⟨5, 0, [97], 0, 0, 0⟩
def qtyN : Nd := ⟨7, 0, [], 2, 0, 0⟩
/-- So many Nots above a trait. -/
def chN (n : Nat) : List Nd := List.replicate n ndN ++ [buyN]
/-- A Not of an And of so many tests. -/
def wdN (n : Nat) (t : Nd) : List Nd := ndN :: ⟨2, (n : Int), [], 0, 0, 0⟩ :: List.replicate n t
def chF : Nat → Fo
  | 0 => .cons buyN .nil .nil
  | n + 1 => .cons ndN (chF n) .nil
def rpF (t : Nd) : Nat → Fo
  | 0 => .nil
  | n + 1 => .cons t .nil (rpF t n)
def wdF (n : Nat) (t : Nd) : Fo := .cons ndN (.cons ⟨2, (n : Int), [], 0, 0, 0⟩ (rpF t n) .nil) .nil
theorem chF_flat : ∀ n, (chF n).flat = chN n
  | 0 => rfl
  | n + 1 => by simp only [chF, Fo.flat, chF_flat n, List.append_nil]; simp [chN, List.replicate_succ]
theorem rpF_flat (t : Nd) : ∀ n, (rpF t n).flat = List.replicate n t
  | 0 => rfl
  | n + 1 => by simp only [rpF, Fo.flat, rpF_flat t n, List.nil_append, List.replicate_succ]
theorem rpF_len (t : Nd) : ∀ n, (rpF t n).len = n
  | 0 => rfl
  | n + 1 => by simp only [rpF, Fo.len, rpF_len t n]
theorem wdF_flat (n : Nat) (t : Nd) : (wdF n t).flat = wdN n t := by
  simp [wdF, Fo.flat, rpF_flat, wdN]
theorem chF_len : ∀ n, (chF n).len = 1
  | 0 => rfl
  | n + 1 => rfl
theorem wd_a : wdB [97] = true := by decide +kernel
theorem buy_ok : NdOk wdB buyN := .inr (.inr (.inl ⟨.inl rfl, rfl, wd_a, rfl, rfl, rfl⟩))
theorem lin_ok : NdOk wdB linN := .inr (.inr (.inl ⟨.inr rfl, rfl, wd_a, rfl, rfl, rfl⟩))
theorem qty_ok : NdOk wdB qtyN := .inr (.inr (.inr ⟨.inr rfl, rfl, rfl, by decide, by decide, by decide, by decide, by decide, by decide⟩))
theorem not_ok : NdOk wdB ndN := .inr (.inl ⟨rfl, rfl, rfl, rfl, rfl, rfl⟩)
theorem chF_ok : ∀ (n d : Nat) (o : Int), n + d ≤ 16 → o ≠ 4 → (chF n).Ok wdB o d
  | 0, d, o, h, ho => ⟨⟨buy_ok, fun h9 => ho h9.1.symm, by omega, rfl, trivial⟩, trivial⟩
  | n + 1, d, o, h, ho => ⟨⟨not_ok, fun h9 => h9.2 rfl, by omega, by rw [chF_len]; rfl, chF_ok n (d + 1) 3 (by omega) (by decide)⟩, trivial⟩
theorem rpF_ok {t : Nd} (ht : NdOk wdB t) (hk : t.ks = 0) {o : Int} (ho : t.kd ≠ o) {d : Nat} (hd : d ≤ 16) : ∀ n, (rpF t n).Ok wdB o d
  | 0 => trivial
  | n + 1 => ⟨⟨ht, fun h9 => ho h9.1, hd, hk, trivial⟩, rpF_ok ht hk ho hd n⟩
theorem wdF_ok {t : Nd} (ht : NdOk wdB t) (hk : t.ks = 0) (h2 : t.kd ≠ 2) (n : Nat) (hn : 2 ≤ n) : (wdF n t).Ok wdB 0 1 :=
  ⟨⟨not_ok, by decide, by decide, rfl, ⟨⟨.inl ⟨.inr rfl, by show (2 : Int) ≤ (n : Int); omega, rfl, rfl, rfl, rfl⟩, fun h9 => absurd (show (2 : Int) = 3 from h9.1) (by decide), by decide, by rw [rpF_len], rpF_ok ht hk h2 (by decide) n⟩, trivial⟩⟩, trivial⟩
theorem ch15 : Cond wdB (chN 15) := .inr ⟨by simp [chN], ndN, chF 14, (chF_flat 15).symm, chF_ok 15 1 0 (by decide) (by decide)⟩
theorem ch_no : ∀ (j d : Nat) (o : Int), 17 ≤ d + j → NoTree wdB (chN j) o d
  | 0, d, o, h => no_deep _ _ _ (by omega)
  | j + 1, d, o, h => by
    rw [show chN (j + 1) = ndN :: chN j by simp [chN, List.replicate_succ]]
    exact no_kid (kj := .nil) trivial rfl (by decide) (ch_no j (d + 1) 3 (by omega))
theorem no_cond {l : List Nd} (h0 : l ≠ []) (h : NoTree wdB l 0 1) : ¬ Cond wdB l := by
  rintro (h1 | ⟨-, n, k, e, ok⟩)
  · exact h0 h1
  · exact h n k [] (by rw [List.append_nil]; exact e) ok
theorem ch16 : ¬ Cond wdB (chN 16) := no_cond (by simp [chN]) (ch_no 16 1 0 (by decide))
theorem wd_len (n : Nat) (t : Nd) : (wdN n t).length = n + 2 := by simp [wdN]
theorem wd62 {t : Nd} (ht : NdOk wdB t) (hk : t.ks = 0) (h2 : t.kd ≠ 2) : Cond wdB (wdN 62 t) :=
  .inr ⟨by rw [wd_len]; decide, _, _, (wdF_flat 62 t).symm, wdF_ok ht hk h2 62 (by decide)⟩
theorem wd63 (t : Nd) : ¬ Cond wdB (wdN 63 t) := by
  rintro (h | ⟨h, -⟩)
  · cases h
  · rw [wd_len] at h; omega
theorem pl_of {t : Nd} (ht : NdOk wdB t) (hk : t.ks = 0) (h2 : t.kd ≠ 2) {out : List Nd} {er : Int} (h : PlR (wdN 62 t) out er) :
    (64 < ((wdF 62 t).plain false).flat.length ∧ out = [] ∧ er = 3) ∨ (((wdF 62 t).plain false).flat.length ≤ 64 ∧ out = ((wdF 62 t).plain false).flat ∧ er = 0) := by
  rcases h with ⟨h, -⟩ | ⟨h, -⟩ | ⟨n, k, e, ok, -, h⟩
  · exact absurd (wd62 ht hk h2) h
  · cases h
  · have := flat_inj (Fo.cons n k .nil) (wdF 62 t) 0 0 1 1 [] [] ok (wdF_ok ht hk h2 62 (by decide)) rfl (by rw [List.append_nil, List.append_nil, ← e, wdF_flat])
    rw [this.1] at h
    exact h
theorem lin125 : ((wdF 62 linN).plain false).flat.length = 125 := by decide +kernel
theorem qty63 : ((wdF 62 qtyN).plain false).flat.length = 63 := by decide +kernel
theorem plain_lin {out : List Nd} {er : Int} (h : PlR (wdN 62 linN) out er) : er = 3 := by
  rcases pl_of lin_ok rfl (by decide) h with ⟨-, -, h⟩ | ⟨h, -⟩
  · exact h
  · rw [lin125] at h; omega
theorem plain_qty {out : List Nd} {er : Int} (h : PlR (wdN 62 qtyN) out er) : er = 0 ∧ out.length = 63 := by
  rcases pl_of qty_ok rfl (by decide) h with ⟨h, -⟩ | ⟨-, h, h'⟩
  · rw [qty63] at h; omega
  · exact ⟨h', by rw [h]; exact qty63⟩
def cl8 : List UInt8 := [97, 46, 98, 46, 99, 46, 100, 46, 101, 46, 102, 46, 103, 46, 104]
def cl9 : List UInt8 := [97, 46, 98, 46, 99, 46, 100, 46, 101, 46, 102, 46, 103, 46, 104, 46, 105]
theorem cl8_ok : clB cl8 = true ∧ (spl 8 cl8).length = 8 := by decide +kernel
theorem cl9_no : clB cl9 = false := by decide +kernel
theorem nd64 {n : Nd} (h : 0 ≤ n.kd ∧ n.kd ≤ 100 ∧ 0 ≤ n.ks ∧ n.ks ≤ 100 ∧ 0 ≤ n.op ∧ n.op ≤ 100 ∧ n.un = 0 ∧ n.pl = 0) : N64 n := by
  intro x hx
  simp only [List.mem_cons, List.not_mem_nil, or_false] at hx
  rcases hx with rfl | rfl | rfl | rfl | rfl <;> omega
theorem ch64 (j : Nat) : ∀ n ∈ chN j, N64 n := by
  intro n hn
  simp only [chN, List.mem_append, List.mem_replicate, List.mem_singleton] at hn
  rcases hn with ⟨-, rfl⟩ | rfl <;> exact nd64 (by decide)
theorem wdn64 (j : Nat) (hj : j ≤ 100) (t : Nd) (ht : N64 t) : ∀ n ∈ wdN j t, N64 n := by
  intro n hn
  simp only [wdN, List.mem_cons, List.mem_replicate] at hn
  rcases hn with rfl | rfl | ⟨-, rfl⟩
  · exact nd64 (by decide)
  · exact nd64 ⟨by show (0 : Int) ≤ 2; decide, by show (2 : Int) ≤ 100; decide, by show (0 : Int) ≤ (j : Int); omega, by show (j : Int) ≤ 100; omega, by show (0 : Int) ≤ 0; decide, by show (0 : Int) ≤ 100; decide, rfl, rfl⟩
  · exact ht
end Go.Proofs.YtmjfkciaohbkoaaDoor
