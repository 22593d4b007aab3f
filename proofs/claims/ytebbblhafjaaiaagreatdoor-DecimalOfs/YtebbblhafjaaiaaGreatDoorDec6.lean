/-
  decimal.Parse of any text.
-/
import Derived.Test.YtebbblhafjaaiaaGreatDoorDec5
namespace Go.Proofs.YtebbblhafjaaiaaGreatDoor
open Go.RowKit Go.Shelf
set_option linter.unusedVariables false

theorem take_len (p : UInt8 → Bool) (l : List UInt8) : (l.takeWhile p).length ≤ l.length ∧ (l.dropWhile p).length ≤ l.length := by
  have h := congrArg List.length (take_drop_while p l)
  rw [List.length_append] at h
  omega
theorem partsL_dig (l : List UInt8) : Dig 10 (partsL l).1 ∧ Dig 10 (partsL l).2.1 ∧ (partsL l).1.length ≤ l.length ∧ (partsL l).2.1.length ≤ l.length ∧ (partsL l).2.2.1 ≤ l.length := by
  have h1 := take_len isD l
  have h2 := take_len isD ((l.dropWhile isD).drop 1)
  have h3 : ((l.dropWhile isD).drop 1).length ≤ l.length := by simp; omega
  unfold partsL
  split
  · exact ⟨dig_take _, Dig.nil _, h1.1, Nat.zero_le _, h1.1⟩
  · split
    · exact ⟨dig_take _, dig_take _, h1.1, by show (((l.dropWhile isD).drop 1).takeWhile isD).length ≤ _; omega, by show l.length - _ ≤ _; omega⟩
    · exact ⟨Dig.nil _, Dig.nil _, Nat.zero_le _, Nat.zero_le _, h1.1⟩
theorem results_dtt {fn : Func} {i j k b : Nat} {v u : Value} {tmps : Array Value} {w : World} (h : fn.results = #[.cell i 23, .tmp j, .tmp k]) (hi : tmps.getD i undef = .pointer (some ⟨b, 0, none⟩)) (hv : Va w b 23 #[v, u]) :
    (results fn tmps).run Tryz.prog w = .ok (.tuple #[.agg #[v, u], tmps.getD j undef, tmps.getD k undef]) w := by
  have c := hv.c0; have d := hv.c1
  rw [Array.getD_eq_getD_getElem?] at hi
  simp [results, h, hi, c, d, go_sem]
theorem cut_minus (l : List UInt8) (w : World) : Calls Tryz.prog 61 #[.string ⟨l.toArray⟩, .string ⟨#[45]⟩] w fun e w' => e = .returned (.tuple #[.string ⟨(if decide (l.head? = some 45) then l.drop 1 else l).toArray⟩, .bool (decide (l.head? = some 45))]) ∧ w' = w := by
  have h := Tryz.strings_CutPrefix ⟨l.toArray⟩ ⟨#[45]⟩ w
  have e1 : Go.Lib.hasPrefix (ByteArray.mk l.toArray).data.toList (ByteArray.mk #[45]).data.toList = decide (l.head? = some 45) := by
    show List.isPrefixOf [45] l = _
    cases l with
    | nil => rfl
    | cons c l =>
      simp only [List.isPrefixOf, Bool.and_true, List.head?_cons]
      by_cases hc : c = 45
      · subst hc; rfl
      · have h1 : ((45 : UInt8) == c) = false := by simpa using Ne.symm hc
        rw [h1]; symm; simpa using hc
  have e2 : Go.Lib.trimPrefix (ByteArray.mk l.toArray).data.toList (ByteArray.mk #[45]).data.toList = if decide (l.head? = some 45) then l.drop 1 else l := by
    unfold Go.Lib.trimPrefix; rw [e1]; rfl
  rw [e1, e2] at h
  exact h
theorem trim_0a (l : List UInt8) (w : World) : Calls Tryz.prog 64 #[.string ⟨l.toArray⟩, .string ⟨#[48]⟩] w fun e w' => e = .returned (.string ⟨(trimA l).toArray⟩) ∧ w' = w := Tryz.strings_TrimLeft_one ⟨l.toArray⟩ 48 (by decide) w
theorem trim_0b (l : List UInt8) (h : l.length ≤ 140737488355328) (w : World) : Calls Tryz.prog 65 #[.string ⟨l.toArray⟩, .string ⟨#[48]⟩] w fun e w' => e = .returned (.string ⟨(trimB l).toArray⟩) ∧ w' = w := Tryz.strings_TrimRight_one ⟨l.toArray⟩ 48 (by decide) w (by rw [bsize]; omega)
set_option maxHeartbeats 4000000 in
theorem parse_dec (l : List UInt8) (hl : l.length ≤ 140737488355328) (w : World) :
    Calls Tryz.prog 22 #[.string ⟨l.toArray⟩] w fun e W' => e = .returned (.tuple #[.agg #[.int .i64 (readL l).1, .int .i64 (readL l).2.1], .int .i64 (readL l).2.2.1, .int .i64 (readL l).2.2.2]) ∧ Below w.heap.size w W' := by
  have hcut := cut_minus l
  obtain ⟨neg, hneg⟩ : ∃ neg, decide (l.head? = some 45) = neg := ⟨_, rfl⟩
  obtain ⟨bare, hbare⟩ : ∃ bare, (if neg then l.drop 1 else l) = bare := ⟨_, rfl⟩
  rw [hneg, hbare] at hcut
  have hbl : bare.length ≤ l.length := by rw [← hbare]; split <;> simp
  have hrd : readL l = if (partsL bare).2.2.2 then ((worthL neg (trimA (partsL bare).1) (trimB (partsL bare).2.1)).1, (worthL neg (trimA (partsL bare).1) (trimB (partsL bare).2.1)).2.1, 0, (worthL neg (trimA (partsL bare).1) (trimB (partsL bare).2.1)).2.2)
      else (0, 0, l.length - bare.length + (partsL bare).2.2.1, 60) := by
    unfold readL; simp only [hneg, hbare]
  have hpa := parts_any bare (by omega)
  obtain ⟨hd1, hd2, hl1, hl2, hl3⟩ := partsL_dig bare
  obtain ⟨⟨a, b, at', ok⟩, hp⟩ : ∃ p, partsL bare = p := ⟨_, rfl⟩
  rw [hp] at hrd hpa hd1 hd2 hl1 hl2 hl3
  simp only at hrd hpa hd1 hd2 hl1 hl2 hl3
  rw [hrd]
  clear hrd hp hneg hbare
  cases ok with
  | false =>
    obtain ⟨q, hq⟩ : ∃ q : Nat, l.length - bare.length + at' = q := ⟨_, rfl⟩
    have hqi : (l.length : Int) - bare.length + at' = q := by omega
    simp only [Bool.false_eq_true, if_false, hq]
    clear hq
    have B0 : Below w.heap.size w w := Below.refl _ _
    go_enter Tryz.func22, Tryz.ntmps22
    go_wp2_with fail
    refine ent1 w _ _ (Q := fun W => Calls Tryz.prog _ _ W _) ?_
    intro x1 hb hs_x1 V0
    replace B0 := step B0 hb
    clear hb hs_x1
    refine (hcut _).mono ?_
    rintro e w' ⟨rfl, rfl⟩
    have c_V0 := V0.c0
    have f0_V0 := V0.frozen 0
    have d_V0 := V0.c1
    have f1_V0 := V0.frozen 1
    have l_V0 := V0.lt
    have m_V0 := Nat.le_of_lt l_V0
    go_wp2_with fail
    refine (hpa _).mono ?_
    rintro e x2 ⟨rfl, hb⟩
    replace V0 := Va.after hb V0
    replace B0 := step B0 hb
    clear hb
    clear c_V0 f0_V0 d_V0 f1_V0 l_V0 m_V0
    have c_V0 := V0.c0
    have f0_V0 := V0.frozen 0
    have d_V0 := V0.c1
    have f1_V0 := V0.frozen 1
    have l_V0 := V0.lt
    have m_V0 := Nat.le_of_lt l_V0
    go_wp2_with fail
    refine bodyPost_ret (results_dtt rfl rfl (V0.set2 _ _)) rfl ?_
    exact ⟨rfl, below_2 B0 (Nat.le_refl _) _ _⟩
  | true =>
    have hwo := worth_dec neg (trimA a) (trimB b) (trimA_dig hd1) (trimB_dig hd2) (by have := trimA_len a; omega) (by have := trimB_len b; omega)
    have htb := trim_0b b (by omega)
    obtain ⟨⟨U, P, er⟩, hw⟩ : ∃ p, worthL neg (trimA a) (trimB b) = p := ⟨_, rfl⟩
    rw [hw] at hwo
    simp only [if_true, hw]
    simp only at hwo
    clear hw
    have B0 : Below w.heap.size w w := Below.refl _ _
    go_enter Tryz.func22, Tryz.ntmps22
    go_wp2_with fail
    refine ent1 w _ _ (Q := fun W => Calls Tryz.prog _ _ W _) ?_
    intro x1 hb hs_x1 V0
    replace B0 := step B0 hb
    clear hb hs_x1
    refine (hcut _).mono ?_
    rintro e w' ⟨rfl, rfl⟩
    have c_V0 := V0.c0
    have f0_V0 := V0.frozen 0
    have d_V0 := V0.c1
    have f1_V0 := V0.frozen 1
    have l_V0 := V0.lt
    have m_V0 := Nat.le_of_lt l_V0
    go_wp2_with fail
    refine (hpa _).mono ?_
    rintro e x2 ⟨rfl, hb⟩
    replace V0 := Va.after hb V0
    replace B0 := step B0 hb
    clear hb
    clear c_V0 f0_V0 d_V0 f1_V0 l_V0 m_V0
    have c_V0 := V0.c0
    have f0_V0 := V0.frozen 0
    have d_V0 := V0.c1
    have f1_V0 := V0.frozen 1
    have l_V0 := V0.lt
    have m_V0 := Nat.le_of_lt l_V0
    go_wp2_with fail
    refine (trim_0a a _).mono ?_
    rintro e w2 ⟨rfl, rfl⟩
    clear c_V0 f0_V0 d_V0 f1_V0 l_V0 m_V0
    have c_V0 := V0.c0
    have f0_V0 := V0.frozen 0
    have d_V0 := V0.c1
    have f1_V0 := V0.frozen 1
    have l_V0 := V0.lt
    have m_V0 := Nat.le_of_lt l_V0
    go_wp2_with fail
    refine (htb _).mono ?_
    rintro e w3 ⟨rfl, rfl⟩
    clear c_V0 f0_V0 d_V0 f1_V0 l_V0 m_V0
    have c_V0 := V0.c0
    have f0_V0 := V0.frozen 0
    have d_V0 := V0.c1
    have f1_V0 := V0.frozen 1
    have l_V0 := V0.lt
    have m_V0 := Nat.le_of_lt l_V0
    go_wp2_with fail
    refine (hwo _).mono ?_
    rintro e x3 ⟨rfl, hb⟩
    replace V0 := Va.after hb V0
    replace B0 := step B0 hb
    clear hb
    clear c_V0 f0_V0 d_V0 f1_V0 l_V0 m_V0
    have c_V0 := V0.c0
    have f0_V0 := V0.frozen 0
    have d_V0 := V0.c1
    have f1_V0 := V0.frozen 1
    have l_V0 := V0.lt
    have m_V0 := Nat.le_of_lt l_V0
    have p0_V0 := (V0.old (.cells #[.int .i64 U, .int .i64 P] 23)).c0
    have q0_V0 := (V0.old (.cells #[.int .i64 U, .int .i64 P] 23)).frozen 0
    have p1_V0 := (V0.old (.cells #[.int .i64 U, .int .i64 P] 23)).c1
    have q1_V0 := (V0.old (.cells #[.int .i64 U, .int .i64 P] 23)).frozen 1
    go_wp2_with fail
    have B1 := below_2 B0 (Nat.le_refl _) (.int .i64 U) (.int .i64 P)
    refine bodyPost_ret (results_dtt rfl rfl ((V0.set2 _ _).old _)) rfl ?_
    exact ⟨rfl, B1.alloc B1.size _⟩
end Go.Proofs.YtebbblhafjaaiaaGreatDoor
