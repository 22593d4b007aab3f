/-
  decimal.parts.
-/
import Derived.Test.YtebbblhafjaaiaaGreatDoorDecP
import Derived.Test.YtebbblhafjaaiaaGreatDoorStrP
import Derived.Test.YtebbblhafjaaiaaGreatDoorShelf
import Derived.Test.YtebbblhafjaaiaaGreatDoorBsM
import Derived.Shelf.Strings.SlTrimAscii
import Derived.Deep.QuietTactic
import Derived.BigQuiet
namespace Go.Proofs.YtebbblhafjaaiaaGreatDoor
open Go.RowKit Go.Shelf
set_option linter.unusedVariables false

theorem trimD (l : List UInt8) (w : World) : Calls Tryz.prog 64 #[.string ⟨l.toArray⟩, .string ⟨#[48, 49, 50, 51, 52, 53, 54, 55, 56, 57]⟩] w fun e w' => e = .returned (.string ⟨(l.dropWhile isD).toArray⟩) ∧ Below w.heap.size w w' := by
  have h := Any.strings_TrimLeft_laid Tryz.lays161 (by kernel_rfl) ⟨l.toArray⟩ ⟨#[48, 49, 50, 51, 52, 53, 54, 55, 56, 57]⟩ w (by decide) (ascii_of_all (by decide))
  have e : Go.Lib.trimLeftS (ByteArray.mk l.toArray).data.toList (ByteArray.mk #[48, 49, 50, 51, 52, 53, 54, 55, 56, 57]).data.toList = l.dropWhile isD := by
    show l.dropWhile (tenL.contains ·) = _
    congr 1
    funext c
    exact ten_contains c
  rw [e] at h
  exact h
theorem results_tmp4 {fn : Func} {t u v x : Tmp} (h : fn.results = #[.tmp t, .tmp u, .tmp v, .tmp x]) (tmps : Array Value) (P : Program) (w : World) :
    (results fn tmps).run P w = .ok (.tuple #[tmps.getD t undef, tmps.getD u undef, tmps.getD v undef, tmps.getD x undef]) w := by
  simp [results, h]
theorem empB (l : List UInt8) : (ByteArray.mk l.toArray).toList.isEmpty = l.isEmpty := by rw [Go.Lib.toList_data]
set_option maxHeartbeats 4000000 in
theorem parts_any (l : List UInt8) (hl : l.length ≤ 140737488355328) (w : World) :
    Calls Tryz.prog 62 #[.string ⟨l.toArray⟩] w fun e W' => e = .returned (.tuple #[.string ⟨(partsL l).1.toArray⟩, .string ⟨(partsL l).2.1.toArray⟩, .int .i64 (partsL l).2.2.1, .bool (partsL l).2.2.2]) ∧ Below w.heap.size w W' := by
  obtain ⟨a, ha⟩ : ∃ a, l.takeWhile isD = a := ⟨_, rfl⟩
  obtain ⟨r, hr⟩ : ∃ r, l.dropWhile isD = r := ⟨_, rfl⟩
  have hlr : l = a ++ r := by rw [← ha, ← hr]; exact (take_drop_while isD l).symm
  have hpl : partsL l = if a.length = 0 ∨ r = [] then (a, [], a.length, decide (0 < a.length))
      else if r.head? = some 46 then (a, (r.drop 1).takeWhile isD, l.length - ((r.drop 1).dropWhile isD).length, decide (0 < ((r.drop 1).takeWhile isD).length) && ((r.drop 1).dropWhile isD).isEmpty) else ([], [], a.length, false) := by
    unfold partsL; rw [ha, hr]
  have HPL : Hid _ := hpl
  have htr := trimD l
  rw [hr] at htr
  have hlen : l.length = a.length + r.length := by rw [hlr, List.length_append]
  obtain ⟨n, hn⟩ : ∃ n, a.length = n := ⟨_, rfl⟩
  have hE : (l.length : Int) - r.length = (n : Int) := by omega
  have s1 : ∀ W, (Instr.sliceAt 9 (.string ⟨l.toArray⟩) none (some (.int .i64 (n : Int))) none).run Tryz.prog W = .ok (.string ⟨a.toArray⟩) W := fun W => by
    rw [slice_hi l n n rfl (by omega) W, show l.take n = a by rw [hlr, ← hn, List.take_left]]
  have HN : Hid (a.length = n) := hn
  have HLR : Hid (l = a ++ r) := hlr
  have hl1 : r.length ≤ 140737488355328 := by omega
  have hn1 : n ≤ 140737488355328 := by omega
  clear hpl ha hr hlr hlen hn
  by_cases h0 : n = 0
  · have HP2 : Hid (partsL l = (a, [], 0, false)) := by show partsL l = _; have h := HPL.out; rw [if_pos (Or.inl (by rw [HN.out]; exact h0)), HN.out, h0] at h; exact h
    rw [HP2.out]
    have h0i : ((n : Int) == 0) = true := by simp [h0]
    have HN0 : Hid (n = 0) := h0
    have hnp : ¬ (0 : Int) < n := by omega
    clear h0
    go_enter Tryz.func62, Tryz.ntmps62
    go_wp2_with fail
    refine (htr _).mono ?_
    rintro e w1 ⟨rfl, hb1⟩
    go_wp2_with fail
    (try simp only [Exit.inBlock, Exit.then])
    refine bodyPost_ret (results_tmp4 rfl _ _ _) rfl ?_
    exact ⟨by rw [HN0.out]; rfl, hb1⟩
  · have h0i : ((n : Int) == 0) = false := by simpa using h0
    have hnp : (0 : Int) < n := by omega
    by_cases hr0 : r = []
    · have HP2 : Hid (partsL l = (a, [], n, true)) := by show partsL l = _; have h := HPL.out; rw [if_pos (Or.inr hr0), HN.out, decide_eq_true (by omega)] at h; exact h
      rw [HP2.out]
      have he2 : (ByteArray.mk r.toArray).toList.isEmpty = true := by rw [empB, hr0]; rfl
      have he : r.isEmpty = true := by rw [hr0]; rfl
      have hnd : decide (0 < n) = true := by simpa using hnp
      clear hr0
      go_enter Tryz.func62, Tryz.ntmps62
      go_wp2_with fail
      refine (htr _).mono ?_
      rintro e w1 ⟨rfl, hb1⟩
      go_wp2_with fail
      (try simp only [Exit.inBlock, Exit.then])
      refine bodyPost_ret (results_tmp4 rfl _ _ _) rfl ?_
      exact ⟨rfl, hb1⟩
    · have he2 : (ByteArray.mk r.toArray).toList.isEmpty = false := by rw [empB]; simpa using hr0
      have he : r.isEmpty = false := by simpa using hr0
      have hpl : partsL l = if r.head? = some 46 then (a, (r.drop 1).takeWhile isD, l.length - ((r.drop 1).dropWhile isD).length, decide (0 < ((r.drop 1).takeWhile isD).length) && ((r.drop 1).dropWhile isD).isEmpty) else ([], [], n, false) := by
        have h := HPL.out
        rw [if_neg (by rw [HN.out]; simp [h0, hr0]), HN.out] at h
        exact h
      obtain ⟨c, f, hcf⟩ : ∃ c f, r = c :: f := by
        cases r with
        | nil => exact absurd rfl hr0
        | cons c f => exact ⟨c, f, rfl⟩
      have hcp := Tryz.strings_CutPrefix ⟨r.toArray⟩ ⟨#[46]⟩
      have eP : Go.Lib.hasPrefix (ByteArray.mk r.toArray).data.toList (ByteArray.mk #[46]).data.toList = (46 == c) := by
        show List.isPrefixOf [46] r = _
        rw [hcf]
        simp [List.isPrefixOf]
      by_cases hc : c = 46
      · have e1 : Go.Lib.hasPrefix (ByteArray.mk r.toArray).data.toList (ByteArray.mk #[46]).data.toList = true := by rw [eP, hc]; rfl
        have e2 : Go.Lib.trimPrefix (ByteArray.mk r.toArray).data.toList (ByteArray.mk #[46]).data.toList = f := by
          unfold Go.Lib.trimPrefix; rw [e1, if_pos rfl]; show r.drop 1 = f; rw [hcf]; rfl
        rw [e1, e2] at hcp
        have hpl2 : partsL l = (a, f.takeWhile isD, l.length - (f.dropWhile isD).length, decide (0 < (f.takeWhile isD).length) && (f.dropWhile isD).isEmpty) := by
          rw [hcf, if_pos (by rw [hc]; rfl)] at hpl; exact hpl
        obtain ⟨b, hb⟩ : ∃ b, f.takeWhile isD = b := ⟨_, rfl⟩
        obtain ⟨r2, hr2⟩ : ∃ r2, f.dropWhile isD = r2 := ⟨_, rfl⟩
        have hf : f = b ++ r2 := by rw [← hb, ← hr2]; exact (take_drop_while isD f).symm
        have htf := trimD f
        rw [hr2] at htf
        rw [hb, hr2] at hpl2
        have hflen : f.length = b.length + r2.length := by rw [hf, List.length_append]
        have hrl : r.length = f.length + 1 := by rw [hcf]; rfl
        obtain ⟨m, hm⟩ : ∃ m, b.length = m := ⟨_, rfl⟩
        have hE2 : (f.length : Int) - r2.length = (m : Int) := by omega
        have s2 : ∀ W, (Instr.sliceAt 9 (.string ⟨f.toArray⟩) none (some (.int .i64 (m : Int))) none).run Tryz.prog W = .ok (.string ⟨b.toArray⟩) W := fun W => by
          rw [slice_hi f m m rfl (by omega) W, show f.take m = b by rw [hf, ← hm, List.take_left]]
        have hrr : r.length ≤ l.length := by rw [HLR.out, List.length_append]; omega
        obtain ⟨q, hq⟩ : ∃ q : Nat, l.length - r2.length = q := ⟨_, rfl⟩
        have hE3 : (l.length : Int) - r2.length = (q : Int) := by omega
        rw [hq, hm] at hpl2
        have HP2 : Hid (partsL l = (a, b, q, decide (0 < m) && r2.isEmpty)) := hpl2
        rw [HP2.out]
        have hfl : f.length ≤ 140737488355328 := by omega
        have hrl2 : r2.length ≤ 140737488355328 := by omega
        have hml : m ≤ 140737488355328 := by omega
        clear hpl hpl2 hcf hc hb hr2 hf hflen hm hq hrl hrr eP e1 e2 hr0 HPL
        by_cases hm0 : 0 < m
        · have hmi : (0 : Int) < m := by omega
          by_cases hr3 : r2 = []
          · have he3 : (ByteArray.mk r2.toArray).toList.isEmpty = true := by rw [empB, hr3]; rfl
            have he4 : r2.isEmpty = true := by rw [hr3]; rfl
            have HF : Hid ((decide (0 < m) && r2.isEmpty) = true) := by show _ = _; rw [decide_eq_true hm0, hr3]; rfl
            rw [HF.out]
            clear hr3
            go_enter Tryz.func62, Tryz.ntmps62
            go_wp2_with fail
            refine (htr _).mono ?_
            rintro e w1 ⟨rfl, hb1⟩
            go_wp2_with fail
            refine (hcp _).mono ?_
            rintro e w' ⟨rfl, rfl⟩
            go_wp2_with fail
            refine (htf _).mono ?_
            rintro e w2 ⟨rfl, hb2⟩
            go_wp2_with fail
            go_quiet (fail)
            go_wp2_with fail
            (try simp only [Exit.inBlock, Exit.then])
            refine bodyPost_ret (results_tmp4 rfl _ _ _) rfl ?_
            exact ⟨rfl, below_drewN (step hb1 hb2) _⟩
          · have he3 : (ByteArray.mk r2.toArray).toList.isEmpty = false := by rw [empB]; simpa using hr3
            have he4 : r2.isEmpty = false := by simpa using hr3
            have HF : Hid ((decide (0 < m) && r2.isEmpty) = false) := by show _ = _; rw [decide_eq_true hm0]; simpa using hr3
            rw [HF.out]
            clear hr3
            go_enter Tryz.func62, Tryz.ntmps62
            go_wp2_with fail
            refine (htr _).mono ?_
            rintro e w1 ⟨rfl, hb1⟩
            go_wp2_with fail
            refine (hcp _).mono ?_
            rintro e w' ⟨rfl, rfl⟩
            go_wp2_with fail
            refine (htf _).mono ?_
            rintro e w2 ⟨rfl, hb2⟩
            go_wp2_with fail
            go_quiet (fail)
            go_wp2_with fail
            (try simp only [Exit.inBlock, Exit.then])
            refine bodyPost_ret (results_tmp4 rfl _ _ _) rfl ?_
            exact ⟨rfl, below_drewN (step hb1 hb2) _⟩
        · have hmi : decide ((0 : Int) < m) = false := by simpa using hm0
          have HF : Hid ((decide (0 < m) && r2.isEmpty) = false) := by show _ = _; rw [decide_eq_false hm0]; rfl
          rw [HF.out]
          go_enter Tryz.func62, Tryz.ntmps62
          go_wp2_with fail
          refine (htr _).mono ?_
          rintro e w1 ⟨rfl, hb1⟩
          go_wp2_with fail
          refine (hcp _).mono ?_
          rintro e w' ⟨rfl, rfl⟩
          go_wp2_with fail
          refine (htf _).mono ?_
          rintro e w2 ⟨rfl, hb2⟩
          go_wp2_with fail
          go_quiet (fail)
          go_wp2_with fail
          (try simp only [Exit.inBlock, Exit.then])
          refine bodyPost_ret (results_tmp4 rfl _ _ _) rfl ?_
          exact ⟨rfl, below_drewN (step hb1 hb2) _⟩
      · have e1 : Go.Lib.hasPrefix (ByteArray.mk r.toArray).data.toList (ByteArray.mk #[46]).data.toList = false := by rw [eP]; simpa using Ne.symm hc
        rw [e1] at hcp
        have HP2 : Hid (partsL l = ([], [], n, false)) := by
          rw [hcf, if_neg (by simpa using hc)] at hpl
          exact hpl
        rw [HP2.out]
        clear hpl hcf hc eP e1 hr0 HPL
        go_enter Tryz.func62, Tryz.ntmps62
        go_wp2_with fail
        refine (htr _).mono ?_
        rintro e w1 ⟨rfl, hb1⟩
        go_wp2_with fail
        refine (hcp _).mono ?_
        rintro e w' ⟨rfl, rfl⟩
        go_wp2_with fail
        (try simp only [Exit.inBlock, Exit.then])
        refine bodyPost_ret (results_tmp4 rfl _ _ _) rfl ?_
        exact ⟨rfl, hb1⟩
end Go.Proofs.YtebbblhafjaaiaaGreatDoor
