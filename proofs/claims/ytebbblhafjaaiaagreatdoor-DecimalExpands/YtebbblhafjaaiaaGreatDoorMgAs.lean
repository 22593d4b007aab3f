/-
  numeral.Scale and Cut for every number of noughts.
-/
import Derived.Test.YtebbblhafjaaiaaGreatDoorMgAk
import Derived.Test.YtebbblhafjaaiaaGreatDoorBsN
import Derived.Test.YtebbblhafjaaiaaGreatDoorBsO
import Derived.Test.YtebbblhafjaaiaaGreatDoorMgAi
import Derived.Test.YtebbblhafjaaiaaGreatDoorShelf
import Derived.Test.YtebbblhafjaaiaaGreatDoorBsM
import Derived.Shelf.Strings.SlTrimAscii
import Derived.Deep.QuietTactic
import Derived.BigQuiet
import Derived.Test.YtebbblhafjaaiaaGreatDoorMgAt
import Derived.Test.YtebbblhafjaaiaaGreatDoorMgAo
namespace Go.Proofs.YtebbblhafjaaiaaGreatDoor
open Go.RowKit Go.Shelf
set_option linter.unusedVariables false

/-- What Scale answers. -/
def ScQ (w : World) (e : Ending) (w' : World) (V : Int) : Prop :=
  (∃ a l c zs, e = .returned (.tuple #[.agg #[.slice a l c], .int .i64 0]) ∧ Nt w' a l c zs ∧ num zs = V ∧ Below w.heap.size w w') ∨ (e = .returned (.tuple #[.agg #[.slice none 0 0], .int .i64 3]) ∧ pw 4096 ≤ V ∧ Below w.heap.size w w')

set_option maxHeartbeats 4000000 in
theorem scale_any (a : Option Addr) (l c : Nat) (xs : List Int) (k : Nat) (hk : k ≤ 9223372036854775807) (w : World) (h : Nt w a l c xs) : Calls Tryz.prog 74 #[.agg #[.slice a l c], .int .i64 k] w fun e w' => ScQ w e w' (num xs * 10 ^ k) := by
  have B0 : Below w.heap.size w w := Below.refl _ _
  go_enter Tryz.func74, Tryz.ntmps74
  go_wp2_with fail
  refine ent2 w _ _ _ _ (Q := fun W => Calls Tryz.prog _ _ W _) ?_
  intro x1 hb hs_x1 V0 V1
  replace h := Nt.after hb h
  replace B0 := step B0 hb
  clear hb hs_x1
  refine (ten_any k hk _).mono ?_
  rintro e x2 (⟨a1, l1, c1, z1, rfl, h1, e1, hb⟩ | ⟨rfl, hbig, hb⟩)
  · replace V0 := Va.after hb V0
    replace V1 := Va.after hb V1
    replace h := Nt.after hb h
    replace B0 := step B0 hb
    clear hb
    have E1 : Hid (num z1 = 10 ^ k) := e1
    clear e1
    have c_V0 := V0.cell
    have f0_V0 := V0.frozen 0
    have l_V0 := V0.lt
    have m_V0 := Nat.le_of_lt l_V0
    have c_V1 := V1.cell
    have f0_V1 := V1.frozen 0
    have l_V1 := V1.lt
    have m_V1 := Nat.le_of_lt l_V1
    go_wp2_with fail
    refine ent1 x2 _ _ (Q := fun W => Calls Tryz.prog _ _ W _) ?_
    intro x3 hb hs_x3 V2
    replace V0 := Va.after hb V0
    replace V1 := Va.after hb V1
    replace h := Nt.after hb h
    replace h1 := Nt.after hb h1
    replace B0 := step B0 hb
    clear hb hs_x3
    by_cases hf : num xs * 10 ^ k < pw 4096
    · have HF : Hid (num xs * 10 ^ k < pw 4096) := hf
      clear hf
      refine (nmul_ok a a1 l c l1 c1 xs z1 _ h h1 (by rw [E1.out]; exact HF.out)).mono ?_
      rintro e x4 ⟨a2, l2, c2, z2, rfl, h2, e2, hb⟩
      replace V0 := Va.after hb V0
      replace V1 := Va.after hb V1
      replace V2 := Va.after hb V2
      replace h := Nt.after hb h
      replace h1 := Nt.after hb h1
      replace B0 := step B0 hb
      clear hb
      have E2 : Hid (num z2 = num xs * 10 ^ k) := by show _ = _; rw [e2, E1.out]
      clear e2 HF E1
      clear c_V0 f0_V0 l_V0 m_V0 c_V1 f0_V1 l_V1 m_V1
      have c_V1 := V1.cell
      have f0_V1 := V1.frozen 0
      have l_V1 := V1.lt
      have m_V1 := Nat.le_of_lt l_V1
      go_wp2_with fail
      refine bodyPost_ret (results_ct rfl rfl (V1.set _)) rfl ?_
      exact .inl ⟨a2, l2, c2, z2, rfl, h2.store V1 _, E2.out, B0.setCell (p := ⟨w.heap.size + 1, 0, none⟩) (show w.heap.size ≤ w.heap.size + 1 by omega) _⟩
    · have HF : Hid (pw 4096 ≤ num xs * 10 ^ k) := Int.not_lt.1 hf
      clear hf
      refine (nmul_long a a1 l c l1 c1 xs z1 _ h h1 (by rw [E1.out]; exact HF.out)).mono ?_
      rintro e x4 ⟨rfl, hb⟩
      replace V0 := Va.after hb V0
      replace V1 := Va.after hb V1
      replace V2 := Va.after hb V2
      replace h := Nt.after hb h
      replace h1 := Nt.after hb h1
      replace B0 := step B0 hb
      clear hb
      clear E1
      clear c_V0 f0_V0 l_V0 m_V0 c_V1 f0_V1 l_V1 m_V1
      have c_V1 := V1.cell
      have f0_V1 := V1.frozen 0
      have l_V1 := V1.lt
      have m_V1 := Nat.le_of_lt l_V1
      go_wp2_with fail
      refine bodyPost_ret (results_ct rfl rfl (V1.set _)) rfl ?_
      exact .inr ⟨rfl, HF.out, B0.setCell (p := ⟨w.heap.size + 1, 0, none⟩) (show w.heap.size ≤ w.heap.size + 1 by omega) _⟩
  · replace V0 := Va.after hb V0
    replace V1 := Va.after hb V1
    replace h := Nt.after hb h
    replace B0 := step B0 hb
    clear hb
    have HBIG : Hid (Big (10 ^ k)) := hbig
    clear hbig
    have c_V0 := V0.cell
    have f0_V0 := V0.frozen 0
    have l_V0 := V0.lt
    have m_V0 := Nat.le_of_lt l_V0
    have c_V1 := V1.cell
    have f0_V1 := V1.frozen 0
    have l_V1 := V1.lt
    have m_V1 := Nat.le_of_lt l_V1
    go_wp2_with fail
    refine ent1 x2 _ _ (Q := fun W => Calls Tryz.prog _ _ W _) ?_
    intro x3 hb hs_x3 V2
    replace V0 := Va.after hb V0
    replace V1 := Va.after hb V1
    replace h := Nt.after hb h
    replace B0 := step B0 hb
    clear hb hs_x3
    refine (isZero_any a l c _).mono ?_
    rintro e x4 ⟨rfl, hb⟩
    replace V0 := Va.after hb V0
    replace V1 := Va.after hb V1
    replace V2 := Va.after hb V2
    replace h := Nt.after hb h
    replace B0 := step B0 hb
    clear hb
    clear c_V0 f0_V0 l_V0 m_V0 c_V1 f0_V1 l_V1 m_V1
    have c_V0 := V0.cell
    have f0_V0 := V0.frozen 0
    have l_V0 := V0.lt
    have m_V0 := Nat.le_of_lt l_V0
    have c_V1 := V1.cell
    have f0_V1 := V1.frozen 0
    have l_V1 := V1.lt
    have m_V1 := Nat.le_of_lt l_V1
    rw [h.zero]
    by_cases hz : num xs = 0
    · have g : decide (num xs = 0) = true := decide_eq_true hz
      rw [g]
      have HZ : Hid (num xs = 0) := hz
      clear hz
      go_wp2_with fail
      refine bodyPost_ret (results_ct rfl rfl (V1.set _)) rfl ?_
      exact .inl ⟨_, _, _, [], rfl, Nt.nil _, by rw [HZ.out, Int.zero_mul]; rfl, B0.setCell (p := ⟨w.heap.size + 1, 0, none⟩) (show w.heap.size ≤ w.heap.size + 1 by omega) _⟩
    · have g : decide (num xs = 0) = false := decide_eq_false hz
      rw [g]
      have HZ : Hid (pw 4096 ≤ num xs * 10 ^ k) := by
        have p0 := h.nonneg
        have p1 := HBIG.out.ge
        have p2 := Int.mul_le_mul_of_nonneg_right (show 1 ≤ num xs by omega) (Int.le_of_lt (show (0 : Int) < 10 ^ k from Int.pow_pos (by omega)))
        show _ ≤ _
        omega
      clear hz
      go_wp2_with fail
      refine bodyPost_ret (results_ct rfl rfl (V1.set _)) rfl ?_
      exact .inr ⟨rfl, HZ.out, B0.setCell (p := ⟨w.heap.size + 1, 0, none⟩) (show w.heap.size ≤ w.heap.size + 1 by omega) _⟩
end Go.Proofs.YtebbblhafjaaiaaGreatDoor
namespace Go.Proofs.YtebbblhafjaaiaaGreatDoor
open Go.RowKit Go.Shelf
set_option linter.unusedVariables false

theorem trimD (l : List UInt8) (w : World) : Calls Tryz.prog 64 #[.string ⟨l.toArray⟩, .string ⟨#[48, 49, 50, 51, 52, 53, 54, 55, 56, 57]⟩] w fun e w' => e = .returned (.string ⟨(l.dropWhile isD).toArray⟩) ∧ Below w.heap.size w w' := by
  have h := Any.strings_TrimLeft_laid Tryz.lays161 (by kernel_rfl) ⟨l.toArray⟩ ⟨#[48, 49, 50, 51, 52, 53, 54, 55, 56, 57]⟩ w (by decide) (ascii_of_all (by decide))
  have e : Go.Lib.trimLeftS (ByteArray.mk l.toArray).data.toList (ByteArray.mk #[48, 49, 50, 51, 52, 53, 54, 55, 56, 57]).data.toList = l.dropWhile isD := by
    show l.dropWhile (tenL.contains ·) = _
    congr 1
    funext c
    exact ten_contains c
  rw [e] at h
  exact h
theorem results_tmp4 {fn : Func} {t u v x : Tmp} (h : fn.results = #[.tmp t, .tmp u, .tmp v, .tmp x]) (tmps : Array Value) (P : Program) (w : World) :
    (results fn tmps).run P w = .ok (.tuple #[tmps.getD t undef, tmps.getD u undef, tmps.getD v undef, tmps.getD x undef]) w := by
  simp [results, h]
theorem empB (l : List UInt8) : (ByteArray.mk l.toArray).toList.isEmpty = l.isEmpty := by rw [Go.Lib.toList_data]
set_option maxHeartbeats 4000000 in
theorem parts_any (l : List UInt8) (hl : l.length ≤ 140737488355328) (w : World) :
    Calls Tryz.prog 62 #[.string ⟨l.toArray⟩] w fun e W' => e = .returned (.tuple #[.string ⟨(partsL l).1.toArray⟩, .string ⟨(partsL l).2.1.toArray⟩, .int .i64 (partsL l).2.2.1, .bool (partsL l).2.2.2]) ∧ Below w.heap.size w W' := by
  obtain ⟨a, ha⟩ : ∃ a, l.takeWhile isD = a := ⟨_, rfl⟩
  obtain ⟨r, hr⟩ : ∃ r, l.dropWhile isD = r := ⟨_, rfl⟩
  have hlr : l = a ++ r := by rw [← ha, ← hr]; exact (take_drop_while isD l).symm
  have hpl : partsL l = if a.length = 0 ∨ r = [] then (a, [], a.length, decide (0 < a.length))
      else if r.head? = some 46 then (a, (r.drop 1).takeWhile isD, l.length - ((r.drop 1).dropWhile isD).length, decide (0 < ((r.drop 1).takeWhile isD).length) && ((r.drop 1).dropWhile isD).isEmpty) else ([], [], a.length, false) := by
    unfold partsL; rw [ha, hr]
  have HPL : Hid _ := hpl
  have htr := trimD l
  rw [hr] at htr
  have hlen : l.length = a.length + r.length := by rw [hlr, List.length_append]
  obtain ⟨n, hn⟩ : ∃ n, a.length = n := ⟨_, rfl⟩
  have hE : (l.length : Int) - r.length = (n : Int) := by omega
  have s1 : ∀ W, (Instr.sliceAt 9 (.string ⟨l.toArray⟩) none (some (.int .i64 (n : Int))) none).run Tryz.prog W = .ok (.string ⟨a.toArray⟩) W := fun W => by
    rw [slice_hi l n n rfl (by omega) W, show l.take n = a by rw [hlr, ← hn, List.take_left]]
  have HN : Hid (a.length = n) := hn
  have HLR : Hid (l = a ++ r) := hlr
  have hl1 : r.length ≤ 140737488355328 := by omega
  have hn1 : n ≤ 140737488355328 := by omega
  clear hpl ha hr hlr hlen hn
  by_cases h0 : n = 0
  · have HP2 : Hid (partsL l = (a, [], 0, false)) := by show partsL l = _; have h := HPL.out; rw [if_pos (Or.inl (by rw [HN.out]; exact h0)), HN.out, h0] at h; exact h
    rw [HP2.out]
    have h0i : ((n : Int) == 0) = true := by simp [h0]
    have HN0 : Hid (n = 0) := h0
    have hnp : ¬ (0 : Int) < n := by omega
    clear h0
    go_enter Tryz.func62, Tryz.ntmps62
    go_wp2_with fail
    refine (htr _).mono ?_
    rintro e w1 ⟨rfl, hb1⟩
    go_wp2_with fail
    (try simp only [Exit.inBlock, Exit.then])
    refine bodyPost_ret (results_tmp4 rfl _ _ _) rfl ?_
    exact ⟨by rw [HN0.out]; rfl, hb1⟩
  · have h0i : ((n : Int) == 0) = false := by simpa using h0
    have hnp : (0 : Int) < n := by omega
    by_cases hr0 : r = []
    · have HP2 : Hid (partsL l = (a, [], n, true)) := by show partsL l = _; have h := HPL.out; rw [if_pos (Or.inr hr0), HN.out, decide_eq_true (by omega)] at h; exact h
      rw [HP2.out]
      have he2 : (ByteArray.mk r.toArray).toList.isEmpty = true := by rw [empB, hr0]; rfl
      have he : r.isEmpty = true := by rw [hr0]; rfl
      have hnd : decide (0 < n) = true := by simpa using hnp
      clear hr0
      go_enter Tryz.func62, Tryz.ntmps62
      go_wp2_with fail
      refine (htr _).mono ?_
      rintro e w1 ⟨rfl, hb1⟩
      go_wp2_with fail
      (try simp only [Exit.inBlock, Exit.then])
      refine bodyPost_ret (results_tmp4 rfl _ _ _) rfl ?_
      exact ⟨rfl, hb1⟩
    · have he2 : (ByteArray.mk r.toArray).toList.isEmpty = false := by rw [empB]; simpa using hr0
      have he : r.isEmpty = false := by simpa using hr0
      have hpl : partsL l = if r.head? = some 46 then (a, (r.drop 1).takeWhile isD, l.length - ((r.drop 1).dropWhile isD).length, decide (0 < ((r.drop 1).takeWhile isD).length) && ((r.drop 1).dropWhile isD).isEmpty) else ([], [], n, false) := by
        have h := HPL.out
        rw [if_neg (by rw [HN.out]; simp [h0, hr0]), HN.out] at h
        exact h
      obtain ⟨c, f, hcf⟩ : ∃ c f, r = c :: f := by
        cases r with
        | nil => exact absurd rfl hr0
        | cons c f => exact ⟨c, f, rfl⟩
      have hcp := Tryz.strings_CutPrefix ⟨r.toArray⟩ ⟨#[46]⟩
      have eP : Go.Lib.hasPrefix (ByteArray.mk r.toArray).data.toList (ByteArray.mk #[46]).data.toList = (46 == c) := by
        show List.isPrefixOf [46] r = _
        rw [hcf]
        simp [List.isPrefixOf]
      by_cases hc : c = 46
      · have e1 : Go.Lib.hasPrefix (ByteArray.mk r.toArray).data.toList (ByteArray.mk #[46]).data.toList = true := by rw [eP, hc]; rfl
        have e2 : Go.Lib.trimPrefix (ByteArray.mk r.toArray).data.toList (ByteArray.mk #[46]).data.toList = f := by
          unfold Go.Lib.trimPrefix; rw [e1, if_pos rfl]; show r.drop 1 = f; rw [hcf]; rfl
        rw [e1, e2] at hcp
        have hpl2 : partsL l = (a, f.takeWhile isD, l.length - (f.dropWhile isD).length, decide (0 < (f.takeWhile isD).length) && (f.dropWhile isD).isEmpty) := by
          rw [hcf, if_pos (by rw [hc]; rfl)] at hpl; exact hpl
        obtain ⟨b, hb⟩ : ∃ b, f.takeWhile isD = b := ⟨_, rfl⟩
        obtain ⟨r2, hr2⟩ : ∃ r2, f.dropWhile isD = r2 := ⟨_, rfl⟩
        have hf : f = b ++ r2 := by rw [← hb, ← hr2]; exact (take_drop_while isD f).symm
        have htf := trimD f
        rw [hr2] at htf
        rw [hb, hr2] at hpl2
        have hflen : f.length = b.length + r2.length := by rw [hf, List.length_append]
        have hrl : r.length = f.length + 1 := by rw [hcf]; rfl
        obtain ⟨m, hm⟩ : ∃ m, b.length = m := ⟨_, rfl⟩
        have hE2 : (f.length : Int) - r2.length = (m : Int) := by omega
        have s2 : ∀ W, (Instr.sliceAt 9 (.string ⟨f.toArray⟩) none (some (.int .i64 (m : Int))) none).run Tryz.prog W = .ok (.string ⟨b.toArray⟩) W := fun W => by
          rw [slice_hi f m m rfl (by omega) W, show f.take m = b by rw [hf, ← hm, List.take_left]]
        have hrr : r.length ≤ l.length := by rw [HLR.out, List.length_append]; omega
        obtain ⟨q, hq⟩ : ∃ q : Nat, l.length - r2.length = q := ⟨_, rfl⟩
        have hE3 : (l.length : Int) - r2.length = (q : Int) := by omega
        rw [hq, hm] at hpl2
        have HP2 : Hid (partsL l = (a, b, q, decide (0 < m) && r2.isEmpty)) := hpl2
        rw [HP2.out]
        have hfl : f.length ≤ 140737488355328 := by omega
        have hrl2 : r2.length ≤ 140737488355328 := by omega
        have hml : m ≤ 140737488355328 := by omega
        clear hpl hpl2 hcf hc hb hr2 hf hflen hm hq hrl hrr eP e1 e2 hr0 HPL
        by_cases hm0 : 0 < m
        · have hmi : (0 : Int) < m := by omega
          by_cases hr3 : r2 = []
          · have he3 : (ByteArray.mk r2.toArray).toList.isEmpty = true := by rw [empB, hr3]; rfl
            have he4 : r2.isEmpty = true := by rw [hr3]; rfl
            have HF : Hid ((decide (0 < m) && r2.isEmpty) = true) := by show _ = _; rw [decide_eq_true hm0, hr3]; rfl
            rw [HF.out]
            clear hr3
            go_enter Tryz.func62, Tryz.ntmps62
            go_wp2_with fail
            refine (htr _).mono ?_
            rintro e w1 ⟨rfl, hb1⟩
            go_wp2_with fail
            refine (hcp _).mono ?_
            rintro e w' ⟨rfl, rfl⟩
            go_wp2_with fail
            refine (htf _).mono ?_
            rintro e w2 ⟨rfl, hb2⟩
            go_wp2_with fail
            go_quiet (fail)
            go_wp2_with fail
            (try simp only [Exit.inBlock, Exit.then])
            refine bodyPost_ret (results_tmp4 rfl _ _ _) rfl ?_
            exact ⟨rfl, below_drewN (step hb1 hb2) _⟩
          · have he3 : (ByteArray.mk r2.toArray).toList.isEmpty = false := by rw [empB]; simpa using hr3
            have he4 : r2.isEmpty = false := by simpa using hr3
            have HF : Hid ((decide (0 < m) && r2.isEmpty) = false) := by show _ = _; rw [decide_eq_true hm0]; simpa using hr3
            rw [HF.out]
            clear hr3
            go_enter Tryz.func62, Tryz.ntmps62
            go_wp2_with fail
            refine (htr _).mono ?_
            rintro e w1 ⟨rfl, hb1⟩
            go_wp2_with fail
            refine (hcp _).mono ?_
            rintro e w' ⟨rfl, rfl⟩
            go_wp2_with fail
            refine (htf _).mono ?_
            rintro e w2 ⟨rfl, hb2⟩
            go_wp2_with fail
            go_quiet (fail)
            go_wp2_with fail
            (try simp only [Exit.inBlock, Exit.then])
            refine bodyPost_ret (results_tmp4 rfl _ _ _) rfl ?_
            exact ⟨rfl, below_drewN (step hb1 hb2) _⟩
        · have hmi : decide ((0 : Int) < m) = false := by simpa using hm0
          have HF : Hid ((decide (0 < m) && r2.isEmpty) = false) := by show _ = _; rw [decide_eq_false hm0]; rfl
          rw [HF.out]
          go_enter Tryz.func62, Tryz.ntmps62
          go_wp2_with fail
          refine (htr _).mono ?_
          rintro e w1 ⟨rfl, hb1⟩
          go_wp2_with fail
          refine (hcp _).mono ?_
          rintro e w' ⟨rfl, rfl⟩
          go_wp2_with fail
          refine (htf _).mono ?_
          rintro e w2 ⟨rfl, hb2⟩
          go_wp2_with fail
          go_quiet (fail)
          go_wp2_with fail
          (try simp only [Exit.inBlock, Exit.then])
          refine bodyPost_ret (results_tmp4 rfl _ _ _) rfl ?_
          exact ⟨rfl, below_drewN (step hb1 hb2) _⟩
      · have e1 : Go.Lib.hasPrefix (ByteArray.mk r.toArray).data.toList (ByteArray.mk #[46]).data.toList = false := by rw [eP]; simpa using Ne.symm hc
        rw [e1] at hcp
        have HP2 : Hid (partsL l = ([], [], n, false)) := by
          rw [hcf, if_neg (by simpa using hc)] at hpl
          exact hpl
        rw [HP2.out]
        clear hpl hcf hc eP e1 hr0 HPL
        go_enter Tryz.func62, Tryz.ntmps62
        go_wp2_with fail
        refine (htr _).mono ?_
        rintro e w1 ⟨rfl, hb1⟩
        go_wp2_with fail
        refine (hcp _).mono ?_
        rintro e w' ⟨rfl, rfl⟩
        go_wp2_with fail
        (try simp only [Exit.inBlock, Exit.then])
        refine bodyPost_ret (results_tmp4 rfl _ _ _) rfl ?_
        exact ⟨rfl, hb1⟩
end Go.Proofs.YtebbblhafjaaiaaGreatDoor
namespace Go.Proofs.YtebbblhafjaaiaaGreatDoor
open Go.RowKit Go.Shelf
set_option linter.unusedVariables false

theorem iv_sgn (s : Bool) (zs : List Int) (n : Nat) (h : num zs = n) : iv s zs = sgn s n := by cases s <;> simp [iv, sgn, h]
theorem worthL_over {neg : Bool} {a b : List UInt8} (h : b.length > 9 ∨ a.length > 19) : worthL neg a b = (0, 0, 5) := by unfold worthL; rw [if_pos h]
theorem worthL_in {neg : Bool} {a b : List UInt8} (h1 : b.length ≤ 9) (h2 : a.length ≤ 19) (hf : fits (sgn neg (tv 10 (a ++ b))) = true) : worthL neg a b = (sgn neg (tv 10 (a ++ b)), b.length, 0) := by unfold worthL; rw [if_neg (by omega), if_pos hf]
theorem worthL_out {neg : Bool} {a b : List UInt8} (h1 : b.length ≤ 9) (h2 : a.length ≤ 19) (hf : fits (sgn neg (tv 10 (a ++ b))) = false) : worthL neg a b = (0, 0, 5) := by unfold worthL; rw [if_neg (by omega), if_neg (by rw [hf]; simp)]
theorem tv_nought (b : Nat) (l : List UInt8) : tv b (48 :: l) = tv b l := by rw [tv_cons, wv_nought]; omega
theorem fits_iff (x : Int) : fits x = true ↔ -9223372036854775808 ≤ x ∧ x ≤ 9223372036854775807 := by simp [fits]
set_option maxHeartbeats 4000000 in
theorem worth_dec (neg : Bool) (a b : List UInt8) (ha : Dig 10 a) (hb : Dig 10 b) (hla : a.length ≤ 140737488355328) (hlb : b.length ≤ 140737488355328) (w : World) :
    Calls Tryz.prog 63 #[.bool neg, .string ⟨a.toArray⟩, .string ⟨b.toArray⟩] w fun e W' => e = .returned (.tuple #[.agg #[.int .i64 (worthL neg a b).1, .int .i64 (worthL neg a b).2.1], .int .i64 (worthL neg a b).2.2]) ∧ Below w.heap.size w W' := by
  by_cases hb9 : b.length ≤ 9
  · by_cases ha19 : a.length ≤ 19
    · have HD : Hid (Dig 10 (48 :: (a ++ b))) := fun c hc => by
        rcases List.mem_cons.1 hc with h | h
        · rw [h, wv_nought]; omega
        · exact (ha.append hb) c h
      clear ha hb
      obtain ⟨V, hV⟩ : ∃ V : Nat, tv 10 (a ++ b) = V := ⟨_, rfl⟩
      have HV : Hid (tv 10 (48 :: (a ++ b)) = V) := by show _ = _; rw [tv_nought]; exact hV
      have hpc := parse_few ⟨(48 :: (a ++ b)).toArray⟩ (by rw [bsize]; simp) (by rw [bsize]; simp; omega) HD.out
      rw [show (ByteArray.mk (48 :: (a ++ b)).toArray).data.toList = 48 :: (a ++ b) from rfl, HV.out] at hpc
      have c1 := cat [48] a
      have c2 := cat (48 :: a) b
      have hnb : ¬ (9 : Int) < (b.length : Int) := by omega
      have hna : ¬ (19 : Int) < (a.length : Int) := by omega
      by_cases hf : fits (sgn neg V) = true
      · rw [worthL_in hb9 ha19 (by rw [hV]; exact hf), hV]
        have hf2 := (fits_iff _).1 hf
        have HF : Hid (-9223372036854775808 ≤ sgn neg V ∧ sgn neg V ≤ 9223372036854775807) := hf2
        clear hf hf2 hV HD
        have B0 : Below w.heap.size w w := Below.refl _ _
        go_enter Tryz.func63, Tryz.ntmps63
        go_wp2_with fail
        refine ent1 w _ _ (Q := fun W => Calls Tryz.prog _ _ W _) ?_
        intro x1 hb hs_x1 V0
        replace B0 := step B0 hb
        clear hb hs_x1
        refine (hpc _).mono ?_
        rintro e x2 ⟨p, l, c, zs, rfl, hN, hn, hb⟩
        replace V0 := Va.after hb V0
        replace B0 := step B0 hb
        clear hb
        have c_V0 := V0.c0
        have f0_V0 := V0.frozen 0
        have d_V0 := V0.c1
        have f1_V0 := V0.frozen 1
        have l_V0 := V0.lt
        have m_V0 := Nat.le_of_lt l_V0
        go_wp2_with fail
        refine ent1 x2 _ _ (Q := fun W => Calls Tryz.prog _ _ W _) ?_
        intro x3 hb hs_x3 V1
        replace V0 := Va.after hb V0
        replace hN := Nt.after hb hN
        replace B0 := step B0 hb
        clear hb hs_x3
        refine (wnew_any neg p l c zs _ hN).mono ?_
        rintro e x4 ⟨s', rfl, hI, hiv, hb⟩
        replace V0 := Va.after hb V0
        replace V1 := Va.after hb V1
        replace hN := Nt.after hb hN
        replace B0 := step B0 hb
        clear hb
        have HIV : Hid (iv s' zs = sgn neg V) := by show _ = _; rw [hiv]; exact iv_sgn neg zs V hn
        clear hiv
        clear c_V0 f0_V0 d_V0 f1_V0 l_V0 m_V0
        have c_V0 := V0.c0
        have f0_V0 := V0.frozen 0
        have d_V0 := V0.c1
        have f1_V0 := V0.frozen 1
        have l_V0 := V0.lt
        have m_V0 := Nat.le_of_lt l_V0
        go_wp2_with fail
        have hw := wint64_in s' p l c zs x4 hI (by rw [HIV.out]; exact HF.out.1) (by rw [HIV.out]; exact HF.out.2)
        rw [HIV.out] at hw
        refine (hw).mono ?_
        rintro e x5 ⟨rfl, hb⟩
        replace V0 := Va.after hb V0
        replace V1 := Va.after hb V1
        replace hN := Nt.after hb hN
        replace hI := It.after hb hI
        replace B0 := step B0 hb
        clear hb
        clear c_V0 f0_V0 d_V0 f1_V0 l_V0 m_V0
        have c_V0 := V0.c0
        have f0_V0 := V0.frozen 0
        have d_V0 := V0.c1
        have f1_V0 := V0.frozen 1
        have l_V0 := V0.lt
        have m_V0 := Nat.le_of_lt l_V0
        go_wp2_with fail
        refine bodyPost_ret (results_dt rfl rfl (V0.set2 _ _)) rfl ?_
        exact ⟨rfl, below_2 B0 (Nat.le_refl _) _ _⟩
      · have hf' : fits (sgn neg V) = false := by simpa using hf
        rw [worthL_out hb9 ha19 (by rw [hV]; exact hf')]
        have HF : Hid (sgn neg V < -9223372036854775808 ∨ 9223372036854775807 < sgn neg V) := by
          show _ ∨ _
          rcases Int.lt_or_le (sgn neg V) (-9223372036854775808) with h | h
          · exact .inl h
          · rcases Int.lt_or_le 9223372036854775807 (sgn neg V) with h' | h'
            · exact .inr h'
            · exact absurd ((fits_iff _).2 ⟨h, h'⟩) hf
        clear hf hf' hV HD
        have B0 : Below w.heap.size w w := Below.refl _ _
        go_enter Tryz.func63, Tryz.ntmps63
        go_wp2_with fail
        refine ent1 w _ _ (Q := fun W => Calls Tryz.prog _ _ W _) ?_
        intro x1 hb hs_x1 V0
        replace B0 := step B0 hb
        clear hb hs_x1
        refine (hpc _).mono ?_
        rintro e x2 ⟨p, l, c, zs, rfl, hN, hn, hb⟩
        replace V0 := Va.after hb V0
        replace B0 := step B0 hb
        clear hb
        have c_V0 := V0.c0
        have f0_V0 := V0.frozen 0
        have d_V0 := V0.c1
        have f1_V0 := V0.frozen 1
        have l_V0 := V0.lt
        have m_V0 := Nat.le_of_lt l_V0
        go_wp2_with fail
        refine ent1 x2 _ _ (Q := fun W => Calls Tryz.prog _ _ W _) ?_
        intro x3 hb hs_x3 V1
        replace V0 := Va.after hb V0
        replace hN := Nt.after hb hN
        replace B0 := step B0 hb
        clear hb hs_x3
        refine (wnew_any neg p l c zs _ hN).mono ?_
        rintro e x4 ⟨s', rfl, hI, hiv, hb⟩
        replace V0 := Va.after hb V0
        replace V1 := Va.after hb V1
        replace hN := Nt.after hb hN
        replace B0 := step B0 hb
        clear hb
        have HIV : Hid (iv s' zs = sgn neg V) := by show _ = _; rw [hiv]; exact iv_sgn neg zs V hn
        clear hiv
        clear c_V0 f0_V0 d_V0 f1_V0 l_V0 m_V0
        have c_V0 := V0.c0
        have f0_V0 := V0.frozen 0
        have d_V0 := V0.c1
        have f1_V0 := V0.frozen 1
        have l_V0 := V0.lt
        have m_V0 := Nat.le_of_lt l_V0
        go_wp2_with fail
        have hw := wint64_out s' p l c zs x4 hI (by rw [HIV.out]; exact HF.out)
        refine (hw).mono ?_
        rintro e x5 ⟨rfl, hb⟩
        replace V0 := Va.after hb V0
        replace V1 := Va.after hb V1
        replace hN := Nt.after hb hN
        replace hI := It.after hb hI
        replace B0 := step B0 hb
        clear hb
        clear c_V0 f0_V0 d_V0 f1_V0 l_V0 m_V0
        have c_V0 := V0.c0
        have f0_V0 := V0.frozen 0
        have d_V0 := V0.c1
        have f1_V0 := V0.frozen 1
        have l_V0 := V0.lt
        have m_V0 := Nat.le_of_lt l_V0
        go_wp2_with fail
        refine bodyPost_ret (results_dt rfl rfl (V0.set2 _ _)) rfl ?_
        exact ⟨rfl, below_2 B0 (Nat.le_refl _) _ _⟩
    · rw [worthL_over (Or.inr (by omega))]
      have hnb : ¬ (9 : Int) < (b.length : Int) := by omega
      have hna : (19 : Int) < (a.length : Int) := by omega
      go_enter Tryz.func63, Tryz.ntmps63
      go_wp2_with fail
      refine bodyPost_ret (results_dt rfl rfl (Va.new w _ _)) rfl ?_
      exact ⟨rfl, (Below.refl _ _).alloc (Nat.le_refl _) _⟩
  · rw [worthL_over (Or.inl (by omega))]
    have hnb : (9 : Int) < (b.length : Int) := by omega
    go_enter Tryz.func63, Tryz.ntmps63
    go_wp2_with fail
    refine bodyPost_ret (results_dt rfl rfl (Va.new w _ _)) rfl ?_
    exact ⟨rfl, (Below.refl _ _).alloc (Nat.le_refl _) _⟩
end Go.Proofs.YtebbblhafjaaiaaGreatDoor
namespace Go.Proofs.YtebbblhafjaaiaaGreatDoor
open Go.RowKit Go.Shelf
set_option linter.unusedVariables false

theorem take_len (p : UInt8 → Bool) (l : List UInt8) : (l.takeWhile p).length ≤ l.length ∧ (l.dropWhile p).length ≤ l.length := by
  have h := congrArg List.length (take_drop_while p l)
  rw [List.length_append] at h
  omega
theorem partsL_dig (l : List UInt8) : Dig 10 (partsL l).1 ∧ Dig 10 (partsL l).2.1 ∧ (partsL l).1.length ≤ l.length ∧ (partsL l).2.1.length ≤ l.length ∧ (partsL l).2.2.1 ≤ l.length := by
  have h1 := take_len isD l
  have h2 := take_len isD ((l.dropWhile isD).drop 1)
  have h3 : ((l.dropWhile isD).drop 1).length ≤ l.length := by simp; omega
  unfold partsL
  split
  · exact ⟨dig_take _, Dig.nil _, h1.1, Nat.zero_le _, h1.1⟩
  · split
    · exact ⟨dig_take _, dig_take _, h1.1, by show (((l.dropWhile isD).drop 1).takeWhile isD).length ≤ _; omega, by show l.length - _ ≤ _; omega⟩
    · exact ⟨Dig.nil _, Dig.nil _, Nat.zero_le _, Nat.zero_le _, h1.1⟩
theorem results_dtt {fn : Func} {i j k b : Nat} {v u : Value} {tmps : Array Value} {w : World} (h : fn.results = #[.cell i 23, .tmp j, .tmp k]) (hi : tmps.getD i undef = .pointer (some ⟨b, 0, none⟩)) (hv : Va w b 23 #[v, u]) :
    (results fn tmps).run Tryz.prog w = .ok (.tuple #[.agg #[v, u], tmps.getD j undef, tmps.getD k undef]) w := by
  have c := hv.c0; have d := hv.c1
  rw [Array.getD_eq_getD_getElem?] at hi
  simp [results, h, hi, c, d, go_sem]
theorem cut_minus (l : List UInt8) (w : World) : Calls Tryz.prog 61 #[.string ⟨l.toArray⟩, .string ⟨#[45]⟩] w fun e w' => e = .returned (.tuple #[.string ⟨(if decide (l.head? = some 45) then l.drop 1 else l).toArray⟩, .bool (decide (l.head? = some 45))]) ∧ w' = w := by
  have h := Tryz.strings_CutPrefix ⟨l.toArray⟩ ⟨#[45]⟩ w
  have e1 : Go.Lib.hasPrefix (ByteArray.mk l.toArray).data.toList (ByteArray.mk #[45]).data.toList = decide (l.head? = some 45) := by
    show List.isPrefixOf [45] l = _
    cases l with
    | nil => rfl
    | cons c l =>
      simp only [List.isPrefixOf, Bool.and_true, List.head?_cons]
      by_cases hc : c = 45
      · subst hc; rfl
      · have h1 : ((45 : UInt8) == c) = false := by simpa using Ne.symm hc
        rw [h1]; symm; simpa using hc
  have e2 : Go.Lib.trimPrefix (ByteArray.mk l.toArray).data.toList (ByteArray.mk #[45]).data.toList = if decide (l.head? = some 45) then l.drop 1 else l := by
    unfold Go.Lib.trimPrefix; rw [e1]; rfl
  rw [e1, e2] at h
  exact h
theorem trim_0a (l : List UInt8) (w : World) : Calls Tryz.prog 64 #[.string ⟨l.toArray⟩, .string ⟨#[48]⟩] w fun e w' => e = .returned (.string ⟨(trimA l).toArray⟩) ∧ w' = w := Tryz.strings_TrimLeft_one ⟨l.toArray⟩ 48 (by decide) w
theorem trim_0b (l : List UInt8) (h : l.length ≤ 140737488355328) (w : World) : Calls Tryz.prog 65 #[.string ⟨l.toArray⟩, .string ⟨#[48]⟩] w fun e w' => e = .returned (.string ⟨(trimB l).toArray⟩) ∧ w' = w := Tryz.strings_TrimRight_one ⟨l.toArray⟩ 48 (by decide) w (by rw [bsize]; omega)
set_option maxHeartbeats 4000000 in
theorem parse_dec (l : List UInt8) (hl : l.length ≤ 140737488355328) (w : World) :
    Calls Tryz.prog 22 #[.string ⟨l.toArray⟩] w fun e W' => e = .returned (.tuple #[.agg #[.int .i64 (readL l).1, .int .i64 (readL l).2.1], .int .i64 (readL l).2.2.1, .int .i64 (readL l).2.2.2]) ∧ Below w.heap.size w W' := by
  have hcut := cut_minus l
  obtain ⟨neg, hneg⟩ : ∃ neg, decide (l.head? = some 45) = neg := ⟨_, rfl⟩
  obtain ⟨bare, hbare⟩ : ∃ bare, (if neg then l.drop 1 else l) = bare := ⟨_, rfl⟩
  rw [hneg, hbare] at hcut
  have hbl : bare.length ≤ l.length := by rw [← hbare]; split <;> simp
  have hrd : readL l = if (partsL bare).2.2.2 then ((worthL neg (trimA (partsL bare).1) (trimB (partsL bare).2.1)).1, (worthL neg (trimA (partsL bare).1) (trimB (partsL bare).2.1)).2.1, 0, (worthL neg (trimA (partsL bare).1) (trimB (partsL bare).2.1)).2.2)
      else (0, 0, l.length - bare.length + (partsL bare).2.2.1, 60) := by
    unfold readL; simp only [hneg, hbare]
  have hpa := parts_any bare (by omega)
  obtain ⟨hd1, hd2, hl1, hl2, hl3⟩ := partsL_dig bare
  obtain ⟨⟨a, b, at', ok⟩, hp⟩ : ∃ p, partsL bare = p := ⟨_, rfl⟩
  rw [hp] at hrd hpa hd1 hd2 hl1 hl2 hl3
  simp only at hrd hpa hd1 hd2 hl1 hl2 hl3
  rw [hrd]
  clear hrd hp hneg hbare
  cases ok with
  | false =>
    obtain ⟨q, hq⟩ : ∃ q : Nat, l.length - bare.length + at' = q := ⟨_, rfl⟩
    have hqi : (l.length : Int) - bare.length + at' = q := by omega
    simp only [Bool.false_eq_true, if_false, hq]
    clear hq
    have B0 : Below w.heap.size w w := Below.refl _ _
    go_enter Tryz.func22, Tryz.ntmps22
    go_wp2_with fail
    refine ent1 w _ _ (Q := fun W => Calls Tryz.prog _ _ W _) ?_
    intro x1 hb hs_x1 V0
    replace B0 := step B0 hb
    clear hb hs_x1
    refine (hcut _).mono ?_
    rintro e w' ⟨rfl, rfl⟩
    have c_V0 := V0.c0
    have f0_V0 := V0.frozen 0
    have d_V0 := V0.c1
    have f1_V0 := V0.frozen 1
    have l_V0 := V0.lt
    have m_V0 := Nat.le_of_lt l_V0
    go_wp2_with fail
    refine (hpa _).mono ?_
    rintro e x2 ⟨rfl, hb⟩
    replace V0 := Va.after hb V0
    replace B0 := step B0 hb
    clear hb
    clear c_V0 f0_V0 d_V0 f1_V0 l_V0 m_V0
    have c_V0 := V0.c0
    have f0_V0 := V0.frozen 0
    have d_V0 := V0.c1
    have f1_V0 := V0.frozen 1
    have l_V0 := V0.lt
    have m_V0 := Nat.le_of_lt l_V0
    go_wp2_with fail
    refine bodyPost_ret (results_dtt rfl rfl (V0.set2 _ _)) rfl ?_
    exact ⟨rfl, below_2 B0 (Nat.le_refl _) _ _⟩
  | true =>
    have hwo := worth_dec neg (trimA a) (trimB b) (trimA_dig hd1) (trimB_dig hd2) (by have := trimA_len a; omega) (by have := trimB_len b; omega)
    have htb := trim_0b b (by omega)
    obtain ⟨⟨U, P, er⟩, hw⟩ : ∃ p, worthL neg (trimA a) (trimB b) = p := ⟨_, rfl⟩
    rw [hw] at hwo
    simp only [if_true, hw]
    simp only at hwo
    clear hw
    have B0 : Below w.heap.size w w := Below.refl _ _
    go_enter Tryz.func22, Tryz.ntmps22
    go_wp2_with fail
    refine ent1 w _ _ (Q := fun W => Calls Tryz.prog _ _ W _) ?_
    intro x1 hb hs_x1 V0
    replace B0 := step B0 hb
    clear hb hs_x1
    refine (hcut _).mono ?_
    rintro e w' ⟨rfl, rfl⟩
    have c_V0 := V0.c0
    have f0_V0 := V0.frozen 0
    have d_V0 := V0.c1
    have f1_V0 := V0.frozen 1
    have l_V0 := V0.lt
    have m_V0 := Nat.le_of_lt l_V0
    go_wp2_with fail
    refine (hpa _).mono ?_
    rintro e x2 ⟨rfl, hb⟩
    replace V0 := Va.after hb V0
    replace B0 := step B0 hb
    clear hb
    clear c_V0 f0_V0 d_V0 f1_V0 l_V0 m_V0
    have c_V0 := V0.c0
    have f0_V0 := V0.frozen 0
    have d_V0 := V0.c1
    have f1_V0 := V0.frozen 1
    have l_V0 := V0.lt
    have m_V0 := Nat.le_of_lt l_V0
    go_wp2_with fail
    refine (trim_0a a _).mono ?_
    rintro e w2 ⟨rfl, rfl⟩
    clear c_V0 f0_V0 d_V0 f1_V0 l_V0 m_V0
    have c_V0 := V0.c0
    have f0_V0 := V0.frozen 0
    have d_V0 := V0.c1
    have f1_V0 := V0.frozen 1
    have l_V0 := V0.lt
    have m_V0 := Nat.le_of_lt l_V0
    go_wp2_with fail
    refine (htb _).mono ?_
    rintro e w3 ⟨rfl, rfl⟩
    clear c_V0 f0_V0 d_V0 f1_V0 l_V0 m_V0
    have c_V0 := V0.c0
    have f0_V0 := V0.frozen 0
    have d_V0 := V0.c1
    have f1_V0 := V0.frozen 1
    have l_V0 := V0.lt
    have m_V0 := Nat.le_of_lt l_V0
    go_wp2_with fail
    refine (hwo _).mono ?_
    rintro e x3 ⟨rfl, hb⟩
    replace V0 := Va.after hb V0
    replace B0 := step B0 hb
    clear hb
    clear c_V0 f0_V0 d_V0 f1_V0 l_V0 m_V0
    have c_V0 := V0.c0
    have f0_V0 := V0.frozen 0
    have d_V0 := V0.c1
    have f1_V0 := V0.frozen 1
    have l_V0 := V0.lt
    have m_V0 := Nat.le_of_lt l_V0
    have p0_V0 := (V0.old (.cells #[.int .i64 U, .int .i64 P] 23)).c0
    have q0_V0 := (V0.old (.cells #[.int .i64 U, .int .i64 P] 23)).frozen 0
    have p1_V0 := (V0.old (.cells #[.int .i64 U, .int .i64 P] 23)).c1
    have q1_V0 := (V0.old (.cells #[.int .i64 U, .int .i64 P] 23)).frozen 1
    go_wp2_with fail
    have B1 := below_2 B0 (Nat.le_refl _) (.int .i64 U) (.int .i64 P)
    refine bodyPost_ret (results_dtt rfl rfl ((V0.set2 _ _).old _)) rfl ?_
    exact ⟨rfl, B1.alloc B1.size _⟩
end Go.Proofs.YtebbblhafjaaiaaGreatDoor
