/-
  Amounts in plain Lean: what is read of a text, piece by piece, and what follows.
-/
import Derived.Test.YtebbblhafjaaiaaGreatDoorMgAi
import Derived.Test.YtebbblhafjaaiaaGreatDoorShelf
import Derived.Test.YtebbblhafjaaiaaGreatDoorBsM
import Derived.Test.YtebbblhafjaaiaaGreatDoorMgAp
import Derived.Test.YtebbblhafjaaiaaGreatDoorMgAo
import Derived.Shelf.Strings.SlTrimAscii
import Derived.Deep.QuietTactic
import Derived.BigQuiet
import Derived.Test.YtebbblhafjaaiaaGreatDoorBsH
import Derived.Test.YtebbblhafjaaiaaGreatDoorMgAh
import Derived.Test.YtebbblhafjaaiaaGreatDoorRt3
import Derived.Test.YtebbblhafjaaiaaGreatDoorMgAa
namespace Go.Proofs.YtebbblhafjaaiaaGreatDoor
set_option linter.unusedVariables false

/-- How far from 0 on its side. -/
def mostU (neg : Bool) : Nat := if neg then 9223372036854775808 else 9223372036854775807
theorem mostU_lt (neg : Bool) : mostU neg < 10000000000000000000 := by cases neg <;> decide
/-- May this byte stand here, with so many digits that must follow? -/
def okD (neg : Bool) (far rest : Nat) (c : UInt8) : Bool :=
  isD c && decide (far * 10 + wv c ≤ mostU neg / 10 ^ rest) && !(neg && decide (far * 10 + wv c = 0) && decide (rest = 0))
def Inv9 (neg : Bool) (far rest : Nat) : Prop := far ≤ mostU neg / 10 ^ rest ∧ (neg = true → rest = 0 → far ≠ 0)
theorem okD_iff (neg : Bool) (far rest : Nat) (c : UInt8) : okD neg far rest c = true ↔ isD c = true ∧ Inv9 neg (far * 10 + wv c) rest := by
  unfold okD Inv9
  cases neg <;> simp [and_assoc] <;> omega
/-- What is read: how many bytes, and the units, or none. -/
abbrev R9 := Nat × Option Int
def one (r : R9) : R9 := (r.1 + 1, r.2)
def plus (n : Nat) (r : R9) : R9 := (n + r.1, r.2)
theorem plus_zero (r : R9) : plus 0 r = r := by simp [plus]
theorem plus_one (n : Nat) (r : R9) : plus n (one r) = plus (n + 1) r := by simp [plus, one]; omega
def finR (u : Int) : List UInt8 → R9
  | [] => (0, some u)
  | _ :: _ => (0, none)
def fixC : List UInt8 → (List UInt8 → R9) → List UInt8 → R9
  | [], K, l => K l
  | _ :: _, _, [] => (0, none)
  | a :: t, K, b :: l => if b = a then one (fixC t K l) else (0, none)
def tailR (neg : Bool) (nm : List UInt8) (far : Nat) : List UInt8 → R9 := fixC [32] (fixC nm (finR (sgn neg far)))
def behR (neg : Bool) (nm : List UInt8) : Nat → Nat → List UInt8 → R9
  | 0, far, l => tailR neg nm far l
  | _ + 1, _, [] => (0, none)
  | k + 1, far, c :: l => if okD neg far k c then one (behR neg nm k (far * 10 + wv c) l) else (0, none)
def ptD (D : Nat) : List UInt8 := if D = 0 then [] else [46]
def ptR (neg : Bool) (nm : List UInt8) (D far : Nat) : List UInt8 → R9 := fixC (ptD D) (behR neg nm D far)
def ahR (neg : Bool) (nm : List UInt8) (D : Nat) : Nat → List UInt8 → R9
  | far, [] => ptR neg nm D far []
  | far, c :: l => if (decide (0 < far) && okD neg far D c) = true then one (ahR neg nm D (far * 10 + wv c) l) else ptR neg nm D far (c :: l)
def firR (neg : Bool) (nm : List UInt8) (D : Nat) : List UInt8 → R9
  | [] => (0, none)
  | c :: l => if okD neg 0 D c = true then one (ahR neg nm D (wv c) l) else (0, none)
def parR (nm : List UInt8) (D : Nat) : List UInt8 → R9
  | [] => firR false nm D []
  | c :: l => if c = 45 then one (firR true nm D l) else firR false nm D (c :: l)
/-- What is answered: the units, the place, the error. -/
def out9 (r : R9) : Int × Nat × Int := match r.2 with
  | some u => (u, 0, 0)
  | none => (0, r.1, 91)

end Go.Proofs.YtebbblhafjaaiaaGreatDoor
namespace Go.Proofs.YtebbblhafjaaiaaGreatDoor
set_option linter.unusedVariables false

/-- The amount, its digits being t. -/
def amt (D : Nat) (nm t : List UInt8) (u : Int) : List UInt8 := textL (decide (u < 0)) D t ++ (32 :: nm)
end Go.Proofs.YtebbblhafjaaiaaGreatDoor
namespace Go.Proofs.YtebbblhafjaaiaaGreatDoor
open Go.RowKit Go.Shelf
set_option linter.unusedVariables false

def isCap (c : UInt8) : Bool := decide (65 ≤ c.toNat ∧ c.toNat ≤ 90)
def capL : List UInt8 := [65, 66, 67, 68, 69, 70, 71, 72, 73, 74, 75, 76, 77, 78, 79, 80, 81, 82, 83, 84, 85, 86, 87, 88, 89, 90]
set_option maxRecDepth 20000 in
theorem cap_contains (c : UInt8) : capL.contains c = isCap c := by
  have h : ∀ n : Fin 256, capL.contains (UInt8.ofNat n.1) = isCap (UInt8.ofNat n.1) := by decide
  have := h ⟨c.toNat, c.toNat_lt⟩
  simpa using this
theorem trimC (l : List UInt8) (w : World) : Calls Tryz.prog 64 #[.string ⟨l.toArray⟩, .string ⟨#[65, 66, 67, 68, 69, 70, 71, 72, 73, 74, 75, 76, 77, 78, 79, 80, 81, 82, 83, 84, 85, 86, 87, 88, 89, 90]⟩] w fun e w' => e = .returned (.string ⟨(l.dropWhile isCap).toArray⟩) ∧ Below w.heap.size w w' := by
  have h := Any.strings_TrimLeft_laid Tryz.lays161 (by kernel_rfl) ⟨l.toArray⟩ ⟨#[65, 66, 67, 68, 69, 70, 71, 72, 73, 74, 75, 76, 77, 78, 79, 80, 81, 82, 83, 84, 85, 86, 87, 88, 89, 90]⟩ w (by decide) (ascii_of_all (by decide))
  have e : Go.Lib.trimLeftS (ByteArray.mk l.toArray).data.toList (ByteArray.mk #[65, 66, 67, 68, 69, 70, 71, 72, 73, 74, 75, 76, 77, 78, 79, 80, 81, 82, 83, 84, 85, 86, 87, 88, 89, 90]).data.toList = l.dropWhile isCap := by
    show l.dropWhile (capL.contains ·) = _
    congr 1
    funext c
    exact cap_contains c
  rw [e] at h
  exact h
/-- A currency that may be. -/
def Cur (nm : List UInt8) (D : Int) : Prop := nm.length = 3 ∧ nm.dropWhile isCap = [] ∧ 0 ≤ D ∧ D ≤ 4
theorem check9_ok (nm : List UInt8) (D : Int) (h : Cur nm D) (w : World) : Calls Tryz.prog 39 #[.agg #[.string ⟨nm.toArray⟩, .int .i64 D]] w fun e w' => e = .returned (.int .i64 0) ∧ Below w.heap.size w w' := by
  obtain ⟨h1, h2, h3, h4⟩ := h
  have ht := trimC nm
  rw [h2] at ht
  have h1' : (nm.length : Int) = 3 := by omega
  go_enter Tryz.func39, Tryz.ntmps39
  go_wp2_with fail
  refine ent1 w _ _ (Q := fun W => Calls Tryz.prog _ _ W _) ?_
  intro w0 B0 hs V0
  refine (ht _).mono ?_
  rintro e w1 ⟨rfl, hb1⟩
  replace B0 := step B0 hb1
  replace V0 := Va.after hb1 V0
  have c1 : w1.cell? ⟨w.heap.size, 1, none⟩ = some (.int .i64 D) := V0.cellAt 1
  clear hb1
  go_wp2_with fail
  go_ret
  exact ⟨rfl, B0⟩
set_option maxHeartbeats 1000000 in
theorem check9_no (nm : List UInt8) (D : Int) (h : ¬ Cur nm D) (w : World) : Calls Tryz.prog 39 #[.agg #[.string ⟨nm.toArray⟩, .int .i64 D]] w fun e w' => e = .returned (.int .i64 90) ∧ Below w.heap.size w w' := by
  by_cases h1 : nm.length = 3
  · have h1' : (nm.length : Int) = 3 := by omega
    have ht := trimC nm
    by_cases h2 : nm.dropWhile isCap = []
    · rw [h2] at ht
      have h34 : ¬ (0 ≤ D ∧ D ≤ 4) := fun hh => h ⟨h1, h2, hh⟩
      by_cases h3 : 0 ≤ D
      · have h4 : ¬ D ≤ 4 := fun hh => h34 ⟨h3, hh⟩
        go_enter Tryz.func39, Tryz.ntmps39
        go_wp2_with fail
        refine ent1 w _ _ (Q := fun W => Calls Tryz.prog _ _ W _) ?_
        intro w0 B0 hs V0
        refine (ht _).mono ?_
        rintro e w1 ⟨rfl, hb1⟩
        replace B0 := step B0 hb1
        replace V0 := Va.after hb1 V0
        have c1 : w1.cell? ⟨w.heap.size, 1, none⟩ = some (.int .i64 D) := V0.cellAt 1
        clear hb1
        go_wp2_with fail
        go_ret
        exact ⟨rfl, B0⟩
      · go_enter Tryz.func39, Tryz.ntmps39
        go_wp2_with fail
        refine ent1 w _ _ (Q := fun W => Calls Tryz.prog _ _ W _) ?_
        intro w0 B0 hs V0
        refine (ht _).mono ?_
        rintro e w1 ⟨rfl, hb1⟩
        replace B0 := step B0 hb1
        replace V0 := Va.after hb1 V0
        have c1 : w1.cell? ⟨w.heap.size, 1, none⟩ = some (.int .i64 D) := V0.cellAt 1
        clear hb1
        go_wp2_with fail
        go_ret
        exact ⟨rfl, B0⟩
    · obtain ⟨r, hr⟩ : ∃ r, nm.dropWhile isCap = r := ⟨_, rfl⟩
      rw [hr] at ht h2
      have he2 : (ByteArray.mk r.toArray).toList.isEmpty = false := by rw [Go.Lib.toList_data]; simpa using h2
      have he : r.isEmpty = false := by simpa using h2
      clear hr
      go_enter Tryz.func39, Tryz.ntmps39
      go_wp2_with fail
      refine ent1 w _ _ (Q := fun W => Calls Tryz.prog _ _ W _) ?_
      intro w0 B0 hs V0
      refine (ht _).mono ?_
      rintro e w1 ⟨rfl, hb1⟩
      replace B0 := step B0 hb1
      replace V0 := Va.after hb1 V0
      have c1 : w1.cell? ⟨w.heap.size, 1, none⟩ = some (.int .i64 D) := V0.cellAt 1
      clear hb1
      go_wp2_with fail
      go_ret
      exact ⟨rfl, B0⟩
  · have h1' : ¬ (nm.length : Int) = 3 := by omega
    have h1b : ((nm.length : Int) == 3) = false := by simpa using h1'
    go_enter Tryz.func39, Tryz.ntmps39
    go_wp2_with fail
    go_ret
    exact ⟨rfl, (Below.refl _ _).alloc (Nat.le_refl _) _⟩
end Go.Proofs.YtebbblhafjaaiaaGreatDoor
namespace Go.Proofs.YtebbblhafjaaiaaGreatDoor
open Go.RowKit Go.Shelf
set_option linter.unusedVariables false

theorem Va.seti {w : World} {b : Nat} {t : TypeId} {cs : Array Value} (h : Va w b t cs) (i : Nat) (v' : Value) : Va (w.setCell ⟨b, i, none⟩ v') b t (cs.setIfInBounds i v') := by
  unfold Va at *
  simp only [World.setCell]
  rw [Array.getElem?_modify, if_pos rfl, h]
  simp
theorem far9 (b : Nat) (s a d f : Value) (neg : Bool) (w : World) (h : Va w b 196 #[s, a, d, .bool neg, f]) : Calls Tryz.prog 229 #[.pointer (some ⟨b, 0, none⟩)] w fun e w' => e = .returned (.int .u64 (mostU neg : Int)) ∧ w' = w := by
  have c3 := h.cellAt 3
  cases neg
  · go_enter Tryz.func229, Tryz.ntmps229
    go_wp2_with fail
    go_ret
    exact ⟨rfl, rfl⟩
  · go_enter Tryz.func229, Tryz.ntmps229
    go_wp2_with fail
    go_ret
    exact ⟨rfl, rfl⟩
end Go.Proofs.YtebbblhafjaaiaaGreatDoor
namespace Go.Proofs.YtebbblhafjaaiaaGreatDoor
open Go.RowKit Go.Shelf
set_option linter.unusedVariables false

theorem byte_at (s : List UInt8) (p : Nat) (h : p < s.length) : ∃ c, (ByteArray.mk s.toArray)[p]'(by rw [bsize]; exact h) = c ∧ s.drop p = c :: s.drop (p + 1) := by
  refine ⟨s[p], rfl, ?_⟩
  rw [List.drop_eq_getElem_cons h]
theorem Va.drN {w : World} {b : Nat} {t : TypeId} {cs : Array Value} (h : Va w b t cs) (n : Nat) : Va (w.drewN n) b t cs := h
/-- What a piece leaves: it is read, and what follows is what is left; or it is not, and the place is told. -/
def PcP (b : Nat) (s : List UInt8) (d : Value) (R : Nat → Bool → Nat → Prop) (T : R9) (w : World) (e : Ending) (w' : World) : Prop :=
  ∃ (ok neg : Bool) (p far : Nat), e = .returned (.bool ok) ∧ p ≤ s.length ∧ Va w' b 196 #[.string ⟨s.toArray⟩, .int .i64 p, d, .bool neg, .int .u64 far] ∧ (ok = true → R p neg far) ∧ (ok = false → T = (p, none)) ∧ Only b w w'
def FxP (b : Nat) (s : List UInt8) (d n f : Value) (K : List UInt8 → R9) (T : R9) (w : World) (e : Ending) (w' : World) : Prop :=
  ∃ (ok : Bool) (p : Nat), e = .returned (.bool ok) ∧ p ≤ s.length ∧ Va w' b 196 #[.string ⟨s.toArray⟩, .int .i64 p, d, n, f] ∧ (ok = true → plus p (K (s.drop p)) = T) ∧ (ok = false → T = (p, none)) ∧ Only b w w'
set_option maxHeartbeats 2000000 in
theorem fixed9 (b : Nat) (t s : List UInt8) (at0 : Nat) (d n f : Value) (w : World) (h : Va w b 196 #[.string ⟨s.toArray⟩, .int .i64 at0, d, n, f]) (hat : at0 ≤ s.length) (hs : s.length ≤ 140737488355328) (ht : t.length ≤ 140737488355328) (K : List UInt8 → R9) (T : R9) (hT : plus at0 (fixC t K (s.drop at0)) = T) :
    Calls Tryz.prog 183 #[.pointer (some ⟨b, 0, none⟩), .string ⟨t.toArray⟩] w fun e w' => FxP b s d n f K T w e w' := by
  have HV0 : Hid (Va w b 196 #[.string ⟨s.toArray⟩, .int .i64 at0, d, n, f]) := h
  have HT0 : Hid (plus at0 (fixC t K (s.drop at0)) = T) := hT
  clear h hT
  go_enter Tryz.func183, Tryz.ntmps183
  go_wp2_with fail
  go_loopw [8] (fun i wr => ∃ (j p : Nat), i = .int .i64 j ∧ j ≤ t.length ∧ p ≤ s.length ∧ Hid (Va wr b 196 #[.string ⟨s.toArray⟩, .int .i64 p, d, n, f]) ∧ Hid (plus p (fixC (t.drop j) K (s.drop p)) = T) ∧ Hid (Only b w wr)) (fun i _ => ((t.length : Int) - intOf i).toNat)
  case atStart => exact ⟨0, at0, rfl, by omega, hat, HV0.out, HT0.out, Only.refl _ _⟩
  case round =>
    obtain ⟨j, p, rfl, hj, hp, HV, HT, HO⟩ := hrel
    clear HV0 HT0
    have V := HV.out
    have c0 : wr.cell? ⟨b, 0, none⟩ = some (.string ⟨s.toArray⟩) := V.cellAt 0
    have c1 : wr.cell? ⟨b, 1, none⟩ = some (.int .i64 p) := V.cellAt 1
    have fz : wr.frozen? ⟨b, 1, none⟩ = false := V.frozen 1
    by_cases hjl : j < t.length
    · have hji : (j : Int) < t.length := by omega
      obtain ⟨x, hx, hxd⟩ := byte_at t j hjl
      have HX : Hid (t.drop j = x :: t.drop (j + 1)) := hxd
      clear hxd
      by_cases hpl : p = s.length
      · have hpe : ((p : Int) == s.length) = true := by simp [hpl]
        have HP : Hid (s.drop p = []) := by show s.drop p = []; rw [hpl]; simp
        clear hpl
        go_wp2_with fail
        go_quiet (fail)
        go_wp2_with fail
        go_ret
        refine ⟨false, p, rfl, hp, HV.out.drN _, (fun h => by cases h), fun _ => ?_, HO.out.drewN _⟩
        have e := HT.out
        rw [HX.out, HP.out] at e
        exact e.symm
      · have hpe : ((p : Int) == s.length) = false := by simp; omega
        have hp2 : p < s.length := by omega
        obtain ⟨c, hc, hcd⟩ := byte_at s p hp2
        have HC : Hid (s.drop p = c :: s.drop (p + 1)) := hcd
        have hp1 : p + 1 ≤ s.length := by omega
        clear hcd hpl
        by_cases hcx : c = x
        · have hcx2 : ((c.toNat : Int) == (x.toNat : Int)) = true := by rw [hcx]; simp
          have hcx3 : (c.toNat : Int) = (x.toNat : Int) := by rw [hcx]
          have HCX : Hid (c = x) := hcx
          clear hcx
          go_wp2_with fail
          go_quiet (fail)
          go_wp2_with fail
          go_roundw
          case rel =>
            have e := HT.out
            rw [HX.out, HC.out, HCX.out] at e
            refine ⟨j + 1, p + 1, by simp, by omega, hp1, ?_, ?_, (HO.out.drewN _).set _ _⟩
            · exact (HV.out.drN _).seti 1 _
            · show plus (p + 1) _ = T
              rw [← e]
              show _ = plus p (if x = x then one (fixC (t.drop (j + 1)) K (s.drop (p + 1))) else (0, none))
              rw [if_pos rfl, plus_one]
          case measure => simp [intOf]; omega
        · have hcx2 : ((c.toNat : Int) == (x.toNat : Int)) = false := by
            have : ¬ (c.toNat : Int) = x.toNat := fun h => hcx (UInt8.toNat_inj.1 (by omega))
            simpa using this
          have hcx3 : ¬ (c.toNat : Int) = (x.toNat : Int) := by simpa using hcx2
          have HCX : Hid (¬ c = x) := hcx
          clear hcx
          go_wp2_with fail
          go_quiet (fail)
          go_wp2_with fail
          go_ret
          refine ⟨false, p, rfl, hp, HV.out.drN _, (fun h => by cases h), fun _ => ?_, HO.out.drewN _⟩
          have e := HT.out
          rw [HX.out, HC.out] at e
          rw [← e]
          show plus p (if c = x then _ else _) = _
          rw [if_neg HCX.out]; rfl
    · have hji : ¬ (j : Int) < t.length := by omega
      have HJ : Hid (t.drop j = []) := by show t.drop j = []; rw [show j = t.length by omega]; simp
      go_wp2_with fail
      go_ret
      refine ⟨true, p, rfl, hp, HV.out, fun _ => ?_, (fun h => by cases h), HO.out⟩
      have e := HT.out
      rw [HJ.out] at e
      exact e
end Go.Proofs.YtebbblhafjaaiaaGreatDoor
namespace Go.Proofs.YtebbblhafjaaiaaGreatDoor
open Go.RowKit Go.Shelf
set_option linter.unusedVariables false

theorem drop_nil {p : UInt8 → Bool} : ∀ {l : List UInt8}, l.dropWhile p = [] → ∀ c ∈ l, p c = true
  | [], _, c, hc => by cases hc
  | x :: l, h, c, hc => by
    rw [List.dropWhile_cons] at h
    split at h
    next hx =>
      rcases List.mem_cons.1 hc with rfl | h'
      · exact hx
      · exact drop_nil h c h'
    next => cases h
set_option maxHeartbeats 2000000 in
theorem rcheck9_ok (nm : List UInt8) (D : Int) (h : Cur nm D) (w : World) : Calls Tryz.prog 40 #[.agg #[.string ⟨nm.toArray⟩, .int .i64 D]] w fun e w' => e = .returned (.int .i64 0) ∧ Below w.heap.size w w' := by
  obtain ⟨h1, h2, h3, h4⟩ := h
  obtain ⟨x, y, z, rfl⟩ : ∃ x y z, nm = [x, y, z] := by
    match nm, h1 with
    | [x, y, z], _ => exact ⟨x, y, z, rfl⟩
  have hc : ∀ c ∈ [x, y, z], 65 ≤ c.toNat ∧ c.toNat ≤ 90 := by
    intro c hc
    have := drop_nil h2 c hc
    simpa [isCap] using this
  have hx := hc x (by simp)
  have hy := hc y (by simp)
  have hz := hc z (by simp)
  have gx : (ByteArray.mk #[x, y, z])[0]'(show 0 < 3 by decide) = x := rfl
  have gy : (ByteArray.mk #[x, y, z])[1]'(show 1 < 3 by decide) = y := rfl
  have gz : (ByteArray.mk #[x, y, z])[2]'(show 2 < 3 by decide) = z := rfl
  have x1 : ¬ ((x.toNat : Int) < 65) := by omega
  have x2 : ¬ ((90 : Int) < x.toNat) := by omega
  have y1 : ¬ ((y.toNat : Int) < 65) := by omega
  have y2 : ¬ ((90 : Int) < y.toNat) := by omega
  have z1 : ¬ ((z.toNat : Int) < 65) := by omega
  have z2 : ¬ ((90 : Int) < z.toNat) := by omega
  clear hc h2 h1 hx hy hz
  go_enter Tryz.func40, Tryz.ntmps40
  go_wp2_with fail
  refine wp_loop_rounds 4 ?_
  rw [rounds_succ]
  go_wp2_with fail
  rw [rounds_succ]
  go_wp2_with fail
  rw [rounds_succ]
  go_wp2_with fail
  rw [rounds_succ]
  go_wp2_with fail
  go_ret
  exact ⟨rfl, (Below.refl _ _).alloc (Nat.le_refl _) _⟩
set_option maxHeartbeats 4000000 in
theorem rcheck9_no (nm : List UInt8) (D : Int) (h : ¬ Cur nm D) (w : World) : Calls Tryz.prog 40 #[.agg #[.string ⟨nm.toArray⟩, .int .i64 D]] w fun e w' => e = .returned (.int .i64 90) ∧ Below w.heap.size w w' := by
  by_cases h1 : nm.length = 3
  · have h1' : (nm.length : Int) = 3 := by omega
    by_cases h34 : 0 ≤ D ∧ D ≤ 4
    · have h2 : ¬ nm.dropWhile isCap = [] := fun h2 => h ⟨h1, h2, h34⟩
      obtain ⟨x, y, z, rfl⟩ : ∃ x y z, nm = [x, y, z] := by
        match nm, h1 with
        | [x, y, z], _ => exact ⟨x, y, z, rfl⟩
      obtain ⟨h3, h4⟩ := h34
      have gx : (ByteArray.mk #[x, y, z])[0]'(show 0 < 3 by decide) = x := rfl
      have gy : (ByteArray.mk #[x, y, z])[1]'(show 1 < 3 by decide) = y := rfl
      have gz : (ByteArray.mk #[x, y, z])[2]'(show 2 < 3 by decide) = z := rfl
      by_cases hx : 65 ≤ x.toNat ∧ x.toNat ≤ 90
      · have x1 : ¬ ((x.toNat : Int) < 65) := by omega
        have x2 : ¬ ((90 : Int) < x.toNat) := by omega
        by_cases hy : 65 ≤ y.toNat ∧ y.toNat ≤ 90
        · have y1 : ¬ ((y.toNat : Int) < 65) := by omega
          have y2 : ¬ ((90 : Int) < y.toNat) := by omega
          have hz : ¬ (65 ≤ z.toNat ∧ z.toNat ≤ 90) := fun hz => h2 (by simp [List.dropWhile, isCap, hx, hy, hz])
          clear h2 h hx hy
          rcases (by omega : z.toNat < 65 ∨ 90 < z.toNat) with hz1 | hz1
          · have z1 : (z.toNat : Int) < 65 := by omega
            go_enter Tryz.func40, Tryz.ntmps40
            go_wp2_with fail
            refine wp_loop_rounds 3 ?_
            rw [rounds_succ]
            go_wp2_with fail
            rw [rounds_succ]
            go_wp2_with fail
            rw [rounds_succ]
            go_wp2_with fail
            go_ret
            exact ⟨rfl, (Below.refl _ _).alloc (Nat.le_refl _) _⟩
          · have z1 : ¬ (z.toNat : Int) < 65 := by omega
            have z2 : (90 : Int) < z.toNat := by omega
            go_enter Tryz.func40, Tryz.ntmps40
            go_wp2_with fail
            refine wp_loop_rounds 3 ?_
            rw [rounds_succ]
            go_wp2_with fail
            rw [rounds_succ]
            go_wp2_with fail
            rw [rounds_succ]
            go_wp2_with fail
            go_ret
            exact ⟨rfl, (Below.refl _ _).alloc (Nat.le_refl _) _⟩
        · clear h2 h hx
          rcases (by omega : y.toNat < 65 ∨ 90 < y.toNat) with hz1 | hz1
          · have z1 : (y.toNat : Int) < 65 := by omega
            go_enter Tryz.func40, Tryz.ntmps40
            go_wp2_with fail
            refine wp_loop_rounds 2 ?_
            rw [rounds_succ]
            go_wp2_with fail
            rw [rounds_succ]
            go_wp2_with fail
            go_ret
            exact ⟨rfl, (Below.refl _ _).alloc (Nat.le_refl _) _⟩
          · have z1 : ¬ (y.toNat : Int) < 65 := by omega
            have z2 : (90 : Int) < y.toNat := by omega
            go_enter Tryz.func40, Tryz.ntmps40
            go_wp2_with fail
            refine wp_loop_rounds 2 ?_
            rw [rounds_succ]
            go_wp2_with fail
            rw [rounds_succ]
            go_wp2_with fail
            go_ret
            exact ⟨rfl, (Below.refl _ _).alloc (Nat.le_refl _) _⟩
      · clear h2 h
        rcases (by omega : x.toNat < 65 ∨ 90 < x.toNat) with hz1 | hz1
        · have z1 : (x.toNat : Int) < 65 := by omega
          go_enter Tryz.func40, Tryz.ntmps40
          go_wp2_with fail
          refine wp_loop_rounds 1 ?_
          rw [rounds_succ]
          go_wp2_with fail
          go_ret
          exact ⟨rfl, (Below.refl _ _).alloc (Nat.le_refl _) _⟩
        · have z1 : ¬ (x.toNat : Int) < 65 := by omega
          have z2 : (90 : Int) < x.toNat := by omega
          go_enter Tryz.func40, Tryz.ntmps40
          go_wp2_with fail
          refine wp_loop_rounds 1 ?_
          rw [rounds_succ]
          go_wp2_with fail
          go_ret
          exact ⟨rfl, (Below.refl _ _).alloc (Nat.le_refl _) _⟩
    · have hb : (!(decide (D < 0)) && !(decide (4 < D))) = false := by simp; omega
      by_cases h3 : D < 0
      · go_enter Tryz.func40, Tryz.ntmps40
        go_wp2_with fail
        go_ret
        exact ⟨rfl, (Below.refl _ _).alloc (Nat.le_refl _) _⟩
      · have h4 : 4 < D := by omega
        go_enter Tryz.func40, Tryz.ntmps40
        go_wp2_with fail
        go_ret
        exact ⟨rfl, (Below.refl _ _).alloc (Nat.le_refl _) _⟩
  · have h1' : ¬ (nm.length : Int) = 3 := by omega
    have h1b : ((nm.length : Int) == 3) = false := by simpa using h1'
    go_enter Tryz.func40, Tryz.ntmps40
    go_wp2_with fail
    go_ret
    exact ⟨rfl, (Below.refl _ _).alloc (Nat.le_refl _) _⟩
end Go.Proofs.YtebbblhafjaaiaaGreatDoor
namespace Go.Proofs.YtebbblhafjaaiaaGreatDoor
open Go.RowKit Go.Shelf
set_option linter.unusedVariables false

/-- A normal ratio of the document's: its lists can be read and are trimmed. -/
def Rr (w : World) (s : Bool) (a : Option Addr) (l c : Nat) (zs : List Int) (b : Option Addr) (m d : Nat) (ys : List Int) (v : Rat) : Prop :=
  Sl w a l zs ∧ Sl w b m ys ∧ usedN zs = l ∧ usedN ys = m ∧ (l ≤ c ∧ m ≤ d) ∧ iv s zs = v.num ∧ num ys = v.den ∧ (s = true → num zs ≠ 0)
theorem Rr.after {w w' : World} (hb : Below w.heap.size w w') {s : Bool} {a : Option Addr} {l c : Nat} {zs : List Int} {b : Option Addr} {m d : Nat} {ys : List Int} {v : Rat} (h : Rr w s a l c zs b m d ys v) : Rr w' s a l c zs b m d ys v := ⟨h.1.below hb (Nat.le_refl _), h.2.1.below hb (Nat.le_refl _), h.2.2⟩
theorem Rr.drw {w : World} {s : Bool} {a : Option Addr} {l c : Nat} {zs : List Int} {b : Option Addr} {m d : Nat} {ys : List Int} {v : Rat} (h : Rr w s a l c zs b m d ys v) : Rr w.drew s a l c zs b m d ys v := h
theorem Rr.far {w : World} {s : Bool} {a : Option Addr} {l c : Nat} {zs : List Int} {b : Option Addr} {m d : Nat} {ys : List Int} {v : Rat} (h : Rr w s a l c zs b m d ys v) {b' : Nat} {t : TypeId} {cs : Array Value} (V : Va w b' t cs) (hn : NoInt cs) {w' : World} (k : ∀ c, c ≠ b' → w'.heap[c]? = w.heap[c]?) : Rr w' s a l c zs b m d ys v := ⟨h.1.far V hn k, h.2.1.far V hn k, h.2.2⟩
theorem div_exact {x g q r : Int} (e : x = q * g + r) (r0 : 0 ≤ r) (hr : r < g) (hd : g ∣ x) : q * g = x := by
  obtain ⟨k, hk⟩ := hd
  have e2 : r = g * (k - q) := by rw [Int.mul_sub, ← hk, e, Int.mul_comm g]; omega
  rcases Int.lt_or_le (k - q) 1 with h1 | h1
  · have := Int.mul_le_mul_of_nonneg_left (show k - q ≤ 0 by omega) (show 0 ≤ g by omega); rw [Int.mul_zero] at this; omega
  · have := Int.mul_le_mul_of_nonneg_left h1 (show 0 ≤ g by omega); rw [Int.mul_one] at this; omega
/-- What the document's Make comes to. -/
theorem make_parts {n : Bool} {z0 z1 zg qs rs : List Int} (h0 : 0 ≤ num z0) (h1 : 0 < num z1) (hg : num zg = (Int.gcd (num z0) (num z1) : Nat)) (q0 : 0 ≤ num qs) (r0 : 0 ≤ num rs)
    (e1 : num qs * num zg = num z0) (e2 : num rs * num zg = num z1) : iv (n && decide (num qs ≠ 0)) qs = (Rat.divInt (iv n z0) (num z1)).num ∧ num rs = (Rat.divInt (iv n z0) (num z1)).den := by
  have hA : num z0 = ((iv n z0).natAbs : Int) := by cases n <;> simp only [iv_t, iv_f] <;> omega
  have hB : num z1 = ((num z1).natAbs : Int) := by omega
  have hq : (num qs = 0) ↔ (num z0 = 0) := by
    constructor
    · intro h; rw [h, Int.zero_mul] at e1; exact e1.symm
    · intro h
      rw [h] at e1
      rcases Int.mul_eq_zero.1 e1 with h' | h'
      · exact h'
      · rw [h', Int.mul_zero] at e2; omega
  have hr : num rs ≠ 0 := by intro h; rw [h, Int.zero_mul] at e2; omega
  obtain ⟨p1, p2⟩ := new_parts (X := iv n z0) (Y := num z1) (X' := iv n z0) (by omega) (by rw [if_neg (by omega)]) hA hB hg e1 e2 q0 r0 (b := n && decide (num qs ≠ 0)) (by
    cases n
    · rw [iv_f]; simp; exact h0
    · rw [iv_t]
      by_cases h : num qs = 0
      · rw [hq.1 h]; simp [h]
      · have hz : ¬ num z0 = 0 := fun h' => h (hq.2 h')
        rw [Int.sign_eq_neg_one_of_neg (by omega)]; simp [h])
  refine ⟨p1, ?_⟩
  rw [← p2]; unfold dn; rw [if_neg hr]

end Go.Proofs.YtebbblhafjaaiaaGreatDoor
namespace Go.Proofs.YtebbblhafjaaiaaGreatDoor
set_option linter.unusedVariables false

/-- The sum of a list. -/
def lsum : List Int → Int
  | [] => 0
  | z :: t => z + lsum t
theorem lsum_append (a b : List Int) : lsum (a ++ b) = lsum a + lsum b := by
  induction a with
  | nil => simp [lsum]
  | cons z t ih => rw [List.cons_append]; simp only [lsum]; omega
theorem take_one {zs : List Int} {k : Nat} (h : k < zs.length) : zs.take (k + 1) = zs.take k ++ [zs.getD k 0] := by
  rw [List.take_succ_eq_append_getElem h, List.getD_eq_getElem?_getD, List.getElem?_eq_getElem h]; rfl
theorem lsum_take {zs : List Int} {k : Nat} (h : k < zs.length) : lsum (zs.take (k + 1)) = lsum (zs.take k) + zs.getD k 0 := by
  rw [take_one h, lsum_append]; simp [lsum]
/-- The sum of the first k in 128 bits. -/
def SI (zs : List Int) (k : Nat) (low high : Int) : Prop := high * 18446744073709551616 + low = lsum (zs.take k) ∧ 0 ≤ low ∧ low < 18446744073709551616 ∧ -(k : Int) ≤ high ∧ high ≤ k
theorem si_nil (zs : List Int) : SI zs 0 0 0 := ⟨by simp [lsum], by omega, by omega, by omega, by omega⟩
def b64 (z : Int) : Prop := -9223372036854775808 ≤ z ∧ z ≤ 9223372036854775807
theorem si_step {zs : List Int} {k : Nat} {low high : Int} (I : SI zs k low high) (h : k < zs.length) (b : b64 (zs.getD k 0)) :
    SI zs (k + 1) ((low + zs.getD k 0 % 18446744073709551616) % 18446744073709551616) (high + zs.getD k 0 / 9223372036854775808 + (low + zs.getD k 0 % 18446744073709551616) / 18446744073709551616) := by
  obtain ⟨i1, i2, i3, i4, i5⟩ := I
  obtain ⟨b1, b2⟩ := b
  have e := lsum_take h
  generalize zs.getD k 0 = z at *
  refine ⟨?_, by omega, by omega, by omega, by omega⟩
  rw [e, ← i1]; omega
/-- The number of 64 bits, or the error. -/
def fit9 (s : Int) : Int × Int := if -9223372036854775808 ≤ s ∧ s ≤ 9223372036854775807 then (s, 0) else (0, 5)
theorem fit9_in {s : Int} (h1 : -9223372036854775808 ≤ s) (h2 : s ≤ 9223372036854775807) : fit9 s = (s, 0) := by unfold fit9; rw [if_pos ⟨h1, h2⟩]
theorem fit9_out {s : Int} (h : s < -9223372036854775808 ∨ 9223372036854775807 < s) : fit9 s = (0, 5) := by unfold fit9; rw [if_neg (by omega)]
/-- The end: the low word as a number with a sign, and whether the high one goes with it. -/
theorem si_end {zs : List Int} {low high : Int} (I : SI zs zs.length low high) (s : Int) (hs : s = if low < 9223372036854775808 then low else low - 18446744073709551616) :
    (high = s / 9223372036854775808 → fit9 (lsum zs) = (s, 0)) ∧ (high ≠ s / 9223372036854775808 → fit9 (lsum zs) = (0, 5)) := by
  obtain ⟨i1, i2, i3, i4, i5⟩ := I
  rw [List.take_length] at i1
  constructor
  · intro h
    have e : lsum zs = s := by rw [← i1]; split at hs <;> omega
    rw [e]
    exact fit9_in (by split at hs <;> omega) (by split at hs <;> omega)
  · intro h
    apply fit9_out
    rw [← i1]; split at hs <;> omega
end Go.Proofs.YtebbblhafjaaiaaGreatDoor
