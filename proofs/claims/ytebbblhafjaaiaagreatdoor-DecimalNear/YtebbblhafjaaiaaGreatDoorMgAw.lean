/-
  numeral.Parse of any text.
-/
import Derived.Test.YtebbblhafjaaiaaGreatDoorMgAp
import Derived.Test.YtebbblhafjaaiaaGreatDoorMgAt
import Derived.Test.YtebbblhafjaaiaaGreatDoorMgAv
import Derived.Test.YtebbblhafjaaiaaGreatDoorMgAk
import Derived.Test.YtebbblhafjaaiaaGreatDoorMgAi
import Derived.Test.YtebbblhafjaaiaaGreatDoorMgAj
namespace Go.Proofs.YtebbblhafjaaiaaGreatDoor
open Go.RowKit Go.Shelf
set_option linter.unusedVariables false

/-- What numeral.Parse answers. -/
def PsR (bn : Nat) (s : ByteArray) (W' : World) (e : Ending) : Prop :=
  (262144 < s.size ∧ e = .returned (.tuple #[.agg #[.slice none 0 0], .int .i64 0, .int .i64 3])) ∨
  (s.size ≤ 262144 ∧ ((s.size = 0 ∧ e = .returned (.tuple #[.agg #[.slice none 0 0], .int .i64 0, .int .i64 31])) ∨
    (0 < s.size ∧ Dig bn s.data.toList ∧ ∃ er a l c zs, e = .returned (.tuple #[.agg #[.slice a l c], .int .i64 0, .int .i64 er]) ∧ Nt W' a l c zs ∧ AdR (tv bn s.data.toList) er a l c zs) ∨
    (∃ (k : Nat) (hk : k < s.size), e = .returned (.tuple #[.agg #[.slice none 0 0], .int .i64 k, .int .i64 31]) ∧ Dig bn (s.data.toList.take k) ∧ bn ≤ wv s[k])))
theorem read_none (s : ByteArray) (bn sz : Int) (h0 : s.size = 0) (w : World) :
    Calls Tryz.prog 80 #[.string s, .int .i64 bn, .int .i64 sz] w fun e w' => e = .returned (.tuple #[.slice none 0 0, .int .i64 0, .int .i64 31]) ∧ w' = w := by
  have hemp : s.toList.isEmpty = true := by
    rw [Go.Lib.toList_data]
    cases h : s.data.toList with
    | nil => rfl
    | cons x r => have := Go.Lib.size_eq s; rw [h, List.length_cons] at this; omega
  go_enter Tryz.func80, Tryz.ntmps80
  go_wp2_with fail
  go_ret3
  exact ⟨rfl, rfl⟩
set_option maxHeartbeats 8000000 in
set_option maxRecDepth 20000 in
theorem parse_from (bn sz : Nat) (By : Int) (hb2 : 2 ≤ bn) (hb36 : bn ≤ 36) (hs1 : 2 ≤ sz) (hs63 : sz ≤ 63) (hBy : By = ((bn ^ sz : Nat) : Int)) (hBw : Word By) (hB0 : 2 ≤ By)
    (hgp : ∀ w, Calls Tryz.prog 79 #[.int .i64 bn] w fun e w' => e = .returned (.tuple #[.int .u64 By, .int .i64 sz]) ∧ w' = w) (s : ByteArray) (w : World) :
    Calls Tryz.prog 30 #[.string s, .int .i64 bn] w fun e W' => PsR bn s W' e ∧ Below w.heap.size w W' := by
  have hpw : bn ^ sz < 18446744073709551616 := by have := hBw.2; omega
  have HBY : Hid (By = ((bn ^ sz : Nat) : Int)) := hBy
  have HBW : Hid (Word By) := hBw
  have HPW : Hid (bn ^ sz < 18446744073709551616) := hpw
  clear hBy hBw hpw
  go_enter Tryz.func30, Tryz.ntmps30
  go_wp2_with fail
  refine ent1 w _ _ (Q := fun W => Calls Tryz.prog _ _ W _) ?_
  intro w0 B0 hs V0
  refine (isBase_any bn (by omega) (by omega) w0).mono ?_
  rintro e w' ⟨rfl, rfl⟩
  have c0 := V0.cell
  have f0 := V0.frozen 0
  have l0 := V0.lt
  have m0 := Nat.le_of_lt l0
  have B1 := B0.setCell (p := ⟨w.heap.size, 0, none⟩) (Nat.le_refl _) (.slice none 0 0)
  by_cases hL : 262144 < s.size
  · have hLi : (262144 : Int) < s.size := by omega
    go_wp2_with fail
    refine bodyPost_ret (results_ctt rfl rfl (V0.set _)) rfl ?_
    exact ⟨.inl ⟨hL, rfl⟩, B1⟩
  have hLi : ¬ (262144 : Int) < s.size := by omega
  by_cases h0 : s.size = 0
  · go_wp2_with fail
    refine (hgp _).mono ?_
    rintro e w' ⟨rfl, rfl⟩
    go_wp2_with fail
    refine (read_none s bn sz h0 _).mono ?_
    rintro e w' ⟨rfl, rfl⟩
    go_wp2_with fail
    refine bodyPost_ret (results_ctt rfl rfl (V0.set _)) rfl ?_
    exact ⟨.inr ⟨by omega, .inl ⟨h0, rfl⟩⟩, B1⟩
  clear B1
  go_wp2_with fail
  refine (hgp _).mono ?_
  rintro e w' ⟨rfl, rfl⟩
  go_wp2_with fail
  refine (read_any s bn sz hb2 hb36 hs1 hs63 HPW.out (by omega) (by omega) _).mono ?_
  rintro e w1 ⟨hb1, h | ⟨k, hk, rfl, hdk, hbad⟩⟩
  · obtain ⟨hdg, g, cap, ds, rfl, hcap, hg, hcell, hN, hV, hcnt, htop⟩ := h
    have hlen : ds.length ≤ 262144 := by
      rcases Nat.eq_zero_or_pos ds.length with h | h
      · omega
      · have h1 := hcnt (fun e => by rw [e] at h; simp at h)
        have h2 : (ds.length - 1) * 1 ≤ (ds.length - 1) * sz := Nat.mul_le_mul_left _ (by omega)
        omega
    replace V0 := Va.after hb1 V0
    replace B0 := step B0 hb1
    clear c0 f0 l0 m0
    go_wp2_with fail
    refine (small_pos By HBW.out (by omega) _).mono ?_
    rintro e w2 ⟨rfl, h2, hb2'⟩
    have HC : Hid (∀ j, j < ds.length → w2.cell? ⟨g, 0 + j, none⟩ = some (dv (ds.getD j d0))) := fun j hj => by
      rw [Nat.zero_add]
      refine (hb2'.cell (p := ⟨g, j, none⟩) hg).trans (hcell j _ ?_)
      rw [List.getD_eq_getElem?_getD, List.getElem?_eq_getElem hj]; rfl
    have HN2 : Hid (∀ j, Nt w2 (ds.getD j d0).1 (ds.getD j d0).2.1 (ds.getD j d0).2.2.1 (ds.getD j d0).2.2.2) := fun j => by
      rw [List.getD_eq_getElem?_getD]
      cases hj : ds[j]? with
      | none => exact Nt.nil _
      | some d => exact Nt.after hb2' (hN d (List.mem_of_getElem? hj))
    have HT : Hid (0 < ds.length → num (ds.getD (ds.length - 1) d0).2.2.2 ≠ 0) := fun h => by
      have e : ds[ds.length - 1]? = some (ds.getD (ds.length - 1) d0) := by rw [List.getD_eq_getElem?_getD, List.getElem?_eq_getElem (by omega)]; rfl
      exact htop _ e
    have hg2 : g < w2.heap.size := Nat.lt_of_lt_of_le hg hb2'.size
    replace V0 := Va.after hb2' V0
    replace B0 := step B0 hb2'
    have eB : num [By] = By := by simp [num]
    have HV : Hid (dsum (num [By]) (fun j => ds.getD j d0) (down ds.length ds.length) = tv bn s.data.toList) := by
      rw [down_map _ ds (fun i d h => by rw [List.getD_eq_getElem?_getD, h]; rfl), eB, HBY.out]
      have : ((bn ^ sz : Nat) : Int) = (bn : Int) ^ sz := by simp
      rw [this]; exact hV
    have HDG : Hid (Dig bn s.data.toList) := hdg
    clear hV hcnt hN hcell hb1 hb2' htop hdg eB
    go_wp2_with fail
    refine (joined_any g 0 ds.length cap (fun j => ds.getD j d0) _ _ _ [By] w2 (by omega) hcap hg2 HC.out HN2.out h2 (by simp [num]; omega) HT.out).mono ?_
    rintro e w3 ⟨er, a, l, c, ws, rfl, h3, hA, hb3⟩
    rw [HV.out] at hA
    replace V0 := Va.after hb3 V0
    replace B0 := step B0 hb3
    clear h2 HV hb3
    have c0 := V0.cell
    have f0 := V0.frozen 0
    have l0 := V0.lt
    have m0 := Nat.le_of_lt l0
    go_wp2_with fail
    have B1 := B0.setCell (p := ⟨w.heap.size, 0, none⟩) (Nat.le_refl _) (.slice a l c)
    refine bodyPost_ret (results_ctt rfl rfl ((V0.set _).old _)) rfl ?_
    exact ⟨.inr ⟨by omega, .inr (.inl ⟨by omega, HDG.out, er, a, l, c, ws, rfl, (h3.store V0 _).al' _, hA.out⟩)⟩, B1.alloc B1.size _⟩
  · replace V0 := Va.after hb1 V0
    replace B0 := step B0 hb1
    clear c0 f0 l0 m0
    have c0 := V0.cell
    have f0 := V0.frozen 0
    have l0 := V0.lt
    have m0 := Nat.le_of_lt l0
    have HDK : Hid (Dig bn (s.data.toList.take k) ∧ bn ≤ wv s[k]) := ⟨hdk, hbad⟩
    clear hdk hbad
    go_wp2_with fail
    have B1 := B0.setCell (p := ⟨w.heap.size, 0, none⟩) (Nat.le_refl _) (.slice none 0 0)
    refine bodyPost_ret (results_ctt rfl rfl (V0.set _)) rfl ?_
    exact ⟨.inr ⟨by omega, .inr (.inr ⟨k, hk, rfl, HDK.out⟩)⟩, B1⟩
theorem parse_ten (s : ByteArray) (w : World) : Calls Tryz.prog 30 #[.string s, .int .i64 10] w fun e W' => PsR 10 s W' e ∧ Below w.heap.size w W' :=
  parse_from 10 19 10000000000000000000 (by omega) (by omega) (by omega) (by omega) (by decide) ⟨by omega, by omega⟩ (by omega) greatPower_ten s w
end Go.Proofs.YtebbblhafjaaiaaGreatDoor
namespace Go.Proofs.YtebbblhafjaaiaaGreatDoor
open Go.RowKit Go.Shelf
set_option linter.unusedVariables false
theorem short_xy {x y : Int} (h1 : (x.natAbs : Int) < pw 1024) (h2 : (y.natAbs : Int) < pw 1024) (h0 : y ≠ 0) : Short (Rat.divInt x y) := by
  unfold Short
  rw [Rat.num_divInt, Rat.den_divInt, if_neg h0]
  have g1 : ((y.sign * x) / (y.gcd x : Nat)).natAbs ≤ x.natAbs := by
    have hd : ((y.gcd x : Nat) : Int) ∣ y.sign * x := Int.dvd_mul_of_dvd_right (Int.gcd_dvd_right ..)
    rw [Int.natAbs_ediv_of_dvd hd, Int.natAbs_mul, Int.natAbs_sign_of_ne_zero h0, Nat.one_mul]
    exact Nat.div_le_self _ _
  have g2 := Nat.div_le_self y.natAbs (y.gcd x)
  exact ⟨Int.lt_of_le_of_lt (by omega) h1, Int.lt_of_le_of_lt (by omega) h2⟩
theorem ps_ok6 {b : Nat} {s : ByteArray} {W : World} {e : Ending} (h : PsR b s W e) (hd : Dig b s.data.toList) (h0 : 0 < s.size) (h1 : s.size ≤ 262144) (hv : (tv b s.data.toList : Int) < pw 4096) : ∃ a l c zs, e = .returned (.tuple #[.agg #[.slice a l c], .int .i64 0, .int .i64 0]) ∧ Nt W a l c zs ∧ num zs = tv b s.data.toList := by
  rcases h with ⟨h, -⟩ | ⟨-, ⟨h, -⟩ | ⟨-, -, er, a, l, c, zs, rfl, h2, h3⟩ | ⟨k, hk, -, -, hbad⟩⟩
  · omega
  · omega
  · rcases h3 with ⟨e1, e2, -⟩ | ⟨-, -, -, -, -, e2⟩
    · subst e1; exact ⟨a, l, c, zs, rfl, h2, e2⟩
    · exact absurd hv (Int.not_lt.2 e2)
  · exact absurd (hd s[k] (by show s.data[k] ∈ s.data.toList; simp)) (by omega)
theorem parse_pad (P : List UInt8) (n : Nat) (hd : Dig 10 P) (hv : tv 10 P = n) (h0 : 0 < P.length) (h1 : P.length ≤ 262144) (hn : (n : Int) < pw 4096) (w : World) :
    Calls Tryz.prog 30 #[.string ⟨P.toArray⟩, .int .i64 10] w fun e W' => ∃ a l c zs, e = .returned (.tuple #[.agg #[.slice a l c], .int .i64 0, .int .i64 0]) ∧ Nt W' a l c zs ∧ num zs = n ∧ Below w.heap.size w W' := by
  refine (parse_ten ⟨P.toArray⟩ w).mono ?_
  rintro e W' ⟨h, hb⟩
  obtain ⟨a, l, c, zs, e1, e2, e3⟩ := ps_ok6 h (by simpa using hd) (by rw [bsize]; exact h0) (by rw [bsize]; exact h1) (by simpa [hv] using hn)
  exact ⟨a, l, c, zs, e1, e2, by rw [e3]; exact congrArg Int.ofNat hv, hb⟩
theorem ten_ok6 (q : Nat) (hq : q ≤ 200) (w : World) : Calls Tryz.prog 31 #[.int .i64 q] w fun e w' => ∃ a l c zs, e = .returned (.tuple #[.agg #[.slice a l c], .int .i64 0]) ∧ Nt w' a l c zs ∧ num zs = 10 ^ q ∧ Below w.heap.size w w' := by
  refine (ten_any q (by omega) w).mono ?_
  rintro e w' (h | ⟨-, hb, -⟩)
  · exact h
  · exfalso
    have h1 := ten_pw (K := q) (by omega)
    have h2 := pw_less (show 256 < 4096 by omega)
    exact absurd (Int.lt_of_le_of_lt h1 h2) (Int.not_lt.2 hb.ge)
theorem str_index6 (l : List UInt8) (k : Nat) (i : Int) (hi : i = k) (c : UInt8) (hk : k < l.length) (h : l[k] = c) (W : World) : (Instr.index 9 (.string ⟨l.toArray⟩) (.int .i64 i)).run Tryz.prog W = .ok (.int .u8 (c.toNat : Int)) W := by
  subst hi
  have hb2 : k < (ByteArray.mk l.toArray).size := by rw [bsize]; exact hk
  have hc : (ByteArray.mk l.toArray)[k]? = some c := by rw [getElem?_pos _ k hb2, ← h]; rfl
  simp [Instr.index, go_sem]
  rw [hc]
  rfl
/-- The digits with a point among them: where it is, and what is left without it. -/
theorem pt_at {P : List UInt8} {q : Nat} (h0 : 0 < q) (h1 : q < P.length) : (ptL q P).length = P.length + 1 ∧ (ptL q P).take (P.length - q) ++ (ptL q P).drop (P.length - q + 1) = P ∧ ∃ h, (ptL q P)[P.length - q]'h = 46 := by
  have e : ptL q P = P.take (P.length - q) ++ 46 :: P.drop (P.length - q) := by unfold ptL; rw [if_neg (by omega)]
  have e1 : (P.take (P.length - q)).length = P.length - q := by rw [List.length_take]; omega
  have hl : (ptL q P).length = P.length + 1 := by rw [e]; simp; omega
  refine ⟨hl, ?_, by omega, ?_⟩
  · rw [e, List.take_append_of_le_length (by omega), List.take_of_length_le (by omega), List.drop_append, List.drop_eq_nil_of_le (by omega), e1]
    simp
  · simp only [e]
    rw [List.getElem_append_right (by omega)]
    simp [e1]
theorem num_few {xs ys : List Int} {neg : Bool} {v : Rat} (hx : Limbs xs) (l1 : xs.length ≤ 40) (hy : Limbs ys) (h0 : num ys ≠ 0) (hv : v = Rat.divInt (iv neg xs) (num ys)) : (v.num.natAbs : Int) < pw 40 := by
  have b1 : num xs < pw 40 := Int.lt_of_lt_of_le (num_lt hx) (pw_mono l1)
  have n1 := num_nonneg hx
  have e1 : ((iv neg xs).natAbs : Int) = num xs := by unfold iv; cases neg <;> simp <;> omega
  generalize iv neg xs = x at *
  generalize num ys = y at *
  rw [hv, Rat.num_divInt]
  have g1 : ((y.sign * x) / (y.gcd x : Nat)).natAbs ≤ x.natAbs := by
    have hd : ((y.gcd x : Nat) : Int) ∣ y.sign * x := Int.dvd_mul_of_dvd_right (Int.gcd_dvd_right ..)
    rw [Int.natAbs_ediv_of_dvd hd, Int.natAbs_mul, Int.natAbs_sign_of_ne_zero h0, Nat.one_mul]
    exact Nat.div_le_self _ _
  exact Int.lt_of_le_of_lt (by omega) b1
theorem near_num {v : Rat} {n q : Nat} (hq : q ≤ 200) (hb : (v.num.natAbs : Int) < pw 40) (hn : v.num.natAbs * 10 ^ q / v.den = n) : (n : Int) < pw 60 ∧ (n : Int) < pw 4096 ∧ (n : Int) + 1 < pw 1024 := by
  have h1 : n ≤ v.num.natAbs * 10 ^ q := by rw [← hn]; exact Nat.div_le_self _ _
  have h2 : (n : Int) ≤ (v.num.natAbs : Int) * 10 ^ q := by exact_mod_cast h1
  have h3 : (10 : Int) ^ q ≤ pw 15 := by rw [pw_eq]; exact ten_two (by omega)
  have h4 : (v.num.natAbs : Int) * 10 ^ q < pw 60 := rt_fits (by omega) (Int.le_of_lt (Int.pow_pos (by omega))) hb (Int.lt_of_le_of_lt h3 (pw_less (show 15 < 16 by omega))) (by omega)
  have h5 := pw_less (show 60 < 1024 by omega)
  have h6 := pw_less (show 1024 < 4096 by omega)
  have h7 : (n : Int) < pw 60 := Int.lt_of_le_of_lt h2 h4
  generalize pw 60 = A at *
  generalize pw 1024 = B at *
  generalize pw 4096 = C at *
  refine ⟨h7, by omega, by omega⟩
theorem near_pad {P : List UInt8} {n q : Nat} (hq : q ≤ 200) (hn : (n : Int) < pw 60) (hP : padL q (Go.Lib.decDigits n) = P) : Dig 10 P ∧ tv 10 P = n ∧ q < P.length ∧ P.length ≤ 262144 := by
  have ht := dec_tx n
  subst hP
  refine ⟨padL_dig ht.dig, by rw [padL_tv]; exact ht.val, by rw [padL_len]; omega, ?_⟩
  rw [padL_len]
  have h2 : (Go.Lib.decDigits n).length ≤ 262144 := by
    rcases Nat.lt_or_ge (Go.Lib.decDigits n).length 2 with h | h
    · omega
    · have h3 := ht.low h
      rw [pw_eq] at hn
      have h4 := hM_any (n := (Go.Lib.decDigits n).length - 1) hn (by exact_mod_cast h3)
      omega
  omega
/-- The numbers on both sides, and how they stand. -/
theorem near_ne {v : Rat} {n q : Nat} {X : Bool} (hq : q ≤ 200) (hb : (n : Int) < pw 60) (hn : v.num.natAbs * 10 ^ q / v.den = n) (hX : exB v q = X) :
    ∃ low stp top : Rat, (Rat.divInt (n : Int) (10 ^ q) = low ∧ Rat.divInt 1 (10 ^ q) = stp ∧ low + stp = top) ∧ Hid (Short low) ∧ Hid (Short stp) ∧ Hid (Short top) ∧ (qcmp low (absR v) ≤ 0 ∧ qcmp (absR v) top < 0 ∧ (qcmp low (absR v) == 0) = X) := by
  obtain ⟨h1, h2, h3⟩ := ne_all hn
  have ht : (0 : Int) < 10 ^ q := Int.pow_pos (by omega)
  have hp : (10 : Int) ^ q < pw 1024 := Int.lt_of_le_of_lt (show (10 : Int) ^ q ≤ pw 15 by rw [pw_eq]; exact ten_two (by omega)) (pw_less (by omega))
  have h5 := pw_less (show 60 < 1024 by omega)
  have hta : (((10 : Int) ^ q).natAbs : Int) < pw 1024 := by rw [Int.natAbs_of_nonneg (by omega)]; exact hp
  have hsum : Rat.divInt n (10 ^ q) + Rat.divInt 1 (10 ^ q) = Rat.divInt ((n : Int) + 1) (10 ^ q) := by
    rw [Rat.divInt_add_divInt _ _ (by omega) (by omega), ← Int.add_mul, Rat.divInt_mul_right (by omega)]
  have h6 : (1 : Int) < pw 1024 := Int.lt_of_lt_of_le (by decide : (1 : Int) < pw 1) (pw_mono (by omega))
  have h7 : (n : Int) + 1 < pw 1024 := by
    generalize pw 60 = A at *
    generalize pw 1024 = B at *
    omega
  refine ⟨_, _, _, ⟨rfl, rfl, rfl⟩, short_xy (by omega) hta (by omega), short_xy (by simpa using h6) hta (by omega), ?_, ?_, by rw [qcmp_lt h2]; decide, ?_⟩
  · show Short _
    rw [hsum]
    exact short_xy (by rw [Int.natAbs_of_nonneg (by omega)]; exact h7) hta (by omega)
  · rcases Rat.le_iff_lt_or_eq.1 h1 with h | h
    · rw [qcmp_lt h]; decide
    · rw [h, qcmp_eq]; decide
  · rw [← hX]
    unfold exB
    by_cases h : Rat.divInt n (10 ^ q) = absR v
    · rw [h, qcmp_eq, decide_eq_true (h3.2 h)]; rfl
    · have hl : Rat.divInt n (10 ^ q) < absR v := by
        rcases Rat.le_iff_lt_or_eq.1 h1 with h' | h'
        · exact h'
        · exact absurd h' h
      rw [qcmp_lt hl, decide_eq_false (fun h' => h (h3.1 h'))]; rfl
end Go.Proofs.YtebbblhafjaaiaaGreatDoor
