/-
  numeral.Parse of any text.
-/
import Derived.Test.YtpfbcicjfnfpgaaReads2
import Derived.Test.YtpfbcicjfnfpgaaParseF
import Derived.Test.YtpfbcicjfnfpgaaJoined
namespace Go.Proofs.Ytpfbcicjfnfpgaa
open Go.RowKit Go.Shelf
set_option linter.unusedVariables false

/-- What numeral.Parse answers. -/
def PsR (bn : Nat) (s : ByteArray) (W' : World) (e : Ending) : Prop :=
  (262144 < s.size ∧ e = .returned (.tuple #[.agg #[.slice none 0 0], .int .i64 0, .int .i64 3])) ∨
  (s.size ≤ 262144 ∧ ((s.size = 0 ∧ e = .returned (.tuple #[.agg #[.slice none 0 0], .int .i64 0, .int .i64 31])) ∨
    (0 < s.size ∧ Dig bn s.data.toList ∧ ∃ er a l c zs, e = .returned (.tuple #[.agg #[.slice a l c], .int .i64 0, .int .i64 er]) ∧ Nt W' a l c zs ∧ AdR (tv bn s.data.toList) er a l c zs) ∨
    (∃ (k : Nat) (hk : k < s.size), e = .returned (.tuple #[.agg #[.slice none 0 0], .int .i64 k, .int .i64 31]) ∧ Dig bn (s.data.toList.take k) ∧ bn ≤ wv s[k])))
theorem read_none (s : ByteArray) (bn sz : Int) (h0 : s.size = 0) (w : World) :
    Calls Try.prog 53 #[.string s, .int .i64 bn, .int .i64 sz] w fun e w' => e = .returned (.tuple #[.slice none 0 0, .int .i64 0, .int .i64 31]) ∧ w' = w := by
  have hemp : s.toList.isEmpty = true := by
    rw [Go.Lib.toList_data]
    cases h : s.data.toList with
    | nil => rfl
    | cons x r => have := Go.Lib.size_eq s; rw [h, List.length_cons] at this; omega
  go_enter Try.func53, Try.ntmps53
  go_wp2_with fail
  go_ret3
  exact ⟨rfl, rfl⟩
set_option maxHeartbeats 8000000 in
set_option maxRecDepth 20000 in
theorem parse_from (bn sz : Nat) (By : Int) (hb2 : 2 ≤ bn) (hb36 : bn ≤ 36) (hs1 : 2 ≤ sz) (hs63 : sz ≤ 63) (hBy : By = ((bn ^ sz : Nat) : Int)) (hBw : Word By) (hB0 : 2 ≤ By)
    (hgp : ∀ w, Calls Try.prog 52 #[.int .i64 bn] w fun e w' => e = .returned (.tuple #[.int .u64 By, .int .i64 sz]) ∧ w' = w) (s : ByteArray) (w : World) :
    Calls Try.prog 29 #[.string s, .int .i64 bn] w fun e W' => PsR bn s W' e ∧ Below w.heap.size w W' := by
  have hpw : bn ^ sz < 18446744073709551616 := by have := hBw.2; omega
  have HBY : Hid (By = ((bn ^ sz : Nat) : Int)) := hBy
  have HBW : Hid (Word By) := hBw
  have HPW : Hid (bn ^ sz < 18446744073709551616) := hpw
  clear hBy hBw hpw
  go_enter Try.func29, Try.ntmps29
  go_wp2_with fail
  refine ent1 w _ _ (Q := fun W => Calls Try.prog _ _ W _) ?_
  intro w0 B0 hs V0
  refine (isBase_any bn (by omega) (by omega) w0).mono ?_
  rintro e w' ⟨rfl, rfl⟩
  have c0 := V0.cell
  have f0 := V0.frozen 0
  have l0 := V0.lt
  have m0 := Nat.le_of_lt l0
  have B1 := B0.setCell (p := ⟨w.heap.size, 0, none⟩) (Nat.le_refl _) (.slice none 0 0)
  by_cases hL : 262144 < s.size
  · have hLi : (262144 : Int) < s.size := by omega
    go_wp2_with fail
    refine bodyPost_ret (results_ctt rfl rfl (V0.set _)) rfl ?_
    exact ⟨.inl ⟨hL, rfl⟩, B1⟩
  have hLi : ¬ (262144 : Int) < s.size := by omega
  by_cases h0 : s.size = 0
  · go_wp2_with fail
    refine (hgp _).mono ?_
    rintro e w' ⟨rfl, rfl⟩
    go_wp2_with fail
    refine (read_none s bn sz h0 _).mono ?_
    rintro e w' ⟨rfl, rfl⟩
    go_wp2_with fail
    refine bodyPost_ret (results_ctt rfl rfl (V0.set _)) rfl ?_
    exact ⟨.inr ⟨by omega, .inl ⟨h0, rfl⟩⟩, B1⟩
  clear B1
  go_wp2_with fail
  refine (hgp _).mono ?_
  rintro e w' ⟨rfl, rfl⟩
  go_wp2_with fail
  refine (read_any s bn sz hb2 hb36 hs1 hs63 HPW.out (by omega) (by omega) _).mono ?_
  rintro e w1 ⟨hb1, h | ⟨k, hk, rfl, hdk, hbad⟩⟩
  · obtain ⟨hdg, g, cap, ds, rfl, hcap, hg, hcell, hN, hV, hcnt, htop⟩ := h
    have hlen : ds.length ≤ 262144 := by
      rcases Nat.eq_zero_or_pos ds.length with h | h
      · omega
      · have h1 := hcnt (fun e => by rw [e] at h; simp at h)
        have h2 : (ds.length - 1) * 1 ≤ (ds.length - 1) * sz := Nat.mul_le_mul_left _ (by omega)
        omega
    replace V0 := Va.after hb1 V0
    replace B0 := step B0 hb1
    clear c0 f0 l0 m0
    go_wp2_with fail
    refine (small_pos By HBW.out (by omega) _).mono ?_
    rintro e w2 ⟨rfl, h2, hb2'⟩
    have HC : Hid (∀ j, j < ds.length → w2.cell? ⟨g, 0 + j, none⟩ = some (dv (ds.getD j d0))) := fun j hj => by
      rw [Nat.zero_add]
      refine (hb2'.cell (p := ⟨g, j, none⟩) hg).trans (hcell j _ ?_)
      rw [List.getD_eq_getElem?_getD, List.getElem?_eq_getElem hj]; rfl
    have HN2 : Hid (∀ j, Nt w2 (ds.getD j d0).1 (ds.getD j d0).2.1 (ds.getD j d0).2.2.1 (ds.getD j d0).2.2.2) := fun j => by
      rw [List.getD_eq_getElem?_getD]
      cases hj : ds[j]? with
      | none => exact Nt.nil _
      | some d => exact Nt.after hb2' (hN d (List.mem_of_getElem? hj))
    have HT : Hid (0 < ds.length → num (ds.getD (ds.length - 1) d0).2.2.2 ≠ 0) := fun h => by
      have e : ds[ds.length - 1]? = some (ds.getD (ds.length - 1) d0) := by rw [List.getD_eq_getElem?_getD, List.getElem?_eq_getElem (by omega)]; rfl
      exact htop _ e
    have hg2 : g < w2.heap.size := Nat.lt_of_lt_of_le hg hb2'.size
    replace V0 := Va.after hb2' V0
    replace B0 := step B0 hb2'
    have eB : num [By] = By := by simp [num]
    have HV : Hid (dsum (num [By]) (fun j => ds.getD j d0) (down ds.length ds.length) = tv bn s.data.toList) := by
      rw [down_map _ ds (fun i d h => by rw [List.getD_eq_getElem?_getD, h]; rfl), eB, HBY.out]
      have : ((bn ^ sz : Nat) : Int) = (bn : Int) ^ sz := by simp
      rw [this]; exact hV
    have HDG : Hid (Dig bn s.data.toList) := hdg
    clear hV hcnt hN hcell hb1 hb2' htop hdg eB
    go_wp2_with fail
    refine (joined_any g 0 ds.length cap (fun j => ds.getD j d0) _ _ _ [By] w2 (by omega) hcap hg2 HC.out HN2.out h2 (by simp [num]; omega) HT.out).mono ?_
    rintro e w3 ⟨er, a, l, c, ws, rfl, h3, hA, hb3⟩
    rw [HV.out] at hA
    replace V0 := Va.after hb3 V0
    replace B0 := step B0 hb3
    clear h2 HV hb3
    have c0 := V0.cell
    have f0 := V0.frozen 0
    have l0 := V0.lt
    have m0 := Nat.le_of_lt l0
    go_wp2_with fail
    have B1 := B0.setCell (p := ⟨w.heap.size, 0, none⟩) (Nat.le_refl _) (.slice a l c)
    refine bodyPost_ret (results_ctt rfl rfl ((V0.set _).old _)) rfl ?_
    exact ⟨.inr ⟨by omega, .inr (.inl ⟨by omega, HDG.out, er, a, l, c, ws, rfl, (h3.store V0 _).al' _, hA.out⟩)⟩, B1.alloc B1.size _⟩
  · replace V0 := Va.after hb1 V0
    replace B0 := step B0 hb1
    clear c0 f0 l0 m0
    have c0 := V0.cell
    have f0 := V0.frozen 0
    have l0 := V0.lt
    have m0 := Nat.le_of_lt l0
    have HDK : Hid (Dig bn (s.data.toList.take k) ∧ bn ≤ wv s[k]) := ⟨hdk, hbad⟩
    clear hdk hbad
    go_wp2_with fail
    have B1 := B0.setCell (p := ⟨w.heap.size, 0, none⟩) (Nat.le_refl _) (.slice none 0 0)
    refine bodyPost_ret (results_ctt rfl rfl (V0.set _)) rfl ?_
    exact ⟨.inr ⟨by omega, .inr (.inr ⟨k, hk, rfl, HDK.out⟩)⟩, B1⟩
theorem parse_ten (s : ByteArray) (w : World) : Calls Try.prog 29 #[.string s, .int .i64 10] w fun e W' => PsR 10 s W' e ∧ Below w.heap.size w W' :=
  parse_from 10 19 10000000000000000000 (by omega) (by omega) (by omega) (by omega) (by decide) ⟨by omega, by omega⟩ (by omega) greatPower_ten s w
end Go.Proofs.Ytpfbcicjfnfpgaa
