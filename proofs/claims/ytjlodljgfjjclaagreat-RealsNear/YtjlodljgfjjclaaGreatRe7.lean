/-
  reals.Floor, Ceil, Exact, Nearest, Compare, Next.
-/
import Derived.Test.YtjlodljgfjjclaaGreatTk
import Derived.Test.YtjlodljgfjjclaaGreatAl
import Derived.Test.YtjlodljgfjjclaaGreatRe6
namespace Go.Proofs.YtjlodljgfjjclaaGreat
open Go.RowKit Go.Shelf
set_option linter.unusedVariables false

/-- Below 0? -/
def sn (v : Rat) : Bool := decide (v.num < 0)
theorem sn_sign (v : Rat) : decide (Int.sign v.num < 0) = sn v := by
  unfold sn
  rw [decide_eq_decide]
  rcases Int.lt_trichotomy v.num 0 with h | h | h
  · rw [Int.sign_eq_neg_one_of_neg h]; omega
  · rw [h]; simp
  · rw [Int.sign_eq_one_of_pos h]; omega
/-- The words of the floor, the ceiling, the nearest. -/
def flw (v : Rat) (k p : Nat) : Nat := if sn v then wd true (upk k p) else k
def cew (v : Rat) (k p : Nat) : Nat := if sn v then wd (decide (0 < k)) k else upk k p
def nrk (k p : Nat) : Nat := if p = 3 ∨ p = 2 ∧ k % 2 = 1 then k + 1 else k
def nrw (v : Rat) (k p : Nat) : Nat := wd (sn v) (nrk k p)
def exw (v : Rat) (k p : Nat) : Nat := if p = 0 then wd (sn v) k else 0
def exb (p : Nat) : Bool := decide (p = 0)
theorem upk_le {k p : Nat} (h : k < 9218868437227405312) : upk k p ≤ 9218868437227405312 := by unfold upk; split <;> omega
theorem nrk_le {k p : Nat} (h : k < 9218868437227405312) : nrk k p ≤ 9218868437227405312 := by unfold nrk; split <;> omega
theorem fz_pos {k : Nat} (h : k < 9223372036854775808) : fz k = fi k := by unfold fz; rw [if_pos h]
theorem gt_zero {k : Nat} (h : k ≤ 9218868437227405312) : (FloatKind.f64.format.order k 0 == some .gt) = decide (0 < k) := by
  rw [float_gt ⟨by omega, by omega⟩ ⟨by decide, by decide⟩, decide_eq_decide, @fz_pos k (by omega), @fz_pos 0 (by decide), fi_zero]
  have := @fi_lt_iff 0 k
  rw [fi_zero] at this
  omega

set_option maxHeartbeats 2000000 in
theorem floor8 (s : Bool) (a : Option Addr) (l c : Nat) (zs : List Int) (b : Option Addr) (m d : Nat) (ds : List Int) (v : Rat) (k p : Nat) (HP : Hid (Pv v k p)) (w : World) (hr : Rt w s a l c zs b m d ds v) :
    Calls Tryz.prog 20 #[.agg #[.bool s, .slice a l c, .slice b m d]] w fun e w' => e = .returned (.float .f64 (flw v k p)) ∧ Below w.heap.size w w' := by
  have B0 : Below w.heap.size w w := Below.refl _ _
  have sf := run_store_float
  have HK : Hid (k < 9218868437227405312) := HP.out.lt
  have HS : Hid (decide (Int.sign v.num < 0) = sn v) := sn_sign v
  go_enter Tryz.func20, Tryz.ntmps20
  go_wp2_with fail
  refine ent1 w _ _ (Q := fun W => Calls Tryz.prog _ _ W _) ?_
  intro x1 hb hs_x1 V0
  replace hr := Rt.after hb hr
  replace B0 := step B0 hb
  clear hb hs_x1
  refine (placeOf8 s a l c zs b m d ds v k p HP x1 hr).mono ?_
  rintro e x2 ⟨rfl, hb⟩
  replace V0 := Va.after hb V0
  replace hr := Rt.after hb hr
  replace B0 := step B0 hb
  clear hb
  have c_V0 := V0.d0
  have f0_V0 := V0.frozen 0
  have d_V0 := V0.d1
  have f1_V0 := V0.frozen 1
  have e_V0 := V0.d2
  have f2_V0 := V0.frozen 2
  have l_V0 := V0.lt
  have m_V0 := Nat.le_of_lt l_V0
  go_wp2_with fail
  refine ent1 x2 _ _ (Q := fun W => Calls Tryz.prog _ _ W _) ?_
  intro x3 hb hs_x3 Vp
  replace V0 := Va.after hb V0
  replace hr := Rt.after hb hr
  replace B0 := step B0 hb
  clear hb hs_x3
  refine (qsign_any s a l c zs b m d ds v x3 hr).mono ?_
  rintro e x4 ⟨rfl, hb⟩
  replace V0 := Va.after hb V0
  replace Vp := Va.after hb Vp
  replace hr := Rt.after hb hr
  replace B0 := step B0 hb
  clear hb
  obtain ⟨g, hg⟩ : ∃ g, Int.sign v.num = g := ⟨_, rfl⟩
  have hs := HS.out
  rw [hg] at hs ⊢
  clear hg HS
  have hfl : Hid (flw v k p = if sn v then wd true (upk k p) else k) := rfl
  obtain ⟨t, ht⟩ : ∃ t, sn v = t := ⟨_, rfl⟩
  rw [ht] at hs hfl
  clear ht
  cases t
  ·
    clear c_V0 f0_V0 d_V0 f1_V0 e_V0 f2_V0 l_V0 m_V0
    have c_Vp := Vp.c0
    have f0_Vp := Vp.frozen 0
    have d_Vp := Vp.c1
    have f1_Vp := Vp.frozen 1
    have l_Vp := Vp.lt
    have m_Vp := Nat.le_of_lt l_Vp
    go_wp2_with fail
    go_ret
    exact ⟨by rw [hfl.out]; rfl, B0⟩
  ·
    clear c_V0 f0_V0 d_V0 f1_V0 e_V0 f2_V0 l_V0 m_V0
    have c_Vp := Vp.c0
    have f0_Vp := Vp.frozen 0
    have d_Vp := Vp.c1
    have f1_Vp := Vp.frozen 1
    have l_Vp := Vp.lt
    have m_Vp := Nat.le_of_lt l_Vp
    go_wp2_with fail
    refine (high8 k p HK.out x4).mono ?_
    rintro e x5 ⟨rfl, hb⟩
    replace V0 := Va.after hb V0
    replace Vp := Va.after hb Vp
    replace hr := Rt.after hb hr
    replace B0 := step B0 hb
    clear hb
    clear c_Vp f0_Vp d_Vp f1_Vp l_Vp m_Vp
    go_wp2_with fail
    refine (signed8 (upk k p) true (by have h5 := @upk_le k p HK.out; omega) _).mono ?_
    rintro e x6 ⟨rfl, hw⟩
    rw [hw]
    clear hw
    go_wp2_with fail
    go_ret
    exact ⟨by rw [hfl.out]; rfl, B0⟩

set_option maxHeartbeats 2000000 in
theorem ceil8 (s : Bool) (a : Option Addr) (l c : Nat) (zs : List Int) (b : Option Addr) (m d : Nat) (ds : List Int) (v : Rat) (k p : Nat) (HP : Hid (Pv v k p)) (w : World) (hr : Rt w s a l c zs b m d ds v) :
    Calls Tryz.prog 22 #[.agg #[.bool s, .slice a l c, .slice b m d]] w fun e w' => e = .returned (.float .f64 (cew v k p)) ∧ Below w.heap.size w w' := by
  have B0 : Below w.heap.size w w := Below.refl _ _
  have sf := run_store_float
  have HK : Hid (k < 9218868437227405312) := HP.out.lt
  have HS : Hid (decide (Int.sign v.num < 0) = sn v) := sn_sign v
  go_enter Tryz.func22, Tryz.ntmps22
  go_wp2_with fail
  refine ent1 w _ _ (Q := fun W => Calls Tryz.prog _ _ W _) ?_
  intro x1 hb hs_x1 V0
  replace hr := Rt.after hb hr
  replace B0 := step B0 hb
  clear hb hs_x1
  refine (placeOf8 s a l c zs b m d ds v k p HP x1 hr).mono ?_
  rintro e x2 ⟨rfl, hb⟩
  replace V0 := Va.after hb V0
  replace hr := Rt.after hb hr
  replace B0 := step B0 hb
  clear hb
  have c_V0 := V0.d0
  have f0_V0 := V0.frozen 0
  have d_V0 := V0.d1
  have f1_V0 := V0.frozen 1
  have e_V0 := V0.d2
  have f2_V0 := V0.frozen 2
  have l_V0 := V0.lt
  have m_V0 := Nat.le_of_lt l_V0
  go_wp2_with fail
  refine ent1 x2 _ _ (Q := fun W => Calls Tryz.prog _ _ W _) ?_
  intro x3 hb hs_x3 Vp
  replace V0 := Va.after hb V0
  replace hr := Rt.after hb hr
  replace B0 := step B0 hb
  clear hb hs_x3
  refine (qsign_any s a l c zs b m d ds v x3 hr).mono ?_
  rintro e x4 ⟨rfl, hb⟩
  replace V0 := Va.after hb V0
  replace Vp := Va.after hb Vp
  replace hr := Rt.after hb hr
  replace B0 := step B0 hb
  clear hb
  obtain ⟨g, hg⟩ : ∃ g, Int.sign v.num = g := ⟨_, rfl⟩
  have hs := HS.out
  rw [hg] at hs ⊢
  clear hg HS
  have hfl : Hid (cew v k p = if sn v then wd (decide (0 < k)) k else upk k p) := rfl
  obtain ⟨t, ht⟩ : ∃ t, sn v = t := ⟨_, rfl⟩
  rw [ht] at hs hfl
  clear ht
  have hk0 := @gt_zero k (by have h5 := HK.out; omega)
  obtain ⟨kb, hkb⟩ : ∃ kb, decide (0 < k) = kb := ⟨_, rfl⟩
  rw [hkb] at hk0 hfl
  clear hkb
  cases t
  ·
    clear c_V0 f0_V0 d_V0 f1_V0 e_V0 f2_V0 l_V0 m_V0
    have c_Vp := Vp.c0
    have f0_Vp := Vp.frozen 0
    have d_Vp := Vp.c1
    have f1_Vp := Vp.frozen 1
    have l_Vp := Vp.lt
    have m_Vp := Nat.le_of_lt l_Vp
    go_wp2_with fail
    refine (high8 k p HK.out x4).mono ?_
    rintro e x5 ⟨rfl, hb⟩
    replace V0 := Va.after hb V0
    replace Vp := Va.after hb Vp
    replace hr := Rt.after hb hr
    replace B0 := step B0 hb
    clear hb
    clear c_Vp f0_Vp d_Vp f1_Vp l_Vp m_Vp
    go_wp2_with fail
    go_ret
    exact ⟨by rw [hfl.out]; rfl, B0⟩
  ·
    clear c_V0 f0_V0 d_V0 f1_V0 e_V0 f2_V0 l_V0 m_V0
    have c_Vp := Vp.c0
    have f0_Vp := Vp.frozen 0
    have d_Vp := Vp.c1
    have f1_Vp := Vp.frozen 1
    have l_Vp := Vp.lt
    have m_Vp := Nat.le_of_lt l_Vp
    go_wp2_with fail
    refine (signed8 k kb (by have h5 := HK.out; omega) _).mono ?_
    rintro e x5 ⟨rfl, hw⟩
    rw [hw]
    clear hw
    go_wp2_with fail
    go_ret
    exact ⟨by rw [hfl.out]; rfl, B0⟩

set_option maxHeartbeats 2000000 in
theorem exact8 (s : Bool) (a : Option Addr) (l c : Nat) (zs : List Int) (b : Option Addr) (m d : Nat) (ds : List Int) (v : Rat) (k p : Nat) (HP : Hid (Pv v k p)) (w : World) (hr : Rt w s a l c zs b m d ds v) :
    Calls Tryz.prog 17 #[.agg #[.bool s, .slice a l c, .slice b m d]] w fun e w' => e = .returned (.tuple #[.float .f64 (exw v k p), .bool (exb p)]) ∧ Below w.heap.size w w' := by
  have B0 : Below w.heap.size w w := Below.refl _ _; have sf := run_store_float; have HK : Hid (k < 9218868437227405312) := HP.out.lt; have HS : Hid (decide (Int.sign v.num < 0) = sn v) := sn_sign v
  go_enter Tryz.func17, Tryz.ntmps17
  (go_wp2_with fail); refine ent1 w _ _ (Q := fun W => Calls Tryz.prog _ _ W _) ?_; intro x1 hb hs_x1 V0; replace hr := Rt.after hb hr; replace B0 := step B0 hb; clear hb hs_x1; refine (placeOf8 s a l c zs b m d ds v k p HP x1 hr).mono ?_; rintro e x2 ⟨rfl, hb⟩; replace V0 := Va.after hb V0; replace hr := Rt.after hb hr; replace B0 := step B0 hb; clear hb
  by_cases hp : p = 0
  ·
    have EX : Hid (exw v k p = wd (sn v) k ∧ exb p = true) := ⟨if_pos hp, decide_eq_true hp⟩; (have hp2 : ((p : Int) != 0) = false := by rw [bne_eq_false_iff_eq]; omega); (have hp3 : ((p : Int) == 0) = true := by rw [beq_iff_eq]; omega); clear hp; have c_V0 := V0.d0; have f0_V0 := V0.frozen 0; have d_V0 := V0.d1; have f1_V0 := V0.frozen 1; have e_V0 := V0.d2; have f2_V0 := V0.frozen 2; have l_V0 := V0.lt; have m_V0 := Nat.le_of_lt l_V0; (go_wp2_with fail); refine ent1 x2 _ _ (Q := fun W => Code.wp Tryz.prog _ _ _ W) ?_; intro x3 hb hs_x3 Vp; replace V0 := Va.after hb V0; replace hr := Rt.after hb hr; replace B0 := step B0 hb; clear hb hs_x3; clear c_V0 f0_V0 d_V0 f1_V0 e_V0 f2_V0 l_V0 m_V0; refine wp_region_noPanic ?_; replace V0 : Va x3.drew _ _ _ := V0; replace Vp : Va x3.drew _ _ _ := Vp; replace hr := hr.drw; replace B0 := Below.drew B0; refine wp_region_held_drew (S := (fun W => W.cell? ⟨w.heap.size, 0, none⟩ = some (.bool s) ∧ W.cell? ⟨w.heap.size, 1, none⟩ = some (.slice a l c) ∧ W.cell? ⟨w.heap.size, 2, none⟩ = some (.slice b m d) ∧ W.cell? ⟨x2.heap.size, 0, none⟩ = some (.float .f64 k) ∧ W.cell? ⟨x2.heap.size, 1, none⟩ = some (.int .i64 (p : Int)))) (by kernel_rfl) ⟨V0.d0, V0.d1, V0.d2, Vp.c0, Vp.c1⟩ (fun hHeld => ?_)
    (obtain ⟨x4, hxd⟩ : ∃ xd, xd = x3.drew := ⟨_, rfl⟩); rw [← hxd] at V0 Vp hr B0 hHeld ⊢; clear hxd; refine tk 0 rfl hHeld ?_; simp only [gA, gB, Act.put, gD, gE, gF]; refine tk 1 rfl hHeld ?_; simp only [gA, gB, gC, Act.put, gD, gE, gF]; refine tk 2 rfl hHeld ?_; simp only [gA, gB, gC, Act.put, gD, gE, gF]; refine wpAnyH_ready (rs := [3]) (by kernel_rfl) (by simp) ?_; refine AllReadyH.cons rfl (fun K hK => ?_) AllReadyH.nil; simp only [gA, gB, gC]; (go_simp); refine (qsign_any s a l c zs b m d ds v _ hr).mono ?_; rintro e x5 ⟨rfl, hb⟩; replace V0 := Va.after hb V0; replace Vp := Va.after hb Vp; replace hr := Rt.after hb hr; replace B0 := step B0 hb; clear hb; (try go_wp2_with fail); refine hK.out _ _ ⟨V0.d0, V0.d1, V0.d2, Vp.c0, Vp.c1⟩ (fun hHeld => ?_); clear hK K; refine wpAnyH_take (i := 4) (v := .bool (sn v)) rfl (by kernel_rfl) (by kernel_rfl) (by kernel_rfl) (fun _ _ _ h => h) (Or.inl ⟨by rfl, ?_⟩) hHeld ?_
    · (intro W hSw; (try dsimp only at hSw); go_simp; first | rfl | (rw [HS.out]) | skip)
    simp only [gA, gB, gC, Act.put, gD, gE, gF]; refine wpAnyH_ready (rs := [5]) (by kernel_rfl) (by simp) ?_; refine AllReadyH.cons rfl (fun K hK => ?_) AllReadyH.nil; simp only [gA, gB, gC]; (go_simp); refine (signed8 k (sn v) (by have h5 := HK.out; omega) _).mono ?_; rintro e x6 ⟨rfl, hw⟩; rw [hw]; clear hw; (try go_wp2_with fail); refine hK.out _ _ ⟨V0.d0, V0.d1, V0.d2, Vp.c0, Vp.c1⟩ (fun hHeld => ?_); clear hK K; refine tk 6 rfl hHeld ?_; simp only [gA, gB, gC, Act.put, gD, gE, gF]; refine tk 7 rfl hHeld ?_; simp only [gA, gB, gC, Act.put, gD, gE, gF]; refine wpAnyH_done (by kernel_rfl) ?_ _; refine NoPanic.normal ?_; clear hHeld; (go_wp2_with fail)
    go_ret2
    exact ⟨by rw [EX.out.1, EX.out.2]; rfl, B0⟩
  ·
    have EX : Hid (exw v k p = 0 ∧ exb p = false) := ⟨if_neg hp, decide_eq_false hp⟩; (have hp2 : ((p : Int) != 0) = true := by rw [bne_iff_ne]; omega); (have hp3 : ((p : Int) == 0) = false := by rw [beq_eq_false_iff_ne]; omega); (have hp4 : ¬ ((p : Int) = 0) := by omega); clear hp; have c_V0 := V0.d0; have f0_V0 := V0.frozen 0; have d_V0 := V0.d1; have f1_V0 := V0.frozen 1; have e_V0 := V0.d2; have f2_V0 := V0.frozen 2; have l_V0 := V0.lt; have m_V0 := Nat.le_of_lt l_V0; (go_wp2_with fail)
    go_ret2
    exact ⟨by rw [EX.out.1, EX.out.2]; rfl, B0.alloc B0.size _⟩

set_option maxHeartbeats 4000000 in
theorem nearest8 (s : Bool) (a : Option Addr) (l c : Nat) (zs : List Int) (b : Option Addr) (m d : Nat) (ds : List Int) (v : Rat) (k p : Nat) (HP : Hid (Pv v k p)) (w : World) (hr : Rt w s a l c zs b m d ds v) :
    Calls Tryz.prog 24 #[.agg #[.bool s, .slice a l c, .slice b m d]] w fun e w' => e = .returned (.float .f64 (nrw v k p)) ∧ Below w.heap.size w w' := by
  have B0 : Below w.heap.size w w := Below.refl _ _; have sf := run_store_float; have HK : Hid (k < 9218868437227405312) := HP.out.lt; have HS : Hid (decide (Int.sign v.num < 0) = sn v) := sn_sign v
  go_enter Tryz.func24, Tryz.ntmps24
  (go_wp2_with fail); refine ent1 w _ _ (Q := fun W => Calls Tryz.prog _ _ W _) ?_; intro x1 hb hs_x1 V0; replace hr := Rt.after hb hr; replace B0 := step B0 hb; clear hb hs_x1; refine (placeOf8 s a l c zs b m d ds v k p HP x1 hr).mono ?_; rintro e x2 ⟨rfl, hb⟩; replace V0 := Va.after hb V0; replace hr := Rt.after hb hr; replace B0 := step B0 hb; clear hb; have HX : Hid (nrw v k p = wd (sn v) (nrk k p)) := rfl; have HQ : Hid (p ≤ 3) := HP.out.p3
  by_cases h3 : p = 3
  ·
    (have EX : Hid (nrk k p = k + 1) := by show _ = _; unfold nrk; rw [if_pos (.inl h3)]); subst h3; have c_V0 := V0.d0; have f0_V0 := V0.frozen 0; have d_V0 := V0.d1; have f1_V0 := V0.frozen 1; have e_V0 := V0.d2; have f2_V0 := V0.frozen 2; have l_V0 := V0.lt; have m_V0 := Nat.le_of_lt l_V0; (go_wp2_with fail); refine ent1 x2 _ _ (Q := fun W => Code.wp Tryz.prog _ _ _ W) ?_; intro x3 hb hs_x3 Vp; replace V0 := Va.after hb V0; replace hr := Rt.after hb hr; replace B0 := step B0 hb; clear hb hs_x3; clear c_V0 f0_V0 d_V0 f1_V0 e_V0 f2_V0 l_V0 m_V0; refine wp_region_noPanic ?_; replace V0 : Va x3.drew _ _ _ := V0; replace Vp : Va x3.drew _ _ _ := Vp; replace hr := hr.drw; replace B0 := Below.drew B0; refine wp_region_held_drew (S := (fun W => W.cell? ⟨w.heap.size, 0, none⟩ = some (.bool s) ∧ W.cell? ⟨w.heap.size, 1, none⟩ = some (.slice a l c) ∧ W.cell? ⟨w.heap.size, 2, none⟩ = some (.slice b m d) ∧ W.cell? ⟨x2.heap.size, 0, none⟩ = some (.float .f64 k) ∧ W.cell? ⟨x2.heap.size, 1, none⟩ = some (.int .i64 3))) (by kernel_rfl) ⟨V0.d0, V0.d1, V0.d2, Vp.c0, Vp.c1⟩ (fun hHeld => ?_)
    (obtain ⟨x4, hxd⟩ : ∃ xd, xd = x3.drew := ⟨_, rfl⟩); rw [← hxd] at V0 Vp hr B0 hHeld ⊢; clear hxd; refine tk 0 rfl hHeld ?_; simp only [gA, gB, Act.put, gD, gE, gF]; refine tk 1 rfl hHeld ?_; simp only [gA, gB, gC, Act.put, gD, gE, gF]; refine tk 3 rfl hHeld ?_; simp only [gA, gB, gC, Act.put, gD, gE, gF]; refine wpAnyH_ready (rs := [2]) (by kernel_rfl) (by simp) ?_; refine AllReadyH.cons rfl (fun K hK => ?_) AllReadyH.nil; simp only [gA, gB, gC]; (go_simp); refine (outward8 k (by have h5 := HK.out; omega) _).mono ?_; rintro e x5 ⟨rfl, hw⟩; rw [hw]; clear hw; (try go_wp2_with fail); refine hK.out _ _ ⟨V0.d0, V0.d1, V0.d2, Vp.c0, Vp.c1⟩ (fun hHeld => ?_); clear hK K; refine wpAnyH_ready (rs := [4]) (by kernel_rfl) (by simp) ?_; refine AllReadyH.cons rfl (fun K hK => ?_) AllReadyH.nil; simp only [gA, gB, gC]; (go_simp); refine (qsign_any s a l c zs b m d ds v _ hr).mono ?_; rintro e x6 ⟨rfl, hb⟩; replace V0 := Va.after hb V0; replace Vp := Va.after hb Vp
    replace hr := Rt.after hb hr; replace B0 := step B0 hb; clear hb; (try go_wp2_with fail); refine hK.out _ _ ⟨V0.d0, V0.d1, V0.d2, Vp.c0, Vp.c1⟩ (fun hHeld => ?_); clear hK K; refine wpAnyH_take (i := 5) (v := .bool (sn v)) rfl (by kernel_rfl) (by kernel_rfl) (by kernel_rfl) (fun _ _ _ h => h) (Or.inl ⟨by rfl, ?_⟩) hHeld ?_
    · (intro W hSw; (try dsimp only at hSw); go_simp; first | rfl | (rw [HS.out]) | skip)
    simp only [gA, gB, gC, Act.put, gD, gE, gF]; refine wpAnyH_ready (rs := [6]) (by kernel_rfl) (by simp) ?_; refine AllReadyH.cons rfl (fun K hK => ?_) AllReadyH.nil; simp only [gA, gB, gC]; (go_simp); refine (signed8 (k + 1) (sn v) (by have h5 := HK.out; omega) _).mono ?_; rintro e x7 ⟨rfl, hw⟩; rw [hw]; clear hw; (try go_wp2_with fail); refine hK.out _ _ ⟨V0.d0, V0.d1, V0.d2, Vp.c0, Vp.c1⟩ (fun hHeld => ?_); clear hK K; refine tk 7 rfl hHeld ?_; simp only [gA, gB, gC, Act.put, gD, gE, gF]; refine wpAnyH_done (by kernel_rfl) ?_ _; refine NoPanic.normal ?_; clear hHeld; (go_wp2_with fail)
    go_ret
    exact ⟨by rw [HX.out, EX.out]; rfl, B0⟩
  · by_cases h2 : p = 2
    · subst h2
      by_cases ho : k % 2 = 1
      ·
        (have EX : Hid (nrk k 2 = k + 1) := by show _ = _; unfold nrk; rw [if_pos (.inr ⟨rfl, ho⟩)]); have ho2 : decide (k % 2 = 1) = true := decide_eq_true ho; clear ho; have OD := isOdd8 k (by have h5 := HK.out; omega); rw [ho2] at OD; have HOD : Hid (∀ w, Calls Tryz.prog 68 #[.float .f64 k] w fun e w' => e = .returned (.bool true) ∧ w' = w) := OD; clear OD ho2 h3; have c_V0 := V0.d0; have f0_V0 := V0.frozen 0; have d_V0 := V0.d1; have f1_V0 := V0.frozen 1; have e_V0 := V0.d2; have f2_V0 := V0.frozen 2; have l_V0 := V0.lt; have m_V0 := Nat.le_of_lt l_V0; (go_wp2_with fail); refine ent1 x2 _ _ (Q := fun W => Calls Tryz.prog _ _ W _) ?_; intro x3 hb hs_x3 Vp; replace V0 := Va.after hb V0; replace hr := Rt.after hb hr; replace B0 := step B0 hb; clear hb hs_x3; refine (HOD.out _).mono ?_; rintro e x4 ⟨rfl, hw⟩; rw [hw]; clear hw; clear c_V0 f0_V0 d_V0 f1_V0 e_V0 f2_V0 l_V0 m_V0; have c_Vp := Vp.c0; have f0_Vp := Vp.frozen 0; have d_Vp := Vp.c1; have f1_Vp := Vp.frozen 1
        have l_Vp := Vp.lt; have m_Vp := Nat.le_of_lt l_Vp; (go_wp2_with fail); clear c_Vp f0_Vp d_Vp f1_Vp l_Vp m_Vp; refine wp_region_noPanic ?_; replace V0 : Va x3.drew _ _ _ := V0; replace Vp : Va x3.drew _ _ _ := Vp; replace hr := hr.drw; replace B0 := Below.drew B0; refine wp_region_held_drew (S := (fun W => W.cell? ⟨w.heap.size, 0, none⟩ = some (.bool s) ∧ W.cell? ⟨w.heap.size, 1, none⟩ = some (.slice a l c) ∧ W.cell? ⟨w.heap.size, 2, none⟩ = some (.slice b m d) ∧ W.cell? ⟨x2.heap.size, 0, none⟩ = some (.float .f64 k) ∧ W.cell? ⟨x2.heap.size, 1, none⟩ = some (.int .i64 2))) (by kernel_rfl) ⟨V0.d0, V0.d1, V0.d2, Vp.c0, Vp.c1⟩ (fun hHeld => ?_); (obtain ⟨x5, hxd⟩ : ∃ xd, xd = x3.drew := ⟨_, rfl⟩); rw [← hxd] at V0 Vp hr B0 hHeld ⊢; clear hxd; refine tk 0 rfl hHeld ?_; simp only [gA, gB, Act.put, gD, gE, gF]; refine tk 1 rfl hHeld ?_; simp only [gA, gB, gC, Act.put, gD, gE, gF]; refine tk 3 rfl hHeld ?_; simp only [gA, gB, gC, Act.put, gD, gE, gF]
        refine wpAnyH_ready (rs := [2]) (by kernel_rfl) (by simp) ?_; refine AllReadyH.cons rfl (fun K hK => ?_) AllReadyH.nil; simp only [gA, gB, gC]; (go_simp); refine (outward8 k (by have h5 := HK.out; omega) _).mono ?_; rintro e x6 ⟨rfl, hw⟩; rw [hw]; clear hw; (try go_wp2_with fail); refine hK.out _ _ ⟨V0.d0, V0.d1, V0.d2, Vp.c0, Vp.c1⟩ (fun hHeld => ?_); clear hK K; refine wpAnyH_ready (rs := [4]) (by kernel_rfl) (by simp) ?_; refine AllReadyH.cons rfl (fun K hK => ?_) AllReadyH.nil; simp only [gA, gB, gC]; (go_simp); refine (qsign_any s a l c zs b m d ds v _ hr).mono ?_; rintro e x7 ⟨rfl, hb⟩; replace V0 := Va.after hb V0; replace Vp := Va.after hb Vp; replace hr := Rt.after hb hr; replace B0 := step B0 hb; clear hb; (try go_wp2_with fail); refine hK.out _ _ ⟨V0.d0, V0.d1, V0.d2, Vp.c0, Vp.c1⟩ (fun hHeld => ?_); clear hK K; refine wpAnyH_take (i := 5) (v := .bool (sn v)) rfl (by kernel_rfl) (by kernel_rfl) (by kernel_rfl) (fun _ _ _ h => h) (Or.inl ⟨by rfl, ?_⟩) hHeld ?_
        · (intro W hSw; (try dsimp only at hSw); go_simp; first | rfl | (rw [HS.out]) | skip)
        simp only [gA, gB, gC, Act.put, gD, gE, gF]; refine wpAnyH_ready (rs := [6]) (by kernel_rfl) (by simp) ?_; refine AllReadyH.cons rfl (fun K hK => ?_) AllReadyH.nil; simp only [gA, gB, gC]; (go_simp); refine (signed8 (k + 1) (sn v) (by have h5 := HK.out; omega) _).mono ?_; rintro e x8 ⟨rfl, hw⟩; rw [hw]; clear hw; (try go_wp2_with fail); refine hK.out _ _ ⟨V0.d0, V0.d1, V0.d2, Vp.c0, Vp.c1⟩ (fun hHeld => ?_); clear hK K; refine tk 7 rfl hHeld ?_; simp only [gA, gB, gC, Act.put, gD, gE, gF]; refine wpAnyH_done (by kernel_rfl) ?_ _; refine NoPanic.normal ?_; clear hHeld; (go_wp2_with fail)
        go_ret
        exact ⟨by rw [HX.out, EX.out]; rfl, B0⟩
      ·
        (have EX : Hid (nrk k 2 = k) := by show _ = _; unfold nrk; rw [if_neg (by omega)]); have ho2 : decide (k % 2 = 1) = false := decide_eq_false ho; clear ho; have OD := isOdd8 k (by have h5 := HK.out; omega); rw [ho2] at OD; have HOD : Hid (∀ w, Calls Tryz.prog 68 #[.float .f64 k] w fun e w' => e = .returned (.bool false) ∧ w' = w) := OD; clear OD ho2 h3; have c_V0 := V0.d0; have f0_V0 := V0.frozen 0; have d_V0 := V0.d1; have f1_V0 := V0.frozen 1; have e_V0 := V0.d2; have f2_V0 := V0.frozen 2; have l_V0 := V0.lt; have m_V0 := Nat.le_of_lt l_V0; (go_wp2_with fail); refine ent1 x2 _ _ (Q := fun W => Calls Tryz.prog _ _ W _) ?_; intro x3 hb hs_x3 Vp; replace V0 := Va.after hb V0; replace hr := Rt.after hb hr; replace B0 := step B0 hb; clear hb hs_x3; refine (HOD.out _).mono ?_; rintro e x4 ⟨rfl, hw⟩; rw [hw]; clear hw; clear c_V0 f0_V0 d_V0 f1_V0 e_V0 f2_V0 l_V0 m_V0; have c_Vp := Vp.c0; have f0_Vp := Vp.frozen 0; have d_Vp := Vp.c1; have f1_Vp := Vp.frozen 1
        have l_Vp := Vp.lt; have m_Vp := Nat.le_of_lt l_Vp; (go_wp2_with fail); clear c_Vp f0_Vp d_Vp f1_Vp l_Vp m_Vp; refine wp_region_noPanic ?_; replace V0 : Va x3.drew _ _ _ := V0; replace Vp : Va x3.drew _ _ _ := Vp; replace hr := hr.drw; replace B0 := Below.drew B0; refine wp_region_held_drew (S := (fun W => W.cell? ⟨w.heap.size, 0, none⟩ = some (.bool s) ∧ W.cell? ⟨w.heap.size, 1, none⟩ = some (.slice a l c) ∧ W.cell? ⟨w.heap.size, 2, none⟩ = some (.slice b m d) ∧ W.cell? ⟨x2.heap.size, 0, none⟩ = some (.float .f64 k) ∧ W.cell? ⟨x2.heap.size, 1, none⟩ = some (.int .i64 2))) (by kernel_rfl) ⟨V0.d0, V0.d1, V0.d2, Vp.c0, Vp.c1⟩ (fun hHeld => ?_); (obtain ⟨x5, hxd⟩ : ∃ xd, xd = x3.drew := ⟨_, rfl⟩); rw [← hxd] at V0 Vp hr B0 hHeld ⊢; clear hxd; refine tk 0 rfl hHeld ?_; simp only [gA, gB, Act.put, gD, gE, gF]; refine tk 1 rfl hHeld ?_; simp only [gA, gB, gC, Act.put, gD, gE, gF]; refine tk 2 rfl hHeld ?_; simp only [gA, gB, gC, Act.put, gD, gE, gF]
        refine wpAnyH_ready (rs := [3]) (by kernel_rfl) (by simp) ?_; refine AllReadyH.cons rfl (fun K hK => ?_) AllReadyH.nil; simp only [gA, gB, gC]; (go_simp); refine (qsign_any s a l c zs b m d ds v _ hr).mono ?_; rintro e x6 ⟨rfl, hb⟩; replace V0 := Va.after hb V0; replace Vp := Va.after hb Vp; replace hr := Rt.after hb hr; replace B0 := step B0 hb; clear hb; (try go_wp2_with fail); refine hK.out _ _ ⟨V0.d0, V0.d1, V0.d2, Vp.c0, Vp.c1⟩ (fun hHeld => ?_); clear hK K; refine wpAnyH_take (i := 4) (v := .bool (sn v)) rfl (by kernel_rfl) (by kernel_rfl) (by kernel_rfl) (fun _ _ _ h => h) (Or.inl ⟨by rfl, ?_⟩) hHeld ?_
        · (intro W hSw; (try dsimp only at hSw); go_simp; first | rfl | (rw [HS.out]) | skip)
        simp only [gA, gB, gC, Act.put, gD, gE, gF]; refine wpAnyH_ready (rs := [5]) (by kernel_rfl) (by simp) ?_; refine AllReadyH.cons rfl (fun K hK => ?_) AllReadyH.nil; simp only [gA, gB, gC]; (go_simp); refine (signed8 k (sn v) (by have h5 := HK.out; omega) _).mono ?_; rintro e x7 ⟨rfl, hw⟩; rw [hw]; clear hw; (try go_wp2_with fail); refine hK.out _ _ ⟨V0.d0, V0.d1, V0.d2, Vp.c0, Vp.c1⟩ (fun hHeld => ?_); clear hK K; refine tk 6 rfl hHeld ?_; simp only [gA, gB, gC, Act.put, gD, gE, gF]; refine wpAnyH_done (by kernel_rfl) ?_ _; refine NoPanic.normal ?_; clear hHeld; (go_wp2_with fail)
        go_ret
        exact ⟨by rw [HX.out, EX.out]; rfl, B0⟩
    ·
      (have EX : Hid (nrk k p = k) := by show _ = _; unfold nrk; rw [if_neg (by omega)]); (have p3 : ((p : Int) == 3) = false := by rw [beq_eq_false_iff_ne]; omega); (have p2 : ((p : Int) == 2) = false := by rw [beq_eq_false_iff_ne]; omega); (have p5 : ¬ ((p : Int) = 3) := by omega); (have p6 : ¬ ((p : Int) = 2) := by omega); clear h3 h2; have c_V0 := V0.d0; have f0_V0 := V0.frozen 0; have d_V0 := V0.d1; have f1_V0 := V0.frozen 1; have e_V0 := V0.d2; have f2_V0 := V0.frozen 2; have l_V0 := V0.lt; have m_V0 := Nat.le_of_lt l_V0; (go_wp2_with fail); refine ent1 x2 _ _ (Q := fun W => Code.wp Tryz.prog _ _ _ W) ?_; intro x3 hb hs_x3 Vp; replace V0 := Va.after hb V0; replace hr := Rt.after hb hr; replace B0 := step B0 hb; clear hb hs_x3; clear c_V0 f0_V0 d_V0 f1_V0 e_V0 f2_V0 l_V0 m_V0; refine wp_region_noPanic ?_; replace V0 : Va x3.drew _ _ _ := V0; replace Vp : Va x3.drew _ _ _ := Vp; replace hr := hr.drw; replace B0 := Below.drew B0; refine wp_region_held_drew (S := (fun W => W.cell? ⟨w.heap.size, 0, none⟩ = some (.bool s) ∧ W.cell? ⟨w.heap.size, 1, none⟩ = some (.slice a l c) ∧ W.cell? ⟨w.heap.size, 2, none⟩ = some (.slice b m d) ∧ W.cell? ⟨x2.heap.size, 0, none⟩ = some (.float .f64 k) ∧ W.cell? ⟨x2.heap.size, 1, none⟩ = some (.int .i64 (p : Int)))) (by kernel_rfl) ⟨V0.d0, V0.d1, V0.d2, Vp.c0, Vp.c1⟩ (fun hHeld => ?_)
      (obtain ⟨x4, hxd⟩ : ∃ xd, xd = x3.drew := ⟨_, rfl⟩); rw [← hxd] at V0 Vp hr B0 hHeld ⊢; clear hxd; refine tk 0 rfl hHeld ?_; simp only [gA, gB, Act.put, gD, gE, gF]; refine tk 1 rfl hHeld ?_; simp only [gA, gB, gC, Act.put, gD, gE, gF]; refine tk 2 rfl hHeld ?_; simp only [gA, gB, gC, Act.put, gD, gE, gF]; refine wpAnyH_ready (rs := [3]) (by kernel_rfl) (by simp) ?_; refine AllReadyH.cons rfl (fun K hK => ?_) AllReadyH.nil; simp only [gA, gB, gC]; (go_simp); refine (qsign_any s a l c zs b m d ds v _ hr).mono ?_; rintro e x5 ⟨rfl, hb⟩; replace V0 := Va.after hb V0; replace Vp := Va.after hb Vp; replace hr := Rt.after hb hr; replace B0 := step B0 hb; clear hb; (try go_wp2_with fail); refine hK.out _ _ ⟨V0.d0, V0.d1, V0.d2, Vp.c0, Vp.c1⟩ (fun hHeld => ?_); clear hK K; refine wpAnyH_take (i := 4) (v := .bool (sn v)) rfl (by kernel_rfl) (by kernel_rfl) (by kernel_rfl) (fun _ _ _ h => h) (Or.inl ⟨by rfl, ?_⟩) hHeld ?_
      · (intro W hSw; (try dsimp only at hSw); go_simp; first | rfl | (rw [HS.out]) | skip)
      simp only [gA, gB, gC, Act.put, gD, gE, gF]; refine wpAnyH_ready (rs := [5]) (by kernel_rfl) (by simp) ?_; refine AllReadyH.cons rfl (fun K hK => ?_) AllReadyH.nil; simp only [gA, gB, gC]; (go_simp); refine (signed8 k (sn v) (by have h5 := HK.out; omega) _).mono ?_; rintro e x6 ⟨rfl, hw⟩; rw [hw]; clear hw; (try go_wp2_with fail); refine hK.out _ _ ⟨V0.d0, V0.d1, V0.d2, Vp.c0, Vp.c1⟩ (fun hHeld => ?_); clear hK K; refine tk 6 rfl hHeld ?_; simp only [gA, gB, gC, Act.put, gD, gE, gF]; refine wpAnyH_done (by kernel_rfl) ?_ _; refine NoPanic.normal ?_; clear hHeld; (go_wp2_with fail)
      go_ret
      exact ⟨by rw [HX.out, EX.out]; rfl, B0⟩
end Go.Proofs.YtjlodljgfjjclaaGreat
