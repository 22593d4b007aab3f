import Derived.Test.YtenmkbofpmbedaaGreatDoorMgAk
import Derived.Test.YtenmkbofpmbedaaGreatDoorBsM
import Derived.Test.YtenmkbofpmbedaaGreatDoorMgAa
import Derived.Test.YtenmkbofpmbedaaGreatDoorMgAg
import Derived.Lib.LaidTab
import Derived.Lib.AppendIntMem
import Derived.Test.YtenmkbofpmbedaaGreatDoorMgAl
namespace Go.Proofs.YtenmkbofpmbedaaGreatDoor
open Go.RowKit Go.Shelf
set_option linter.unusedVariables false

theorem isPlaces_yes (P : Int) (h0 : 0 ≤ P) (h9 : P ≤ 9) (w : World) : Calls Tryz.prog 138 #[.int .i64 P] w fun e w' => e = .returned (.bool true) ∧ w' = w := by
  go_enter Tryz.func138, Tryz.ntmps138
  go_wp2_with fail
  go_ret
  exact ⟨rfl, rfl⟩
theorem isPlaces_no (P : Int) (h : ¬ (0 ≤ P ∧ P ≤ 9)) (w : World) : Calls Tryz.prog 138 #[.int .i64 P] w fun e w' => e = .returned (.bool false) ∧ w' = w := by
  by_cases h0 : 0 ≤ P
  · have h9 : ¬ P ≤ 9 := fun h9 => h ⟨h0, h9⟩
    go_enter Tryz.func138, Tryz.ntmps138
    go_wp2_with fail
    go_ret
    exact ⟨rfl, rfl⟩
  · go_enter Tryz.func138, Tryz.ntmps138
    go_wp2_with fail
    go_ret
    exact ⟨rfl, rfl⟩
def CanI (U P : Int) : Prop := 0 ≤ P ∧ P ≤ 9 ∧ (0 < P → U.tmod 10 ≠ 0)
theorem canI_iff (U : Int) (P : Nat) : CanI U P ↔ Can U P := by
  unfold CanI Can
  constructor
  · rintro ⟨h1, h2, h3⟩
    exact ⟨by omega, fun h => by have := h3 (by omega); rwa [Ne, tmod_iff] at this⟩
  · rintro ⟨h1, h2⟩
    exact ⟨by omega, by omega, fun h => by rw [Ne, tmod_iff]; exact h2 (by omega)⟩
set_option maxHeartbeats 1000000 in
theorem check_ok (U P : Int) (h : CanI U P) (w : World) : Calls Tryz.prog 118 #[.agg #[.int .i64 U, .int .i64 P]] w fun e w' => e = .returned (.int .i64 0) ∧ Below w.heap.size w w' := by
  obtain ⟨h0, h9, h3⟩ := h
  by_cases hp : 0 < P
  · obtain ⟨m, hm⟩ : ∃ m, U.tmod 10 = m := ⟨_, rfl⟩
    have hm0 : (m == 0) = false := by have := h3 hp; rw [hm] at this; simpa using this
    go_enter Tryz.func118, Tryz.ntmps118
    go_wp2_with (go_at_call 138; refine (isPlaces_yes P h0 h9 _).mono ?_; rintro e w' ⟨rfl, rfl⟩)
    go_ret
    exact ⟨rfl, (Below.refl _ _).alloc (Nat.le_refl _) _⟩
  · go_enter Tryz.func118, Tryz.ntmps118
    go_wp2_with (go_at_call 138; refine (isPlaces_yes P h0 h9 _).mono ?_; rintro e w' ⟨rfl, rfl⟩)
    go_ret
    exact ⟨rfl, (Below.refl _ _).alloc (Nat.le_refl _) _⟩
set_option maxHeartbeats 1000000 in
theorem check_no (U P : Int) (h : ¬ CanI U P) (w : World) : Calls Tryz.prog 118 #[.agg #[.int .i64 U, .int .i64 P]] w fun e w' => e = .returned (.int .i64 60) ∧ Below w.heap.size w w' := by
  by_cases h1 : 0 ≤ P ∧ P ≤ 9
  · have hp : 0 < P := by
      rcases Int.lt_or_le 0 P with h' | h'
      · exact h'
      · exact absurd ⟨h1.1, h1.2, fun hh => by omega⟩ h
    have hm : U.tmod 10 = 0 := by
      rcases Decidable.em (U.tmod 10 = 0) with h' | h'
      · exact h'
      · exact absurd ⟨h1.1, h1.2, fun _ => h'⟩ h
    go_enter Tryz.func118, Tryz.ntmps118
    go_wp2_with (go_at_call 138; refine (isPlaces_yes P h1.1 h1.2 _).mono ?_; rintro e w' ⟨rfl, rfl⟩)
    go_ret
    exact ⟨rfl, (Below.refl _ _).alloc (Nat.le_refl _) _⟩
  · go_enter Tryz.func118, Tryz.ntmps118
    go_wp2_with (go_at_call 138; refine (isPlaces_no P h1 _).mono ?_; rintro e w' ⟨rfl, rfl⟩)
    go_ret
    exact ⟨rfl, (Below.refl _ _).alloc (Nat.le_refl _) _⟩
end Go.Proofs.YtenmkbofpmbedaaGreatDoor
namespace Go.Proofs.YtenmkbofpmbedaaGreatDoor
open Go.RowKit Go.Shelf
set_option linter.unusedVariables false

def Tn (w : World) : Prop := Go.Lib.TabIs Tryz.prog w "tollbook/decimal.tens" .i64 [1, 10, 100, 1000, 10000, 100000, 1000000, 10000000, 100000000, 1000000000]
theorem Tn.to {w w' : World} (h : Tn w) (hb : Below w.heap.size w w') : Tn w' := Go.Lib.tabBelow_of_tabIs h w' hb
theorem Tn.cell {w : World} (h : Tn w) (P : Nat) (hP : P ≤ 9) : w.cell? ⟨0, P, none⟩ = some (.int .i64 (10 ^ P)) := by
  have := Go.Lib.TabIs.cell (g := 0) h (by kernel_rfl) P (by simp; omega)
  rw [this]
  match P, hP with
  | 0, _ => rfl
  | 1, _ => rfl
  | 2, _ => rfl
  | 3, _ => rfl
  | 4, _ => rfl
  | 5, _ => rfl
  | 6, _ => rfl
  | 7, _ => rfl
  | 8, _ => rfl
  | 9, _ => rfl
theorem short64 {x y : Int} (h1 : -9223372036854775808 ≤ x) (h2 : x ≤ 9223372036854775807) (h3 : -9223372036854775808 ≤ y) (h4 : y ≤ 9223372036854775807) (h0 : y ≠ 0) : Short (Rat.divInt x y) := by
  have b1 : (9223372036854775808 : Int) < pw 1024 := Int.lt_of_lt_of_le (by decide : (9223372036854775808 : Int) < pw 1) (pw_mono (by omega))
  unfold Short
  rw [Rat.num_divInt, Rat.den_divInt, if_neg h0]
  have g1 : ((y.sign * x) / (y.gcd x : Nat)).natAbs ≤ x.natAbs := by
    have hd : ((y.gcd x : Nat) : Int) ∣ y.sign * x := Int.dvd_mul_of_dvd_right (Int.gcd_dvd_right ..)
    rw [Int.natAbs_ediv_of_dvd hd, Int.natAbs_mul, Int.natAbs_sign_of_ne_zero h0, Nat.one_mul]
    exact Nat.div_le_self _ _
  have g2 := Nat.div_le_self y.natAbs (y.gcd x)
  exact ⟨Int.lt_of_le_of_lt (by omega) b1, Int.lt_of_le_of_lt (by omega) b1⟩
theorem ten_bound {P : Nat} (hP : P ≤ 9) : 1 ≤ (10 : Int) ^ P ∧ (10 : Int) ^ P ≤ 1000000000 := by
  match P, hP with
  | 0, _ => decide
  | 1, _ => decide
  | 2, _ => decide
  | 3, _ => decide
  | 4, _ => decide
  | 5, _ => decide
  | 6, _ => decide
  | 7, _ => decide
  | 8, _ => decide
  | 9, _ => decide
set_option maxHeartbeats 4000000 in
theorem rat_ok (U : Int) (P : Nat) (h1 : -9223372036854775808 ≤ U) (h2 : U ≤ 9223372036854775807) (hc : Can U P) (w : World) (hT : Tn w) :
  Calls Tryz.prog 78 #[.agg #[.int .i64 U, .int .i64 P]] w fun e W' => ∃ s a l c zs b m d ds, e = .returned (.tuple #[.agg #[.bool s, .slice a l c, .slice b m d], .int .i64 0]) ∧ Rt W' s a l c zs b m d ds (Rat.divInt U (10 ^ P)) ∧ Below w.heap.size w W' := by
 have HC : Hid (CanI U P) := (canI_iff U P).2 hc; have hP := hc.1; clear hc; (obtain ⟨T, hTT⟩ : ∃ T : Int, (10 : Int) ^ P = T := ⟨_, rfl⟩); have hTb := ten_bound hP; (have hTc : Hid (∀ W, Below w.heap.size w W → W.cell? ⟨0, P, none⟩ = some (.int .i64 T)) := fun W hb => by rw [← hTT]; exact (hT.to hb).cell P hP); rw [hTT] at hTb ⊢; have HS : Hid (Short (Rat.divInt U T)) := short64 h1 h2 (by omega) (by omega) (by omega); (have hP10 : (P : Int) < 10 := by omega); clear hTT; have B0 : Below w.heap.size w w := Below.refl _ _
 go_enter Tryz.func78, Tryz.ntmps78
 (go_wp2_with fail); refine ent2 w _ _ _ _ (Q := fun W => Calls Tryz.prog _ _ W _) ?_; intro x1 hb hs_x1 V0 V1; replace B0 := step B0 hb; clear hb hs_x1; refine (check_ok U P HC.out _).mono ?_; rintro e x2 ⟨rfl, hb⟩; replace V0 := V0.a hb; replace V1 := V1.a hb; replace B0 := step B0 hb; clear hb; have c_V0 := V0.c0; have f0_V0 := V0.frozen 0; have d_V0 := V0.c1; have f1_V0 := V0.frozen 1; have l_V0 := V0.lt; have m_V0 := Nat.le_of_lt l_V0; (go_wp2_with fail); clear c_V0 f0_V0 d_V0 f1_V0 l_V0 m_V0; refine wp_region_noPanic ?_; replace V0 : Va x2.drew _ _ _ := V0; replace V1 : Va x2.drew _ _ _ := V1; replace B0 := Below.drew B0; refine wp_region_held_drew (S := (fun W => W.cell? ⟨w.heap.size, 0, none⟩ = some (.int .i64 U) ∧ W.cell? ⟨w.heap.size, 1, none⟩ = some (.int .i64 P) ∧ W.cell? ⟨0, P, none⟩ = some (.int .i64 T))) (by kernel_rfl) ⟨V0.c0, V0.c1, (hTc.out _ B0)⟩ (fun hHeld => ?_); (obtain ⟨x3, hxd⟩ : ∃ xd, xd = x2.drew := ⟨_, rfl⟩)
 rw [← hxd] at V0 V1 B0 hHeld ⊢; clear hxd; refine tjz 0 hHeld ?_; refine tjz 1 hHeld ?_; refine tjz 2 hHeld ?_; refine tjz 3 hHeld ?_; refine tjz 4 hHeld ?_; refine tjz 5 hHeld ?_; refine ryz 6 (fun K hK => ?_); simp only [gA, gB, gC]; (go_simp); refine (qsmall_ok U T h1 h2 (by omega) (by omega) (by omega) _).mono ?_; rintro e x4 ⟨er, s', a', l', c', z', b', m', d', y', v', rfl, h', hra, hb⟩; replace V0 := V0.a hb; replace V1 := V1.a hb; replace B0 := step B0 hb; clear hb; obtain ⟨-, rfl, rfl⟩ := hra.out.resolve_right (fun h => h.1 HS.out); clear hra; (try go_wp2_with fail)
 refine hK.out _ _ ⟨V0.c0, V0.c1, (hTc.out _ B0)⟩ (fun hHeld => ?_); clear hK K; refine tjz 7 hHeld ?_; refine tjz 8 hHeld ?_; obtain ⟨c_V1, f0_V1, d_V1, f1_V1, e_V1, f2_V1, l_V1, m_V1⟩ := V1.q3; refine ryz 9 (fun K hK => ?_); simp only [gA, gB, gC]; (go_simp); clear c_V1 f0_V1 d_V1 f1_V1 e_V1 f2_V1 l_V1 m_V1; refine sto3 V1 (.bool s') (.slice a' l' c') (.slice b' m' d') (Q := fun W => K _ W) ?_; intro x5 V' oth far; replace V0 := apz (oth _ _ _) V0; replace h' := h'.far V1 (noInt3 _ _ _ _ _ _ _) far.1; replace B0 := apz (far.2 _ _) B0; replace V1 := V'; clear oth far
 refine hK.out _ _ ⟨V0.c0, V0.c1, (hTc.out _ B0)⟩ (fun hHeld => ?_); clear hK K; refine tjz 10 hHeld ?_; refine dnz ?_; clear hHeld; (go_wp2_with fail); refine bodyPost_ret (results_rt rfl rfl V1) rfl ?_; exact ⟨s', a', l', c', z', b', m', d', y', rfl, h', B0⟩
set_option maxHeartbeats 4000000 in
theorem rat_no (U P : Int) (hc : ¬ CanI U P) (w : World) :
    Calls Tryz.prog 78 #[.agg #[.int .i64 U, .int .i64 P]] w fun e W' => e = .returned (.tuple #[.agg #[.bool false, .slice none 0 0, .slice none 0 0], .int .i64 60]) ∧ Below w.heap.size w W' := by
  have B0 : Below w.heap.size w w := Below.refl _ _
  go_enter Tryz.func78, Tryz.ntmps78
  go_wp2_with fail
  refine ent2 w _ _ _ _ (Q := fun W => Calls Tryz.prog _ _ W _) ?_
  intro x1 hb hs_x1 V0 V1
  replace B0 := step B0 hb
  clear hb hs_x1
  refine (check_no U P hc _).mono ?_
  rintro e x2 ⟨rfl, hb⟩
  replace V0 := V0.a hb
  replace V1 := V1.a hb
  replace B0 := step B0 hb
  clear hb
  have c_V1 := V1.d0
  have f0_V1 := V1.frozen 0
  have d_V1 := V1.d1
  have f1_V1 := V1.frozen 1
  have e_V1 := V1.d2
  have f2_V1 := V1.frozen 2
  have l_V1 := V1.lt
  have m_V1 := Nat.le_of_lt l_V1
  go_wp2_with fail
  refine bodyPost_ret (results_rt rfl rfl (V1.set3 _ _ _)) rfl ?_
  exact ⟨rfl, belo3 B0 (by omega) _ _ _⟩
end Go.Proofs.YtenmkbofpmbedaaGreatDoor
namespace Go.Proofs.YtenmkbofpmbedaaGreatDoor
open Go.RowKit Go.Shelf
set_option linter.unusedVariables false
set_option maxRecDepth 20000

structure Br where
  u : Int
  p : Int
  v : Int
  q : Int
abbrev bz : Br := ⟨0, 0, 0, 0⟩
theorem infoBr : (Tryz.prog.info? 81).map (fun i => (i.zero, i.size, i.bytes)) = some (some (.agg #[.int .i64 0, .int .i64 0, .int .i64 0, .int .i64 0]), 4, 32) := by kernel_rfl
def elB : El Br where
  enc x := [.int .i64 x.u, .int .i64 x.p, .int .i64 x.v, .int .i64 x.q]
  dft := bz
  te := 81
  tl := 22
  z := .agg #[.int .i64 0, .int .i64 0, .int .i64 0, .int .i64 0]
  s := 4
  by8 := 32
  len := fun _ => rfl
  one := fun x v hv => by
    simp at hv
    rcases hv with rfl | rfl | rfl | rfl <;> rfl
  pos := by decide
  und := Tryz.underlying22
  inf := infoBr
  zs := rfl
  bt := by decide
theorem Va.b0 {w : World} {b : Nat} {t : TypeId} {u v x y : Value} (h : Va w b t #[u, v, x, y]) : w.cell? ⟨b, 0, none⟩ = some u := by rw [h.cellAt 0]; rfl
theorem Va.b1 {w : World} {b : Nat} {t : TypeId} {u v x y : Value} (h : Va w b t #[u, v, x, y]) : w.cell? ⟨b, 1, none⟩ = some v := by rw [h.cellAt 1]; rfl
theorem Va.b2 {w : World} {b : Nat} {t : TypeId} {u v x y : Value} (h : Va w b t #[u, v, x, y]) : w.cell? ⟨b, 2, none⟩ = some x := by rw [h.cellAt 2]; rfl
theorem Va.b3 {w : World} {b : Nat} {t : TypeId} {u v x y : Value} (h : Va w b t #[u, v, x, y]) : w.cell? ⟨b, 3, none⟩ = some y := by rw [h.cellAt 3]; rfl
def W64 (x : Int) : Prop := -9223372036854775808 ≤ x ∧ x ≤ 9223372036854775807
def Br.ok (x : Br) : Prop := W64 x.u ∧ W64 x.p ∧ W64 x.v ∧ W64 x.q
def dvv (u p : Int) : Rat := Rat.divInt u (10 ^ p.toNat)
theorem dvv_sz {u p : Int} (hu : W64 u) (h0 : 0 ≤ p) (h9 : p ≤ 9) : Sz 1 (dvv u p) := by
  have hb := ten_bound (P := p.toNat) (by omega)
  unfold dvv
  obtain ⟨T, hT⟩ : ∃ T : Nat, ((10 : Int) ^ p.toNat) = (T : Int) := ⟨10 ^ p.toNat, by simp⟩
  rw [hT] at hb ⊢
  have h1 : pw 1 = 18446744073709551616 := by decide
  have hu' := hu
  unfold W64 at hu'
  rw [show Rat.divInt u (T : Int) = mkRat u T from Rat.divInt_ofNat u T]
  exact Sz.mk (by omega) (by rw [h1]; omega) (by rw [h1]; omega)
def DrR (w : World) (r : Rc) (u p : Int) (er : Int) : Prop := (er = 0 ∧ CanI u p ∧ Rv w r (dvv u p)) ∨ (er ≠ 0 ∧ ¬ CanI u p)
theorem DrR.after {w w' : World} (hb : Below w.heap.size w w') {r : Rc} {u p er : Int} (h : DrR w r u p er) : DrR w' r u p er := by
  rcases h with ⟨h0, h1, h2⟩ | h
  · exact .inl ⟨h0, h1, h2.after hb⟩
  · exact .inr h
theorem drat_any (u p : Int) (hu : W64 u) (w : World) (hT : Tn w) :
    Calls Tryz.prog 78 #[.agg #[.int .i64 u, .int .i64 p]] w fun e w' => ∃ (r : Rc) (er : Int), e = .returned (.tuple #[.agg #[.bool r.s, .slice r.a r.l r.c, .slice r.b r.m r.d], .int .i64 er]) ∧ DrR w' r u p er ∧ Below w.heap.size w w' := by
  by_cases hc : CanI u p
  · obtain ⟨P, rfl⟩ : ∃ P : Nat, p = (P : Int) := ⟨p.toNat, by have := hc.1; omega⟩
    refine (rat_ok u P hu.1 hu.2 ((canI_iff u P).1 hc) w hT).mono ?_
    rintro e w' ⟨s, a, l, c, z, b, m, d, y, rfl, h, hb⟩
    exact ⟨⟨s, a, l, c, z, b, m, d, y⟩, 0, rfl, .inl ⟨rfl, hc, h⟩, hb⟩
  · refine (rat_no u p hc w).mono ?_
    rintro e w' ⟨rfl, hb⟩
    exact ⟨Rc.nil, 60, rfl, .inr ⟨by decide, hc⟩, hb⟩
def BVals (bs : List Br) (l : List Pq) (k : Nat) : Prop := l.length = k ∧ ∀ i, i < k → (CanI (bs.getD i bz).u (bs.getD i bz).p ∧ CanI (bs.getD i bz).v (bs.getD i bz).q) ∧ aq l i = dvv (bs.getD i bz).u (bs.getD i bz).p ∧ rq l i = dvv (bs.getD i bz).v (bs.getD i bz).q / 100
theorem BVals.snoc {bs : List Br} {l : List Pq} {k : Nat} (h : BVals bs l k) (h1 : CanI (bs.getD k bz).u (bs.getD k bz).p) (h2 : CanI (bs.getD k bz).v (bs.getD k bz).q) : BVals bs (l ++ [(dvv (bs.getD k bz).u (bs.getD k bz).p, dvv (bs.getD k bz).v (bs.getD k bz).q / 100)]) (k + 1) := by
  refine ⟨by rw [List.length_append, h.1]; rfl, fun i hi => ?_⟩
  have hl := h.1
  by_cases e : i = k
  · rw [e, ← hl, aq_last, rq_last, hl]; exact ⟨⟨h1, h2⟩, rfl, rfl⟩
  · rw [aq_app _ (by omega), rq_app _ (by omega)]; exact h.2 i (by omega)
theorem bck_congr {bs : List Br} {l l' : List Pq} {n i : Nat} (h : BVals bs l n) (h' : BVals bs l' n) (hi : i < n) (hc : Ck l' i) : Ck l i := by
  have e1 := (h.2 i hi).2.1.trans (h'.2 i hi).2.1.symm
  have e2 := (h.2 i hi).2.2.trans (h'.2 i hi).2.2.symm
  refine ⟨fun h0 => ?_, fun h0 => ?_, by rw [e2]; exact hc.r0, by rw [e2]; exact hc.r1⟩
  · subst h0; rw [e1]; exact hc.z rfl
  · have e3 := (h.2 (i - 1) (by omega)).2.1.trans (h'.2 (i - 1) (by omega)).2.1.symm
    rw [e1, e3]; exact hc.u h0
structure At4 (w : World) (b k : Nat) (x : Br) : Prop where
  c0 : w.cell? ⟨b, k, none⟩ = some (.int .i64 x.u)
  c1 : w.cell? ⟨b, k + 1, none⟩ = some (.int .i64 x.p)
  c2 : w.cell? ⟨b, k + 2, none⟩ = some (.int .i64 x.v)
  c3 : w.cell? ⟨b, k + 3, none⟩ = some (.int .i64 x.q)
theorem Le.four {w : World} {b off n : Nat} {xs : List Br} (h : Le elB w (some ⟨b, off, none⟩) n xs) (i : Nat) (hi : i < n) : At4 w b (off + i * 4) (xs.getD i bz) := by
  have q : ∀ j u, (elB.enc (xs.getD i bz))[j]? = some u → w.cell? ⟨b, off + i * 4 + j, none⟩ = some u := fun j u hj => by
    have := h.at i hi j u hj
    rw [Nat.add_assoc]
    exact this
  exact ⟨q 0 _ rfl, q 1 _ rfl, q 2 _ rfl, q 3 _ rfl⟩
structure Stb (w : World) (B : Nat) (a : Option Addr) (n' c' : Nat) (bs : List Br) (n : Nat) : Prop where
  ex : ∃ (g : Nat) (xs : List Pc) (l : List Pq), a = some ⟨g, 0, none⟩ ∧ n' = n ∧ c' = n ∧ B ≤ g ∧ xs.length = n ∧ Bk elT w g xs ∧ Sf w xs l n ∧ BVals bs l n ∧ Sok l
theorem Tn.after {w w' : World} (hb : Below w.heap.size w w') (h : Tn w) : Tn w' := h.to hb
set_option maxHeartbeats 16000000 in
theorem ofBr_any (a : Option Addr) (n c : Nat) (bs : List Br) (w : World) (hL : Le elB w a n bs) (hW : ∀ i, i < n → (bs.getD i bz).ok) (hT : Tn w) :
    Calls Tryz.prog 34 #[.slice a n c] w fun e w' => ∃ (a' : Option Addr) (n' c' : Nat) (er : Int), e = .returned (.tuple #[.slice a' n' c', .int .i64 er]) ∧ Hid ((er = 0 ∧ Stb w' w.heap.size a' n' c' bs n) ∨ (er = 180 ∧ ¬ ((1 ≤ n ∧ n ≤ 8) ∧ ∃ l, BVals bs l n ∧ Sok l))) ∧ Below w.heap.size w w' := by
  have HL : Hid (Le elB w a n bs) := hL; have HW : Hid (∀ i, i < n → (bs.getD i bz).ok) := hW; have HT : Hid (Tn w) := hT; clear hL hW hT
  by_cases hn : 1 ≤ n ∧ n ≤ 8
  · have HN : Hid (1 ≤ n ∧ n ≤ 8) := hn
    have h8 := hn.2; (have hb0 : decide ((1 : Int) ≤ (n : Int) ∧ (n : Int) ≤ 8) = true := by rw [decide_eq_true_iff]; omega); obtain ⟨lb, lo, rfl⟩ := HL.out.ex hn.1; obtain ⟨w1, hmk, hG, hb1, hs1⟩ := make_T n h8 w; have HG1 : Hid (Bk elT w1 w.heap.size (List.replicate n (Rc.nil, Rc.nil))) := hG; have HB1 : Hid (Below w.heap.size w w1) := hb1; clear hn hG hb1 hs1
    go_enter Tryz.func34, Tryz.ntmps34
    (go_wp2_with fail); refine (isCount_any (n : Int) w).mono ?_; rintro e wz ⟨rfl, hw⟩; rw [hw, hb0]; clear hw wz; (go_wp2_with fail); clear hmk
    go_loopw [20] (fun i wr => ∃ (j : Nat) (xs : List Pc) (l : List Pq), j ≤ n ∧ i = .int .i64 j ∧ xs.length = n ∧ Hid (Bk elT wr w.heap.size xs) ∧ Hid (Sf wr xs l j) ∧ Hid (BVals bs l j) ∧ Hid (Below w.heap.size w wr)) (fun i _ => n - (intOf i).toNat)
    case atStart => exact ⟨0, _, [], Nat.zero_le _, rfl, List.length_replicate, HG1.out, fun j hj => absurd hj (by omega), ⟨rfl, fun j hj => absurd hj (by omega)⟩, HB1.out⟩
    case round =>
      clear HG1 HB1; obtain ⟨j, xs, l, hj, rfl, hxl, HG, HF, HV, HQ⟩ := hrel
      by_cases hlt : j < n
      ·
        have B0 := HQ.out; have hG := HG.out; have hF := HF.out; have hT := HT.out.after B0; have flt := HG.out.lt; have hc : At4 wr lb (lo + j * 4) (bs.getD j bz) := (HL.out.after B0).four j hlt; have hok := HW.out j hlt; (obtain ⟨x, hx⟩ : ∃ x, bs.getD j bz = x := ⟨_, rfl⟩); rw [hx] at hc hok; have HX : Hid (bs.getD j bz = x) := hx; clear hx; obtain ⟨c0, c1, c2, c3⟩ := hc; have lb0 := cell_lt c0; (go_wp2_with fail); refine ent1 wr _ _ (Q := fun W => Calls Tryz.prog _ _ W _) ?_; intro x21 hb hs_x21 V6; replace hG := Bk.after hb hG; replace hF := Sf.after hb hF; replace hT := Tn.after hb hT; replace B0 := step B0 hb; clear hb hs_x21; clear c0 c1 c2 c3 lb0; refine (drat_any x.u x.p hok.1 _ hT).mono ?_; rintro e x22 ⟨r1, e1, rfl, ho1, hb⟩; replace V6 := V6.a hb; replace hG := Bk.after hb hG; replace hF := Sf.after hb hF; replace hT := Tn.after hb hT; replace B0 := step B0 hb; clear hb; have g7 := hG.lt; have c_V6 := V6.b0; have f0_V6 := V6.frozen 0; have d_V6 := V6.b1
        have f1_V6 := V6.frozen 1; have e_V6 := V6.b2; have f2_V6 := V6.frozen 2; have j_V6 := V6.b3; have f3_V6 := V6.frozen 3; have l_V6 := V6.lt; have m_V6 := Nat.le_of_lt l_V6; (go_wp2_with fail); refine ent1 x22 _ _ (Q := fun W => Calls Tryz.prog _ _ W _) ?_; intro x23 hb hs_x23 V7; replace V6 := V6.a hb; replace hG := Bk.after hb hG; replace hF := Sf.after hb hF; replace hT := Tn.after hb hT; replace ho1 := DrR.after hb ho1; replace B0 := step B0 hb; clear hb hs_x23; clear c_V6 f0_V6 d_V6 f1_V6 e_V6 f2_V6 j_V6 f3_V6 l_V6 m_V6; refine (drat_any x.v x.q hok.2.2.1 _ hT).mono ?_; rintro e x24 ⟨r2, e2, rfl, ho2, hb⟩; replace V6 := V6.a hb; replace V7 := V7.a hb; replace hG := Bk.after hb hG; replace hF := Sf.after hb hF; replace hT := Tn.after hb hT; replace ho1 := DrR.after hb ho1; replace B0 := step B0 hb; clear hb
        by_cases z1 : e1 = 0
        ·
          (have z1' : (e1 != 0) = false := by simp [z1])
          by_cases z2 : e2 = 0
          ·
            (have z2' : (e2 != 0) = false := by simp [z2]); obtain ⟨hcx, vx⟩ : CanI x.u x.p ∧ Rv x24 r1 (dvv x.u x.p) := Or.elim ho1 (fun h => h.2) (fun h => absurd z1 h.1); obtain ⟨hcy, vy⟩ : CanI x.v x.q ∧ Rv x24 r2 (dvv x.v x.q) := Or.elim ho2 (fun h => h.2) (fun h => absurd z2 h.1); clear ho1 ho2; clear hT; have HSY : Hid (Sz 1 (dvv x.v x.q)) := dvv_sz hok.2.2.1 hcy.1 hcy.2.1; (have HNX : Hid (BVals bs (l ++ [(dvv x.u x.p, dvv x.v x.q / 100)]) (j + 1)) := by have h0 := HV.out.snoc (by rw [HX.out]; exact hcx) (by rw [HX.out]; exact hcy); rw [HX.out] at h0; exact h0); clear hcx hcy hok; have g9 := hG.lt; (go_wp2_with fail); refine ent1 x24 _ _ (Q := fun W => Code.wp Tryz.prog _ _ _ W) ?_; intro x25 hb hs_x25 V9; replace V6 := V6.a hb; replace V7 := V7.a hb; replace hG := Bk.after hb hG; replace hF := Sf.after hb hF; replace vx := Rv.after hb vx; replace vy := Rv.after hb vy; replace B0 := step B0 hb; clear hb hs_x25; refine wp_region_noPanic ?_
            replace V6 : Va x25.drew _ _ _ := V6; replace V7 : Va x25.drew _ _ _ := V7; replace V9 : Va x25.drew _ _ _ := V9; replace hG := hG.drw; replace hF := hF.drw; replace vx := vx.drw; replace vy := vy.drw; replace B0 := Below.drew B0; refine wp_region_held_drew (S := (fun W => W.cell? ⟨x22.heap.size, 0, none⟩ = some (.bool r1.s) ∧ W.cell? ⟨x22.heap.size, 1, none⟩ = some (.slice r1.a r1.l r1.c) ∧ W.cell? ⟨x22.heap.size, 2, none⟩ = some (.slice r1.b r1.m r1.d) ∧ W.cell? ⟨x24.heap.size, 0, none⟩ = some (.bool r2.s) ∧ W.cell? ⟨x24.heap.size, 1, none⟩ = some (.slice r2.a r2.l r2.c) ∧ W.cell? ⟨x24.heap.size, 2, none⟩ = some (.slice r2.b r2.m r2.d))) (by kernel_rfl) ⟨V7.d0, V7.d1, V7.d2, V9.d0, V9.d1, V9.d2⟩ (fun hHeld => ?_); (obtain ⟨x26, hxd⟩ : ∃ xd, xd = x25.drew := ⟨_, rfl⟩); rw [← hxd] at V6 V7 V9 hG hF vx vy B0 hHeld ⊢; clear hxd; refine tjz 0 hHeld ?_; refine tk 1 rfl hHeld ?_
            simp only [gA, gB, gC, Act.put, gD, gE, gF]; refine tjz 2 hHeld ?_; refine tjz 3 hHeld ?_; refine ryz 4 (fun K hK => ?_); simp only [gA, gB, gC]; (go_simp); refine (hundredth_any r2 (dvv x.v x.q) 1 _ vy HSY.out (by omega)).mono ?_; rintro e x27 ⟨r3, rfl, vz, hb⟩; replace V6 := V6.a hb; replace V7 := V7.a hb; replace V9 := V9.a hb; replace hG := Bk.after hb hG; replace hF := Sf.after hb hF; replace vx := Rv.after hb vx; replace vy := Rv.after hb vy; replace B0 := step B0 hb; clear hb; (try go_wp2_with fail); refine hK.out _ _ ⟨V7.d0, V7.d1, V7.d2, V9.d0, V9.d1, V9.d2⟩ (fun hHeld => ?_); clear hK K; refine tjz 5 hHeld ?_; refine tjz 6 hHeld ?_; have fl := hG.lt
            obtain ⟨b0, b1, b2, b3, b4, b5⟩ := hG.at6 rfl rfl j (by omega); have fr0 := hG.frozen (j * 6); have fr1 := hG.frozen (j * 6 + 1); have fr2 := hG.frozen (j * 6 + 2); have fr3 := hG.frozen (j * 6 + 3); have fr4 := hG.frozen (j * 6 + 4); have fr5 := hG.frozen (j * 6 + 5); refine ryz 7 (fun K hK => ?_); simp only [gA, gB, gC]; (go_simp); clear b0 b1 b2 b3 b4 b5 fr0 fr1 fr2 fr3 fr4 fr5; refine sto6 (E := elT) rfl rfl hG (by omega) (r1, r3) (Q := fun W => K _ W) ?_; intro x9 hG9 far9 bel9; have HP9 : Hid (Sf x9 (xs.set j (r1, r3)) (l ++ [(dvv x.u x.p, dvv x.v x.q / 100)]) (j + 1)) := hF.put HV.out.1 hG (by omega) vx vz far9; have HG9 : Hid (Bk elT x9 w.heap.size (xs.set j (r1, r3))) := hG9; have HB9 : Hid (Below w.heap.size w x9) := bel9 _ _ (Nat.le_refl _) B0; replace V7 := V7.stay far9 (by omega); replace V9 := V9.stay far9 (by omega); refine hK.out _ _ ⟨V7.d0, V7.d1, V7.d2, V9.d0, V9.d1, V9.d2⟩ (fun hHeld => ?_)
            clear hK K; refine dnz ?_; clear hHeld; (go_wp2_with fail)
            go_roundw
            case measure => simp [intOf]; omega
            case rel => exact ⟨j + 1, xs.set j (r1, r3), _, by omega, by go_num, by rw [List.length_set]; exact hxl, HG9.out, HP9.out, HNX.out, HB9.out⟩
          ·
            (have z2' : (e2 != 0) = true := by simp [z2]); (have z2'' : (e2 == 0) = false := by simp [z2]); (go_wp2_with fail)
            have HBAD : Hid (∀ l', BVals bs l' n → False) := fun l' hv => by
              have h' := (hv.2 j hlt).1; rw [HX.out] at h'
              rcases ho2 with ⟨h0, -⟩ | ⟨-, h0⟩
              · exact z2 h0
              · exact h0 h'.2
            go_ret2
            exact ⟨none, 0, 0, 180, rfl, .inr ⟨rfl, fun ⟨_, l', hv, _⟩ => HBAD.out l' hv⟩, B0.alloc (by have := B0.size; omega) _⟩
        ·
          (have z1' : (e1 != 0) = true := by simp [z1]); (have z1'' : (e1 == 0) = false := by simp [z1]); (go_wp2_with fail)
          have HBAD : Hid (∀ l', BVals bs l' n → False) := fun l' hv => by
            have h' := (hv.2 j hlt).1; rw [HX.out] at h'
            rcases ho1 with ⟨h0, -⟩ | ⟨-, h0⟩
            · exact z1 h0
            · exact h0 h'.1
          go_ret2
          exact ⟨none, 0, 0, 180, rfl, .inr ⟨rfl, fun ⟨_, l', hv, _⟩ => HBAD.out l' hv⟩, B0.alloc (by have := B0.size; omega) _⟩
      ·
        (obtain rfl : j = n := by omega); (have hL2 : Le elT wr (some ⟨w.heap.size, 0, none⟩) j xs := by have := HG.out.le; rwa [hxl] at this); have hS2 : Ss wr xs l := ⟨by rw [hxl, HV.out.1], fun i hi => HF.out i (by rw [← HV.out.1]; exact hi)⟩; (go_wp2_with fail); refine (check_any w.heap.size 0 j j xs l wr hL2 hS2 HV.out.1 HN.out.2).mono ?_; rintro e wz ⟨er, rfl, hck, hb⟩; clear hL2 hS2; (go_wp2_with fail)
        go_ret2
        refine ⟨_, _, _, er, rfl, ?_, step HQ.out hb⟩
        rcases hck.out with ⟨h0, hk⟩ | ⟨h0, hk⟩
        · exact .inl ⟨h0, ⟨w.heap.size, xs, l, rfl, rfl, rfl, Nat.le_refl _, hxl, HG.out.after hb, HF.out.after hb, HV.out, Sok.of (by rw [HV.out.1]; exact HN.out.1) (by rw [HV.out.1]; exact HN.out.2) (by rw [HV.out.1]; exact hk)⟩⟩
        · refine .inr ⟨h0, fun ⟨_, l', hv, ho⟩ => hk (fun i hi => ?_)⟩
          have := ho.ck (j := i) (by rw [hv.1]; exact hi); exact bck_congr HV.out hv hi this
  · have hb0 : decide ((1 : Int) ≤ (n : Int) ∧ (n : Int) ≤ 8) = false := by rw [decide_eq_false_iff_not]; omega
    have HN : Hid (¬ (1 ≤ n ∧ n ≤ 8)) := hn; clear hn
    go_enter Tryz.func34, Tryz.ntmps34
    (go_wp2_with fail); refine (isCount_any (n : Int) w).mono ?_; rintro e wz ⟨rfl, hw⟩; rw [hw, hb0]; clear hw wz; (go_wp2_with fail)
    go_ret2
    exact ⟨none, 0, 0, 180, rfl, .inr ⟨rfl, fun h => HN.out h.1⟩, Below.refl _ _⟩
end Go.Proofs.YtenmkbofpmbedaaGreatDoor
namespace Go.Proofs.YtenmkbofpmbedaaGreatDoor
open Go.RowKit Go.Shelf
set_option linter.unusedVariables false
set_option maxRecDepth 20000

theorem Va.hop {w w' : World} {b : Nat} {t : TypeId} {cs : Array Value} (h : Va w b t cs) (k : w'.heap[b]? = w.heap[b]?) : Va w' b t cs := by unfold Va at *; rw [k]; exact h
theorem cell_hop {w w' : World} {b i : Nat} {v : Value} (h : w.cell? ⟨b, i, none⟩ = some v) (k : w'.heap[b]? = w.heap[b]?) : w'.cell? ⟨b, i, none⟩ = some v := by
  simp only [World.cell?] at h ⊢
  rw [k]; exact h
theorem At6.hop {w w' : World} {b i : Nat} {p : Pc} (h : At6 w b i p) (k : w'.heap[b]? = w.heap[b]?) : At6 w' b i p := ⟨cell_hop h.c0 k, cell_hop h.c1 k, cell_hop h.c2 k, cell_hop h.c3 k, cell_hop h.c4 k, cell_hop h.c5 k⟩
def OfS (w : World) (B : Nat) (q : Option Addr) (ps : List Pc) (n : Nat) (er : Int) : Prop :=
  (er = 0 ∧ ∃ (g b : Nat) (xs : List Pc) (l : List Pq), q = some ⟨g, 0, none⟩ ∧ Sd w g b 0 n n xs l ∧ Vals ps l n ∧ B ≤ g ∧ B ≤ b) ∨ (er ≠ 0 ∧ q = none ∧ OfE ps n er)
theorem OfS.after {w w' : World} (hb : Below w.heap.size w w') {B : Nat} {q : Option Addr} {ps : List Pc} {n : Nat} {er : Int} (h : OfS w B q ps n er) : OfS w' B q ps n er := by
  rcases h with ⟨h0, g, b, xs, l, h1, h2, h3⟩ | h
  · exact .inl ⟨h0, g, b, xs, l, h1, h2.after hb, h3⟩
  · exact .inr h
set_option maxHeartbeats 4000000 in
theorem of8_any (a : Option Addr) (n c : Nat) (ps : List Pc) (w : World) (hL : Le elP w a n ps) (hR : Rp w ps n) :
    Calls Tryz.prog 18 #[.slice a n c] w fun e w' => ∃ (q : Option Addr) (er : Int), e = .returned (.tuple #[.pointer q, .int .i64 er]) ∧ Hid (OfS w' w.heap.size q ps n er) ∧ Below w.heap.size w w' := by
  have HO := ofPieces_any a n c ps w hL hR
  clear hL hR
  go_enter Tryz.func18, Tryz.ntmps18
  go_wp2_with fail
  refine HO.mono ?_
  rintro e w1 ⟨a', n', c', er, rfl, hs, hb⟩
  clear HO
  by_cases z : er = 0
  · have HS : Hid (Stp w1 w.heap.size a' n' c' ps n) := Or.elim hs.out (fun h => h.2) (fun h => absurd z h.1)
    have z1 : (er != 0) = false := by simp [z]
    clear hs
    go_wp2_with fail
    go_ret2
    obtain ⟨g, xs, l, rfl, rfl, rfl, hB, hxl, hG, hF, hV, hO, hT⟩ := HS.out.ex
    have AL : Below w1.heap.size w1 (w1.alloc (.cells #[.slice (some ⟨g, 0, none⟩) c' c'] 65)) := (Below.refl _ _).alloc (Nat.le_refl _) _
    refine ⟨some ⟨w1.heap.size, 0, none⟩, 0, rfl, .inl ⟨rfl, w1.heap.size, g, xs, l, rfl, ⟨Va.new w1 _ _, ?_, ⟨by rw [hxl, hV.1], fun i hi => ?_⟩, hV.1, hO, hT, Nat.le_refl _⟩, hV, hb.size, hB⟩, step hb AL⟩
    · have := (hG.after AL).le
      rwa [hxl] at this
    · exact (hF.after AL) i (by rw [← hV.1]; exact hi)
  · have HS : Hid (OfE ps n er) := Or.elim hs.out (fun h => absurd h.1 z) (fun h => h.2)
    have z1 : (er != 0) = true := by simp [z]
    have z2 : (er == 0) = false := by simp [z]
    clear hs
    go_wp2_with fail
    go_ret2
    exact ⟨none, er, rfl, .inr ⟨z, rfl, HS.out⟩, hb⟩
set_option maxHeartbeats 8000000 in
theorem levy_any (g : Nat) (r0 p q t : Rc) (x0 x y z : Rat) (w : World) (VS : Va w g 36 #[.bool r0.s, .slice r0.a r0.l r0.c, .slice r0.b r0.m r0.d]) (h0 : Rv w r0 x0) (hp : Rv w p x) (hq : Rv w q y) (ht : Rv w t z) (s1 : Short (z - y)) (s2 : Short (x * (z - y))) (s3 : Short (x0 + x * (z - y))) :
    Calls Tryz.prog 61 #[.agg #[.bool p.s, .slice p.a p.l p.c, .slice p.b p.m p.d], .agg #[.bool q.s, .slice q.a q.l q.c, .slice q.b q.m q.d], .agg #[.bool t.s, .slice t.a t.l t.c, .slice t.b t.m t.d], .pointer (some ⟨g, 0, none⟩)] w fun e w' => (∃ u, e = .returned u) ∧ ∃ r : Rc, Va w' g 36 #[.bool r.s, .slice r.a r.l r.c, .slice r.b r.m r.d] ∧ Rv w' r (x0 + x * (z - y)) ∧ (∀ c, c < w.heap.size → c ≠ g → w'.heap[c]? = w.heap[c]?) ∧ Below g w w' := by
  have S1 : Hid (Short (z - y)) := s1
  have S2 : Hid (Short (x * (z - y))) := s2
  have S3 : Hid (Short (x0 + x * (z - y))) := s3
  have hgw := VS.lt
  clear s1 s2 s3
  have B0 : Below w.heap.size w w := Below.refl _ _
  go_enter Tryz.func61, Tryz.ntmps61
  go_wp2_with fail
  refine ent3 w _ _ _ _ _ _ (Q := fun W => Calls Tryz.prog _ _ W _) ?_
  intro x1 hb hs_x1 V4 V5 V6
  replace VS := VS.a hb
  replace h0 := Rv.after hb h0
  replace hp := Rv.after hb hp
  replace hq := Rv.after hb hq
  replace ht := Rv.after hb ht
  replace B0 := step B0 hb
  clear hb hs_x1
  refine (sub_rc t q z y (z - y) _ ht hq rfl S1.out).mono ?_
  rintro e x2 ⟨r1, rfl, h1, hb⟩
  replace VS := VS.a hb
  replace V4 := V4.a hb
  replace V5 := V5.a hb
  replace V6 := V6.a hb
  replace h0 := Rv.after hb h0
  replace hp := Rv.after hb hp
  replace hq := Rv.after hb hq
  replace ht := Rv.after hb ht
  replace B0 := step B0 hb
  clear hb
  clear V5 V6 ht hq
  have c_V4 := V4.d0
  have f0_V4 := V4.frozen 0
  have d_V4 := V4.d1
  have f1_V4 := V4.frozen 1
  have e_V4 := V4.d2
  have f2_V4 := V4.frozen 2
  have l_V4 := V4.lt
  have m_V4 := Nat.le_of_lt l_V4
  have c_VS := VS.d0
  have f0_VS := VS.frozen 0
  have d_VS := VS.d1
  have f1_VS := VS.frozen 1
  have e_VS := VS.d2
  have f2_VS := VS.frozen 2
  have l_VS := VS.lt
  have m_VS := Nat.le_of_lt l_VS
  go_wp2_with fail
  refine ent1 x2 _ _ (Q := fun W => Calls Tryz.prog _ _ W _) ?_
  intro x3 hb hs_x3 V7
  replace VS := VS.a hb
  replace V4 := V4.a hb
  replace h0 := Rv.after hb h0
  replace hp := Rv.after hb hp
  replace h1 := Rv.after hb h1
  replace B0 := step B0 hb
  clear hb hs_x3
  clear c_V4 f0_V4 d_V4 f1_V4 e_V4 f2_V4 l_V4 m_V4 c_VS f0_VS d_VS f1_VS e_VS f2_VS l_VS m_VS
  refine (mul_rc p r1 x (z - y) (x * (z - y)) _ hp h1 rfl S2.out).mono ?_
  rintro e x4 ⟨r2, rfl, h2, hb⟩
  replace VS := VS.a hb
  replace V4 := V4.a hb
  replace V7 := V7.a hb
  replace h0 := Rv.after hb h0
  replace hp := Rv.after hb hp
  replace h1 := Rv.after hb h1
  replace B0 := step B0 hb
  clear hb
  clear V4 V7 hp h1
  have c_VS := VS.d0
  have f0_VS := VS.frozen 0
  have d_VS := VS.d1
  have f1_VS := VS.frozen 1
  have e_VS := VS.d2
  have f2_VS := VS.frozen 2
  have l_VS := VS.lt
  have m_VS := Nat.le_of_lt l_VS
  go_wp2_with fail
  refine ent1 x4 _ _ (Q := fun W => Calls Tryz.prog _ _ W _) ?_
  intro x5 hb hs_x5 V9
  replace VS := VS.a hb
  replace h0 := Rv.after hb h0
  replace h2 := Rv.after hb h2
  replace B0 := step B0 hb
  clear hb hs_x5
  clear c_VS f0_VS d_VS f1_VS e_VS f2_VS l_VS m_VS
  refine (add_rc r0 r2 x0 (x * (z - y)) (x0 + x * (z - y)) _ h0 h2 rfl S3.out).mono ?_
  rintro e x6 ⟨r3, rfl, h3, hb⟩
  replace VS := VS.a hb
  replace V9 := V9.a hb
  replace h0 := Rv.after hb h0
  replace h2 := Rv.after hb h2
  replace B0 := step B0 hb
  clear hb
  clear V9 h0 h2
  have c_VS := VS.d0
  have f0_VS := VS.frozen 0
  have d_VS := VS.d1
  have f1_VS := VS.frozen 1
  have e_VS := VS.d2
  have f2_VS := VS.frozen 2
  have l_VS := VS.lt
  have m_VS := Nat.le_of_lt l_VS
  go_wp2_with fail
  clear c_VS f0_VS d_VS f1_VS e_VS f2_VS l_VS m_VS
  go_end0
  exact ⟨⟨_, rfl⟩, r3, VS.set3 _ _ _, h3.far VS (noInt3 _ _ _ _ _ _ _) (fa3 _ _ _ _ _), fun c hc hne => (fa3 _ _ _ _ _ c hne).trans (B0.block c hc), belo3 (B0.mono (Nat.le_of_lt hgw)) (Nat.le_refl _) _ _ _⟩
def Bx (w X : World) : Prop := Below X.heap.size X w
theorem Bx.after {w w' X : World} (hb : Below w.heap.size w w') (h : Bx w X) : Bx w' X := step h hb
theorem Bx.drw {w X : World} (h : Bx w X) : Bx w.drew X := Below.drew h
def AtR (w : World) (q : Rc) (er : Int) (l : List Pq) (v : Rat) : Prop :=
  (er = 2 ∧ v < 0 ∧ Rv w q 0) ∨ (er = 3 ∧ 0 ≤ v ∧ ¬ Sz 512 v ∧ Rv w q 0) ∨ (er = 0 ∧ 0 ≤ v ∧ Sz 512 v ∧ ∃ a, Ata l v a ∧ (∀ n, Sz n v → Sz (n + 86) a) ∧ Rv w q a)
theorem AtR.after {w w' : World} (hb : Below w.heap.size w w') {q : Rc} {er : Int} {l : List Pq} {v : Rat} (h : AtR w q er l v) : AtR w' q er l v := by
  rcases h with ⟨h1, h2, h3⟩ | ⟨h1, h2, h3, h4⟩ | ⟨h1, h2, h3, a, h4, h5, h6⟩
  · exact .inl ⟨h1, h2, h3.after hb⟩
  · exact .inr (.inl ⟨h1, h2, h3, h4.after hb⟩)
  · exact .inr (.inr ⟨h1, h2, h3, a, h4, h5, h6.after hb⟩)
end Go.Proofs.YtenmkbofpmbedaaGreatDoor
