/-
  reals.placeOf: where a number's distance from 0 lies among the floats.
-/
import Derived.Test.YtjlodljgfjjclaaGreatTk
import Derived.Test.YtjlodljgfjjclaaGreatRe4
import Derived.Test.YtjlodljgfjjclaaGreatRt4
import Derived.Test.YtjlodljgfjjclaaGreatAl
namespace Go.Proofs.YtjlodljgfjjclaaGreat
open Go.RowKit Go.Shelf
set_option linter.unusedVariables false

theorem results_pl {fn : Func} {i b : Nat} {x y : Value} {tmps : Array Value} {w : World} (h : fn.results = #[.cell i 92]) (hi : tmps.getD i undef = .pointer (some ⟨b, 0, none⟩)) (hv : Va w b 92 #[x, y]) :
    (results fn tmps).run Tryz.prog w = .ok (.agg #[x, y]) w := by
  have c := hv.c0; have d := hv.c1
  rw [Array.getD_eq_getD_getElem?] at hi
  simp [results, h, hi, c, d, go_sem]
theorem run_store_float (a : Addr) (b : Nat) (m : Mode) (w : World) : (store a (.float .f64 b) m).run Tryz.prog w = match w.cell? a with
      | some _ => if w.frozen? a then .halt (.unsupported (.unsafePointer "a write to bytes that a string shares")) w else .ok () (w.setCell a (.float .f64 b))
      | none => match w.farStore Tryz.prog a (.float .f64 b) (m == .atomic) with
        | .ok (w', _) => .ok () w'
        | .error h => .halt h w := run_store _ _ _ _ _ rfl
theorem noIntP (x : Nat) (p : Int) : NoInt #[.float .f64 x, .int .i64 p] := by
  intro i z h
  rcases i with _ | _ | i <;> simp at h
theorem together_0 (p : Int) (w : World) :
    Calls Tryz.prog 98 #[.int .u64 0, .int .i64 p] w fun x w' => x = .returned (.float .f64 0) ∧ w' = w := by
  have hf : floatOfInt FloatKind.f64 0 = 0 := by decide
  have e0 : (FloatKind.f64.format.order 0 0 == some .eq) = true := by decide
  have A : ∀ w, Calls Tryz.prog 143 #[.float .f64 0, .int .i64 p] w fun x w' => x = .returned (.float .f64 0) ∧ w' = w := by
    intro w
    go_enter Tryz.func143, Tryz.ntmps143
    go_wp2_with fail
    go_ret
    exact ⟨rfl, rfl⟩
  have B : ∀ w, Calls Tryz.prog 125 #[.float .f64 0, .int .i64 p] w fun x w' => x = .returned (.float .f64 0) ∧ w' = w := by
    intro w
    go_enter Tryz.func125, Tryz.ntmps125
    go_wp2_with fail
    refine (A _).mono ?_
    rintro e w' ⟨rfl, rfl⟩
    go_wp2_with fail
    go_ret
    exact ⟨rfl, rfl⟩
  clear A
  go_enter Tryz.func98, Tryz.ntmps98
  go_wp2_with fail
  refine (B _).mono ?_
  rintro e w' ⟨rfl, rfl⟩
  go_wp2_with fail
  go_ret
  exact ⟨rfl, rfl⟩
theorem pow2_lt {m n : Nat} (h : 2 ^ m < 2 ^ n) : m < n := (Nat.pow_lt_pow_iff_right (by decide : 1 < 2)).1 h
theorem pst_nat {r d : Nat} : ∃ p : Nat, pst (r : Int) (d : Int) = p ∧ ((p = 0 ∧ r = 0) ∨ (p = 1 ∧ r ≠ 0 ∧ 2 * r < d) ∨ (p = 2 ∧ 2 * r = d) ∨ (p = 3 ∧ d < 2 * r) ∨ (p = 0 ∧ r = 0)) := by
  unfold pst
  by_cases h0 : r = 0
  · exact ⟨0, by rw [if_pos (by omega)]; rfl, .inl ⟨rfl, h0⟩⟩
  · rw [if_neg (by omega)]
    by_cases h1 : 2 * r < d
    · exact ⟨1, by rw [if_pos (by omega)]; rfl, .inr (.inl ⟨rfl, h0, h1⟩)⟩
    · rw [if_neg (by omega)]
      by_cases h2 : 2 * r = d
      · exact ⟨2, by rw [if_pos (by omega)]; rfl, .inr (.inr (.inl ⟨rfl, h2⟩))⟩
      · exact ⟨3, by rw [if_neg (by omega)]; rfl, .inr (.inr (.inr (.inl ⟨rfl, by omega⟩)))⟩
theorem tw_nat {N D : Nat} {t : Int} (h : Tw N D t) (hN : 0 < N) : D * 2 ^ t.toNat ≤ N * 2 ^ (-t).toNat ∧ N * 2 ^ (-t).toNat < 2 * (D * 2 ^ t.toNat) := by
  obtain ⟨a, b⟩ := h.2.2.2 (by omega)
  rw [← pow_cast, ← pow_cast, ← Int.natCast_mul, ← Int.natCast_mul] at a b
  exact ⟨by exact_mod_cast a, by exact_mod_cast b⟩
/-- Where a number lies, out of the quotient. -/
theorem place_num {v : Rat} {N D : Nat} (hN : N = v.num.natAbs) (hD : D = v.den) (N0 : 0 < N) {t : Int} (ht : Tw N D t) (t1 : t ≤ 1023) {e u1 u2 : Nat} (he : (e : Int) = max (t - 52) (-1074) + 1074) (h1 : (u1 : Int) = max (-((e : Int) - 1074)) 0) (h2 : (u2 : Int) = max ((e : Int) - 1074) 0)
    {n r : Nat} (hq : N * 2 ^ u1 = n * (D * 2 ^ u2) + r) (hr : r < D * 2 ^ u2) :
    n < 9007199254740992 ∧ (e = 0 ∨ 4503599627370496 ≤ n) ∧ e ≤ 2045 ∧ ∀ p : Nat, pst (r : Int) ((D * 2 ^ u2 : Nat) : Int) = p → Pv v (e * 4503599627370496 + n) p := by
  have D0 : 0 < D := by rw [hD]; exact v.den_pos
  obtain ⟨a1, a2⟩ := tw_nat ht N0
  have e2 : e ≤ 2045 := by omega
  obtain ⟨A, hA⟩ : ∃ A, (-t).toNat = A := ⟨_, rfl⟩
  obtain ⟨B, hB⟩ : ∃ B, t.toNat = B := ⟨_, rfl⟩
  rw [hA, hB] at a1 a2
  have n1 : n < 9007199254740992 := by
    rcases Nat.lt_or_ge n 9007199254740992 with g | g
    · exact g
    · have b1 : 2 ^ 53 * (D * 2 ^ u2) ≤ N * 2 ^ u1 := by
        have := Nat.mul_le_mul_right (D * 2 ^ u2) (show 2 ^ 53 ≤ n from g)
        omega
      have b2 := Nat.mul_le_mul_right (2 ^ A) b1
      have b3 := Nat.mul_lt_mul_of_pos_right a2 (two_pos u1)
      have e3 : 2 ^ 53 * (D * 2 ^ u2) * 2 ^ A = D * 2 ^ (53 + u2 + A) := by
        rw [Nat.pow_add, Nat.pow_add]
        generalize (2 : Nat) ^ 53 = x
        generalize (2 : Nat) ^ u2 = y
        generalize (2 : Nat) ^ A = z
        rw [← Nat.mul_assoc, Nat.mul_comm x D, Nat.mul_assoc D x y, Nat.mul_assoc D]
      have e4 : N * 2 ^ u1 * 2 ^ A = N * 2 ^ A * 2 ^ u1 := by rw [Nat.mul_assoc, Nat.mul_comm (2 ^ u1), ← Nat.mul_assoc]
      have e5 : 2 * (D * 2 ^ B) * 2 ^ u1 = D * 2 ^ (1 + B + u1) := by
        rw [Nat.pow_add, Nat.pow_add, Nat.pow_one]
        generalize (2 : Nat) ^ B = y
        generalize (2 : Nat) ^ u1 = z
        rw [← Nat.mul_assoc 2 D y, Nat.mul_comm 2 D, Nat.mul_assoc D 2 y, Nat.mul_assoc D]
      rw [e3, e4] at b2
      rw [e5] at b3
      have b4 : D * 2 ^ (53 + u2 + A) < D * 2 ^ (1 + B + u1) := by omega
      have := pow2_lt (Nat.lt_of_mul_lt_mul_left b4)
      omega
  have n2 : e = 0 ∨ 4503599627370496 ≤ n := by
    by_cases e0 : e = 0
    · exact .inl e0
    right
    rcases Nat.lt_or_ge n 4503599627370496 with g | g
    · have b1 : N * 2 ^ u1 < 2 ^ 52 * (D * 2 ^ u2) := by
        have := Nat.mul_le_mul_right (D * 2 ^ u2) (show n + 1 ≤ 2 ^ 52 from g)
        rw [Nat.add_mul] at this
        omega
      have b2 := Nat.mul_lt_mul_of_pos_right b1 (two_pos A)
      have b3 := Nat.mul_le_mul_right (2 ^ u1) a1
      have e3 : 2 ^ 52 * (D * 2 ^ u2) * 2 ^ A = D * 2 ^ (52 + u2 + A) := by
        rw [Nat.pow_add, Nat.pow_add]
        generalize (2 : Nat) ^ 52 = x
        generalize (2 : Nat) ^ u2 = y
        generalize (2 : Nat) ^ A = z
        rw [← Nat.mul_assoc, Nat.mul_comm x D, Nat.mul_assoc D x y, Nat.mul_assoc D]
      have e4 : N * 2 ^ u1 * 2 ^ A = N * 2 ^ A * 2 ^ u1 := by rw [Nat.mul_assoc, Nat.mul_comm (2 ^ u1), ← Nat.mul_assoc]
      have e5 : D * 2 ^ B * 2 ^ u1 = D * 2 ^ (B + u1) := by rw [Nat.pow_add, Nat.mul_assoc]
      rw [e3, e4] at b2
      rw [e5] at b3
      have b4 : D * 2 ^ (B + u1) < D * 2 ^ (52 + u2 + A) := by omega
      have := pow2_lt (Nat.lt_of_mul_lt_mul_left b4)
      omega
    · exact g
  refine ⟨n1, n2, e2, fun p hp => ?_⟩
  have hd : 0 < D * 2 ^ u2 := Nat.mul_pos D0 (two_pos u2)
  have c1 : D * 2 ^ e = D * 2 ^ u2 * 2 ^ (1074 - u1) := by
    rw [Nat.mul_assoc, ← Nat.pow_add]; congr 2; omega
  have c2 : N * K8 = (n * (D * 2 ^ u2) + r) * 2 ^ (1074 - u1) := by
    have := pow_shift N (a := 0) (u := u1) (b := 1074 - u1) (c := 1074) (by omega)
    rw [← K8_eq, Nat.pow_zero, Nat.mul_one] at this
    rw [this, hq]
  obtain ⟨p0, p1, p2, p3⟩ := pl_of hd n2 n1 e2 c1 c2 hr
  unfold Pv
  rw [← hN, ← hD]
  obtain ⟨p', hp', hcase⟩ := @pst_nat r (D * 2 ^ u2)
  obtain rfl : p = p' := by have := hp.symm.trans hp'; exact_mod_cast this
  rcases hcase with ⟨rfl, h⟩ | ⟨rfl, h, h'⟩ | ⟨rfl, h⟩ | ⟨rfl, h⟩ | ⟨rfl, h⟩
  · exact p0 h
  · exact p1 h h'
  · exact p2 h
  · exact p3 h
  · exact p0 h
theorem pow_join (D : Nat) {a b c : Nat} (h : a = b + c) : 2 ^ a * D = D * 2 ^ b * 2 ^ c := by
  rw [h, Nat.mul_comm, Nat.mul_assoc, ← Nat.pow_add]
theorem place_far {v : Rat} {N D : Nat} (hN : N = v.num.natAbs) (hD : D = v.den) {t : Int} (ht : Tw N D t) (t1 : 1023 < t) : Pv v 9218868437227405311 3 := by
  have N0 : 0 < N := by
    rcases Nat.eq_zero_or_pos N with g | g
    · have := ht.2.2.1 (by omega); omega
    · exact g
  obtain ⟨a1, -⟩ := tw_nat ht N0
  have hA : (-t).toNat = 0 := by omega
  rw [hA, Nat.pow_zero, Nat.mul_one] at a1
  unfold Pv
  rw [← hN, ← hD]
  refine pl_far (by rw [hD]; exact v.den_pos) ?_
  have b1 : D * 2 ^ 1024 ≤ N := by
    have := Nat.mul_le_mul_left D (Nat.pow_le_pow_right (show 0 < 2 by decide) (show 1024 ≤ t.toNat by omega))
    omega
  have b2 := Nat.mul_le_mul_right (2 ^ 1074) b1
  rw [← K8_eq] at b2
  have e := pow_join D (a := 2098) (b := 1024) (c := 1074) rfl
  rw [← K8_eq] at e
  rw [e]; exact b2
theorem place_zero {v : Rat} (h : v.num = 0) : Pv v 0 0 := by
  unfold Pv
  rw [h]
  exact ⟨by decide, .inl ⟨rfl, by rw [fi_zero, Nat.zero_mul]; rw [Int.natAbs_zero, Nat.zero_mul]⟩⟩

set_option maxHeartbeats 8000000 in
theorem placeOf8 (s : Bool) (a : Option Addr) (l c : Nat) (zs : List Int) (b : Option Addr) (m d : Nat) (ds : List Int) (v : Rat) (k p : Nat) (HP : Hid (Pv v k p)) (w : World) (hr : Rt w s a l c zs b m d ds v) :
    Calls Tryz.prog 58 #[.agg #[.bool s, .slice a l c, .slice b m d]] w fun e w' => e = .returned (.agg #[.float .f64 k, .int .i64 p]) ∧ Below w.heap.size w w' := by
  have B0 : Below w.heap.size w w := Below.refl _ _; (have HN : Hid (num zs = ((v.num.natAbs : Nat) : Int)) := by show _ = _; rw [hr.1.abs, hr.2.2.1])
  have HL : Hid (l ≤ 1024) := by
    have h5 := hr.2.2.2.2.1; rw [← HN.out] at h5; exact (hr.1.1.short 1024).2 h5
  go_enter Tryz.func58, Tryz.ntmps58
  (go_wp2_with fail); refine ent2 w _ _ _ _ (Q := fun W => Code.wp Tryz.prog _ _ _ W) ?_; intro x1 hb hs_x1 V0 V1; replace hr := Rt.after hb hr; replace B0 := step B0 hb; clear hb hs_x1; (have LS : Hid (∀ W, Below x1.heap.size x1 W → (fun W => W.cell? ⟨w.heap.size, 0, none⟩ = some (.bool s) ∧ W.cell? ⟨w.heap.size, 1, none⟩ = some (.slice a l c) ∧ W.cell? ⟨w.heap.size, 2, none⟩ = some (.slice b m d)) W) := fun W hb => ⟨(Va.after hb V0).d0, (Va.after hb V0).d1, (Va.after hb V0).d2⟩); have lb_V0 := V0.lt; have L_V0 : Hid (Va x1 (w.heap.size) 31 #[.bool s, .slice a l c, .slice b m d]) := V0; have lb_V1 := V1.lt; have L_V1 : Hid (Va x1 (w.heap.size + 1) 92 #[.float .f64 0, .int .i64 0]) := V1; have L_hr : Hid (Rt x1 s a l c zs b m d ds v) := hr; have L_B : Hid (Below w.heap.size w x1) := B0; clear V0 V1 hr B0; have BX := Below.refl x1.heap.size x1
  go_cut [3, 4] (fun s3 s4 wx => ∃ (q3 : Nat) (q4 : Nat) (b3 : Option Addr) (m3 d3 : Nat) (y3 : List Int), s3 = .pointer (some ⟨q3, 0, none⟩) ∧ s4 = .pointer (some ⟨q4, 0, none⟩) ∧ Hid (Va wx q3 27 #[.slice a l c]) ∧ Hid (Va wx q4 27 #[.slice b3 m3 d3]) ∧ Hid (Nt wx b3 m3 d3 y3) ∧ Hid (num y3 = dn ds) ∧ Hid (Below x1.heap.size x1 wx) ∧ Hid (w.heap.size + 2 ≤ q3 ∧ w.heap.size + 2 ≤ q4 ∧ q3 ≠ q4))
  case first =>
    refine wp_region_noPanic ?_; replace BX := Below.drew BX; refine wp_region_held_drew (S := (fun W => W.cell? ⟨w.heap.size, 0, none⟩ = some (.bool s) ∧ W.cell? ⟨w.heap.size, 1, none⟩ = some (.slice a l c) ∧ W.cell? ⟨w.heap.size, 2, none⟩ = some (.slice b m d))) (by kernel_rfl) (LS.out _ BX) (fun hHeld => ?_); (obtain ⟨x2, hxd⟩ : ∃ xd, xd = x1.drew := ⟨_, rfl⟩); rw [← hxd] at BX hHeld ⊢; clear hxd; refine tk 0 rfl hHeld ?_; simp only [gA, gB, Act.put, gD, gE, gF]; refine tk 3 rfl hHeld ?_; simp only [gA, gB, gC, Act.put, gD, gE, gF]; refine wpAnyH_ready (rs := [1, 5, 6]) (by kernel_rfl) (by simp) ?_; refine AllReadyH.cons rfl (fun K hK => ?_) (AllReadyH.cons rfl (fun K hK => ?_) (AllReadyH.cons rfl (fun K hK => ?_) AllReadyH.nil))
    ·
      simp only [gA, gB, gC]; (go_simp); refine (qnum_any s a l c b m d _).mono ?_; rintro e x3 ⟨rfl, hb⟩; replace BX := step BX hb; clear hb; (try go_wp2_with fail); refine hK.out _ _ (LS.out _ BX) (fun hHeld => ?_); clear hK K; refine wpAnyH_ready (rs := [2, 5, 6]) (by kernel_rfl) (by simp) ?_; refine AllReadyH.cons rfl (fun K hK => ?_) (AllReadyH.cons rfl (fun K hK => ?_) (AllReadyH.cons rfl (fun K hK => ?_) AllReadyH.nil))
      ·
        simp only [gA, gB, gC]; (go_simp); refine (wabs_any s a l c _).mono ?_; rintro e x4 ⟨rfl, hb⟩; replace BX := step BX hb; clear hb; (try go_wp2_with fail); refine hK.out _ _ (LS.out _ BX) (fun hHeld => ?_); clear hK K; refine wpAnyH_ready (rs := [4, 5, 6]) (by kernel_rfl) (by simp) ?_; refine AllReadyH.cons rfl (fun K hK => ?_) (AllReadyH.cons rfl (fun K hK => ?_) (AllReadyH.cons rfl (fun K hK => ?_) AllReadyH.nil))
        ·
          simp only [gA, gB, gC]; (go_simp); refine (rden_any s a l c b m d ds _ (Rt.after BX L_hr.out).2.1).mono ?_; rintro e x5 ⟨b3, m3, d3, y3, rfl, h3, e3, hb⟩; replace BX := step BX hb; clear hb; (try go_wp2_with fail); refine hK.out _ _ (LS.out _ BX) (fun hHeld => ?_); clear hK K; refine wpAnyH_ready (rs := [5, 6]) (by kernel_rfl) (by simp) ?_; refine AllReadyH.cons rfl (fun K hK => ?_) (AllReadyH.cons rfl (fun K hK => ?_) AllReadyH.nil)
          ·
            simp only [gA, gB, gC]; (go_simp); have sz_Vn := BX.size; refine ent1 _ _ _ (Q := fun V => K _ V) ?_; intro x6 hb hs_ Vn; replace h3 := Nt.after hb h3; replace BX := step BX hb; clear hb hs_; refine hK.out _ _ (LS.out _ BX) (fun hHeld => ?_); clear hK K; refine wpAnyH_ready (rs := [6]) (by kernel_rfl) (by simp) ?_; refine AllReadyH.cons rfl (fun K hK => ?_) AllReadyH.nil
            ·
              simp only [gA, gB, gC]; (go_simp); have lt_Vd_Vn := Vn.lt; have sz_Vd := BX.size; refine ent1 _ _ _ (Q := fun V => K _ V) ?_; intro x7 hb hs_ Vd; replace Vn := Va.after hb Vn; replace h3 := Nt.after hb h3; replace BX := step BX hb; clear hb hs_; refine hK.out _ _ (LS.out _ BX) (fun hHeld => ?_); clear hK K; have c_Vn := Vn.cell; have f0_Vn := Vn.frozen 0; have l_Vn := Vn.lt; have m_Vn := Nat.le_of_lt l_Vn; refine wpAnyH_ready (rs := [7]) (by kernel_rfl) (by simp) ?_; refine AllReadyH.cons rfl (fun K hK => ?_) AllReadyH.nil; simp only [gA, gB, gC]; (go_simp); clear c_Vn f0_Vn l_Vn m_Vn; refine sto1 Vn (.slice a l c) (Q := fun W => K _ W) ?_; intro x8 V' oth far; replace Vd := oth _ _ _ (by first | omega | assumption | (simp; omega)) Vd; replace h3 := h3.far Vn (noInt1 _ _ _) far.1; replace BX := far.2 _ _ (by first | omega | (simp; omega)) BX; replace Vn := V'; clear oth far; refine hK.out _ _ (LS.out _ BX) (fun hHeld => ?_); clear hK K; have c_Vd := Vd.cell
              have f0_Vd := Vd.frozen 0; have l_Vd := Vd.lt; have m_Vd := Nat.le_of_lt l_Vd; refine wpAnyH_ready (rs := [8]) (by kernel_rfl) (by simp) ?_; refine AllReadyH.cons rfl (fun K hK => ?_) AllReadyH.nil; simp only [gA, gB, gC]; (go_simp); clear c_Vd f0_Vd l_Vd m_Vd; refine sto1 Vd (.slice b3 m3 d3) (Q := fun W => K _ W) ?_; intro x9 V' oth far; replace Vn := oth _ _ _ (by first | omega | assumption | (simp; omega)) Vn; replace h3 := h3.far Vd (noInt1 _ _ _) far.1; replace BX := far.2 _ _ (by first | omega | (simp; omega)) BX; replace Vd := V'; clear oth far; refine hK.out _ _ (LS.out _ BX) (fun hHeld => ?_); clear hK K; refine wpAnyH_done (by kernel_rfl) ?_ _; refine NoPanic.normal ?_; clear hHeld; (go_wp2_with fail)
              go_meet
              exact ⟨_, _, b3, m3, d3, y3, rfl, rfl, Vn, Vd, h3, e3, BX, ⟨by omega, by omega, by omega⟩⟩
          ·
            simp only [gA, gB, gC]; (go_simp); have sz_Vd := BX.size; refine ent1 _ _ _ (Q := fun V => K _ V) ?_; intro x6 hb hs_ Vd; replace h3 := Nt.after hb h3; replace BX := step BX hb; clear hb hs_; refine hK.out _ _ (LS.out _ BX) (fun hHeld => ?_); clear hK K; refine wpAnyH_ready (rs := [5]) (by kernel_rfl) (by simp) ?_; refine AllReadyH.cons rfl (fun K hK => ?_) AllReadyH.nil
            ·
              simp only [gA, gB, gC]; (go_simp); have lt_Vn_Vd := Vd.lt; have sz_Vn := BX.size; refine ent1 _ _ _ (Q := fun V => K _ V) ?_; intro x7 hb hs_ Vn; replace Vd := Va.after hb Vd; replace h3 := Nt.after hb h3; replace BX := step BX hb; clear hb hs_; refine hK.out _ _ (LS.out _ BX) (fun hHeld => ?_); clear hK K; have c_Vn := Vn.cell; have f0_Vn := Vn.frozen 0; have l_Vn := Vn.lt; have m_Vn := Nat.le_of_lt l_Vn; refine wpAnyH_ready (rs := [7]) (by kernel_rfl) (by simp) ?_; refine AllReadyH.cons rfl (fun K hK => ?_) AllReadyH.nil; simp only [gA, gB, gC]; (go_simp); clear c_Vn f0_Vn l_Vn m_Vn; refine sto1 Vn (.slice a l c) (Q := fun W => K _ W) ?_; intro x8 V' oth far; replace Vd := oth _ _ _ (by first | omega | assumption | (simp; omega)) Vd; replace h3 := h3.far Vn (noInt1 _ _ _) far.1; replace BX := far.2 _ _ (by first | omega | (simp; omega)) BX; replace Vn := V'; clear oth far; refine hK.out _ _ (LS.out _ BX) (fun hHeld => ?_); clear hK K; have c_Vd := Vd.cell
              have f0_Vd := Vd.frozen 0; have l_Vd := Vd.lt; have m_Vd := Nat.le_of_lt l_Vd; refine wpAnyH_ready (rs := [8]) (by kernel_rfl) (by simp) ?_; refine AllReadyH.cons rfl (fun K hK => ?_) AllReadyH.nil; simp only [gA, gB, gC]; (go_simp); clear c_Vd f0_Vd l_Vd m_Vd; refine sto1 Vd (.slice b3 m3 d3) (Q := fun W => K _ W) ?_; intro x9 V' oth far; replace Vn := oth _ _ _ (by first | omega | assumption | (simp; omega)) Vn; replace h3 := h3.far Vd (noInt1 _ _ _) far.1; replace BX := far.2 _ _ (by first | omega | (simp; omega)) BX; replace Vd := V'; clear oth far; refine hK.out _ _ (LS.out _ BX) (fun hHeld => ?_); clear hK K; refine wpAnyH_done (by kernel_rfl) ?_ _; refine NoPanic.normal ?_; clear hHeld; (go_wp2_with fail)
              go_meet
              exact ⟨_, _, b3, m3, d3, y3, rfl, rfl, Vn, Vd, h3, e3, BX, ⟨by omega, by omega, by omega⟩⟩
        ·
          simp only [gA, gB, gC]; (go_simp); have sz_Vn := BX.size; refine ent1 _ _ _ (Q := fun V => K _ V) ?_; intro x5 hb hs_ Vn; replace BX := step BX hb; clear hb hs_; refine hK.out _ _ (LS.out _ BX) (fun hHeld => ?_); clear hK K; refine wpAnyH_ready (rs := [4, 6]) (by kernel_rfl) (by simp) ?_; refine AllReadyH.cons rfl (fun K hK => ?_) (AllReadyH.cons rfl (fun K hK => ?_) AllReadyH.nil)
          ·
            simp only [gA, gB, gC]; (go_simp); refine (rden_any s a l c b m d ds _ (Rt.after BX L_hr.out).2.1).mono ?_; rintro e x6 ⟨b3, m3, d3, y3, rfl, h3, e3, hb⟩; replace Vn := Va.after hb Vn; replace BX := step BX hb; clear hb; (try go_wp2_with fail); refine hK.out _ _ (LS.out _ BX) (fun hHeld => ?_); clear hK K; refine wpAnyH_ready (rs := [6]) (by kernel_rfl) (by simp) ?_; refine AllReadyH.cons rfl (fun K hK => ?_) AllReadyH.nil
            ·
              simp only [gA, gB, gC]; (go_simp); have lt_Vd_Vn := Vn.lt; have sz_Vd := BX.size; refine ent1 _ _ _ (Q := fun V => K _ V) ?_; intro x7 hb hs_ Vd; replace Vn := Va.after hb Vn; replace h3 := Nt.after hb h3; replace BX := step BX hb; clear hb hs_; refine hK.out _ _ (LS.out _ BX) (fun hHeld => ?_); clear hK K; have c_Vn := Vn.cell; have f0_Vn := Vn.frozen 0; have l_Vn := Vn.lt; have m_Vn := Nat.le_of_lt l_Vn; refine wpAnyH_ready (rs := [7]) (by kernel_rfl) (by simp) ?_; refine AllReadyH.cons rfl (fun K hK => ?_) AllReadyH.nil; simp only [gA, gB, gC]; (go_simp); clear c_Vn f0_Vn l_Vn m_Vn; refine sto1 Vn (.slice a l c) (Q := fun W => K _ W) ?_; intro x8 V' oth far; replace Vd := oth _ _ _ (by first | omega | assumption | (simp; omega)) Vd; replace h3 := h3.far Vn (noInt1 _ _ _) far.1; replace BX := far.2 _ _ (by first | omega | (simp; omega)) BX; replace Vn := V'; clear oth far; refine hK.out _ _ (LS.out _ BX) (fun hHeld => ?_); clear hK K; have c_Vd := Vd.cell
              have f0_Vd := Vd.frozen 0; have l_Vd := Vd.lt; have m_Vd := Nat.le_of_lt l_Vd; refine wpAnyH_ready (rs := [8]) (by kernel_rfl) (by simp) ?_; refine AllReadyH.cons rfl (fun K hK => ?_) AllReadyH.nil; simp only [gA, gB, gC]; (go_simp); clear c_Vd f0_Vd l_Vd m_Vd; refine sto1 Vd (.slice b3 m3 d3) (Q := fun W => K _ W) ?_; intro x9 V' oth far; replace Vn := oth _ _ _ (by first | omega | assumption | (simp; omega)) Vn; replace h3 := h3.far Vd (noInt1 _ _ _) far.1; replace BX := far.2 _ _ (by first | omega | (simp; omega)) BX; replace Vd := V'; clear oth far; refine hK.out _ _ (LS.out _ BX) (fun hHeld => ?_); clear hK K; refine wpAnyH_done (by kernel_rfl) ?_ _; refine NoPanic.normal ?_; clear hHeld; (go_wp2_with fail)
              go_meet
              exact ⟨_, _, b3, m3, d3, y3, rfl, rfl, Vn, Vd, h3, e3, BX, ⟨by omega, by omega, by omega⟩⟩
          ·
            simp only [gA, gB, gC]; (go_simp); have lt_Vd_Vn := Vn.lt; have sz_Vd := BX.size; refine ent1 _ _ _ (Q := fun V => K _ V) ?_; intro x6 hb hs_ Vd; replace Vn := Va.after hb Vn; replace BX := step BX hb; clear hb hs_; refine hK.out _ _ (LS.out _ BX) (fun hHeld => ?_); clear hK K; refine wpAnyH_ready (rs := [4]) (by kernel_rfl) (by simp) ?_; refine AllReadyH.cons rfl (fun K hK => ?_) AllReadyH.nil
            ·
              simp only [gA, gB, gC]; (go_simp); refine (rden_any s a l c b m d ds _ (Rt.after BX L_hr.out).2.1).mono ?_; rintro e x7 ⟨b3, m3, d3, y3, rfl, h3, e3, hb⟩; replace Vn := Va.after hb Vn; replace Vd := Va.after hb Vd; replace BX := step BX hb; clear hb; (try go_wp2_with fail); refine hK.out _ _ (LS.out _ BX) (fun hHeld => ?_); clear hK K; have c_Vn := Vn.cell; have f0_Vn := Vn.frozen 0; have l_Vn := Vn.lt; have m_Vn := Nat.le_of_lt l_Vn; refine wpAnyH_ready (rs := [7]) (by kernel_rfl) (by simp) ?_; refine AllReadyH.cons rfl (fun K hK => ?_) AllReadyH.nil; simp only [gA, gB, gC]; (go_simp); clear c_Vn f0_Vn l_Vn m_Vn; refine sto1 Vn (.slice a l c) (Q := fun W => K _ W) ?_; intro x8 V' oth far; replace Vd := oth _ _ _ (by first | omega | assumption | (simp; omega)) Vd; replace h3 := h3.far Vn (noInt1 _ _ _) far.1; replace BX := far.2 _ _ (by first | omega | (simp; omega)) BX; replace Vn := V'; clear oth far; refine hK.out _ _ (LS.out _ BX) (fun hHeld => ?_)
              clear hK K; have c_Vd := Vd.cell; have f0_Vd := Vd.frozen 0; have l_Vd := Vd.lt; have m_Vd := Nat.le_of_lt l_Vd; refine wpAnyH_ready (rs := [8]) (by kernel_rfl) (by simp) ?_; refine AllReadyH.cons rfl (fun K hK => ?_) AllReadyH.nil; simp only [gA, gB, gC]; (go_simp); clear c_Vd f0_Vd l_Vd m_Vd; refine sto1 Vd (.slice b3 m3 d3) (Q := fun W => K _ W) ?_; intro x9 V' oth far; replace Vn := oth _ _ _ (by first | omega | assumption | (simp; omega)) Vn; replace h3 := h3.far Vd (noInt1 _ _ _) far.1; replace BX := far.2 _ _ (by first | omega | (simp; omega)) BX; replace Vd := V'; clear oth far; refine hK.out _ _ (LS.out _ BX) (fun hHeld => ?_); clear hK K; refine wpAnyH_done (by kernel_rfl) ?_ _; refine NoPanic.normal ?_; clear hHeld; (go_wp2_with fail)
              go_meet
              exact ⟨_, _, b3, m3, d3, y3, rfl, rfl, Vn, Vd, h3, e3, BX, ⟨by omega, by omega, by omega⟩⟩
        ·
          simp only [gA, gB, gC]; (go_simp); have sz_Vd := BX.size; refine ent1 _ _ _ (Q := fun V => K _ V) ?_; intro x5 hb hs_ Vd; replace BX := step BX hb; clear hb hs_; refine hK.out _ _ (LS.out _ BX) (fun hHeld => ?_); clear hK K; refine wpAnyH_ready (rs := [4, 5]) (by kernel_rfl) (by simp) ?_; refine AllReadyH.cons rfl (fun K hK => ?_) (AllReadyH.cons rfl (fun K hK => ?_) AllReadyH.nil)
          ·
            simp only [gA, gB, gC]; (go_simp); refine (rden_any s a l c b m d ds _ (Rt.after BX L_hr.out).2.1).mono ?_; rintro e x6 ⟨b3, m3, d3, y3, rfl, h3, e3, hb⟩; replace Vd := Va.after hb Vd; replace BX := step BX hb; clear hb; (try go_wp2_with fail); refine hK.out _ _ (LS.out _ BX) (fun hHeld => ?_); clear hK K; refine wpAnyH_ready (rs := [5]) (by kernel_rfl) (by simp) ?_; refine AllReadyH.cons rfl (fun K hK => ?_) AllReadyH.nil
            ·
              simp only [gA, gB, gC]; (go_simp); have lt_Vn_Vd := Vd.lt; have sz_Vn := BX.size; refine ent1 _ _ _ (Q := fun V => K _ V) ?_; intro x7 hb hs_ Vn; replace Vd := Va.after hb Vd; replace h3 := Nt.after hb h3; replace BX := step BX hb; clear hb hs_; refine hK.out _ _ (LS.out _ BX) (fun hHeld => ?_); clear hK K; have c_Vn := Vn.cell; have f0_Vn := Vn.frozen 0; have l_Vn := Vn.lt; have m_Vn := Nat.le_of_lt l_Vn; refine wpAnyH_ready (rs := [7]) (by kernel_rfl) (by simp) ?_; refine AllReadyH.cons rfl (fun K hK => ?_) AllReadyH.nil; simp only [gA, gB, gC]; (go_simp); clear c_Vn f0_Vn l_Vn m_Vn; refine sto1 Vn (.slice a l c) (Q := fun W => K _ W) ?_; intro x8 V' oth far; replace Vd := oth _ _ _ (by first | omega | assumption | (simp; omega)) Vd; replace h3 := h3.far Vn (noInt1 _ _ _) far.1; replace BX := far.2 _ _ (by first | omega | (simp; omega)) BX; replace Vn := V'; clear oth far; refine hK.out _ _ (LS.out _ BX) (fun hHeld => ?_); clear hK K; have c_Vd := Vd.cell
              have f0_Vd := Vd.frozen 0; have l_Vd := Vd.lt; have m_Vd := Nat.le_of_lt l_Vd; refine wpAnyH_ready (rs := [8]) (by kernel_rfl) (by simp) ?_; refine AllReadyH.cons rfl (fun K hK => ?_) AllReadyH.nil; simp only [gA, gB, gC]; (go_simp); clear c_Vd f0_Vd l_Vd m_Vd; refine sto1 Vd (.slice b3 m3 d3) (Q := fun W => K _ W) ?_; intro x9 V' oth far; replace Vn := oth _ _ _ (by first | omega | assumption | (simp; omega)) Vn; replace h3 := h3.far Vd (noInt1 _ _ _) far.1; replace BX := far.2 _ _ (by first | omega | (simp; omega)) BX; replace Vd := V'; clear oth far; refine hK.out _ _ (LS.out _ BX) (fun hHeld => ?_); clear hK K; refine wpAnyH_done (by kernel_rfl) ?_ _; refine NoPanic.normal ?_; clear hHeld; (go_wp2_with fail)
              go_meet
              exact ⟨_, _, b3, m3, d3, y3, rfl, rfl, Vn, Vd, h3, e3, BX, ⟨by omega, by omega, by omega⟩⟩
          ·
            simp only [gA, gB, gC]; (go_simp); have lt_Vn_Vd := Vd.lt; have sz_Vn := BX.size; refine ent1 _ _ _ (Q := fun V => K _ V) ?_; intro x6 hb hs_ Vn; replace Vd := Va.after hb Vd; replace BX := step BX hb; clear hb hs_; refine hK.out _ _ (LS.out _ BX) (fun hHeld => ?_); clear hK K; refine wpAnyH_ready (rs := [4]) (by kernel_rfl) (by simp) ?_; refine AllReadyH.cons rfl (fun K hK => ?_) AllReadyH.nil
            ·
              simp only [gA, gB, gC]; (go_simp); refine (rden_any s a l c b m d ds _ (Rt.after BX L_hr.out).2.1).mono ?_; rintro e x7 ⟨b3, m3, d3, y3, rfl, h3, e3, hb⟩; replace Vd := Va.after hb Vd; replace Vn := Va.after hb Vn; replace BX := step BX hb; clear hb; (try go_wp2_with fail); refine hK.out _ _ (LS.out _ BX) (fun hHeld => ?_); clear hK K; have c_Vn := Vn.cell; have f0_Vn := Vn.frozen 0; have l_Vn := Vn.lt; have m_Vn := Nat.le_of_lt l_Vn; refine wpAnyH_ready (rs := [7]) (by kernel_rfl) (by simp) ?_; refine AllReadyH.cons rfl (fun K hK => ?_) AllReadyH.nil; simp only [gA, gB, gC]; (go_simp); clear c_Vn f0_Vn l_Vn m_Vn; refine sto1 Vn (.slice a l c) (Q := fun W => K _ W) ?_; intro x8 V' oth far; replace Vd := oth _ _ _ (by first | omega | assumption | (simp; omega)) Vd; replace h3 := h3.far Vn (noInt1 _ _ _) far.1; replace BX := far.2 _ _ (by first | omega | (simp; omega)) BX; replace Vn := V'; clear oth far; refine hK.out _ _ (LS.out _ BX) (fun hHeld => ?_)
              clear hK K; have c_Vd := Vd.cell; have f0_Vd := Vd.frozen 0; have l_Vd := Vd.lt; have m_Vd := Nat.le_of_lt l_Vd; refine wpAnyH_ready (rs := [8]) (by kernel_rfl) (by simp) ?_; refine AllReadyH.cons rfl (fun K hK => ?_) AllReadyH.nil; simp only [gA, gB, gC]; (go_simp); clear c_Vd f0_Vd l_Vd m_Vd; refine sto1 Vd (.slice b3 m3 d3) (Q := fun W => K _ W) ?_; intro x9 V' oth far; replace Vn := oth _ _ _ (by first | omega | assumption | (simp; omega)) Vn; replace h3 := h3.far Vd (noInt1 _ _ _) far.1; replace BX := far.2 _ _ (by first | omega | (simp; omega)) BX; replace Vd := V'; clear oth far; refine hK.out _ _ (LS.out _ BX) (fun hHeld => ?_); clear hK K; refine wpAnyH_done (by kernel_rfl) ?_ _; refine NoPanic.normal ?_; clear hHeld; (go_wp2_with fail)
              go_meet
              exact ⟨_, _, b3, m3, d3, y3, rfl, rfl, Vn, Vd, h3, e3, BX, ⟨by omega, by omega, by omega⟩⟩
      ·
        simp only [gA, gB, gC]; (go_simp); have sz_Vn := BX.size; refine ent1 _ _ _ (Q := fun V => K _ V) ?_; intro x4 hb hs_ Vn; replace BX := step BX hb; clear hb hs_; refine hK.out _ _ (LS.out _ BX) (fun hHeld => ?_); clear hK K; refine wpAnyH_ready (rs := [2, 6]) (by kernel_rfl) (by simp) ?_; refine AllReadyH.cons rfl (fun K hK => ?_) (AllReadyH.cons rfl (fun K hK => ?_) AllReadyH.nil)
        ·
          simp only [gA, gB, gC]; (go_simp); refine (wabs_any s a l c _).mono ?_; rintro e x5 ⟨rfl, hb⟩; replace Vn := Va.after hb Vn; replace BX := step BX hb; clear hb; (try go_wp2_with fail); refine hK.out _ _ (LS.out _ BX) (fun hHeld => ?_); clear hK K; refine wpAnyH_ready (rs := [4, 6]) (by kernel_rfl) (by simp) ?_; refine AllReadyH.cons rfl (fun K hK => ?_) (AllReadyH.cons rfl (fun K hK => ?_) AllReadyH.nil)
          ·
            simp only [gA, gB, gC]; (go_simp); refine (rden_any s a l c b m d ds _ (Rt.after BX L_hr.out).2.1).mono ?_; rintro e x6 ⟨b3, m3, d3, y3, rfl, h3, e3, hb⟩; replace Vn := Va.after hb Vn; replace BX := step BX hb; clear hb; (try go_wp2_with fail); refine hK.out _ _ (LS.out _ BX) (fun hHeld => ?_); clear hK K; refine wpAnyH_ready (rs := [6]) (by kernel_rfl) (by simp) ?_; refine AllReadyH.cons rfl (fun K hK => ?_) AllReadyH.nil
            ·
              simp only [gA, gB, gC]; (go_simp); have lt_Vd_Vn := Vn.lt; have sz_Vd := BX.size; refine ent1 _ _ _ (Q := fun V => K _ V) ?_; intro x7 hb hs_ Vd; replace Vn := Va.after hb Vn; replace h3 := Nt.after hb h3; replace BX := step BX hb; clear hb hs_; refine hK.out _ _ (LS.out _ BX) (fun hHeld => ?_); clear hK K; have c_Vn := Vn.cell; have f0_Vn := Vn.frozen 0; have l_Vn := Vn.lt; have m_Vn := Nat.le_of_lt l_Vn; refine wpAnyH_ready (rs := [7]) (by kernel_rfl) (by simp) ?_; refine AllReadyH.cons rfl (fun K hK => ?_) AllReadyH.nil; simp only [gA, gB, gC]; (go_simp); clear c_Vn f0_Vn l_Vn m_Vn; refine sto1 Vn (.slice a l c) (Q := fun W => K _ W) ?_; intro x8 V' oth far; replace Vd := oth _ _ _ (by first | omega | assumption | (simp; omega)) Vd; replace h3 := h3.far Vn (noInt1 _ _ _) far.1; replace BX := far.2 _ _ (by first | omega | (simp; omega)) BX; replace Vn := V'; clear oth far; refine hK.out _ _ (LS.out _ BX) (fun hHeld => ?_); clear hK K; have c_Vd := Vd.cell
              have f0_Vd := Vd.frozen 0; have l_Vd := Vd.lt; have m_Vd := Nat.le_of_lt l_Vd; refine wpAnyH_ready (rs := [8]) (by kernel_rfl) (by simp) ?_; refine AllReadyH.cons rfl (fun K hK => ?_) AllReadyH.nil; simp only [gA, gB, gC]; (go_simp); clear c_Vd f0_Vd l_Vd m_Vd; refine sto1 Vd (.slice b3 m3 d3) (Q := fun W => K _ W) ?_; intro x9 V' oth far; replace Vn := oth _ _ _ (by first | omega | assumption | (simp; omega)) Vn; replace h3 := h3.far Vd (noInt1 _ _ _) far.1; replace BX := far.2 _ _ (by first | omega | (simp; omega)) BX; replace Vd := V'; clear oth far; refine hK.out _ _ (LS.out _ BX) (fun hHeld => ?_); clear hK K; refine wpAnyH_done (by kernel_rfl) ?_ _; refine NoPanic.normal ?_; clear hHeld; (go_wp2_with fail)
              go_meet
              exact ⟨_, _, b3, m3, d3, y3, rfl, rfl, Vn, Vd, h3, e3, BX, ⟨by omega, by omega, by omega⟩⟩
          ·
            simp only [gA, gB, gC]; (go_simp); have lt_Vd_Vn := Vn.lt; have sz_Vd := BX.size; refine ent1 _ _ _ (Q := fun V => K _ V) ?_; intro x6 hb hs_ Vd; replace Vn := Va.after hb Vn; replace BX := step BX hb; clear hb hs_; refine hK.out _ _ (LS.out _ BX) (fun hHeld => ?_); clear hK K; refine wpAnyH_ready (rs := [4]) (by kernel_rfl) (by simp) ?_; refine AllReadyH.cons rfl (fun K hK => ?_) AllReadyH.nil
            ·
              simp only [gA, gB, gC]; (go_simp); refine (rden_any s a l c b m d ds _ (Rt.after BX L_hr.out).2.1).mono ?_; rintro e x7 ⟨b3, m3, d3, y3, rfl, h3, e3, hb⟩; replace Vn := Va.after hb Vn; replace Vd := Va.after hb Vd; replace BX := step BX hb; clear hb; (try go_wp2_with fail); refine hK.out _ _ (LS.out _ BX) (fun hHeld => ?_); clear hK K; have c_Vn := Vn.cell; have f0_Vn := Vn.frozen 0; have l_Vn := Vn.lt; have m_Vn := Nat.le_of_lt l_Vn; refine wpAnyH_ready (rs := [7]) (by kernel_rfl) (by simp) ?_; refine AllReadyH.cons rfl (fun K hK => ?_) AllReadyH.nil; simp only [gA, gB, gC]; (go_simp); clear c_Vn f0_Vn l_Vn m_Vn; refine sto1 Vn (.slice a l c) (Q := fun W => K _ W) ?_; intro x8 V' oth far; replace Vd := oth _ _ _ (by first | omega | assumption | (simp; omega)) Vd; replace h3 := h3.far Vn (noInt1 _ _ _) far.1; replace BX := far.2 _ _ (by first | omega | (simp; omega)) BX; replace Vn := V'; clear oth far; refine hK.out _ _ (LS.out _ BX) (fun hHeld => ?_)
              clear hK K; have c_Vd := Vd.cell; have f0_Vd := Vd.frozen 0; have l_Vd := Vd.lt; have m_Vd := Nat.le_of_lt l_Vd; refine wpAnyH_ready (rs := [8]) (by kernel_rfl) (by simp) ?_; refine AllReadyH.cons rfl (fun K hK => ?_) AllReadyH.nil; simp only [gA, gB, gC]; (go_simp); clear c_Vd f0_Vd l_Vd m_Vd; refine sto1 Vd (.slice b3 m3 d3) (Q := fun W => K _ W) ?_; intro x9 V' oth far; replace Vn := oth _ _ _ (by first | omega | assumption | (simp; omega)) Vn; replace h3 := h3.far Vd (noInt1 _ _ _) far.1; replace BX := far.2 _ _ (by first | omega | (simp; omega)) BX; replace Vd := V'; clear oth far; refine hK.out _ _ (LS.out _ BX) (fun hHeld => ?_); clear hK K; refine wpAnyH_done (by kernel_rfl) ?_ _; refine NoPanic.normal ?_; clear hHeld; (go_wp2_with fail)
              go_meet
              exact ⟨_, _, b3, m3, d3, y3, rfl, rfl, Vn, Vd, h3, e3, BX, ⟨by omega, by omega, by omega⟩⟩
        ·
          simp only [gA, gB, gC]; (go_simp); have lt_Vd_Vn := Vn.lt; have sz_Vd := BX.size; refine ent1 _ _ _ (Q := fun V => K _ V) ?_; intro x5 hb hs_ Vd; replace Vn := Va.after hb Vn; replace BX := step BX hb; clear hb hs_; refine hK.out _ _ (LS.out _ BX) (fun hHeld => ?_); clear hK K; refine wpAnyH_ready (rs := [2]) (by kernel_rfl) (by simp) ?_; refine AllReadyH.cons rfl (fun K hK => ?_) AllReadyH.nil
          ·
            simp only [gA, gB, gC]; (go_simp); refine (wabs_any s a l c _).mono ?_; rintro e x6 ⟨rfl, hb⟩; replace Vn := Va.after hb Vn; replace Vd := Va.after hb Vd; replace BX := step BX hb; clear hb; (try go_wp2_with fail); refine hK.out _ _ (LS.out _ BX) (fun hHeld => ?_); clear hK K; refine wpAnyH_ready (rs := [4]) (by kernel_rfl) (by simp) ?_; refine AllReadyH.cons rfl (fun K hK => ?_) AllReadyH.nil
            ·
              simp only [gA, gB, gC]; (go_simp); refine (rden_any s a l c b m d ds _ (Rt.after BX L_hr.out).2.1).mono ?_; rintro e x7 ⟨b3, m3, d3, y3, rfl, h3, e3, hb⟩; replace Vn := Va.after hb Vn; replace Vd := Va.after hb Vd; replace BX := step BX hb; clear hb; (try go_wp2_with fail); refine hK.out _ _ (LS.out _ BX) (fun hHeld => ?_); clear hK K; have c_Vn := Vn.cell; have f0_Vn := Vn.frozen 0; have l_Vn := Vn.lt; have m_Vn := Nat.le_of_lt l_Vn; refine wpAnyH_ready (rs := [7]) (by kernel_rfl) (by simp) ?_; refine AllReadyH.cons rfl (fun K hK => ?_) AllReadyH.nil; simp only [gA, gB, gC]; (go_simp); clear c_Vn f0_Vn l_Vn m_Vn; refine sto1 Vn (.slice a l c) (Q := fun W => K _ W) ?_; intro x8 V' oth far; replace Vd := oth _ _ _ (by first | omega | assumption | (simp; omega)) Vd; replace h3 := h3.far Vn (noInt1 _ _ _) far.1; replace BX := far.2 _ _ (by first | omega | (simp; omega)) BX; replace Vn := V'; clear oth far; refine hK.out _ _ (LS.out _ BX) (fun hHeld => ?_)
              clear hK K; have c_Vd := Vd.cell; have f0_Vd := Vd.frozen 0; have l_Vd := Vd.lt; have m_Vd := Nat.le_of_lt l_Vd; refine wpAnyH_ready (rs := [8]) (by kernel_rfl) (by simp) ?_; refine AllReadyH.cons rfl (fun K hK => ?_) AllReadyH.nil; simp only [gA, gB, gC]; (go_simp); clear c_Vd f0_Vd l_Vd m_Vd; refine sto1 Vd (.slice b3 m3 d3) (Q := fun W => K _ W) ?_; intro x9 V' oth far; replace Vn := oth _ _ _ (by first | omega | assumption | (simp; omega)) Vn; replace h3 := h3.far Vd (noInt1 _ _ _) far.1; replace BX := far.2 _ _ (by first | omega | (simp; omega)) BX; replace Vd := V'; clear oth far; refine hK.out _ _ (LS.out _ BX) (fun hHeld => ?_); clear hK K; refine wpAnyH_done (by kernel_rfl) ?_ _; refine NoPanic.normal ?_; clear hHeld; (go_wp2_with fail)
              go_meet
              exact ⟨_, _, b3, m3, d3, y3, rfl, rfl, Vn, Vd, h3, e3, BX, ⟨by omega, by omega, by omega⟩⟩
      ·
        simp only [gA, gB, gC]; (go_simp); have sz_Vd := BX.size; refine ent1 _ _ _ (Q := fun V => K _ V) ?_; intro x4 hb hs_ Vd; replace BX := step BX hb; clear hb hs_; refine hK.out _ _ (LS.out _ BX) (fun hHeld => ?_); clear hK K; refine wpAnyH_ready (rs := [2, 5]) (by kernel_rfl) (by simp) ?_; refine AllReadyH.cons rfl (fun K hK => ?_) (AllReadyH.cons rfl (fun K hK => ?_) AllReadyH.nil)
        ·
          simp only [gA, gB, gC]; (go_simp); refine (wabs_any s a l c _).mono ?_; rintro e x5 ⟨rfl, hb⟩; replace Vd := Va.after hb Vd; replace BX := step BX hb; clear hb; (try go_wp2_with fail); refine hK.out _ _ (LS.out _ BX) (fun hHeld => ?_); clear hK K; refine wpAnyH_ready (rs := [4, 5]) (by kernel_rfl) (by simp) ?_; refine AllReadyH.cons rfl (fun K hK => ?_) (AllReadyH.cons rfl (fun K hK => ?_) AllReadyH.nil)
          ·
            simp only [gA, gB, gC]; (go_simp); refine (rden_any s a l c b m d ds _ (Rt.after BX L_hr.out).2.1).mono ?_; rintro e x6 ⟨b3, m3, d3, y3, rfl, h3, e3, hb⟩; replace Vd := Va.after hb Vd; replace BX := step BX hb; clear hb; (try go_wp2_with fail); refine hK.out _ _ (LS.out _ BX) (fun hHeld => ?_); clear hK K; refine wpAnyH_ready (rs := [5]) (by kernel_rfl) (by simp) ?_; refine AllReadyH.cons rfl (fun K hK => ?_) AllReadyH.nil
            ·
              simp only [gA, gB, gC]; (go_simp); have lt_Vn_Vd := Vd.lt; have sz_Vn := BX.size; refine ent1 _ _ _ (Q := fun V => K _ V) ?_; intro x7 hb hs_ Vn; replace Vd := Va.after hb Vd; replace h3 := Nt.after hb h3; replace BX := step BX hb; clear hb hs_; refine hK.out _ _ (LS.out _ BX) (fun hHeld => ?_); clear hK K; have c_Vn := Vn.cell; have f0_Vn := Vn.frozen 0; have l_Vn := Vn.lt; have m_Vn := Nat.le_of_lt l_Vn; refine wpAnyH_ready (rs := [7]) (by kernel_rfl) (by simp) ?_; refine AllReadyH.cons rfl (fun K hK => ?_) AllReadyH.nil; simp only [gA, gB, gC]; (go_simp); clear c_Vn f0_Vn l_Vn m_Vn; refine sto1 Vn (.slice a l c) (Q := fun W => K _ W) ?_; intro x8 V' oth far; replace Vd := oth _ _ _ (by first | omega | assumption | (simp; omega)) Vd; replace h3 := h3.far Vn (noInt1 _ _ _) far.1; replace BX := far.2 _ _ (by first | omega | (simp; omega)) BX; replace Vn := V'; clear oth far; refine hK.out _ _ (LS.out _ BX) (fun hHeld => ?_); clear hK K; have c_Vd := Vd.cell
              have f0_Vd := Vd.frozen 0; have l_Vd := Vd.lt; have m_Vd := Nat.le_of_lt l_Vd; refine wpAnyH_ready (rs := [8]) (by kernel_rfl) (by simp) ?_; refine AllReadyH.cons rfl (fun K hK => ?_) AllReadyH.nil; simp only [gA, gB, gC]; (go_simp); clear c_Vd f0_Vd l_Vd m_Vd; refine sto1 Vd (.slice b3 m3 d3) (Q := fun W => K _ W) ?_; intro x9 V' oth far; replace Vn := oth _ _ _ (by first | omega | assumption | (simp; omega)) Vn; replace h3 := h3.far Vd (noInt1 _ _ _) far.1; replace BX := far.2 _ _ (by first | omega | (simp; omega)) BX; replace Vd := V'; clear oth far; refine hK.out _ _ (LS.out _ BX) (fun hHeld => ?_); clear hK K; refine wpAnyH_done (by kernel_rfl) ?_ _; refine NoPanic.normal ?_; clear hHeld; (go_wp2_with fail)
              go_meet
              exact ⟨_, _, b3, m3, d3, y3, rfl, rfl, Vn, Vd, h3, e3, BX, ⟨by omega, by omega, by omega⟩⟩
          ·
            simp only [gA, gB, gC]; (go_simp); have lt_Vn_Vd := Vd.lt; have sz_Vn := BX.size; refine ent1 _ _ _ (Q := fun V => K _ V) ?_; intro x6 hb hs_ Vn; replace Vd := Va.after hb Vd; replace BX := step BX hb; clear hb hs_; refine hK.out _ _ (LS.out _ BX) (fun hHeld => ?_); clear hK K; refine wpAnyH_ready (rs := [4]) (by kernel_rfl) (by simp) ?_; refine AllReadyH.cons rfl (fun K hK => ?_) AllReadyH.nil
            ·
              simp only [gA, gB, gC]; (go_simp); refine (rden_any s a l c b m d ds _ (Rt.after BX L_hr.out).2.1).mono ?_; rintro e x7 ⟨b3, m3, d3, y3, rfl, h3, e3, hb⟩; replace Vd := Va.after hb Vd; replace Vn := Va.after hb Vn; replace BX := step BX hb; clear hb; (try go_wp2_with fail); refine hK.out _ _ (LS.out _ BX) (fun hHeld => ?_); clear hK K; have c_Vn := Vn.cell; have f0_Vn := Vn.frozen 0; have l_Vn := Vn.lt; have m_Vn := Nat.le_of_lt l_Vn; refine wpAnyH_ready (rs := [7]) (by kernel_rfl) (by simp) ?_; refine AllReadyH.cons rfl (fun K hK => ?_) AllReadyH.nil; simp only [gA, gB, gC]; (go_simp); clear c_Vn f0_Vn l_Vn m_Vn; refine sto1 Vn (.slice a l c) (Q := fun W => K _ W) ?_; intro x8 V' oth far; replace Vd := oth _ _ _ (by first | omega | assumption | (simp; omega)) Vd; replace h3 := h3.far Vn (noInt1 _ _ _) far.1; replace BX := far.2 _ _ (by first | omega | (simp; omega)) BX; replace Vn := V'; clear oth far; refine hK.out _ _ (LS.out _ BX) (fun hHeld => ?_)
              clear hK K; have c_Vd := Vd.cell; have f0_Vd := Vd.frozen 0; have l_Vd := Vd.lt; have m_Vd := Nat.le_of_lt l_Vd; refine wpAnyH_ready (rs := [8]) (by kernel_rfl) (by simp) ?_; refine AllReadyH.cons rfl (fun K hK => ?_) AllReadyH.nil; simp only [gA, gB, gC]; (go_simp); clear c_Vd f0_Vd l_Vd m_Vd; refine sto1 Vd (.slice b3 m3 d3) (Q := fun W => K _ W) ?_; intro x9 V' oth far; replace Vn := oth _ _ _ (by first | omega | assumption | (simp; omega)) Vn; replace h3 := h3.far Vd (noInt1 _ _ _) far.1; replace BX := far.2 _ _ (by first | omega | (simp; omega)) BX; replace Vd := V'; clear oth far; refine hK.out _ _ (LS.out _ BX) (fun hHeld => ?_); clear hK K; refine wpAnyH_done (by kernel_rfl) ?_ _; refine NoPanic.normal ?_; clear hHeld; (go_wp2_with fail)
              go_meet
              exact ⟨_, _, b3, m3, d3, y3, rfl, rfl, Vn, Vd, h3, e3, BX, ⟨by omega, by omega, by omega⟩⟩
        ·
          simp only [gA, gB, gC]; (go_simp); have lt_Vn_Vd := Vd.lt; have sz_Vn := BX.size; refine ent1 _ _ _ (Q := fun V => K _ V) ?_; intro x5 hb hs_ Vn; replace Vd := Va.after hb Vd; replace BX := step BX hb; clear hb hs_; refine hK.out _ _ (LS.out _ BX) (fun hHeld => ?_); clear hK K; refine wpAnyH_ready (rs := [2]) (by kernel_rfl) (by simp) ?_; refine AllReadyH.cons rfl (fun K hK => ?_) AllReadyH.nil
          ·
            simp only [gA, gB, gC]; (go_simp); refine (wabs_any s a l c _).mono ?_; rintro e x6 ⟨rfl, hb⟩; replace Vd := Va.after hb Vd; replace Vn := Va.after hb Vn; replace BX := step BX hb; clear hb; (try go_wp2_with fail); refine hK.out _ _ (LS.out _ BX) (fun hHeld => ?_); clear hK K; refine wpAnyH_ready (rs := [4]) (by kernel_rfl) (by simp) ?_; refine AllReadyH.cons rfl (fun K hK => ?_) AllReadyH.nil
            ·
              simp only [gA, gB, gC]; (go_simp); refine (rden_any s a l c b m d ds _ (Rt.after BX L_hr.out).2.1).mono ?_; rintro e x7 ⟨b3, m3, d3, y3, rfl, h3, e3, hb⟩; replace Vd := Va.after hb Vd; replace Vn := Va.after hb Vn; replace BX := step BX hb; clear hb; (try go_wp2_with fail); refine hK.out _ _ (LS.out _ BX) (fun hHeld => ?_); clear hK K; have c_Vn := Vn.cell; have f0_Vn := Vn.frozen 0; have l_Vn := Vn.lt; have m_Vn := Nat.le_of_lt l_Vn; refine wpAnyH_ready (rs := [7]) (by kernel_rfl) (by simp) ?_; refine AllReadyH.cons rfl (fun K hK => ?_) AllReadyH.nil; simp only [gA, gB, gC]; (go_simp); clear c_Vn f0_Vn l_Vn m_Vn; refine sto1 Vn (.slice a l c) (Q := fun W => K _ W) ?_; intro x8 V' oth far; replace Vd := oth _ _ _ (by first | omega | assumption | (simp; omega)) Vd; replace h3 := h3.far Vn (noInt1 _ _ _) far.1; replace BX := far.2 _ _ (by first | omega | (simp; omega)) BX; replace Vn := V'; clear oth far; refine hK.out _ _ (LS.out _ BX) (fun hHeld => ?_)
              clear hK K; have c_Vd := Vd.cell; have f0_Vd := Vd.frozen 0; have l_Vd := Vd.lt; have m_Vd := Nat.le_of_lt l_Vd; refine wpAnyH_ready (rs := [8]) (by kernel_rfl) (by simp) ?_; refine AllReadyH.cons rfl (fun K hK => ?_) AllReadyH.nil; simp only [gA, gB, gC]; (go_simp); clear c_Vd f0_Vd l_Vd m_Vd; refine sto1 Vd (.slice b3 m3 d3) (Q := fun W => K _ W) ?_; intro x9 V' oth far; replace Vn := oth _ _ _ (by first | omega | assumption | (simp; omega)) Vn; replace h3 := h3.far Vd (noInt1 _ _ _) far.1; replace BX := far.2 _ _ (by first | omega | (simp; omega)) BX; replace Vd := V'; clear oth far; refine hK.out _ _ (LS.out _ BX) (fun hHeld => ?_); clear hK K; refine wpAnyH_done (by kernel_rfl) ?_ _; refine NoPanic.normal ?_; clear hHeld; (go_wp2_with fail)
              go_meet
              exact ⟨_, _, b3, m3, d3, y3, rfl, rfl, Vn, Vd, h3, e3, BX, ⟨by omega, by omega, by omega⟩⟩
    ·
      simp only [gA, gB, gC]; (go_simp); have sz_Vn := BX.size; refine ent1 _ _ _ (Q := fun V => K _ V) ?_; intro x3 hb hs_ Vn; replace BX := step BX hb; clear hb hs_; refine hK.out _ _ (LS.out _ BX) (fun hHeld => ?_); clear hK K; refine wpAnyH_ready (rs := [1, 6]) (by kernel_rfl) (by simp) ?_; refine AllReadyH.cons rfl (fun K hK => ?_) (AllReadyH.cons rfl (fun K hK => ?_) AllReadyH.nil)
      ·
        simp only [gA, gB, gC]; (go_simp); refine (qnum_any s a l c b m d _).mono ?_; rintro e x4 ⟨rfl, hb⟩; replace Vn := Va.after hb Vn; replace BX := step BX hb; clear hb; (try go_wp2_with fail); refine hK.out _ _ (LS.out _ BX) (fun hHeld => ?_); clear hK K; refine wpAnyH_ready (rs := [2, 6]) (by kernel_rfl) (by simp) ?_; refine AllReadyH.cons rfl (fun K hK => ?_) (AllReadyH.cons rfl (fun K hK => ?_) AllReadyH.nil)
        ·
          simp only [gA, gB, gC]; (go_simp); refine (wabs_any s a l c _).mono ?_; rintro e x5 ⟨rfl, hb⟩; replace Vn := Va.after hb Vn; replace BX := step BX hb; clear hb; (try go_wp2_with fail); refine hK.out _ _ (LS.out _ BX) (fun hHeld => ?_); clear hK K; refine wpAnyH_ready (rs := [4, 6]) (by kernel_rfl) (by simp) ?_; refine AllReadyH.cons rfl (fun K hK => ?_) (AllReadyH.cons rfl (fun K hK => ?_) AllReadyH.nil)
          ·
            simp only [gA, gB, gC]; (go_simp); refine (rden_any s a l c b m d ds _ (Rt.after BX L_hr.out).2.1).mono ?_; rintro e x6 ⟨b3, m3, d3, y3, rfl, h3, e3, hb⟩; replace Vn := Va.after hb Vn; replace BX := step BX hb; clear hb; (try go_wp2_with fail); refine hK.out _ _ (LS.out _ BX) (fun hHeld => ?_); clear hK K; refine wpAnyH_ready (rs := [6]) (by kernel_rfl) (by simp) ?_; refine AllReadyH.cons rfl (fun K hK => ?_) AllReadyH.nil
            ·
              simp only [gA, gB, gC]; (go_simp); have lt_Vd_Vn := Vn.lt; have sz_Vd := BX.size; refine ent1 _ _ _ (Q := fun V => K _ V) ?_; intro x7 hb hs_ Vd; replace Vn := Va.after hb Vn; replace h3 := Nt.after hb h3; replace BX := step BX hb; clear hb hs_; refine hK.out _ _ (LS.out _ BX) (fun hHeld => ?_); clear hK K; have c_Vn := Vn.cell; have f0_Vn := Vn.frozen 0; have l_Vn := Vn.lt; have m_Vn := Nat.le_of_lt l_Vn; refine wpAnyH_ready (rs := [7]) (by kernel_rfl) (by simp) ?_; refine AllReadyH.cons rfl (fun K hK => ?_) AllReadyH.nil; simp only [gA, gB, gC]; (go_simp); clear c_Vn f0_Vn l_Vn m_Vn; refine sto1 Vn (.slice a l c) (Q := fun W => K _ W) ?_; intro x8 V' oth far; replace Vd := oth _ _ _ (by first | omega | assumption | (simp; omega)) Vd; replace h3 := h3.far Vn (noInt1 _ _ _) far.1; replace BX := far.2 _ _ (by first | omega | (simp; omega)) BX; replace Vn := V'; clear oth far; refine hK.out _ _ (LS.out _ BX) (fun hHeld => ?_); clear hK K; have c_Vd := Vd.cell
              have f0_Vd := Vd.frozen 0; have l_Vd := Vd.lt; have m_Vd := Nat.le_of_lt l_Vd; refine wpAnyH_ready (rs := [8]) (by kernel_rfl) (by simp) ?_; refine AllReadyH.cons rfl (fun K hK => ?_) AllReadyH.nil; simp only [gA, gB, gC]; (go_simp); clear c_Vd f0_Vd l_Vd m_Vd; refine sto1 Vd (.slice b3 m3 d3) (Q := fun W => K _ W) ?_; intro x9 V' oth far; replace Vn := oth _ _ _ (by first | omega | assumption | (simp; omega)) Vn; replace h3 := h3.far Vd (noInt1 _ _ _) far.1; replace BX := far.2 _ _ (by first | omega | (simp; omega)) BX; replace Vd := V'; clear oth far; refine hK.out _ _ (LS.out _ BX) (fun hHeld => ?_); clear hK K; refine wpAnyH_done (by kernel_rfl) ?_ _; refine NoPanic.normal ?_; clear hHeld; (go_wp2_with fail)
              go_meet
              exact ⟨_, _, b3, m3, d3, y3, rfl, rfl, Vn, Vd, h3, e3, BX, ⟨by omega, by omega, by omega⟩⟩
          ·
            simp only [gA, gB, gC]; (go_simp); have lt_Vd_Vn := Vn.lt; have sz_Vd := BX.size; refine ent1 _ _ _ (Q := fun V => K _ V) ?_; intro x6 hb hs_ Vd; replace Vn := Va.after hb Vn; replace BX := step BX hb; clear hb hs_; refine hK.out _ _ (LS.out _ BX) (fun hHeld => ?_); clear hK K; refine wpAnyH_ready (rs := [4]) (by kernel_rfl) (by simp) ?_; refine AllReadyH.cons rfl (fun K hK => ?_) AllReadyH.nil
            ·
              simp only [gA, gB, gC]; (go_simp); refine (rden_any s a l c b m d ds _ (Rt.after BX L_hr.out).2.1).mono ?_; rintro e x7 ⟨b3, m3, d3, y3, rfl, h3, e3, hb⟩; replace Vn := Va.after hb Vn; replace Vd := Va.after hb Vd; replace BX := step BX hb; clear hb; (try go_wp2_with fail); refine hK.out _ _ (LS.out _ BX) (fun hHeld => ?_); clear hK K; have c_Vn := Vn.cell; have f0_Vn := Vn.frozen 0; have l_Vn := Vn.lt; have m_Vn := Nat.le_of_lt l_Vn; refine wpAnyH_ready (rs := [7]) (by kernel_rfl) (by simp) ?_; refine AllReadyH.cons rfl (fun K hK => ?_) AllReadyH.nil; simp only [gA, gB, gC]; (go_simp); clear c_Vn f0_Vn l_Vn m_Vn; refine sto1 Vn (.slice a l c) (Q := fun W => K _ W) ?_; intro x8 V' oth far; replace Vd := oth _ _ _ (by first | omega | assumption | (simp; omega)) Vd; replace h3 := h3.far Vn (noInt1 _ _ _) far.1; replace BX := far.2 _ _ (by first | omega | (simp; omega)) BX; replace Vn := V'; clear oth far; refine hK.out _ _ (LS.out _ BX) (fun hHeld => ?_)
              clear hK K; have c_Vd := Vd.cell; have f0_Vd := Vd.frozen 0; have l_Vd := Vd.lt; have m_Vd := Nat.le_of_lt l_Vd; refine wpAnyH_ready (rs := [8]) (by kernel_rfl) (by simp) ?_; refine AllReadyH.cons rfl (fun K hK => ?_) AllReadyH.nil; simp only [gA, gB, gC]; (go_simp); clear c_Vd f0_Vd l_Vd m_Vd; refine sto1 Vd (.slice b3 m3 d3) (Q := fun W => K _ W) ?_; intro x9 V' oth far; replace Vn := oth _ _ _ (by first | omega | assumption | (simp; omega)) Vn; replace h3 := h3.far Vd (noInt1 _ _ _) far.1; replace BX := far.2 _ _ (by first | omega | (simp; omega)) BX; replace Vd := V'; clear oth far; refine hK.out _ _ (LS.out _ BX) (fun hHeld => ?_); clear hK K; refine wpAnyH_done (by kernel_rfl) ?_ _; refine NoPanic.normal ?_; clear hHeld; (go_wp2_with fail)
              go_meet
              exact ⟨_, _, b3, m3, d3, y3, rfl, rfl, Vn, Vd, h3, e3, BX, ⟨by omega, by omega, by omega⟩⟩
        ·
          simp only [gA, gB, gC]; (go_simp); have lt_Vd_Vn := Vn.lt; have sz_Vd := BX.size; refine ent1 _ _ _ (Q := fun V => K _ V) ?_; intro x5 hb hs_ Vd; replace Vn := Va.after hb Vn; replace BX := step BX hb; clear hb hs_; refine hK.out _ _ (LS.out _ BX) (fun hHeld => ?_); clear hK K; refine wpAnyH_ready (rs := [2]) (by kernel_rfl) (by simp) ?_; refine AllReadyH.cons rfl (fun K hK => ?_) AllReadyH.nil
          ·
            simp only [gA, gB, gC]; (go_simp); refine (wabs_any s a l c _).mono ?_; rintro e x6 ⟨rfl, hb⟩; replace Vn := Va.after hb Vn; replace Vd := Va.after hb Vd; replace BX := step BX hb; clear hb; (try go_wp2_with fail); refine hK.out _ _ (LS.out _ BX) (fun hHeld => ?_); clear hK K; refine wpAnyH_ready (rs := [4]) (by kernel_rfl) (by simp) ?_; refine AllReadyH.cons rfl (fun K hK => ?_) AllReadyH.nil
            ·
              simp only [gA, gB, gC]; (go_simp); refine (rden_any s a l c b m d ds _ (Rt.after BX L_hr.out).2.1).mono ?_; rintro e x7 ⟨b3, m3, d3, y3, rfl, h3, e3, hb⟩; replace Vn := Va.after hb Vn; replace Vd := Va.after hb Vd; replace BX := step BX hb; clear hb; (try go_wp2_with fail); refine hK.out _ _ (LS.out _ BX) (fun hHeld => ?_); clear hK K; have c_Vn := Vn.cell; have f0_Vn := Vn.frozen 0; have l_Vn := Vn.lt; have m_Vn := Nat.le_of_lt l_Vn; refine wpAnyH_ready (rs := [7]) (by kernel_rfl) (by simp) ?_; refine AllReadyH.cons rfl (fun K hK => ?_) AllReadyH.nil; simp only [gA, gB, gC]; (go_simp); clear c_Vn f0_Vn l_Vn m_Vn; refine sto1 Vn (.slice a l c) (Q := fun W => K _ W) ?_; intro x8 V' oth far; replace Vd := oth _ _ _ (by first | omega | assumption | (simp; omega)) Vd; replace h3 := h3.far Vn (noInt1 _ _ _) far.1; replace BX := far.2 _ _ (by first | omega | (simp; omega)) BX; replace Vn := V'; clear oth far; refine hK.out _ _ (LS.out _ BX) (fun hHeld => ?_)
              clear hK K; have c_Vd := Vd.cell; have f0_Vd := Vd.frozen 0; have l_Vd := Vd.lt; have m_Vd := Nat.le_of_lt l_Vd; refine wpAnyH_ready (rs := [8]) (by kernel_rfl) (by simp) ?_; refine AllReadyH.cons rfl (fun K hK => ?_) AllReadyH.nil; simp only [gA, gB, gC]; (go_simp); clear c_Vd f0_Vd l_Vd m_Vd; refine sto1 Vd (.slice b3 m3 d3) (Q := fun W => K _ W) ?_; intro x9 V' oth far; replace Vn := oth _ _ _ (by first | omega | assumption | (simp; omega)) Vn; replace h3 := h3.far Vd (noInt1 _ _ _) far.1; replace BX := far.2 _ _ (by first | omega | (simp; omega)) BX; replace Vd := V'; clear oth far; refine hK.out _ _ (LS.out _ BX) (fun hHeld => ?_); clear hK K; refine wpAnyH_done (by kernel_rfl) ?_ _; refine NoPanic.normal ?_; clear hHeld; (go_wp2_with fail)
              go_meet
              exact ⟨_, _, b3, m3, d3, y3, rfl, rfl, Vn, Vd, h3, e3, BX, ⟨by omega, by omega, by omega⟩⟩
      ·
        simp only [gA, gB, gC]; (go_simp); have lt_Vd_Vn := Vn.lt; have sz_Vd := BX.size; refine ent1 _ _ _ (Q := fun V => K _ V) ?_; intro x4 hb hs_ Vd; replace Vn := Va.after hb Vn; replace BX := step BX hb; clear hb hs_; refine hK.out _ _ (LS.out _ BX) (fun hHeld => ?_); clear hK K; refine wpAnyH_ready (rs := [1]) (by kernel_rfl) (by simp) ?_; refine AllReadyH.cons rfl (fun K hK => ?_) AllReadyH.nil
        ·
          simp only [gA, gB, gC]; (go_simp); refine (qnum_any s a l c b m d _).mono ?_; rintro e x5 ⟨rfl, hb⟩; replace Vn := Va.after hb Vn; replace Vd := Va.after hb Vd; replace BX := step BX hb; clear hb; (try go_wp2_with fail); refine hK.out _ _ (LS.out _ BX) (fun hHeld => ?_); clear hK K; refine wpAnyH_ready (rs := [2]) (by kernel_rfl) (by simp) ?_; refine AllReadyH.cons rfl (fun K hK => ?_) AllReadyH.nil
          ·
            simp only [gA, gB, gC]; (go_simp); refine (wabs_any s a l c _).mono ?_; rintro e x6 ⟨rfl, hb⟩; replace Vn := Va.after hb Vn; replace Vd := Va.after hb Vd; replace BX := step BX hb; clear hb; (try go_wp2_with fail); refine hK.out _ _ (LS.out _ BX) (fun hHeld => ?_); clear hK K; refine wpAnyH_ready (rs := [4]) (by kernel_rfl) (by simp) ?_; refine AllReadyH.cons rfl (fun K hK => ?_) AllReadyH.nil
            ·
              simp only [gA, gB, gC]; (go_simp); refine (rden_any s a l c b m d ds _ (Rt.after BX L_hr.out).2.1).mono ?_; rintro e x7 ⟨b3, m3, d3, y3, rfl, h3, e3, hb⟩; replace Vn := Va.after hb Vn; replace Vd := Va.after hb Vd; replace BX := step BX hb; clear hb; (try go_wp2_with fail); refine hK.out _ _ (LS.out _ BX) (fun hHeld => ?_); clear hK K; have c_Vn := Vn.cell; have f0_Vn := Vn.frozen 0; have l_Vn := Vn.lt; have m_Vn := Nat.le_of_lt l_Vn; refine wpAnyH_ready (rs := [7]) (by kernel_rfl) (by simp) ?_; refine AllReadyH.cons rfl (fun K hK => ?_) AllReadyH.nil; simp only [gA, gB, gC]; (go_simp); clear c_Vn f0_Vn l_Vn m_Vn; refine sto1 Vn (.slice a l c) (Q := fun W => K _ W) ?_; intro x8 V' oth far; replace Vd := oth _ _ _ (by first | omega | assumption | (simp; omega)) Vd; replace h3 := h3.far Vn (noInt1 _ _ _) far.1; replace BX := far.2 _ _ (by first | omega | (simp; omega)) BX; replace Vn := V'; clear oth far; refine hK.out _ _ (LS.out _ BX) (fun hHeld => ?_)
              clear hK K; have c_Vd := Vd.cell; have f0_Vd := Vd.frozen 0; have l_Vd := Vd.lt; have m_Vd := Nat.le_of_lt l_Vd; refine wpAnyH_ready (rs := [8]) (by kernel_rfl) (by simp) ?_; refine AllReadyH.cons rfl (fun K hK => ?_) AllReadyH.nil; simp only [gA, gB, gC]; (go_simp); clear c_Vd f0_Vd l_Vd m_Vd; refine sto1 Vd (.slice b3 m3 d3) (Q := fun W => K _ W) ?_; intro x9 V' oth far; replace Vn := oth _ _ _ (by first | omega | assumption | (simp; omega)) Vn; replace h3 := h3.far Vd (noInt1 _ _ _) far.1; replace BX := far.2 _ _ (by first | omega | (simp; omega)) BX; replace Vd := V'; clear oth far; refine hK.out _ _ (LS.out _ BX) (fun hHeld => ?_); clear hK K; refine wpAnyH_done (by kernel_rfl) ?_ _; refine NoPanic.normal ?_; clear hHeld; (go_wp2_with fail)
              go_meet
              exact ⟨_, _, b3, m3, d3, y3, rfl, rfl, Vn, Vd, h3, e3, BX, ⟨by omega, by omega, by omega⟩⟩
    ·
      simp only [gA, gB, gC]; (go_simp); have sz_Vd := BX.size; refine ent1 _ _ _ (Q := fun V => K _ V) ?_; intro x3 hb hs_ Vd; replace BX := step BX hb; clear hb hs_; refine hK.out _ _ (LS.out _ BX) (fun hHeld => ?_); clear hK K; refine wpAnyH_ready (rs := [1, 5]) (by kernel_rfl) (by simp) ?_; refine AllReadyH.cons rfl (fun K hK => ?_) (AllReadyH.cons rfl (fun K hK => ?_) AllReadyH.nil)
      ·
        simp only [gA, gB, gC]; (go_simp); refine (qnum_any s a l c b m d _).mono ?_; rintro e x4 ⟨rfl, hb⟩; replace Vd := Va.after hb Vd; replace BX := step BX hb; clear hb; (try go_wp2_with fail); refine hK.out _ _ (LS.out _ BX) (fun hHeld => ?_); clear hK K; refine wpAnyH_ready (rs := [2, 5]) (by kernel_rfl) (by simp) ?_; refine AllReadyH.cons rfl (fun K hK => ?_) (AllReadyH.cons rfl (fun K hK => ?_) AllReadyH.nil)
        ·
          simp only [gA, gB, gC]; (go_simp); refine (wabs_any s a l c _).mono ?_; rintro e x5 ⟨rfl, hb⟩; replace Vd := Va.after hb Vd; replace BX := step BX hb; clear hb; (try go_wp2_with fail); refine hK.out _ _ (LS.out _ BX) (fun hHeld => ?_); clear hK K; refine wpAnyH_ready (rs := [4, 5]) (by kernel_rfl) (by simp) ?_; refine AllReadyH.cons rfl (fun K hK => ?_) (AllReadyH.cons rfl (fun K hK => ?_) AllReadyH.nil)
          ·
            simp only [gA, gB, gC]; (go_simp); refine (rden_any s a l c b m d ds _ (Rt.after BX L_hr.out).2.1).mono ?_; rintro e x6 ⟨b3, m3, d3, y3, rfl, h3, e3, hb⟩; replace Vd := Va.after hb Vd; replace BX := step BX hb; clear hb; (try go_wp2_with fail); refine hK.out _ _ (LS.out _ BX) (fun hHeld => ?_); clear hK K; refine wpAnyH_ready (rs := [5]) (by kernel_rfl) (by simp) ?_; refine AllReadyH.cons rfl (fun K hK => ?_) AllReadyH.nil
            ·
              simp only [gA, gB, gC]; (go_simp); have lt_Vn_Vd := Vd.lt; have sz_Vn := BX.size; refine ent1 _ _ _ (Q := fun V => K _ V) ?_; intro x7 hb hs_ Vn; replace Vd := Va.after hb Vd; replace h3 := Nt.after hb h3; replace BX := step BX hb; clear hb hs_; refine hK.out _ _ (LS.out _ BX) (fun hHeld => ?_); clear hK K; have c_Vn := Vn.cell; have f0_Vn := Vn.frozen 0; have l_Vn := Vn.lt; have m_Vn := Nat.le_of_lt l_Vn; refine wpAnyH_ready (rs := [7]) (by kernel_rfl) (by simp) ?_; refine AllReadyH.cons rfl (fun K hK => ?_) AllReadyH.nil; simp only [gA, gB, gC]; (go_simp); clear c_Vn f0_Vn l_Vn m_Vn; refine sto1 Vn (.slice a l c) (Q := fun W => K _ W) ?_; intro x8 V' oth far; replace Vd := oth _ _ _ (by first | omega | assumption | (simp; omega)) Vd; replace h3 := h3.far Vn (noInt1 _ _ _) far.1; replace BX := far.2 _ _ (by first | omega | (simp; omega)) BX; replace Vn := V'; clear oth far; refine hK.out _ _ (LS.out _ BX) (fun hHeld => ?_); clear hK K; have c_Vd := Vd.cell
              have f0_Vd := Vd.frozen 0; have l_Vd := Vd.lt; have m_Vd := Nat.le_of_lt l_Vd; refine wpAnyH_ready (rs := [8]) (by kernel_rfl) (by simp) ?_; refine AllReadyH.cons rfl (fun K hK => ?_) AllReadyH.nil; simp only [gA, gB, gC]; (go_simp); clear c_Vd f0_Vd l_Vd m_Vd; refine sto1 Vd (.slice b3 m3 d3) (Q := fun W => K _ W) ?_; intro x9 V' oth far; replace Vn := oth _ _ _ (by first | omega | assumption | (simp; omega)) Vn; replace h3 := h3.far Vd (noInt1 _ _ _) far.1; replace BX := far.2 _ _ (by first | omega | (simp; omega)) BX; replace Vd := V'; clear oth far; refine hK.out _ _ (LS.out _ BX) (fun hHeld => ?_); clear hK K; refine wpAnyH_done (by kernel_rfl) ?_ _; refine NoPanic.normal ?_; clear hHeld; (go_wp2_with fail)
              go_meet
              exact ⟨_, _, b3, m3, d3, y3, rfl, rfl, Vn, Vd, h3, e3, BX, ⟨by omega, by omega, by omega⟩⟩
          ·
            simp only [gA, gB, gC]; (go_simp); have lt_Vn_Vd := Vd.lt; have sz_Vn := BX.size; refine ent1 _ _ _ (Q := fun V => K _ V) ?_; intro x6 hb hs_ Vn; replace Vd := Va.after hb Vd; replace BX := step BX hb; clear hb hs_; refine hK.out _ _ (LS.out _ BX) (fun hHeld => ?_); clear hK K; refine wpAnyH_ready (rs := [4]) (by kernel_rfl) (by simp) ?_; refine AllReadyH.cons rfl (fun K hK => ?_) AllReadyH.nil
            ·
              simp only [gA, gB, gC]; (go_simp); refine (rden_any s a l c b m d ds _ (Rt.after BX L_hr.out).2.1).mono ?_; rintro e x7 ⟨b3, m3, d3, y3, rfl, h3, e3, hb⟩; replace Vd := Va.after hb Vd; replace Vn := Va.after hb Vn; replace BX := step BX hb; clear hb; (try go_wp2_with fail); refine hK.out _ _ (LS.out _ BX) (fun hHeld => ?_); clear hK K; have c_Vn := Vn.cell; have f0_Vn := Vn.frozen 0; have l_Vn := Vn.lt; have m_Vn := Nat.le_of_lt l_Vn; refine wpAnyH_ready (rs := [7]) (by kernel_rfl) (by simp) ?_; refine AllReadyH.cons rfl (fun K hK => ?_) AllReadyH.nil; simp only [gA, gB, gC]; (go_simp); clear c_Vn f0_Vn l_Vn m_Vn; refine sto1 Vn (.slice a l c) (Q := fun W => K _ W) ?_; intro x8 V' oth far; replace Vd := oth _ _ _ (by first | omega | assumption | (simp; omega)) Vd; replace h3 := h3.far Vn (noInt1 _ _ _) far.1; replace BX := far.2 _ _ (by first | omega | (simp; omega)) BX; replace Vn := V'; clear oth far; refine hK.out _ _ (LS.out _ BX) (fun hHeld => ?_)
              clear hK K; have c_Vd := Vd.cell; have f0_Vd := Vd.frozen 0; have l_Vd := Vd.lt; have m_Vd := Nat.le_of_lt l_Vd; refine wpAnyH_ready (rs := [8]) (by kernel_rfl) (by simp) ?_; refine AllReadyH.cons rfl (fun K hK => ?_) AllReadyH.nil; simp only [gA, gB, gC]; (go_simp); clear c_Vd f0_Vd l_Vd m_Vd; refine sto1 Vd (.slice b3 m3 d3) (Q := fun W => K _ W) ?_; intro x9 V' oth far; replace Vn := oth _ _ _ (by first | omega | assumption | (simp; omega)) Vn; replace h3 := h3.far Vd (noInt1 _ _ _) far.1; replace BX := far.2 _ _ (by first | omega | (simp; omega)) BX; replace Vd := V'; clear oth far; refine hK.out _ _ (LS.out _ BX) (fun hHeld => ?_); clear hK K; refine wpAnyH_done (by kernel_rfl) ?_ _; refine NoPanic.normal ?_; clear hHeld; (go_wp2_with fail)
              go_meet
              exact ⟨_, _, b3, m3, d3, y3, rfl, rfl, Vn, Vd, h3, e3, BX, ⟨by omega, by omega, by omega⟩⟩
        ·
          simp only [gA, gB, gC]; (go_simp); have lt_Vn_Vd := Vd.lt; have sz_Vn := BX.size; refine ent1 _ _ _ (Q := fun V => K _ V) ?_; intro x5 hb hs_ Vn; replace Vd := Va.after hb Vd; replace BX := step BX hb; clear hb hs_; refine hK.out _ _ (LS.out _ BX) (fun hHeld => ?_); clear hK K; refine wpAnyH_ready (rs := [2]) (by kernel_rfl) (by simp) ?_; refine AllReadyH.cons rfl (fun K hK => ?_) AllReadyH.nil
          ·
            simp only [gA, gB, gC]; (go_simp); refine (wabs_any s a l c _).mono ?_; rintro e x6 ⟨rfl, hb⟩; replace Vd := Va.after hb Vd; replace Vn := Va.after hb Vn; replace BX := step BX hb; clear hb; (try go_wp2_with fail); refine hK.out _ _ (LS.out _ BX) (fun hHeld => ?_); clear hK K; refine wpAnyH_ready (rs := [4]) (by kernel_rfl) (by simp) ?_; refine AllReadyH.cons rfl (fun K hK => ?_) AllReadyH.nil
            ·
              simp only [gA, gB, gC]; (go_simp); refine (rden_any s a l c b m d ds _ (Rt.after BX L_hr.out).2.1).mono ?_; rintro e x7 ⟨b3, m3, d3, y3, rfl, h3, e3, hb⟩; replace Vd := Va.after hb Vd; replace Vn := Va.after hb Vn; replace BX := step BX hb; clear hb; (try go_wp2_with fail); refine hK.out _ _ (LS.out _ BX) (fun hHeld => ?_); clear hK K; have c_Vn := Vn.cell; have f0_Vn := Vn.frozen 0; have l_Vn := Vn.lt; have m_Vn := Nat.le_of_lt l_Vn; refine wpAnyH_ready (rs := [7]) (by kernel_rfl) (by simp) ?_; refine AllReadyH.cons rfl (fun K hK => ?_) AllReadyH.nil; simp only [gA, gB, gC]; (go_simp); clear c_Vn f0_Vn l_Vn m_Vn; refine sto1 Vn (.slice a l c) (Q := fun W => K _ W) ?_; intro x8 V' oth far; replace Vd := oth _ _ _ (by first | omega | assumption | (simp; omega)) Vd; replace h3 := h3.far Vn (noInt1 _ _ _) far.1; replace BX := far.2 _ _ (by first | omega | (simp; omega)) BX; replace Vn := V'; clear oth far; refine hK.out _ _ (LS.out _ BX) (fun hHeld => ?_)
              clear hK K; have c_Vd := Vd.cell; have f0_Vd := Vd.frozen 0; have l_Vd := Vd.lt; have m_Vd := Nat.le_of_lt l_Vd; refine wpAnyH_ready (rs := [8]) (by kernel_rfl) (by simp) ?_; refine AllReadyH.cons rfl (fun K hK => ?_) AllReadyH.nil; simp only [gA, gB, gC]; (go_simp); clear c_Vd f0_Vd l_Vd m_Vd; refine sto1 Vd (.slice b3 m3 d3) (Q := fun W => K _ W) ?_; intro x9 V' oth far; replace Vn := oth _ _ _ (by first | omega | assumption | (simp; omega)) Vn; replace h3 := h3.far Vd (noInt1 _ _ _) far.1; replace BX := far.2 _ _ (by first | omega | (simp; omega)) BX; replace Vd := V'; clear oth far; refine hK.out _ _ (LS.out _ BX) (fun hHeld => ?_); clear hK K; refine wpAnyH_done (by kernel_rfl) ?_ _; refine NoPanic.normal ?_; clear hHeld; (go_wp2_with fail)
              go_meet
              exact ⟨_, _, b3, m3, d3, y3, rfl, rfl, Vn, Vd, h3, e3, BX, ⟨by omega, by omega, by omega⟩⟩
      ·
        simp only [gA, gB, gC]; (go_simp); have lt_Vn_Vd := Vd.lt; have sz_Vn := BX.size; refine ent1 _ _ _ (Q := fun V => K _ V) ?_; intro x4 hb hs_ Vn; replace Vd := Va.after hb Vd; replace BX := step BX hb; clear hb hs_; refine hK.out _ _ (LS.out _ BX) (fun hHeld => ?_); clear hK K; refine wpAnyH_ready (rs := [1]) (by kernel_rfl) (by simp) ?_; refine AllReadyH.cons rfl (fun K hK => ?_) AllReadyH.nil
        ·
          simp only [gA, gB, gC]; (go_simp); refine (qnum_any s a l c b m d _).mono ?_; rintro e x5 ⟨rfl, hb⟩; replace Vd := Va.after hb Vd; replace Vn := Va.after hb Vn; replace BX := step BX hb; clear hb; (try go_wp2_with fail); refine hK.out _ _ (LS.out _ BX) (fun hHeld => ?_); clear hK K; refine wpAnyH_ready (rs := [2]) (by kernel_rfl) (by simp) ?_; refine AllReadyH.cons rfl (fun K hK => ?_) AllReadyH.nil
          ·
            simp only [gA, gB, gC]; (go_simp); refine (wabs_any s a l c _).mono ?_; rintro e x6 ⟨rfl, hb⟩; replace Vd := Va.after hb Vd; replace Vn := Va.after hb Vn; replace BX := step BX hb; clear hb; (try go_wp2_with fail); refine hK.out _ _ (LS.out _ BX) (fun hHeld => ?_); clear hK K; refine wpAnyH_ready (rs := [4]) (by kernel_rfl) (by simp) ?_; refine AllReadyH.cons rfl (fun K hK => ?_) AllReadyH.nil
            ·
              simp only [gA, gB, gC]; (go_simp); refine (rden_any s a l c b m d ds _ (Rt.after BX L_hr.out).2.1).mono ?_; rintro e x7 ⟨b3, m3, d3, y3, rfl, h3, e3, hb⟩; replace Vd := Va.after hb Vd; replace Vn := Va.after hb Vn; replace BX := step BX hb; clear hb; (try go_wp2_with fail); refine hK.out _ _ (LS.out _ BX) (fun hHeld => ?_); clear hK K; have c_Vn := Vn.cell; have f0_Vn := Vn.frozen 0; have l_Vn := Vn.lt; have m_Vn := Nat.le_of_lt l_Vn; refine wpAnyH_ready (rs := [7]) (by kernel_rfl) (by simp) ?_; refine AllReadyH.cons rfl (fun K hK => ?_) AllReadyH.nil; simp only [gA, gB, gC]; (go_simp); clear c_Vn f0_Vn l_Vn m_Vn; refine sto1 Vn (.slice a l c) (Q := fun W => K _ W) ?_; intro x8 V' oth far; replace Vd := oth _ _ _ (by first | omega | assumption | (simp; omega)) Vd; replace h3 := h3.far Vn (noInt1 _ _ _) far.1; replace BX := far.2 _ _ (by first | omega | (simp; omega)) BX; replace Vn := V'; clear oth far; refine hK.out _ _ (LS.out _ BX) (fun hHeld => ?_)
              clear hK K; have c_Vd := Vd.cell; have f0_Vd := Vd.frozen 0; have l_Vd := Vd.lt; have m_Vd := Nat.le_of_lt l_Vd; refine wpAnyH_ready (rs := [8]) (by kernel_rfl) (by simp) ?_; refine AllReadyH.cons rfl (fun K hK => ?_) AllReadyH.nil; simp only [gA, gB, gC]; (go_simp); clear c_Vd f0_Vd l_Vd m_Vd; refine sto1 Vd (.slice b3 m3 d3) (Q := fun W => K _ W) ?_; intro x9 V' oth far; replace Vn := oth _ _ _ (by first | omega | assumption | (simp; omega)) Vn; replace h3 := h3.far Vd (noInt1 _ _ _) far.1; replace BX := far.2 _ _ (by first | omega | (simp; omega)) BX; replace Vd := V'; clear oth far; refine hK.out _ _ (LS.out _ BX) (fun hHeld => ?_); clear hK K; refine wpAnyH_done (by kernel_rfl) ?_ _; refine NoPanic.normal ?_; clear hHeld; (go_wp2_with fail)
              go_meet
              exact ⟨_, _, b3, m3, d3, y3, rfl, rfl, Vn, Vd, h3, e3, BX, ⟨by omega, by omega, by omega⟩⟩
  case rest =>
    clear BX; obtain ⟨q3, q4, b3, m3, d3, y3, rfl, rfl, Vn', Vd', h3', E3', BX', hineq'⟩ := hcut; have Vn := Vn'.out; have Vd := Vd'.out; have h3 := h3'.out; have E3 := E3'.out; have BX := BX'.out; have hineq := hineq'.out; clear Vn' Vd' h3' E3' BX' hineq'; obtain ⟨iq0, iq1, iq2⟩ := hineq; have V0 := Va.after BX L_V0.out; have V1 := Va.after BX L_V1.out; have hr := Rt.after BX L_hr.out; have B0 := step L_B.out BX; have ED : Hid (num y3 = ((v.den : Nat) : Int)) := E3.trans hr.2.2.2.1; clear E3
    have HM : Hid (m3 ≤ 1024) := by
      have h5 := hr.2.2.2.2.2; rw [← ED.out] at h5; exact (h3.short 1024).2 h5
    (have H0 : Hid (0 < num y3) := by show _ < _; rw [ED.out]; have h5 := v.den_pos; omega); clear V0; have hz := hr.1.1; clear hr; have c_Vn := Vn.cell; have f0_Vn := Vn.frozen 0; have l_Vn := Vn.lt; have m_Vn := Nat.le_of_lt l_Vn; have c_Vd := Vd.cell; have f0_Vd := Vd.frozen 0; have l_Vd := Vd.lt; have m_Vd := Nat.le_of_lt l_Vd; (go_wp2_with fail); refine (twoIn8 a l c zs b3 m3 d3 y3 wc hz h3 ⟨HL.out, HM.out, H0.out⟩).mono ?_; rintro e x2 ⟨t, rfl, ht, hb⟩; replace V1 := Va.after hb V1; replace Vn := Va.after hb Vn; replace Vd := Va.after hb Vd; replace h3 := Nt.after hb h3; replace hz := Nt.after hb hz; replace B0 := step B0 hb; clear hb; (have HT : Hid (Tw ((v.num.natAbs : Nat) : Int) ((v.den : Nat) : Int) t) := by show Tw _ _ _; rw [← HN.out, ← ED.out]; exact ht.out); clear ht; have sf := run_store_float
    by_cases h1 : 1023 < t
    ·
      have HU := HP.out.uno (place_far rfl rfl HT.out h1); obtain ⟨rfl, rfl⟩ := HU; (have g1 : decide (1023 < t) = true := by rw [decide_eq_true_iff]; exact h1); clear HP HT; clear c_Vn f0_Vn l_Vn m_Vn c_Vd f0_Vd l_Vd m_Vd; have c_V1 := V1.c0; have f0_V1 := V1.frozen 0; have d_V1 := V1.c1; have f1_V1 := V1.frozen 1; have l_V1 := V1.lt; have m_V1 := Nat.le_of_lt l_V1; (go_wp2_with fail); refine bodyPost_ret (results_pl rfl rfl (V1.set2 _ _)) rfl ?_; exact ⟨rfl, below_2 B0 (by omega) _ _⟩
    ·
      (have g1 : decide (1023 < t) = false := by rw [decide_eq_false_iff_not]; exact h1); have HB := HT.out.1; have HB2 := HT.out.2.1; obtain ⟨e, he⟩ := Int.eq_ofNat_of_zero_le (show 0 ≤ max (t - 52) (-1074) + 1074 by omega); (obtain ⟨pw8, hpw⟩ : ∃ pw8 : Int, max (t - 52) (-1074) = pw8 := ⟨_, rfl⟩); obtain ⟨u1, hu1⟩ := Int.eq_ofNat_of_zero_le (show 0 ≤ max (-pw8) 0 by omega); obtain ⟨u2, hu2⟩ := Int.eq_ofNat_of_zero_le (show 0 ≤ max pw8 0 by omega); (have w1 : IntKind.i64.wrap (t - 52) = t - 52 := by rw [IntKind.wrap_i64]; omega); (have w2 : IntKind.i64.wrap (-pw8) = -pw8 := by rw [IntKind.wrap_i64]; omega); (have HE : Hid ((e : Int) = max (t - 52) (-1074) + 1074 ∧ pw8 = (e : Int) - 1074 ∧ t ≤ 1023 ∧ u1 ≤ 1074 ∧ u2 ≤ 971) := by show _ ∧ _; omega); (have HU1 : Hid ((u1 : Int) = max (-((e : Int) - 1074)) 0 ∧ (u2 : Int) = max ((e : Int) - 1074) 0) := by show _ ∧ _; omega); (have HBX : Hid (bitsN zs + u1 ≤ 262144) := by show _ ≤ _; have h5 := (bits_limbs hz.limbs).2.2; have h6 := hz.2.1; have h7 := HL.out; have h8 := HE.out.2.2.2.1; omega)
      (have HBY : Hid (bitsN y3 + u2 ≤ 262144) := by show _ ≤ _; have h5 := (bits_limbs h3.limbs).2.2; have h6 := h3.2.1; have h7 := HM.out; have h8 := HE.out.2.2.2.2; omega); (have HBZ : Hid (bitsN y3 + u2 ≤ 100000) := by show _ ≤ _; have h5 := (bits_limbs h3.limbs).2.2; have h6 := h3.2.1; have h7 := HM.out; have h8 := HE.out.2.2.2.2; omega); clear he h1 HB HB2; clear c_Vn f0_Vn l_Vn m_Vn c_Vd f0_Vd l_Vd m_Vd; have c_Vn := Vn.cell; have f0_Vn := Vn.frozen 0; have l_Vn := Vn.lt; have m_Vn := Nat.le_of_lt l_Vn; (go_wp2_with fail); refine (nleft_b a l c zs u1 x2 hz HBX.out).mono ?_; rintro e x3 ⟨a5, l5, c5, z5, rfl, h5, E5, hb⟩; replace V1 := Va.after hb V1; replace Vn := Va.after hb Vn; replace Vd := Va.after hb Vd; replace h3 := Nt.after hb h3; replace hz := Nt.after hb hz; replace B0 := step B0 hb; clear hb; clear c_Vn f0_Vn l_Vn m_Vn; have c_Vn := Vn.cell; have f0_Vn := Vn.frozen 0; have l_Vn := Vn.lt; have m_Vn := Nat.le_of_lt l_Vn; have c_Vd := Vd.cell
      have f0_Vd := Vd.frozen 0; have l_Vd := Vd.lt; have m_Vd := Nat.le_of_lt l_Vd; (go_wp2_with fail); clear c_Vn f0_Vn l_Vn m_Vn c_Vd f0_Vd l_Vd m_Vd; refine sto1 Vn (.slice a5 l5 c5) (Q := fun W => Calls Tryz.prog _ _ W _) ?_; intro x4 V' oth far; replace V1 := oth _ _ _ (by first | omega | assumption | (simp; omega)) V1; replace Vd := oth _ _ _ (by first | omega | assumption | (simp; omega)) Vd; replace h3 := h3.far Vn (noInt1 _ _ _) far.1; replace hz := hz.far Vn (noInt1 _ _ _) far.1; replace h5 := h5.far Vn (noInt1 _ _ _) far.1; replace B0 := far.2 _ _ (by first | omega | (simp; omega)) B0; replace Vn := V'; clear oth far; refine (nleft_b b3 m3 d3 y3 u2 x4 h3 HBY.out).mono ?_; rintro e x5 ⟨b6, m6, d6, y6, rfl, h6, E6, hb⟩; replace V1 := Va.after hb V1; replace Vn := Va.after hb Vn; replace Vd := Va.after hb Vd; replace h3 := Nt.after hb h3; replace hz := Nt.after hb hz; replace h5 := Nt.after hb h5; replace B0 := step B0 hb; clear hb
      have c_Vn := Vn.cell; have f0_Vn := Vn.frozen 0; have l_Vn := Vn.lt; have m_Vn := Nat.le_of_lt l_Vn; have c_Vd := Vd.cell; have f0_Vd := Vd.frozen 0; have l_Vd := Vd.lt; have m_Vd := Nat.le_of_lt l_Vd; (go_wp2_with fail); clear c_Vn f0_Vn l_Vn m_Vn c_Vd f0_Vd l_Vd m_Vd; refine sto1 Vd (.slice b6 m6 d6) (Q := fun W => Calls Tryz.prog _ _ W _) ?_; intro x6 V' oth far; replace V1 := oth _ _ _ (by first | omega | assumption | (simp; omega)) V1; replace Vn := oth _ _ _ (by first | omega | assumption | (simp; omega)) Vn; replace h3 := h3.far Vd (noInt1 _ _ _) far.1; replace hz := hz.far Vd (noInt1 _ _ _) far.1; replace h5 := h5.far Vd (noInt1 _ _ _) far.1; replace h6 := h6.far Vd (noInt1 _ _ _) far.1; replace B0 := far.2 _ _ (by first | omega | (simp; omega)) B0; replace Vd := V'; clear oth far; (have HY6 : Hid (num y6 = ((v.den * 2 ^ u2 : Nat) : Int)) := by show _ = _; rw [E6.out.1, ED.out, Int.natCast_mul, pow_cast]); (have HZ5 : Hid (num z5 = ((v.num.natAbs * 2 ^ u1 : Nat) : Int)) := by show _ = _; rw [E5.out.1, HN.out, Int.natCast_mul, pow_cast])
      have HY0 : Hid (0 < v.den * 2 ^ u2) := Nat.mul_pos v.den_pos (two_pos u2); refine (ndiv_ok a5 b6 l5 c5 m6 d6 z5 y6 x6 h5 h6 (by rw [HY6.out]; have h9 := HY0.out; omega)).mono ?_; rintro e x7 ⟨aq, lq, kq, ar, lr, kr, zq, zr, rfl, hq, hr2, d1, d2, hb⟩; replace V1 := Va.after hb V1; replace Vn := Va.after hb Vn; replace Vd := Va.after hb Vd; replace h3 := Nt.after hb h3; replace hz := Nt.after hb hz; replace h5 := Nt.after hb h5; replace h6 := Nt.after hb h6; replace B0 := step B0 hb; clear hb; obtain ⟨n, hn⟩ := Int.eq_ofNat_of_zero_le hq.nonneg; obtain ⟨r, hrr⟩ := Int.eq_ofNat_of_zero_le hr2.nonneg
      have HQ : Hid (v.num.natAbs * 2 ^ u1 = n * (v.den * 2 ^ u2) + r ∧ r < v.den * 2 ^ u2) := by
        rw [HZ5.out, HY6.out, hn, hrr] at d1; rw [HY6.out, hrr] at d2; exact ⟨by exact_mod_cast d1, by exact_mod_cast d2⟩
      have HRB : Hid (bitsN zr + 1 ≤ 262144) := by
        have h8 := bits_le hr2.limbs h6.limbs (Int.le_of_lt d2); have h9 := E6.out.2; have h10 := HBZ.out
        show _ ≤ _
        omega
      have HNQ : Hid (num zq = (n : Int)) := hn; have HRR : Hid (num zr = (r : Int)) := hrr; clear hn hrr d1 d2; have c_V1 := V1.c0; have f0_V1 := V1.frozen 0; have d_V1 := V1.c1; have f1_V1 := V1.frozen 1; have l_V1 := V1.lt; have m_V1 := Nat.le_of_lt l_V1; (go_wp2_with fail); have lv1 := V1.lt; refine ent2 x7 _ _ _ _ (Q := fun W => Calls Tryz.prog _ _ W _) ?_; intro x8 hb hs_x8 Vq Vr; replace V1 := Va.after hb V1; replace Vn := Va.after hb Vn; replace Vd := Va.after hb Vd; replace h3 := Nt.after hb h3; replace hz := Nt.after hb hz; replace h5 := Nt.after hb h5; replace h6 := Nt.after hb h6; replace hq := Nt.after hb hq; replace hr2 := Nt.after hb hr2; replace B0 := step B0 hb; clear hb hs_x8; clear h5 hz h3 Vn; obtain ⟨pp, hpp, -⟩ := @pst_nat r (v.den * 2 ^ u2); (have HPP : Hid (pst (num zr) (num y6) = (pp : Int)) := by show _ = _; rw [HRR.out, HY6.out]; exact hpp); clear hpp
      have HA : Hid (n < 9007199254740992 ∧ ((n = 0 ∧ k = 0) ∨ ((e = 0 ∨ 4503599627370496 ≤ n) ∧ e ≤ 2045 ∧ e * 4503599627370496 + n = k)) ∧ pp = p) := by
        rcases Nat.eq_zero_or_pos v.num.natAbs with g | g
        · have g2 : v.num = 0 := by omega
          have hu := HP.out.uno (place_zero g2); have h7 := HQ.out.1; rw [g, Nat.zero_mul] at h7; (have h8 : n * (v.den * 2 ^ u2) = 0 := by omega); (have h9 : n = 0 := by rcases Nat.mul_eq_zero.1 h8 with h | h; exact h; have := HY0.out; omega); (have h10 : r = 0 := by omega); (have h11 : pst (num zr) (num y6) = 0 := by rw [HRR.out, h10]; rfl); rw [HPP.out] at h11; exact ⟨by omega, .inl ⟨h9, hu.1⟩, by omega⟩
        · obtain ⟨x1, x2, x3, x4⟩ := place_num rfl rfl g HT.out HE.out.2.2.1 HE.out.1 HU1.out.1 HU1.out.2 HQ.out.1 HQ.out.2
          have hu := (x4 pp (by rw [← HPP.out, HRR.out, HY6.out])).uno HP.out; exact ⟨x1, .inr ⟨x2, x3, hu.1⟩, hu.2⟩
      clear HP HT; refine (uint64_small aq lq kq zq x8 hq (by rw [HNQ.out]; have h9 := HA.out.1; omega)).mono ?_; rintro e x9 ⟨rfl, hb⟩; replace V1 := Va.after hb V1; replace Vd := Va.after hb Vd; replace Vq := Va.after hb Vq; replace Vr := Va.after hb Vr; replace h6 := Nt.after hb h6; replace hq := Nt.after hb hq; replace hr2 := Nt.after hb hr2; replace B0 := step B0 hb; clear hb; rw [HNQ.out]; clear c_V1 f0_V1 d_V1 f1_V1 l_V1 m_V1; (go_wp2_with fail)
      obtain ⟨TG, hTG⟩ : ∃ TG : (∀ w, Calls Tryz.prog 98 #[.int .u64 (n : Int), .int .i64 pw8] w fun x w' => x = .returned (.float .f64 k) ∧ Below w.heap.size w w'), True := ⟨by
        intro w
        rcases HA.out.2.1 with ⟨g1, g2⟩ | ⟨g1, g2, g3⟩
        · subst g1 g2
          refine (together_0 pw8 w).mono ?_; rintro e w' ⟨rfl, rfl⟩; exact ⟨rfl, Below.refl _ _⟩
        · rw [← g3]
          refine (together8 n e HA.out.1 g1 g2 pw8 HE.out.2.1 w).mono ?_; rintro e w' ⟨rfl, rfl⟩
          exact ⟨rfl, Below.refl _ _⟩, trivial⟩
      clear hTG; have HTG : Hid (∀ w, Calls Tryz.prog 98 #[.int .u64 (n : Int), .int .i64 pw8] w fun x w' => x = .returned (.float .f64 k) ∧ Below w.heap.size w w') := TG; clear TG; (have HPP2 : Hid (pst (num zr) (num y6) = (p : Int)) := by show _ = _; rw [HPP.out, HA.out.2.2]); clear HPP HA; clear hpw w1 w2 hu1 hu2; refine wp_region_noPanic ?_; replace V1 : Va x9.drew _ _ _ := V1; replace Vd : Va x9.drew _ _ _ := Vd; replace Vq : Va x9.drew _ _ _ := Vq; replace Vr : Va x9.drew _ _ _ := Vr; replace h6 := h6.drw; replace hq := hq.drw; replace hr2 := hr2.drw; replace B0 := Below.drew B0; refine wp_region_held_drew (S := (fun W => W.cell? ⟨x7.heap.size + 1, 0, none⟩ = some (.slice ar lr kr) ∧ W.cell? ⟨q4, 0, none⟩ = some (.slice b6 m6 d6))) (by kernel_rfl) ⟨Vr.cell, Vd.cell⟩ (fun hHeld => ?_); (obtain ⟨x10, hxd⟩ : ∃ xd, xd = x9.drew := ⟨_, rfl⟩); rw [← hxd] at V1 Vd Vq Vr h6 hq hr2 B0 hHeld ⊢; clear hxd; refine tk 0 rfl hHeld ?_; simp only [gA, gB, Act.put, gD, gE, gF]
      refine tk 1 rfl hHeld ?_; simp only [gA, gB, gC, Act.put, gD, gE, gF]; refine tk 3 rfl hHeld ?_; simp only [gA, gB, gC, Act.put, gD, gE, gF]; refine tk 4 rfl hHeld ?_; simp only [gA, gB, gC, Act.put, gD, gE, gF]; refine wpAnyH_ready (rs := [2]) (by kernel_rfl) (by simp) ?_; refine AllReadyH.cons rfl (fun K hK => ?_) AllReadyH.nil; simp only [gA, gB, gC]; (go_simp); refine (HTG.out _).mono ?_; rintro e x11 ⟨rfl, hb⟩; replace V1 := Va.after hb V1; replace Vd := Va.after hb Vd; replace Vq := Va.after hb Vq; replace Vr := Va.after hb Vr; replace h6 := Nt.after hb h6; replace hq := Nt.after hb hq; replace hr2 := Nt.after hb hr2; replace B0 := step B0 hb; clear hb; (try go_wp2_with fail); refine hK.out _ _ ⟨Vr.cell, Vd.cell⟩ (fun hHeld => ?_); clear hK K; refine wpAnyH_ready (rs := [5]) (by kernel_rfl) (by simp) ?_; refine AllReadyH.cons rfl (fun K hK => ?_) AllReadyH.nil; simp only [gA, gB, gC]; (go_simp); refine (pastOf8 ar lr kr zr b6 m6 d6 y6 _ hr2 h6 HRB).mono ?_
      rintro e x12 ⟨rfl, hb⟩; replace V1 := Va.after hb V1; replace Vd := Va.after hb Vd; replace Vq := Va.after hb Vq; replace Vr := Va.after hb Vr; replace h6 := Nt.after hb h6; replace hq := Nt.after hb hq; replace hr2 := Nt.after hb hr2; replace B0 := step B0 hb; clear hb; rw [HPP2.out]; (try go_wp2_with fail); refine hK.out _ _ ⟨Vr.cell, Vd.cell⟩ (fun hHeld => ?_); clear hK K; refine tk 6 rfl hHeld ?_; simp only [gA, gB, gC, Act.put, gD, gE, gF]; have c_V1 := V1.c0; have f0_V1 := V1.frozen 0; have d_V1 := V1.c1; have f1_V1 := V1.frozen 1; have l_V1 := V1.lt; have m_V1 := Nat.le_of_lt l_V1; refine wpAnyH_ready (rs := [7]) (by kernel_rfl) (by simp) ?_; refine AllReadyH.cons rfl (fun K hK => ?_) AllReadyH.nil; simp only [gA, gB, gC]; (go_simp); clear c_V1 f0_V1 d_V1 f1_V1 l_V1 m_V1; refine st2 V1 (.float .f64 k) (.int .i64 p) (Q := fun W => K _ W) ?_; intro x13 V' oth far; replace Vd := oth _ _ _ (by first | omega | assumption | (simp; omega)) Vd; replace Vq := oth _ _ _ (by first | omega | assumption | (simp; omega)) Vq
      replace Vr := oth _ _ _ (by first | omega | assumption | (simp; omega)) Vr; replace h6 := h6.far V1 (noIntP _ _) far.1; replace hq := hq.far V1 (noIntP _ _) far.1; replace hr2 := hr2.far V1 (noIntP _ _) far.1; replace B0 := far.2 _ _ (by first | omega | (simp; omega)) B0; replace V1 := V'; clear oth far; refine hK.out _ _ ⟨Vr.cell, Vd.cell⟩ (fun hHeld => ?_); clear hK K; refine wpAnyH_done (by kernel_rfl) ?_ _; refine NoPanic.normal ?_; clear hHeld; (go_wp2_with fail); refine bodyPost_ret (results_pl rfl rfl V1) rfl ?_; exact ⟨rfl, B0⟩

/-- The rung of the least float that is not below. -/
def upk (k p : Nat) : Nat := if p = 0 then k else k + 1
theorem high8 (k p : Nat) (hk : k < 9218868437227405312) (w : World) :
    Calls Tryz.prog 65 #[.agg #[.float .f64 k, .int .i64 p]] w fun e w' => e = .returned (.float .f64 (upk k p)) ∧ Below w.heap.size w w' := by
  have hu : upk k p = if p = 0 then k else k + 1 := rfl
  have O := outward8 k (by omega)
  have B0 : Below w.heap.size w w := Below.refl _ _
  by_cases hp : p = 0
  · rw [hu, if_pos hp]
    subst hp
    clear hu O
    go_enter Tryz.func65, Tryz.ntmps65
    go_wp2_with fail
    go_ret
    exact ⟨rfl, B0.alloc (Nat.le_refl _) _⟩
  · rw [hu, if_neg hp]
    have g : ((p : Int) == 0) = false := by rw [beq_eq_false_iff_ne]; omega
    have g2 : ¬ ((p : Int) = 0) := by omega
    obtain ⟨k1, hk1⟩ : ∃ k1, k + 1 = k1 := ⟨_, rfl⟩
    rw [hk1] at O ⊢
    clear hu hp hk1
    go_enter Tryz.func65, Tryz.ntmps65
    go_wp2_with fail
    refine (O _).mono ?_
    rintro e w' ⟨rfl, rfl⟩
    go_wp2_with fail
    go_ret
    exact ⟨rfl, B0.alloc (Nat.le_refl _) _⟩
end Go.Proofs.YtjlodljgfjjclaaGreat
