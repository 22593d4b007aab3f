import Derived.Test.YtngichjgfppnpaaGreatDoorMgAl
import Derived.Test.YtngichjgfppnpaaGreatDoorMgAk
import Derived.Test.YtngichjgfppnpaaGreatDoorRt16
import Derived.Test.YtngichjgfppnpaaGreatDoorMgAa
import Derived.Test.YtngichjgfppnpaaGreatDoorMgAe
namespace Go.Proofs.YtngichjgfppnpaaGreatDoor
open Go.RowKit Go.Shelf
set_option linter.unusedVariables false
set_option maxRecDepth 20000

theorem Rv.far {w : World} {r : Rc} {v : Rat} (h : Rv w r v) {b' : Nat} {t : TypeId} {cs : Array Value} (V : Va w b' t cs) (hn : NoInt cs) {w' : World} (k : ∀ c, c ≠ b' → w'.heap[c]? = w.heap[c]?) : Rv w' r v := Rt.far h V hn k

theorem sub_rc (p q : Rc) (x y v : Rat) (w : World) (h1 : Rv w p x) (h2 : Rv w q y) (he : x - y = v) (hs : Short v) :
    Calls Tryz.prog 52 #[.agg #[.bool p.s, .slice p.a p.l p.c, .slice p.b p.m p.d], .agg #[.bool q.s, .slice q.a q.l q.c, .slice q.b q.m q.d]] w fun e w' => ∃ r : Rc, e = .returned (.tuple #[.agg #[.bool r.s, .slice r.a r.l r.c, .slice r.b r.m r.d], .int .i64 0]) ∧ Rv w' r v ∧ Below w.heap.size w w' :=
  (qsub_to p.s p.a p.l p.c p.z p.b p.m p.d p.y x q.s q.a q.l q.c q.z q.b q.m q.d q.y y v w h1 h2 he hs).mono (by rintro e w' ⟨s, a, l, c, z, b, m, d, y, rfl, h, hb⟩; exact ⟨⟨s, a, l, c, z, b, m, d, y⟩, rfl, h, hb⟩)
theorem mul_rc (p q : Rc) (x y v : Rat) (w : World) (h1 : Rv w p x) (h2 : Rv w q y) (he : x * y = v) (hs : Short v) :
    Calls Tryz.prog 34 #[.agg #[.bool p.s, .slice p.a p.l p.c, .slice p.b p.m p.d], .agg #[.bool q.s, .slice q.a q.l q.c, .slice q.b q.m q.d]] w fun e w' => ∃ r : Rc, e = .returned (.tuple #[.agg #[.bool r.s, .slice r.a r.l r.c, .slice r.b r.m r.d], .int .i64 0]) ∧ Rv w' r v ∧ Below w.heap.size w w' :=
  (qmul_to p.s p.a p.l p.c p.z p.b p.m p.d p.y x q.s q.a q.l q.c q.z q.b q.m q.d q.y y v w h1 h2 he hs).mono (by rintro e w' ⟨s, a, l, c, z, b, m, d, y, rfl, h, hb⟩; exact ⟨⟨s, a, l, c, z, b, m, d, y⟩, rfl, h, hb⟩)
theorem add_rc (p q : Rc) (x y v : Rat) (w : World) (h1 : Rv w p x) (h2 : Rv w q y) (he : x + y = v) (hs : Short v) :
    Calls Tryz.prog 53 #[.agg #[.bool p.s, .slice p.a p.l p.c, .slice p.b p.m p.d], .agg #[.bool q.s, .slice q.a q.l q.c, .slice q.b q.m q.d]] w fun e w' => ∃ r : Rc, e = .returned (.tuple #[.agg #[.bool r.s, .slice r.a r.l r.c, .slice r.b r.m r.d], .int .i64 0]) ∧ Rv w' r v ∧ Below w.heap.size w w' :=
  (qadd_to p.s p.a p.l p.c p.z p.b p.m p.d p.y x q.s q.a q.l q.c q.z q.b q.m q.d q.y y v w h1 h2 he hs).mono (by rintro e w' ⟨s, a, l, c, z, b, m, d, y, rfl, h, hb⟩; exact ⟨⟨s, a, l, c, z, b, m, d, y⟩, rfl, h, hb⟩)
theorem quo_rc (p q : Rc) (x y v : Rat) (w : World) (h1 : Rv w p x) (h2 : Rv w q y) (he : x / y = v) (hs : Short v) (h0 : y ≠ 0) :
    Calls Tryz.prog 83 #[.agg #[.bool p.s, .slice p.a p.l p.c, .slice p.b p.m p.d], .agg #[.bool q.s, .slice q.a q.l q.c, .slice q.b q.m q.d]] w fun e w' => ∃ r : Rc, e = .returned (.tuple #[.agg #[.bool r.s, .slice r.a r.l r.c, .slice r.b r.m r.d], .int .i64 0]) ∧ Rv w' r v ∧ Below w.heap.size w w' :=
  (qquo_to p.s p.a p.l p.c p.z p.b p.m p.d p.y x q.s q.a q.l q.c q.z q.b q.m q.d q.y y v w h1 h2 he hs h0).mono (by rintro e w' ⟨s, a, l, c, z, b, m, d, y, rfl, h, hb⟩; exact ⟨⟨s, a, l, c, z, b, m, d, y⟩, rfl, h, hb⟩)
theorem small_rc (x y : Int) (h1 : -9223372036854775808 ≤ x) (h2 : x ≤ 9223372036854775807) (h3 : -9223372036854775808 ≤ y) (h4 : y ≤ 9223372036854775807) (h0 : y ≠ 0) (v : Rat) (w : World) (he : Rat.divInt x y = v) (hs : Short v) :
    Calls Tryz.prog 48 #[.int .i64 x, .int .i64 y] w fun e w' => ∃ r : Rc, e = .returned (.tuple #[.agg #[.bool r.s, .slice r.a r.l r.c, .slice r.b r.m r.d], .int .i64 0]) ∧ Rv w' r v ∧ Below w.heap.size w w' :=
  (qsmall_to x y h1 h2 h3 h4 h0 v w he hs).mono (by rintro e w' ⟨s, a, l, c, z, b, m, d, y, rfl, h, hb⟩; exact ⟨⟨s, a, l, c, z, b, m, d, y⟩, rfl, h, hb⟩)
theorem sign_rc (p : Rc) (x : Rat) (w : World) (h1 : Rv w p x) :
    Calls Tryz.prog 33 #[.agg #[.bool p.s, .slice p.a p.l p.c, .slice p.b p.m p.d]] w fun e w' => e = .returned (.int .i64 (Int.sign x.num)) ∧ Below w.heap.size w w' := qsign_any p.s p.a p.l p.c p.z p.b p.m p.d p.y x w h1
theorem cmp_rc (p q : Rc) (x y : Rat) (w : World) (h1 : Rv w p x) (h2 : Rv w q y) :
    Calls Tryz.prog 21 #[.agg #[.bool p.s, .slice p.a p.l p.c, .slice p.b p.m p.d], .agg #[.bool q.s, .slice q.a q.l q.c, .slice q.b q.m q.d]] w fun e w' => e = .returned (.int .i64 (qcmp x y)) ∧ Below w.heap.size w w' := qcompare_any p.s p.a p.l p.c p.z p.b p.m p.d p.y x q.s q.a q.l q.c q.z q.b q.m q.d q.y y w h1 h2
def Nm (r : Rc) (v : Rat) : Prop := Norm r.s r.z r.y ∧ iv r.s r.z = v.num ∧ num r.y = v.den
theorem of_rc (p : Rc) (v : Rat) (w : World) (h : Rd2 w p) (hl : p.l ≤ 1024) (hm : p.m ≤ 1024) (hN : Nm p v) :
    Calls Tryz.prog 25 #[.agg #[.bool p.s, .slice p.a p.l p.c, .slice p.b p.m p.d]] w fun e w' => ∃ r : Rc, e = .returned (.tuple #[.agg #[.bool r.s, .slice r.a r.l r.c, .slice r.b r.m r.d], .int .i64 0]) ∧ Rv w' r v ∧ Below w.heap.size w w' :=
  (qof_ok p.s p.a p.l p.c p.z p.b p.m p.d p.y v w h hl hm hN.1 hN.2.1 hN.2.2).mono (by rintro e w' ⟨s, a, l, c, z, b, m, d, y, rfl, h, -, hb⟩; exact ⟨⟨s, a, l, c, z, b, m, d, y⟩, rfl, h, hb⟩)
theorem of_bad_rc (p : Rc) (w : World) (h : Rd2 w p) (hl : p.l ≤ 1024) (hm : p.m ≤ 1024) (hN : ¬ Norm p.s p.z p.y) :
    Calls Tryz.prog 25 #[.agg #[.bool p.s, .slice p.a p.l p.c, .slice p.b p.m p.d]] w fun e w' => e = .returned (.tuple #[.agg #[.bool false, .slice none 0 0, .slice none 0 0], .int .i64 50]) ∧ Below w.heap.size w w' := qof_bad p.s p.a p.l p.c p.z p.b p.m p.d p.y w h hl hm hN
theorem sz_used {zs : List Int} {l k : Nat} (h : Limbs zs) (hu : usedN zs = l) : l ≤ k ↔ num zs < pw k :=
  ⟨fun q => lt_of_used h (by rw [hu]; exact q), fun q => by have := used_of_lt h q; rw [hu] at this; exact this⟩
theorem long_rc (p : Rc) (x : Rat) (w : World) (h : Rv w p x) :
    Calls Tryz.prog 35 #[.agg #[.bool p.s, .slice p.a p.l p.c, .slice p.b p.m p.d]] w fun e w' => ∃ n : Int, e = .returned (.int .i64 n) ∧ (∀ k : Nat, n ≤ k ↔ Sz k x) ∧ Below w.heap.size w w' := by
  have H := h
  refine (rlongr_any p.s p.a p.l p.c p.z p.b p.m p.d p.y w h.1 h.2.1).mono ?_
  rintro e w' ⟨b', m', d', ds', rfl, hd, he, hb⟩
  refine ⟨_, rfl, fun k => ?_, hb⟩
  have z0 := num_nonneg h.1.1.1.2.1
  have e1 : (x.num.natAbs : Int) = num p.z := by rw [← h.2.2.1]; generalize p.s = s; cases s <;> simp only [iv_t, iv_f] <;> omega
  have p1 : p.l ≤ k ↔ num p.z < pw k := sz_used h.1.1.1.2.1 h.1.1.2.1
  have p2 : m' ≤ k ↔ num ds' < pw k := sz_used hd.1.2.1 hd.2.1
  have e3 : dn p.y = x.den := h.2.2.2.1
  rw [he, e3] at p2
  unfold Sz
  rw [e1, ← p1, ← p2]
  omega
theorem rn_of {w w' : World} {p : Rc} {x : Rat} {g g' : Nat} {ys : List Int} (h : Rv w p x) (h1 : Ow w' g p.z) (h2 : Ow w' g' ys) (h4 : Limbs ys ∧ usedN ys = ys.length ∧ num ys = x.den) : Rn w' ⟨p.s, some ⟨g, 0, none⟩, p.l, p.l, p.z, some ⟨g', 0, none⟩, ys.length, ys.length, ys⟩ x := by
  refine ⟨?_, ?_, h.1.1.2.1, h4.2.1, ⟨Nat.le_refl _, Nat.le_refl _⟩, h.2.2.1, h4.2.2, h.1.2⟩
  · have := Own.sl h1 h.1.1.1.2.1
    rw [h.1.1.1.1] at this
    exact this
  · exact Own.sl h2 h4.1
theorem plain_rc (p : Rc) (x : Rat) (w : World) (h : Rv w p x) :
    Calls Tryz.prog 59 #[.agg #[.bool p.s, .slice p.a p.l p.c, .slice p.b p.m p.d]] w fun e w' => ∃ r : Rc, e = .returned (.agg #[.bool r.s, .slice r.a r.l r.c, .slice r.b r.m r.d]) ∧ Rn w' r x ∧ Below w.heap.size w w' := by
  have H := h
  refine (qplain_any p.s p.a p.l p.c p.z p.b p.m p.d p.y x w h).mono ?_
  rintro e w' ⟨g, g', ys, rfl, h1, h2, h3, h4, hb⟩
  exact ⟨⟨p.s, some ⟨g, 0, none⟩, p.l, p.l, p.z, some ⟨g', 0, none⟩, ys.length, ys.length, ys⟩, rfl, rn_of h h1 h2 h4.out, hb⟩
theorem sgn_lt (v : Rat) : (Int.sign v.num < 0) ↔ v < 0 := by
  rw [Int.sign_neg_iff, Rat.lt_iff]; simp
theorem sgn_eq (v : Rat) : (Int.sign v.num = 0) ↔ v = 0 := by
  rw [Int.sign_eq_zero_iff_zero]
  exact Rat.num_eq_zero
theorem cmp_gt (x y : Rat) : 0 < qcmp x y ↔ y < x := by
  rcases Rat.le_total (a := x) (b := y) with h | h
  · rcases Rat.le_iff_lt_or_eq.1 h with h | h
    · rw [qcmp_lt h]; exact ⟨fun h' => absurd h' (by decide), fun h' => by grind⟩
    · subst h; rw [qcmp_eq]; exact ⟨fun h' => absurd h' (by decide), fun h' => by grind⟩
  · rcases Rat.le_iff_lt_or_eq.1 h with h | h
    · rw [qcmp_gt h]; exact ⟨fun _ => h, fun _ => by decide⟩
    · subst h; rw [qcmp_eq]; exact ⟨fun h' => absurd h' (by decide), fun h' => by grind⟩
theorem cmp_lt' (x y : Rat) : qcmp x y < 0 ↔ x < y := by
  rcases Rat.le_total (a := x) (b := y) with h | h
  · rcases Rat.le_iff_lt_or_eq.1 h with h | h
    · rw [qcmp_lt h]; exact ⟨fun _ => h, fun _ => by decide⟩
    · subst h; rw [qcmp_eq]; exact ⟨fun h' => absurd h' (by decide), fun h' => by grind⟩
  · rcases Rat.le_iff_lt_or_eq.1 h with h | h
    · rw [qcmp_gt h]; exact ⟨fun h' => absurd h' (by decide), fun h' => by grind⟩
    · subst h; rw [qcmp_eq]; exact ⟨fun h' => absurd h' (by decide), fun h' => by grind⟩
theorem cmp_eq (x y : Rat) : qcmp x y = 0 ↔ x = y := by
  have h1 := cmp_gt x y
  have h2 := cmp_lt' x y
  constructor
  · intro h; have : ¬ (y < x) := fun h' => by have := h1.2 h'; omega
    have : ¬ (x < y) := fun h' => by have := h2.2 h'; omega
    grind
  · intro h; subst h; exact qcmp_eq x
end Go.Proofs.YtngichjgfppnpaaGreatDoor
namespace Go.Proofs.YtngichjgfppnpaaGreatDoor
open Go.RowKit Go.Shelf
set_option linter.unusedVariables false
set_option maxRecDepth 20000

theorem isCount_any (n : Int) (w : World) : Calls Tryz.prog 38 #[.int .i64 n] w fun e w' => e = .returned (.bool (decide (1 ≤ n ∧ n ≤ 8))) ∧ w' = w := by
  by_cases h1 : 1 ≤ n
  · by_cases h2 : n ≤ 8
    · have HE : Hid (decide (1 ≤ n ∧ n ≤ 8) = true) := by show _ = _; simp [h1, h2]
      go_enter Tryz.func38, Tryz.ntmps38
      go_wp2_with fail
      go_ret
      exact ⟨by rw [HE.out]; rfl, rfl⟩
    · have HE : Hid (decide (1 ≤ n ∧ n ≤ 8) = false) := by show _ = _; simp [h1, h2]
      go_enter Tryz.func38, Tryz.ntmps38
      go_wp2_with fail
      go_ret
      exact ⟨by simp; omega, rfl⟩
  · have HE : Hid (decide (1 ≤ n ∧ n ≤ 8) = false) := by show _ = _; simp [h1]
    go_enter Tryz.func38, Tryz.ntmps38
    go_wp2_with fail
    go_ret
    exact ⟨by simp; omega, rfl⟩
theorem isLong_any (r : Rc) (w : World) : Calls Tryz.prog 90 #[.agg #[.bool r.s, .slice r.a r.l r.c, .slice r.b r.m r.d]] w fun e w' => e = .returned (.bool (decide (3 < max (r.l : Int) (r.m : Int)))) ∧ Below w.heap.size w w' := by
  go_enter Tryz.func90, Tryz.ntmps90
  go_wp2_with fail
  go_ret
  exact ⟨rfl, (Below.refl _ _).alloc (Nat.le_refl _) _⟩
theorem one_div : Rat.divInt 1 1 = 1 := by decide +kernel
theorem hun_div : Rat.divInt 100 1 = 100 := by decide +kernel
theorem sz_one {n : Int} {d : Nat} (v : Rat) (h1 : v.num = n) (h2 : v.den = d) (hn : n.natAbs < 18446744073709551616) (hd : d < 18446744073709551616) : Sz 1 v := by
  unfold Sz
  rw [h1, h2]
  have : pw 1 = 18446744073709551616 := by decide
  rw [this]
  omega
theorem sz_1 : Sz 1 (1 : Rat) := sz_one (n := 1) (d := 1) 1 rfl rfl (by decide) (by decide)
theorem sz_100 : Sz 1 (100 : Rat) := sz_one (n := 100) (d := 1) 100 rfl rfl (by decide) (by decide)
theorem hundredth_any (p : Rc) (x : Rat) (n : Nat) (w : World) (hp : Rv w p x) (hn : Sz n x) (h10 : n ≤ 1000) :
    Calls Tryz.prog 40 #[.agg #[.bool p.s, .slice p.a p.l p.c, .slice p.b p.m p.d]] w fun e w' => ∃ r : Rc, e = .returned (.agg #[.bool r.s, .slice r.a r.l r.c, .slice r.b r.m r.d]) ∧ Rv w' r (x / 100) ∧ Below w.heap.size w w' := by
  have HS : Hid (Short (x / 100)) := by
    show Short _
    rw [Rat.div_def]
    exact (hn.mul (i := n) (j := 1) (show Sz 1 ((100 : Rat)⁻¹) from sz_one (n := 1) (d := 100) _ (by decide +kernel) (by decide +kernel) (by decide) (by decide))).short (by omega)
  have B0 : Below w.heap.size w w := Below.refl _ _
  go_enter Tryz.func40, Tryz.ntmps40
  go_wp2_with fail
  refine ent2 w _ _ _ _ (Q := fun W => Calls Tryz.prog _ _ W _) ?_
  intro x1 hb hs_x1 V1 V2
  replace hp := Rv.after hb hp
  replace B0 := step B0 hb
  clear hb hs_x1
  refine (small_rc 100 1 (by omega) (by omega) (by omega) (by omega) (by omega) 100 _ hun_div (sz_100.short (by omega))).mono ?_
  rintro e x2 ⟨q, rfl, hq, hb⟩
  replace V1 := V1.a hb
  replace V2 := V2.a hb
  replace hp := Rv.after hb hp
  replace B0 := step B0 hb
  clear hb
  have c_V1 := V1.d0
  have f0_V1 := V1.frozen 0
  have d_V1 := V1.d1
  have f1_V1 := V1.frozen 1
  have e_V1 := V1.d2
  have f2_V1 := V1.frozen 2
  have l_V1 := V1.lt
  have m_V1 := Nat.le_of_lt l_V1
  have c_V2 := V2.d0
  have f0_V2 := V2.frozen 0
  have d_V2 := V2.d1
  have f1_V2 := V2.frozen 1
  have e_V2 := V2.d2
  have f2_V2 := V2.frozen 2
  have l_V2 := V2.lt
  have m_V2 := Nat.le_of_lt l_V2
  go_wp2_with fail
  refine ent1 x2 _ _ (Q := fun W => Calls Tryz.prog _ _ W _) ?_
  intro x3 hb hs_x3 V3
  replace V1 := V1.a hb
  replace V2 := V2.a hb
  replace hp := Rv.after hb hp
  replace hq := Rv.after hb hq
  replace B0 := step B0 hb
  clear hb hs_x3
  clear c_V1 f0_V1 d_V1 f1_V1 e_V1 f2_V1 l_V1 m_V1 c_V2 f0_V2 d_V2 f1_V2 e_V2 f2_V2 l_V2 m_V2
  refine (quo_rc p q x 100 (x / 100) _ hp hq rfl HS.out (by decide +kernel)).mono ?_
  rintro e x4 ⟨r, rfl, hr, hb⟩
  replace V1 := V1.a hb
  replace V2 := V2.a hb
  replace V3 := V3.a hb
  replace hp := Rv.after hb hp
  replace hq := Rv.after hb hq
  replace B0 := step B0 hb
  clear hb
  clear V1 V3 hp hq
  have c_V2 := V2.d0
  have f0_V2 := V2.frozen 0
  have d_V2 := V2.d1
  have f1_V2 := V2.frozen 1
  have e_V2 := V2.d2
  have f2_V2 := V2.frozen 2
  have l_V2 := V2.lt
  have m_V2 := Nat.le_of_lt l_V2
  have p0_V2 := (V2.old (.cells #[.bool r.s, .slice r.a r.l r.c, .slice r.b r.m r.d] 36)).d0
  have q0_V2 := (V2.old (.cells #[.bool r.s, .slice r.a r.l r.c, .slice r.b r.m r.d] 36)).frozen 0
  have p1_V2 := (V2.old (.cells #[.bool r.s, .slice r.a r.l r.c, .slice r.b r.m r.d] 36)).d1
  have q1_V2 := (V2.old (.cells #[.bool r.s, .slice r.a r.l r.c, .slice r.b r.m r.d] 36)).frozen 1
  have p2_V2 := (V2.old (.cells #[.bool r.s, .slice r.a r.l r.c, .slice r.b r.m r.d] 36)).d2
  have q2_V2 := (V2.old (.cells #[.bool r.s, .slice r.a r.l r.c, .slice r.b r.m r.d] 36)).frozen 2
  go_wp2_with fail
  refine bodyPost_ret (results_r rfl rfl ((V2.set3 _ _ _).old _)) rfl ?_
  exact ⟨r, rfl, (hr.far V2 (noInt3 _ _ _ _ _ _ _) (fa3 _ _ _ _ _)).after ((Below.refl _ _).alloc (Nat.le_refl _) _), (belo3 B0 (by omega) _ _ _).alloc (by simp; omega) _⟩
def CkR (l : List Pq) (n : Nat) (er : Int) : Prop := (er = 0 ∧ ∀ j, j < n → Ck l j) ∨ (er = 180 ∧ ¬ ∀ j, j < n → Ck l j)
set_option maxHeartbeats 8000000 in
theorem check_any (b off n c : Nat) (xs : List Pc) (l : List Pq) (w : World) (hL : Le elT w (some ⟨b, off, none⟩) n xs) (hS : Ss w xs l) (hn : l.length = n) (h8 : n ≤ 8) :
    Calls Tryz.prog 41 #[.slice (some ⟨b, off, none⟩) n c] w fun e w' => ∃ er : Int, e = .returned (.int .i64 er) ∧ Hid (CkR l n er) ∧ Below w.heap.size w w' := by
  have HL : Hid (Le elT w (some ⟨b, off, none⟩) n xs) := hL; have HS : Hid (Ss w xs l) := hS; have HN : Hid (l.length = n) := hn; clear hL hS hn; have B0 : Below w.heap.size w w := Below.refl _ _
  go_enter Tryz.func41, Tryz.ntmps41
  (go_wp2_with fail); refine (small_rc 1 1 (by omega) (by omega) (by omega) (by omega) (by omega) 1 _ one_div (sz_1.short (by omega))).mono ?_; rintro e x1 ⟨r1, rfl, h1, hb⟩; replace B0 := step B0 hb; clear hb; (go_wp2_with fail); refine ent1 x1 _ _ (Q := fun W => Code.wp Tryz.prog _ _ _ W) ?_; intro x2 hb hs_x2 V1; replace h1 := Rv.after hb h1; replace B0 := step B0 hb; clear hb hs_x2; have HL2 : Hid (Le elT x2 (some ⟨b, off, none⟩) n xs) := HL.out.after B0; have HS2 : Hid (Ss x2 xs l) := HS.out.after B0; have HV1 : Hid (Va x2 (x1.heap.size) 36 #[.bool r1.s, .slice r1.a r1.l r1.c, .slice r1.b r1.m r1.d]) := V1; have H1 : Hid (Rv x2 r1 (1 : Rat)) := h1; have HB : Hid (Below w.heap.size w x2) := B0; have c1v := V1.d0; clear V1 h1 B0 HL HS c1v
  go_loopw [13] (fun i wr => ∃ k : Nat, k ≤ n ∧ i = .int .i64 k ∧ Hid (∀ j, j < k → Ck l j) ∧ Hid (Below x2.heap.size x2 wr)) (fun i _ => n - (intOf i).toNat)
  case atStart => exact ⟨0, Nat.zero_le _, rfl, fun j hj => absurd hj (by omega), Below.refl _ _⟩
  case round =>
    obtain ⟨k, hk, rfl, HO, HW⟩ := hrel
    by_cases hlt : k < n
    ·
      have B0 := HW.out; have V1 := Va.after B0 HV1.out; have h1 := H1.out.after B0; have hL := HL2.out.after B0; have hS := (HS2.out.after B0).2 k (by rw [HN.out]; exact hlt); have hc : At6 wr b (off + k * 6) (xs.getD k (Rc.nil, Rc.nil)) := hL.six rfl rfl k hlt; (obtain ⟨x, hx⟩ : ∃ x, aq l k = x := ⟨_, rfl⟩); (obtain ⟨y, hy⟩ : ∃ y, rq l k = y := ⟨_, rfl⟩); rw [hx, hy] at hS; have HX : Hid (aq l k = x ∧ rq l k = y) := ⟨hx, hy⟩; clear hx hy
      generalize xs.getD k (Rc.nil, Rc.nil) = p at hc hS
      obtain ⟨hp1, hp2⟩ := hS; (obtain ⟨sx, hsx⟩ : ∃ s, Int.sign x.num = s := ⟨_, rfl⟩); (obtain ⟨sy, hsy⟩ : ∃ s, Int.sign y.num = s := ⟨_, rfl⟩); (obtain ⟨cy, hcy⟩ : ∃ s, qcmp y 1 = s := ⟨_, rfl⟩); (have HSX : Hid (sx = 0 ↔ x = 0) := by have := sgn_eq x; rw [hsx] at this; exact this); (have HSY : Hid (sy < 0 ↔ y < 0) := by have := sgn_lt y; rw [hsy] at this; exact this); (have HCY : Hid (0 < cy ↔ 1 < y) := by have := cmp_gt y 1; rw [hcy] at this; exact this)
      by_cases h0 : k = 0
      ·
        subst h0; (replace hc : At6 wr b off p := by simpa using hc); obtain ⟨c0, c1, c2, c3, c4, c5⟩ := hc; have lb := cell_lt c0; (go_wp2_with fail); refine ent1 wr _ _ (Q := fun W => Calls Tryz.prog _ _ W _) ?_; intro x6 hb hs_x6 V6; replace V1 := V1.a hb; replace h1 := Rv.after hb h1; replace hp1 := Rv.after hb hp1; replace hp2 := Rv.after hb hp2; replace B0 := step B0 hb; clear hb hs_x6; clear c0 c1 c2 c3 c4 c5 lb; refine (sign_rc p.1 x _ hp1).mono ?_; rintro e x7 ⟨rfl, hb⟩; replace V1 := V1.a hb; replace V6 := V6.a hb; replace h1 := Rv.after hb h1; replace hp1 := Rv.after hb hp1; replace hp2 := Rv.after hb hp2; replace B0 := step B0 hb; clear hb; rw [hsx]
        by_cases g1 : sx = 0
        ·
          (have e4 : (sx != 0) = false := by simp [g1]); (go_wp2_with fail); refine wp_region_noPanic ?_; replace V1 : Va x7.drew _ _ _ := V1; replace V6 : Va x7.drew _ _ _ := V6; replace h1 := h1.drw; replace hp1 := hp1.drw; replace hp2 := hp2.drw; replace B0 := Below.drew B0; refine wp_region_held_drew (S := (fun W => True)) (by kernel_rfl) trivial (fun hHeld => ?_); (obtain ⟨x8, hxd⟩ : ∃ xd, xd = x7.drew := ⟨_, rfl⟩); rw [← hxd] at V1 V6 h1 hp1 hp2 B0 ⊢; clear hxd; refine tjz 0 hHeld ?_; refine tjz 1 hHeld ?_; refine tjz 2 hHeld ?_; refine wpAnyH_take (i := 3) (v := undef) rfl (by kernel_rfl) (by kernel_rfl) (by kernel_rfl) (fun _ _ _ h => h) (Or.inr ⟨by rfl, rfl⟩) hHeld ?_; simp only [gA, gB, gC, Act.put, gD, gE, gF]; refine wpAnyH_take (i := 4) (v := undef) rfl (by kernel_rfl) (by kernel_rfl) (by kernel_rfl) (fun _ _ _ h => h) (Or.inr ⟨by rfl, rfl⟩) hHeld ?_
          simp only [gA, gB, gC, Act.put, gD, gE, gF]; refine wpAnyH_take (i := 5) (v := undef) rfl (by kernel_rfl) (by kernel_rfl) (by kernel_rfl) (fun _ _ _ h => h) (Or.inr ⟨by rfl, rfl⟩) hHeld ?_; simp only [gA, gB, gC, Act.put, gD, gE, gF]; refine wpAnyH_take (i := 6) (v := undef) rfl (by kernel_rfl) (by kernel_rfl) (by kernel_rfl) (fun _ _ _ h => h) (Or.inr ⟨by rfl, rfl⟩) hHeld ?_; simp only [gA, gB, gC, Act.put, gD, gE, gF]; refine wpAnyH_take (i := 7) (v := undef) rfl (by kernel_rfl) (by kernel_rfl) (by kernel_rfl) (fun _ _ _ h => h) (Or.inr ⟨by rfl, rfl⟩) hHeld ?_; simp only [gA, gB, gC, Act.put, gD, gE, gF]; refine wpAnyH_take (i := 8) (v := undef) rfl (by kernel_rfl) (by kernel_rfl) (by kernel_rfl) (fun _ _ _ h => h) (Or.inr ⟨by rfl, rfl⟩) hHeld ?_; simp only [gA, gB, gC, Act.put, gD, gE, gF]; refine wpAnyH_take (i := 9) (v := undef) rfl (by kernel_rfl) (by kernel_rfl) (by kernel_rfl) (fun _ _ _ h => h) (Or.inr ⟨by rfl, rfl⟩) hHeld ?_
          simp only [gA, gB, gC, Act.put, gD, gE, gF]; refine wpAnyH_take (i := 10) (v := undef) rfl (by kernel_rfl) (by kernel_rfl) (by kernel_rfl) (fun _ _ _ h => h) (Or.inr ⟨by rfl, rfl⟩) hHeld ?_; simp only [gA, gB, gC, Act.put, gD, gE, gF]; refine wpAnyH_take (i := 11) (v := undef) rfl (by kernel_rfl) (by kernel_rfl) (by kernel_rfl) (fun _ _ _ h => h) (Or.inr ⟨by rfl, rfl⟩) hHeld ?_; simp only [gA, gB, gC, Act.put, gD, gE, gF]; refine wpAnyH_take (i := 12) (v := undef) rfl (by kernel_rfl) (by kernel_rfl) (by kernel_rfl) (fun _ _ _ h => h) (Or.inr ⟨by rfl, rfl⟩) hHeld ?_; simp only [gA, gB, gC, Act.put, gD, gE, gF]; refine tjz 13 hHeld ?_; refine tjz 14 hHeld ?_; refine dnz ?_; clear hHeld; have c_V6 := V6.e0; have f0_V6 := V6.frozen 0; have d_V6 := V6.e1; have f1_V6 := V6.frozen 1
          have e_V6 := V6.e2; have f2_V6 := V6.frozen 2; have j_V6 := V6.e3; have f3_V6 := V6.frozen 3; have k_V6 := V6.e4; have f4_V6 := V6.frozen 4; have z_V6 := V6.e5; have f5_V6 := V6.frozen 5; have l_V6 := V6.lt; have m_V6 := Nat.le_of_lt l_V6; (go_wp2_with fail); refine (sign_rc p.2 y _ hp2).mono ?_; rintro e x9 ⟨rfl, hb⟩; replace V1 := V1.a hb; replace V6 := V6.a hb; replace h1 := Rv.after hb h1; replace hp1 := Rv.after hb hp1; replace hp2 := Rv.after hb hp2; replace B0 := step B0 hb; clear hb; rw [hsy]
          by_cases g2 : sy < 0
          ·
            have e2 : decide (sy < 0) = true := decide_eq_true g2; clear c_V6 f0_V6 d_V6 f1_V6 e_V6 f2_V6 j_V6 f3_V6 k_V6 f4_V6 z_V6 f5_V6 l_V6 m_V6; (go_wp2_with fail); (go_wp2_with fail)
            go_ret
            exact ⟨_, rfl, Or.inr ⟨rfl, fun h => by have h' := h 0 hlt; have := HSY.out.1 g2; have := h'.r0; rw [HX.out.2] at this; grind⟩, step HB.out B0⟩
          ·
            have e2 : decide (sy < 0) = false := decide_eq_false g2; clear c_V6 f0_V6 d_V6 f1_V6 e_V6 f2_V6 j_V6 f3_V6 k_V6 f4_V6 z_V6 f5_V6 l_V6 m_V6; have c_V6 := V6.e0; have f0_V6 := V6.frozen 0; have d_V6 := V6.e1; have f1_V6 := V6.frozen 1; have e_V6 := V6.e2; have f2_V6 := V6.frozen 2; have j_V6 := V6.e3; have f3_V6 := V6.frozen 3; have k_V6 := V6.e4; have f4_V6 := V6.frozen 4; have z_V6 := V6.e5; have f5_V6 := V6.frozen 5; have l_V6 := V6.lt; have m_V6 := Nat.le_of_lt l_V6; have c_V1 := V1.d0; have f0_V1 := V1.frozen 0; have d_V1 := V1.d1; have f1_V1 := V1.frozen 1; have e_V1 := V1.d2; have f2_V1 := V1.frozen 2; have l_V1 := V1.lt; have m_V1 := Nat.le_of_lt l_V1; (go_wp2_with fail); refine (cmp_rc p.2 r1 y 1 _ hp2 h1).mono ?_; rintro e x10 ⟨rfl, hb⟩; replace V1 := V1.a hb; replace V6 := V6.a hb; replace h1 := Rv.after hb h1; replace hp1 := Rv.after hb hp1; replace hp2 := Rv.after hb hp2; replace B0 := step B0 hb; clear hb; rw [hcy]
            by_cases g3 : 0 < cy
            ·
              have e3 : decide (0 < cy) = true := decide_eq_true g3; clear c_V6 f0_V6 d_V6 f1_V6 e_V6 f2_V6 j_V6 f3_V6 k_V6 f4_V6 z_V6 f5_V6 l_V6 m_V6 c_V1 f0_V1 d_V1 f1_V1 e_V1 f2_V1 l_V1 m_V1; (go_wp2_with fail)
              go_ret
              exact ⟨_, rfl, Or.inr ⟨rfl, fun h => by have h' := h 0 hlt; have := HCY.out.1 g3; have := h'.r1; rw [HX.out.2] at this; grind⟩, step HB.out B0⟩
            ·
              have e3 : decide (0 < cy) = false := decide_eq_false g3; have HK : Hid (Ck l 0) := ⟨fun _ => by have h0 := HSX.out.1 g1; rw [← HX.out.1] at h0; exact h0, fun h => by omega, by rw [HX.out.2]; have := HSY.out; grind, by rw [HX.out.2]; have := HCY.out; grind⟩; clear c_V6 f0_V6 d_V6 f1_V6 e_V6 f2_V6 j_V6 f3_V6 k_V6 f4_V6 z_V6 f5_V6 l_V6 m_V6 c_V1 f0_V1 d_V1 f1_V1 e_V1 f2_V1 l_V1 m_V1; (go_wp2_with fail)
              go_roundw
              case measure => simp [intOf]; omega
              case rel =>
                refine ⟨0 + 1, by omega, by go_num, fun j hj => ?_, B0⟩
                rcases Nat.lt_or_ge j 0 with h' | h'
                · exact HO.out j h'
                · have e : j = 0 := by omega
                  subst e; exact HK.out
        ·
          (have e4 : (sx != 0) = true := by simp [g1]); (go_wp2_with fail)
          go_ret
          exact ⟨_, rfl, Or.inr ⟨rfl, fun h => by have h' := h 0 hlt; exact g1 (HSX.out.2 (by have := h'.z rfl; rw [← HX.out.1]; exact this))⟩, step HB.out B0⟩
      ·
        (obtain ⟨m, rfl⟩ : ∃ m, k = m + 1 := ⟨k - 1, by omega⟩); (have hmn : m < n := by omega); have hd : At6 wr b (off + m * 6) (xs.getD m (Rc.nil, Rc.nil)) := hL.six rfl rfl m hmn; have hS2 := ((HS2.out.after B0).2 m (by rw [HN.out]; exact hmn)).1; (obtain ⟨u, hu⟩ : ∃ u, aq l m = u := ⟨_, rfl⟩); rw [hu] at hS2; have HU : Hid (aq l m = u) := hu; clear hu
        generalize xs.getD m (Rc.nil, Rc.nil) = q at hd hS2
        (obtain ⟨cu, hcu⟩ : ∃ s, qcmp u x = s := ⟨_, rfl⟩); (have HCU : Hid (cu < 0 ↔ u < x) := by have := cmp_lt' u x; rw [hcu] at this; exact this); (have e0 : (((m + 1 : Nat) : Int) == 0) = false := by simp; omega); (have e1 : (0 : Int) < ((m + 1 : Nat) : Int) := by omega); have d1 : decide ((0 : Int) < ((m + 1 : Nat) : Int)) = true := decide_eq_true e1; (have e5 : ((m + 1 : Nat) : Int) - 1 = (m : Int) := by omega); obtain ⟨c0, c1, c2, c3, c4, c5⟩ := hc; have lb := cell_lt c0; (go_wp2_with fail); refine ent1 wr _ _ (Q := fun W => Code.wp Tryz.prog _ _ _ W) ?_; intro x11 hb hs_x11 V6; replace V1 := V1.a hb; replace h1 := Rv.after hb h1; replace hp1 := Rv.after hb hp1; replace hp2 := Rv.after hb hp2; replace hS2 := Rv.after hb hS2; replace hd := At6.after hb hd; replace B0 := step B0 hb; clear hb hs_x11; clear c0 c1 c2 c3 c4 c5 lb; refine wp_region_noPanic ?_; replace V1 : Va x11.drew _ _ _ := V1; replace V6 : Va x11.drew _ _ _ := V6
        replace h1 := h1.drw; replace hp1 := hp1.drw; replace hp2 := hp2.drw; replace hS2 := hS2.drw; replace hd := hd.drw; replace B0 := Below.drew B0; refine wp_region_held_drew (S := (fun W => W.cell? ⟨wr.heap.size, 0, none⟩ = some (.bool p.1.s) ∧ W.cell? ⟨wr.heap.size, 1, none⟩ = some (.slice p.1.a p.1.l p.1.c) ∧ W.cell? ⟨wr.heap.size, 2, none⟩ = some (.slice p.1.b p.1.m p.1.d) ∧ W.cell? ⟨wr.heap.size, 3, none⟩ = some (.bool p.2.s) ∧ W.cell? ⟨wr.heap.size, 4, none⟩ = some (.slice p.2.a p.2.l p.2.c) ∧ W.cell? ⟨wr.heap.size, 5, none⟩ = some (.slice p.2.b p.2.m p.2.d) ∧ W.cell? ⟨b, off + m * 6, none⟩ = some (.bool q.1.s) ∧ W.cell? ⟨b, off + m * 6 + 1, none⟩ = some (.slice q.1.a q.1.l q.1.c) ∧ W.cell? ⟨b, off + m * 6 + 2, none⟩ = some (.slice q.1.b q.1.m q.1.d))) (by kernel_rfl) ⟨V6.e0, V6.e1, V6.e2, V6.e3, V6.e4, V6.e5, hd.c0, hd.c1, hd.c2⟩ (fun hHeld => ?_); (obtain ⟨x12, hxd⟩ : ∃ xd, xd = x11.drew := ⟨_, rfl⟩)
        rw [← hxd] at V1 V6 h1 hp1 hp2 hS2 hd B0 hHeld ⊢; clear hxd; refine tjz 0 hHeld ?_; refine wpAnyH_take (i := 1) (v := .bool true) rfl (by kernel_rfl) (by kernel_rfl) (by kernel_rfl) (fun _ _ _ h => h) (Or.inl ⟨by rfl, ?_⟩) hHeld ?_
        · (intro W hSw; (try dsimp only at hSw); go_simp; first | (rw [d1]) | (simp; omega) | skip)
        simp only [gA, gB, gC, Act.put, gD, gE, gF]; refine tjz 2 hHeld ?_; refine tjz 3 hHeld ?_; refine tjz 4 hHeld ?_; refine wpAnyH_take (i := 5) (v := .int .i64 (m : Int)) rfl (by kernel_rfl) (by kernel_rfl) (by kernel_rfl) (fun _ _ _ h => h) (Or.inl ⟨by rfl, ?_⟩) hHeld ?_
        · (intro W hSw; (try dsimp only at hSw); go_simp; (simp only [IntKind.wrap_i64]; omega))
        simp only [gA, gB, gC, Act.put, gD, gE, gF]; refine tjz 6 hHeld ?_; refine tjz 7 hHeld ?_; refine tjz 8 hHeld ?_; refine tjz 9 hHeld ?_; refine tjz 10 hHeld ?_; refine ryz 11 (fun K hK => ?_); simp only [gA, gB, gC]; (go_simp); refine (cmp_rc q.1 p.1 u x _ hS2 hp1).mono ?_; rintro e x13 ⟨rfl, hb⟩; replace V1 := V1.a hb; replace V6 := V6.a hb; replace h1 := Rv.after hb h1; replace hp1 := Rv.after hb hp1; replace hp2 := Rv.after hb hp2; replace hS2 := Rv.after hb hS2; replace hd := At6.after hb hd; replace B0 := step B0 hb; clear hb; rw [hcu]; (try go_wp2_with fail); refine hK.out _ _ ⟨V6.e0, V6.e1, V6.e2, V6.e3, V6.e4, V6.e5, hd.c0, hd.c1, hd.c2⟩ (fun hHeld => ?_)
        clear hK K
        by_cases g1 : 0 ≤ cu
        ·
          have e4 : decide (0 ≤ cu) = true := decide_eq_true g1; refine wpAnyH_take (i := 12) (v := .bool true) rfl (by kernel_rfl) (by kernel_rfl) (by kernel_rfl) (fun _ _ _ h => h) (Or.inl ⟨by rfl, ?_⟩) hHeld ?_
          · (intro W hSw; (try dsimp only at hSw); go_simp; first | (rw [e4]) | (simp; omega) | skip)
          simp only [gA, gB, gC, Act.put, gD, gE, gF]; refine tjz 13 hHeld ?_; refine tjz 14 hHeld ?_; refine dnz ?_; clear hHeld; (go_wp2_with fail)
          go_ret
          exact ⟨_, rfl, Or.inr ⟨rfl, fun h => by have h' := h (m + 1) hlt; have := h'.u (by omega); rw [HX.out.1, show m + 1 - 1 = m from rfl, HU.out] at this; have := HCU.out.2 this; omega⟩, step HB.out B0⟩
        ·
          have e4 : decide (0 ≤ cu) = false := decide_eq_false g1; refine wpAnyH_take (i := 12) (v := .bool false) rfl (by kernel_rfl) (by kernel_rfl) (by kernel_rfl) (fun _ _ _ h => h) (Or.inl ⟨by rfl, ?_⟩) hHeld ?_
          · (intro W hSw; (try dsimp only at hSw); go_simp; first | (rw [e4]) | (simp; omega) | skip)
          simp only [gA, gB, gC, Act.put, gD, gE, gF]; refine tjz 13 hHeld ?_; refine tjz 14 hHeld ?_; refine dnz ?_; clear hHeld; have c_V6 := V6.e0; have f0_V6 := V6.frozen 0; have d_V6 := V6.e1; have f1_V6 := V6.frozen 1; have e_V6 := V6.e2; have f2_V6 := V6.frozen 2; have j_V6 := V6.e3; have f3_V6 := V6.frozen 3; have k_V6 := V6.e4; have f4_V6 := V6.frozen 4; have z_V6 := V6.e5; have f5_V6 := V6.frozen 5; have l_V6 := V6.lt; have m_V6 := Nat.le_of_lt l_V6; (go_wp2_with fail); refine (sign_rc p.2 y _ hp2).mono ?_; rintro e x14 ⟨rfl, hb⟩; replace V1 := V1.a hb; replace V6 := V6.a hb; replace h1 := Rv.after hb h1; replace hp1 := Rv.after hb hp1; replace hp2 := Rv.after hb hp2; replace hS2 := Rv.after hb hS2; replace hd := At6.after hb hd; replace B0 := step B0 hb; clear hb; rw [hsy]
          by_cases g2 : sy < 0
          ·
            have e2 : decide (sy < 0) = true := decide_eq_true g2; clear c_V6 f0_V6 d_V6 f1_V6 e_V6 f2_V6 j_V6 f3_V6 k_V6 f4_V6 z_V6 f5_V6 l_V6 m_V6; (go_wp2_with fail); (go_wp2_with fail)
            go_ret
            exact ⟨_, rfl, Or.inr ⟨rfl, fun h => by have h' := h (m + 1) hlt; have := HSY.out.1 g2; have := h'.r0; rw [HX.out.2] at this; grind⟩, step HB.out B0⟩
          ·
            have e2 : decide (sy < 0) = false := decide_eq_false g2; clear c_V6 f0_V6 d_V6 f1_V6 e_V6 f2_V6 j_V6 f3_V6 k_V6 f4_V6 z_V6 f5_V6 l_V6 m_V6; have c_V6 := V6.e0; have f0_V6 := V6.frozen 0; have d_V6 := V6.e1; have f1_V6 := V6.frozen 1; have e_V6 := V6.e2; have f2_V6 := V6.frozen 2; have j_V6 := V6.e3; have f3_V6 := V6.frozen 3; have k_V6 := V6.e4; have f4_V6 := V6.frozen 4; have z_V6 := V6.e5; have f5_V6 := V6.frozen 5; have l_V6 := V6.lt; have m_V6 := Nat.le_of_lt l_V6; have c_V1 := V1.d0; have f0_V1 := V1.frozen 0; have d_V1 := V1.d1; have f1_V1 := V1.frozen 1; have e_V1 := V1.d2; have f2_V1 := V1.frozen 2; have l_V1 := V1.lt; have m_V1 := Nat.le_of_lt l_V1; (go_wp2_with fail); refine (cmp_rc p.2 r1 y 1 _ hp2 h1).mono ?_; rintro e x15 ⟨rfl, hb⟩; replace V1 := V1.a hb; replace V6 := V6.a hb; replace h1 := Rv.after hb h1; replace hp1 := Rv.after hb hp1; replace hp2 := Rv.after hb hp2; replace hS2 := Rv.after hb hS2; replace hd := At6.after hb hd
            replace B0 := step B0 hb; clear hb; rw [hcy]
            by_cases g3 : 0 < cy
            ·
              have e3 : decide (0 < cy) = true := decide_eq_true g3; clear c_V6 f0_V6 d_V6 f1_V6 e_V6 f2_V6 j_V6 f3_V6 k_V6 f4_V6 z_V6 f5_V6 l_V6 m_V6 c_V1 f0_V1 d_V1 f1_V1 e_V1 f2_V1 l_V1 m_V1; (go_wp2_with fail)
              go_ret
              exact ⟨_, rfl, Or.inr ⟨rfl, fun h => by have h' := h (m + 1) hlt; have := HCY.out.1 g3; have := h'.r1; rw [HX.out.2] at this; grind⟩, step HB.out B0⟩
            ·
              have e3 : decide (0 < cy) = false := decide_eq_false g3; have HK : Hid (Ck l (m + 1)) := ⟨fun h => by omega, fun _ => by rw [HX.out.1, show m + 1 - 1 = m from rfl, HU.out]; exact HCU.out.1 (by omega), by rw [HX.out.2]; have := HSY.out; grind, by rw [HX.out.2]; have := HCY.out; grind⟩; clear c_V6 f0_V6 d_V6 f1_V6 e_V6 f2_V6 j_V6 f3_V6 k_V6 f4_V6 z_V6 f5_V6 l_V6 m_V6 c_V1 f0_V1 d_V1 f1_V1 e_V1 f2_V1 l_V1 m_V1; (go_wp2_with fail)
              go_roundw
              case measure => simp [intOf]; omega
              case rel =>
                refine ⟨(m + 1) + 1, by omega, by go_num, fun j hj => ?_, B0⟩
                rcases Nat.lt_or_ge j (m + 1) with h' | h'
                · exact HO.out j h'
                · have e : j = (m + 1) := by omega
                  subst e; exact HK.out
    ·
      (go_wp2_with fail)
      go_ret
      exact ⟨_, rfl, Or.inl ⟨rfl, fun j hj => HO.out j (by omega)⟩, step HB.out HW.out⟩
end Go.Proofs.YtngichjgfppnpaaGreatDoor
namespace Go.Proofs.YtngichjgfppnpaaGreatDoor
set_option linter.unusedVariables false
theorem ten_ne (P : Nat) : (10 : Int) ^ P ≠ 0 := Int.ne_of_gt (Int.pow_pos (by omega))
theorem cross {U : Int} {P : Nat} {v : Rat} (hv : v = Rat.divInt U (10 ^ P)) : v.num * 10 ^ P = U * v.den := by
  have h := Rat.num_divInt_den v
  rw [hv] at h
  have := (Rat.divInt_eq_divInt_iff (by have := (Rat.divInt U (10 ^ P)).den_nz; omega) (ten_ne P)).1 h
  rw [← hv] at this
  exact this
theorem few {U : Int} {P : Nat} {v : Rat} (hv : v = Rat.divInt U (10 ^ P)) (hc : 0 < P → U.natAbs % 10 ≠ 0) {p t : Nat} (hp : p ≤ P) (h : 10 ^ p = v.den * t) : p = P ∧ v.num * t = U := by
  have hx := cross hv
  have hd : (v.den : Int) ≠ 0 := by have := v.den_nz; omega
  obtain ⟨d, rfl⟩ : ∃ d, P = p + d := ⟨P - p, by omega⟩
  have h' : ((10 : Int)) ^ p = v.den * t := by exact_mod_cast h
  have e : U = v.num * t * 10 ^ d := by
    rw [Int.pow_add, h'] at hx
    have h3 : U * v.den = (v.num * t * 10 ^ d) * v.den := by rw [← hx]; grind
    exact Int.eq_of_mul_eq_mul_right hd h3
  rcases Nat.eq_zero_or_pos d with h0 | h0
  · subst h0
    exact ⟨rfl, by rw [e]; simp⟩
  · exfalso
    obtain ⟨f, rfl⟩ : ∃ f, d = f + 1 := ⟨d - 1, by omega⟩
    have h10 : (10 : Int) ∣ U := ⟨v.num * t * 10 ^ f, by rw [e, Int.pow_succ]; grind⟩
    exact hc (by omega) (by omega)
end Go.Proofs.YtngichjgfppnpaaGreatDoor
namespace Go.Proofs.YtngichjgfppnpaaGreatDoor
set_option linter.unusedVariables false
def Can (U : Int) (P : Nat) : Prop := P ≤ 9 ∧ (0 < P → U.natAbs % 10 ≠ 0)
theorem tmod_iff (U : Int) : U.tmod 10 = 0 ↔ U.natAbs % 10 = 0 := by rw [← Int.dvd_iff_tmod_eq_zero]; omega
end Go.Proofs.YtngichjgfppnpaaGreatDoor
