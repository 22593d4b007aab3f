import Derived.Test.YtngichjgfppnpaaGreatDoorMgAa
import Derived.Test.YtngichjgfppnpaaGreatDoorMgAo
import Derived.Test.YtngichjgfppnpaaGreatDoorMgAp
import Derived.Test.YtngichjgfppnpaaGreatDoorMgAk
import Derived.Test.YtngichjgfppnpaaGreatDoorMgAn
import Derived.Test.YtngichjgfppnpaaGreatDoorMgAl
import Derived.Test.YtngichjgfppnpaaGreatDoorBsQ
import Derived.BigRegion
namespace Go.Proofs.YtngichjgfppnpaaGreatDoor
open Go.RowKit Go.Shelf
set_option linter.unusedVariables false
set_option maxRecDepth 20000

theorem rn_nm {w : World} {r : Rc} {v : Rat} (h : Rn w r v) : Nm r v := by
  obtain ⟨h1, h2, u1, u2, -, e1, e2, hs⟩ := h
  have z0 := num_nonneg h1.2.1
  have y0 := num_nonneg h2.2.1
  have hd := v.den_pos
  have hab : (v.num.natAbs : Int) = num r.z := by rw [← e1]; generalize r.s = s; cases s <;> simp only [iv_t, iv_f] <;> omega
  refine ⟨⟨by rw [u1, h1.1], by rw [u2, h2.1], fun h0 => ?_, fun ⟨a, b⟩ => ?_, ?_⟩, e1, e2⟩
  · have hy : r.y = [] := List.eq_nil_of_length_eq_zero h0
    rw [hy] at e2
    simp [num] at e2
    omega
  · have hz : r.z = [] := List.eq_nil_of_length_eq_zero b
    exact hs a (by rw [hz]; rfl)
  · have hr := v.reduced
    have e3 : num r.y = (v.den : Int) := e2
    rw [← hab, e3]
    exact hr
theorem rn_len {w : World} {r : Rc} {v : Rat} (h : Rn w r v) {n : Nat} (hs : Sz n v) : r.l ≤ n ∧ r.m ≤ n := by
  obtain ⟨h1, h2, u1, u2, -, e1, e2, -⟩ := h
  have z0 := num_nonneg h1.2.1
  have hab : (v.num.natAbs : Int) = num r.z := by rw [← e1]; generalize r.s = s; cases s <;> simp only [iv_t, iv_f] <;> omega
  exact ⟨(sz_used h1.2.1 u1).2 (by rw [← hab]; exact hs.1), (sz_used h2.2.1 u2).2 (by rw [e2]; exact hs.2)⟩
theorem rn_uniq {w w' : World} {p q : Rc} {v : Rat} (h : Rn w p v) (g : Rn w' q v) : p.s = q.s ∧ p.l = q.l ∧ p.z = q.z ∧ p.m = q.m ∧ p.y = q.y := by
  obtain ⟨h1, h2, u1, u2, -, e1, e2, hs⟩ := h
  obtain ⟨g1, g2, v1, v2, -, f1, f2, gs⟩ := g
  have z0 := num_nonneg h1.2.1
  have y0 := num_nonneg g1.2.1
  have a1 : (v.num.natAbs : Int) = num p.z := by rw [← e1]; generalize p.s = s; cases s <;> simp only [iv_t, iv_f] <;> omega
  have a2 : (v.num.natAbs : Int) = num q.z := by rw [← f1]; generalize q.s = s; cases s <;> simp only [iv_t, iv_f] <;> omega
  have l1 : p.l = q.l := Nat.le_antisymm ((sz_used h1.2.1 u1).2 (by rw [← a1, a2]; exact (sz_used g1.2.1 v1).1 (Nat.le_refl _))) ((sz_used g1.2.1 v1).2 (by rw [← a2, a1]; exact (sz_used h1.2.1 u1).1 (Nat.le_refl _)))
  have l2 : p.m = q.m := Nat.le_antisymm ((sz_used h2.2.1 u2).2 (by rw [e2, ← f2]; exact (sz_used g2.2.1 v2).1 (Nat.le_refl _))) ((sz_used g2.2.1 v2).2 (by rw [f2, ← e2]; exact (sz_used h2.2.1 u2).1 (Nat.le_refl _)))
  have ez : p.z = q.z := num_inj h1.2.1 g1.2.1 (by rw [h1.1, g1.1, l1]) (by rw [← a1, a2])
  have ey : p.y = q.y := num_inj h2.2.1 g2.2.1 (by rw [h2.1, g2.1, l2]) (by rw [e2, f2])
  refine ⟨?_, l1, ez, l2, ey⟩
  rw [ez] at e1 hs
  have e3 := e1.trans f1.symm
  cases hp : p.s <;> cases hq : q.s <;> simp only [hp, hq, iv_t, iv_f] at e3
  · rfl
  · exact absurd (show num q.z = 0 by omega) (gs hq)
  · exact absurd (show num q.z = 0 by omega) (hs hp)
  · rfl
theorem same_rc {w0 : World} (p q : Rc) (v : Rat) (w : World) (h : Rn w p v) (g : Rn w q v) (hs : Sz 4000 v) :
    Calls Tryz.prog 58 #[.agg #[.bool p.s, .slice p.a p.l p.c, .slice p.b p.m p.d], .agg #[.bool q.s, .slice q.a q.l q.c, .slice q.b q.m q.d]] w fun e w' => e = .returned (.bool true) ∧ Below w.heap.size w w' := by
  obtain ⟨e1, e2, e3, e4, e5⟩ := rn_uniq h g
  have hl := rn_len g hs
  rw [e1, e2, e4]
  exact rsame5 q.s p.a q.a p.b q.b q.l q.m p.c q.c p.d q.d q.z q.y w (by have := h.1; rw [e2, e3] at this; exact this) g.1 (by have := h.2.1; rw [e4, e5] at this; exact this) g.2.1 (by omega) (by omega)
theorem number_rc (n : Int) (v : Rat) (h1 : -9223372036854775808 ≤ n) (h2 : n ≤ 9223372036854775807) (he : Rat.divInt n 1 = v) (hs : Sz 1 v) (w : World) :
    Calls Tryz.prog 16 #[.int .i64 n] w fun e w' => ∃ r : Rc, e = .returned (.agg #[.bool r.s, .slice r.a r.l r.c, .slice r.b r.m r.d]) ∧ Rv w' r v ∧ Below w.heap.size w w' := by
  have B0 : Below w.heap.size w w := Below.refl _ _
  go_enter Tryz.func16, Tryz.ntmps16
  go_wp2_with fail
  refine ent1 w _ _ (Q := fun W => Calls Tryz.prog _ _ W _) ?_
  intro x1 hb hs_x1 V2
  replace B0 := step B0 hb
  clear hb hs_x1
  refine (small_rc n 1 h1 h2 (by omega) (by omega) (by omega) v _ he (hs.short (by omega))).mono ?_
  rintro e x2 ⟨r, rfl, hr, hb⟩
  replace V2 := V2.a hb
  replace B0 := step B0 hb
  clear hb
  have c_V2 := V2.d0
  have f0_V2 := V2.frozen 0
  have d_V2 := V2.d1
  have f1_V2 := V2.frozen 1
  have e_V2 := V2.d2
  have f2_V2 := V2.frozen 2
  have l_V2 := V2.lt
  have m_V2 := Nat.le_of_lt l_V2
  have p0_V2 := (V2.old (.cells #[.bool r.s, .slice r.a r.l r.c, .slice r.b r.m r.d] 36)).d0
  have q0_V2 := (V2.old (.cells #[.bool r.s, .slice r.a r.l r.c, .slice r.b r.m r.d] 36)).frozen 0
  have p1_V2 := (V2.old (.cells #[.bool r.s, .slice r.a r.l r.c, .slice r.b r.m r.d] 36)).d1
  have q1_V2 := (V2.old (.cells #[.bool r.s, .slice r.a r.l r.c, .slice r.b r.m r.d] 36)).frozen 1
  have p2_V2 := (V2.old (.cells #[.bool r.s, .slice r.a r.l r.c, .slice r.b r.m r.d] 36)).d2
  have q2_V2 := (V2.old (.cells #[.bool r.s, .slice r.a r.l r.c, .slice r.b r.m r.d] 36)).frozen 2
  go_wp2_with fail
  refine bodyPost_ret (results_r rfl rfl ((V2.set3 _ _ _).old _)) rfl ?_
  exact ⟨r, rfl, (hr.far V2 (noInt3 _ _ _ _ _ _ _) (fa3 _ _ _ _ _)).after ((Below.refl _ _).alloc (Nat.le_refl _) _), (belo3 B0 (by omega) _ _ _).alloc (by simp; omega) _⟩
def bsA : List Br := [⟨0, 0, 10, 0⟩, ⟨100, 0, 20, 0⟩, ⟨5005, 1, 0, 0⟩]
theorem brackets_rc (w : World) : Calls Tryz.prog 15 #[] w fun e w' => ∃ g : Nat, e = .returned (.slice (some ⟨g, 0, none⟩) 3 3) ∧ Le elB w' (some ⟨g, 0, none⟩) 3 bsA ∧ Below w.heap.size w w' := by
  go_enter Tryz.func15, Tryz.ntmps15
  go_wp2_with fail
  go_ret
  exact ⟨_, rfl, Bk.le (E := elB) (xs := bsA) (Va.new w _ _), (Below.refl _ _).alloc (Nat.le_refl _) _⟩
def BsR (w : World) (r : Rc) (t : Bool) (p : Rc) : Prop := (t = true ∧ (p.l ≤ 1024 ∧ p.m ≤ 1024 ∧ ¬ (60 < p.l ∧ 60 < p.m)) ∧ ∃ v, Nm p v ∧ Rv w r v) ∨ (t = false ∧ Rv w r 0)
theorem BsR.after {w w' : World} (hb : Below w.heap.size w w') {r p : Rc} {t : Bool} (h : BsR w r t p) : BsR w' r t p := by
  rcases h with ⟨h0, h1, v, h2, h3⟩ | ⟨h0, h1⟩
  · exact .inl ⟨h0, h1, v, h2, h3.after hb⟩
  · exact .inr ⟨h0, h1.after hb⟩
set_option maxHeartbeats 8000000 in
theorem base_any (p : Rc) (w : World) (h : Rd2 w p) (hn : Lng p) :
    Calls Tryz.prog 8 #[.agg #[.bool p.s, .slice p.a p.l p.c, .slice p.b p.m p.d]] w fun e w' => ∃ (r : Rc) (t : Bool), e = .returned (.tuple #[.agg #[.bool r.s, .slice r.a r.l r.c, .slice r.b r.m r.d], .bool t]) ∧ Hid (BsR w' r t p) ∧ Below w.heap.size w w' := by
  have B0 : Below w.heap.size w w := Below.refl _ _
  by_cases h1 : 1024 < p.l
  ·
    have d1 : (1024 : Int) < (p.l : Int) := by omega
    go_enter Tryz.func8, Tryz.ntmps8
    go_wp2_with fail
    have VV := Va.new (w.alloc (.cells #[.bool p.s, .slice p.a p.l p.c, .slice p.b p.m p.d] 25)) 36 #[.bool false, .slice none 0 0, .slice none 0 0]
    rw [World.size_alloc] at VV
    refine bodyPost_ret (results_rt rfl rfl VV) rfl ?_
    first | exact ⟨Rc.nil, false, rfl, .inr ⟨rfl, Rv.nil _⟩, ((Below.refl _ _).alloc (Nat.le_refl _) _).alloc (by simp) _⟩ | exact ⟨Rc.nil, .inl ⟨rfl, .inr ⟨rfl, Rv.nil _⟩, ((Below.refl _ _).alloc (Nat.le_refl _) _).alloc (by simp) _⟩⟩
  ·
    have d1 : ¬ (1024 : Int) < (p.l : Int) := by omega
    by_cases h2 : 1024 < p.m
    ·
      have d2 : (1024 : Int) < (p.m : Int) := by omega
      go_enter Tryz.func8, Tryz.ntmps8
      go_wp2_with fail
      have VV := Va.new (w.alloc (.cells #[.bool p.s, .slice p.a p.l p.c, .slice p.b p.m p.d] 25)) 36 #[.bool false, .slice none 0 0, .slice none 0 0]
      rw [World.size_alloc] at VV
      refine bodyPost_ret (results_rt rfl rfl VV) rfl ?_
      first | exact ⟨Rc.nil, false, rfl, .inr ⟨rfl, Rv.nil _⟩, ((Below.refl _ _).alloc (Nat.le_refl _) _).alloc (by simp) _⟩ | exact ⟨Rc.nil, .inl ⟨rfl, .inr ⟨rfl, Rv.nil _⟩, ((Below.refl _ _).alloc (Nat.le_refl _) _).alloc (by simp) _⟩⟩
    ·
      have d2 : ¬ (1024 : Int) < (p.m : Int) := by omega
      by_cases h3 : 60 < p.l
      ·
        have d3 : (60 : Int) < (p.l : Int) := by omega
        by_cases h4 : 60 < p.m
        ·
          have d4 : (60 : Int) < (p.m : Int) := by omega
          go_enter Tryz.func8, Tryz.ntmps8
          go_wp2_with fail
          have VV := Va.new (w.alloc (.cells #[.bool p.s, .slice p.a p.l p.c, .slice p.b p.m p.d] 25)) 36 #[.bool false, .slice none 0 0, .slice none 0 0]
          rw [World.size_alloc] at VV
          refine bodyPost_ret (results_rt rfl rfl VV) rfl ?_
          first | exact ⟨Rc.nil, false, rfl, .inr ⟨rfl, Rv.nil _⟩, ((Below.refl _ _).alloc (Nat.le_refl _) _).alloc (by simp) _⟩ | exact ⟨Rc.nil, .inl ⟨rfl, .inr ⟨rfl, Rv.nil _⟩, ((Below.refl _ _).alloc (Nat.le_refl _) _).alloc (by simp) _⟩⟩
        ·
          have d4 : ¬ (60 : Int) < (p.m : Int) := by omega
          go_enter Tryz.func8, Tryz.ntmps8
          go_wp2_with fail
          refine ent2 w _ _ _ _ (Q := fun W => Calls Tryz.prog _ _ W _) ?_
          intro x1 hb hs_x1 V1 V2
          replace h := Rd2.after hb h
          replace B0 := step B0 hb
          clear hb hs_x1
          refine (check5 p.s p.a p.l p.c p.z p.b p.m p.d p.y _ h).mono ?_
          rintro e x2 ⟨er, rfl, hck, hb⟩
          replace V1 := V1.a hb
          replace V2 := V2.a hb
          replace h := Rd2.after hb h
          replace B0 := step B0 hb
          clear hb
          by_cases z : er = 0
          ·
            have HN : Hid (Norm p.s p.z p.y) := by
              rcases hck.out with ⟨h0, -⟩ | ⟨h0, -⟩ | ⟨-, -, -, h0⟩
              · omega
              · omega
              · exact h0
            subst z
            clear hck
            have c_V1 := V1.d0
            have f0_V1 := V1.frozen 0
            have d_V1 := V1.d1
            have f1_V1 := V1.frozen 1
            have e_V1 := V1.d2
            have f2_V1 := V1.frozen 2
            have l_V1 := V1.lt
            have m_V1 := Nat.le_of_lt l_V1
            go_wp2_with fail
            refine (copyR p _ h hn).mono ?_
            rintro e x3 ⟨q, rfl, hq, hsm, -, hb⟩
            replace V1 := V1.a hb
            replace V2 := V2.a hb
            replace h := Rd2.after hb h
            replace B0 := step B0 hb
            clear hb
            clear c_V1 f0_V1 d_V1 f1_V1 e_V1 f2_V1 l_V1 m_V1
            clear V1 h
            obtain ⟨v, e1, e2, -⟩ := norm_rat (s := q.s) hq.1.2.1 hq.2.1.2.1 (by rw [← hsm.1, ← hsm.2.2.1, ← hsm.2.2.2.2]; exact HN.out)
            have HNP : Hid (Nm p v) := ⟨HN.out, by rw [hsm.1, hsm.2.2.1]; exact e1, by rw [hsm.2.2.2.2]; exact e2⟩
            have hNq : Nm q v := ⟨by rw [← hsm.1, ← hsm.2.2.1, ← hsm.2.2.2.2]; exact HN.out, e1, e2⟩
            clear e1 e2
            go_wp2_with fail
            refine (of_rc q v _ hq (by have := hsm.2.1; omega) (by have := hsm.2.2.2.1; omega) hNq).mono ?_
            rintro e x4 ⟨r, rfl, hr, hb⟩
            replace V2 := V2.a hb
            replace hq := Rd2.after hb hq
            replace B0 := step B0 hb
            clear hb
            have c_V2 := V2.d0
            have f0_V2 := V2.frozen 0
            have d_V2 := V2.d1
            have f1_V2 := V2.frozen 1
            have e_V2 := V2.d2
            have f2_V2 := V2.frozen 2
            have l_V2 := V2.lt
            have m_V2 := Nat.le_of_lt l_V2
            have p0_V2 := (V2.old (.cells #[.bool r.s, .slice r.a r.l r.c, .slice r.b r.m r.d] 36)).d0
            have q0_V2 := (V2.old (.cells #[.bool r.s, .slice r.a r.l r.c, .slice r.b r.m r.d] 36)).frozen 0
            have p1_V2 := (V2.old (.cells #[.bool r.s, .slice r.a r.l r.c, .slice r.b r.m r.d] 36)).d1
            have q1_V2 := (V2.old (.cells #[.bool r.s, .slice r.a r.l r.c, .slice r.b r.m r.d] 36)).frozen 1
            have p2_V2 := (V2.old (.cells #[.bool r.s, .slice r.a r.l r.c, .slice r.b r.m r.d] 36)).d2
            have q2_V2 := (V2.old (.cells #[.bool r.s, .slice r.a r.l r.c, .slice r.b r.m r.d] 36)).frozen 2
            go_wp2_with fail
            refine bodyPost_ret (results_rt rfl rfl ((V2.set3 _ _ _).old _)) rfl ?_
            have FF : ∀ W, Rv W r v → BsR W r true p := fun W hW => .inl ⟨rfl, ⟨by omega, by omega, by omega⟩, v, HNP.out, hW⟩
            first | exact ⟨r, true, rfl, FF _ ((hr.far V2 (noInt3 _ _ _ _ _ _ _) (fa3 _ _ _ _ _)).after ((Below.refl _ _).alloc (Nat.le_refl _) _)), (belo3 B0 (by omega) _ _ _).alloc (by simp; omega) _⟩ | exact ⟨r, .inr ⟨rfl, FF _ ((hr.far V2 (noInt3 _ _ _ _ _ _ _) (fa3 _ _ _ _ _)).after ((Below.refl _ _).alloc (Nat.le_refl _) _)), (belo3 B0 (by omega) _ _ _).alloc (by simp; omega) _⟩⟩
          ·
            have z2 : (er != 0) = true := by simp [z]
            have z3 : (er == 0) = false := by simp [z]
            clear hck
            have c_V2 := V2.d0
            have f0_V2 := V2.frozen 0
            have d_V2 := V2.d1
            have f1_V2 := V2.frozen 1
            have e_V2 := V2.d2
            have f2_V2 := V2.frozen 2
            have l_V2 := V2.lt
            have m_V2 := Nat.le_of_lt l_V2
            go_wp2_with fail
            clear c_V2 f0_V2 d_V2 f1_V2 e_V2 f2_V2 l_V2 m_V2
            refine bodyPost_ret (results_rt rfl rfl (V2.set3 _ _ _)) rfl ?_
            first | exact ⟨Rc.nil, false, rfl, .inr ⟨rfl, Rv.nil _⟩, belo3 B0 (by omega) _ _ _⟩ | exact ⟨Rc.nil, .inl ⟨rfl, .inr ⟨rfl, Rv.nil _⟩, belo3 B0 (by omega) _ _ _⟩⟩
      ·
        have d3 : ¬ (60 : Int) < (p.l : Int) := by omega
        go_enter Tryz.func8, Tryz.ntmps8
        go_wp2_with fail
        refine ent2 w _ _ _ _ (Q := fun W => Calls Tryz.prog _ _ W _) ?_
        intro x5 hb hs_x5 V1 V2
        replace h := Rd2.after hb h
        replace B0 := step B0 hb
        clear hb hs_x5
        refine (check5 p.s p.a p.l p.c p.z p.b p.m p.d p.y _ h).mono ?_
        rintro e x6 ⟨er, rfl, hck, hb⟩
        replace V1 := V1.a hb
        replace V2 := V2.a hb
        replace h := Rd2.after hb h
        replace B0 := step B0 hb
        clear hb
        by_cases z : er = 0
        ·
          have HN : Hid (Norm p.s p.z p.y) := by
            rcases hck.out with ⟨h0, -⟩ | ⟨h0, -⟩ | ⟨-, -, -, h0⟩
            · omega
            · omega
            · exact h0
          subst z
          clear hck
          have c_V1 := V1.d0
          have f0_V1 := V1.frozen 0
          have d_V1 := V1.d1
          have f1_V1 := V1.frozen 1
          have e_V1 := V1.d2
          have f2_V1 := V1.frozen 2
          have l_V1 := V1.lt
          have m_V1 := Nat.le_of_lt l_V1
          go_wp2_with fail
          refine (copyR p _ h hn).mono ?_
          rintro e x7 ⟨q, rfl, hq, hsm, -, hb⟩
          replace V1 := V1.a hb
          replace V2 := V2.a hb
          replace h := Rd2.after hb h
          replace B0 := step B0 hb
          clear hb
          clear c_V1 f0_V1 d_V1 f1_V1 e_V1 f2_V1 l_V1 m_V1
          clear V1 h
          obtain ⟨v, e1, e2, -⟩ := norm_rat (s := q.s) hq.1.2.1 hq.2.1.2.1 (by rw [← hsm.1, ← hsm.2.2.1, ← hsm.2.2.2.2]; exact HN.out)
          have HNP : Hid (Nm p v) := ⟨HN.out, by rw [hsm.1, hsm.2.2.1]; exact e1, by rw [hsm.2.2.2.2]; exact e2⟩
          have hNq : Nm q v := ⟨by rw [← hsm.1, ← hsm.2.2.1, ← hsm.2.2.2.2]; exact HN.out, e1, e2⟩
          clear e1 e2
          go_wp2_with fail
          refine (of_rc q v _ hq (by have := hsm.2.1; omega) (by have := hsm.2.2.2.1; omega) hNq).mono ?_
          rintro e x8 ⟨r, rfl, hr, hb⟩
          replace V2 := V2.a hb
          replace hq := Rd2.after hb hq
          replace B0 := step B0 hb
          clear hb
          have c_V2 := V2.d0
          have f0_V2 := V2.frozen 0
          have d_V2 := V2.d1
          have f1_V2 := V2.frozen 1
          have e_V2 := V2.d2
          have f2_V2 := V2.frozen 2
          have l_V2 := V2.lt
          have m_V2 := Nat.le_of_lt l_V2
          have p0_V2 := (V2.old (.cells #[.bool r.s, .slice r.a r.l r.c, .slice r.b r.m r.d] 36)).d0
          have q0_V2 := (V2.old (.cells #[.bool r.s, .slice r.a r.l r.c, .slice r.b r.m r.d] 36)).frozen 0
          have p1_V2 := (V2.old (.cells #[.bool r.s, .slice r.a r.l r.c, .slice r.b r.m r.d] 36)).d1
          have q1_V2 := (V2.old (.cells #[.bool r.s, .slice r.a r.l r.c, .slice r.b r.m r.d] 36)).frozen 1
          have p2_V2 := (V2.old (.cells #[.bool r.s, .slice r.a r.l r.c, .slice r.b r.m r.d] 36)).d2
          have q2_V2 := (V2.old (.cells #[.bool r.s, .slice r.a r.l r.c, .slice r.b r.m r.d] 36)).frozen 2
          go_wp2_with fail
          refine bodyPost_ret (results_rt rfl rfl ((V2.set3 _ _ _).old _)) rfl ?_
          have FF : ∀ W, Rv W r v → BsR W r true p := fun W hW => .inl ⟨rfl, ⟨by omega, by omega, by omega⟩, v, HNP.out, hW⟩
          first | exact ⟨r, true, rfl, FF _ ((hr.far V2 (noInt3 _ _ _ _ _ _ _) (fa3 _ _ _ _ _)).after ((Below.refl _ _).alloc (Nat.le_refl _) _)), (belo3 B0 (by omega) _ _ _).alloc (by simp; omega) _⟩ | exact ⟨r, .inr ⟨rfl, FF _ ((hr.far V2 (noInt3 _ _ _ _ _ _ _) (fa3 _ _ _ _ _)).after ((Below.refl _ _).alloc (Nat.le_refl _) _)), (belo3 B0 (by omega) _ _ _).alloc (by simp; omega) _⟩⟩
        ·
          have z2 : (er != 0) = true := by simp [z]
          have z3 : (er == 0) = false := by simp [z]
          clear hck
          have c_V2 := V2.d0
          have f0_V2 := V2.frozen 0
          have d_V2 := V2.d1
          have f1_V2 := V2.frozen 1
          have e_V2 := V2.d2
          have f2_V2 := V2.frozen 2
          have l_V2 := V2.lt
          have m_V2 := Nat.le_of_lt l_V2
          go_wp2_with fail
          clear c_V2 f0_V2 d_V2 f1_V2 e_V2 f2_V2 l_V2 m_V2
          refine bodyPost_ret (results_rt rfl rfl (V2.set3 _ _ _)) rfl ?_
          first | exact ⟨Rc.nil, false, rfl, .inr ⟨rfl, Rv.nil _⟩, belo3 B0 (by omega) _ _ _⟩ | exact ⟨Rc.nil, .inl ⟨rfl, .inr ⟨rfl, Rv.nil _⟩, belo3 B0 (by omega) _ _ _⟩⟩
theorem is_rc (r q : Rc) (v : Rat) (w : World) (hr : Rv w r v) (hq : Rn w q v) (hs : Sz 4000 v) :
  Calls Tryz.prog 22 #[.agg #[.bool r.s, .slice r.a r.l r.c, .slice r.b r.m r.d], .agg #[.bool q.s, .slice q.a q.l q.c, .slice q.b q.m q.d]] w fun e w' => e = .returned (.bool true) ∧ Below w.heap.size w w' := by
 have hm : q.m ≠ 0 := by
  intro h0; have h1 := hq.2.1.1; have h2 := hq.2.2.2.2.2.2.1; rw [List.eq_nil_of_length_eq_zero (h1.trans h0)] at h2; have := v.den_pos
  simp [num] at h2
  omega
 (have hmb : ((q.m : Int) == 0) = false := by simp; omega); have B0 : Below w.heap.size w w := Below.refl _ _
 go_enter Tryz.func22, Tryz.ntmps22
 (go_wp2_with fail); refine ent2 w _ _ _ _ (Q := fun W => Code.wp Tryz.prog _ _ _ W) ?_; intro x1 hb hs_x1 V2 V3; replace hr := Rv.after hb hr; replace hq := Rn.after hb hq; replace B0 := step B0 hb; clear hb hs_x1; refine wp_region_noPanic ?_; replace V2 : Va x1.drew _ _ _ := V2; replace V3 : Va x1.drew _ _ _ := V3; replace hr := hr.drw; replace hq := hq.drw; replace B0 := Below.drew B0; refine wp_region_held_drew (S := (fun W => W.cell? ⟨w.heap.size, 0, none⟩ = some (.bool r.s) ∧ W.cell? ⟨w.heap.size, 1, none⟩ = some (.slice r.a r.l r.c) ∧ W.cell? ⟨w.heap.size, 2, none⟩ = some (.slice r.b r.m r.d) ∧ W.cell? ⟨w.heap.size + 1, 0, none⟩ = some (.bool q.s) ∧ W.cell? ⟨w.heap.size + 1, 1, none⟩ = some (.slice q.a q.l q.c) ∧ W.cell? ⟨w.heap.size + 1, 2, none⟩ = some (.slice q.b q.m q.d))) (by kernel_rfl) ⟨V2.d0, V2.d1, V2.d2, V3.d0, V3.d1, V3.d2⟩ (fun hHeld => ?_); (obtain ⟨x2, hxd⟩ : ∃ xd, xd = x1.drew := ⟨_, rfl⟩); rw [← hxd] at V2 V3 hr hq B0 hHeld ⊢
 clear hxd; refine tjz 0 hHeld ?_; refine tjz 2 hHeld ?_; refine ryz 1 (fun K hK => ?_); simp only [gA, gB, gC]; (go_simp); refine (plain_rc r v _ hr).mono ?_; rintro e x3 ⟨p, rfl, hp, hb⟩; replace V2 := V2.a hb; replace V3 := V3.a hb; replace hr := Rv.after hb hr; replace hq := Rn.after hb hq; replace B0 := step B0 hb; clear hb; (try go_wp2_with fail); refine hK.out _ _ ⟨V2.d0, V2.d1, V2.d2, V3.d0, V3.d1, V3.d2⟩ (fun hHeld => ?_); clear hK K; refine ryz 3 (fun K hK => ?_); simp only [gA, gB, gC]; (go_simp); refine (same_rc (w0 := w) p q v _ hp hq hs).mono ?_; rintro e x4 ⟨rfl, hb⟩; replace V2 := V2.a hb; replace V3 := V3.a hb; replace hr := Rv.after hb hr
 replace hq := Rn.after hb hq; replace hp := Rn.after hb hp; replace B0 := step B0 hb; clear hb; (try go_wp2_with fail); refine hK.out _ _ ⟨V2.d0, V2.d1, V2.d2, V3.d0, V3.d1, V3.d2⟩ (fun hHeld => ?_); clear hK K; refine tjz 4 hHeld ?_; refine dnz ?_; clear hHeld; (go_wp2_with fail)
 go_ret
 exact ⟨rfl, B0⟩
end Go.Proofs.YtngichjgfppnpaaGreatDoor
namespace Go.Proofs.YtngichjgfppnpaaGreatDoor
open Go.RowKit Go.Shelf
set_option linter.unusedVariables false

theorem size8 (x : Int) (h1 : -9223372036854775808 ≤ x) (h2 : x ≤ 9223372036854775807) (w : World) : Calls Tryz.prog 60 #[.int .i64 x] w fun e w' => e = .returned (.int .u64 (x.natAbs : Int)) ∧ w' = w := by
  obtain ⟨y, hy⟩ : ∃ y, x.natAbs = y := ⟨_, rfl⟩
  rw [hy]
  by_cases g : x < 0
  · have g1 : decide (x < 0) = true := decide_eq_true g
    have e1 : IntKind.u64.wrap x = x + 18446744073709551616 := by rw [IntKind.wrap_u64]; omega
    have e2 : IntKind.u64.wrap (-(x + 18446744073709551616)) = (y : Int) := by rw [IntKind.wrap_u64]; omega
    clear hy h1 h2
    go_enter Tryz.func60, Tryz.ntmps60
    go_wp2_with fail
    go_ret
    exact ⟨rfl, rfl⟩
  · have g1 : decide (x < 0) = false := decide_eq_false g
    have e1 : IntKind.u64.wrap x = (y : Int) := by rw [IntKind.wrap_u64]; omega
    clear hy h1 h2
    go_enter Tryz.func60, Tryz.ntmps60
    go_wp2_with fail
    go_ret
    exact ⟨rfl, rfl⟩
theorem common8 (x y : Nat) (hx : x < 18446744073709551616) (hy : y < 18446744073709551616) (w : World) : Calls Tryz.prog 61 #[.int .u64 (x : Int), .int .u64 (y : Int)] w fun e w' => e = .returned (.int .u64 (Nat.gcd x y : Int)) ∧ Below w.heap.size w w' := by
  obtain ⟨G, hG⟩ : ∃ G, Nat.gcd x y = G := ⟨_, rfl⟩
  rw [hG]
  have HG : Hid (Nat.gcd x y = G) := hG
  have HX : Hid (x < 18446744073709551616 ∧ y < 18446744073709551616) := ⟨hx, hy⟩
  clear hG hx hy
  go_enter Tryz.func61, Tryz.ntmps61
  go_wp2_with fail
  go_loopw [0, 1] (fun a b wr => (∃ q, wr = w.drewN q) ∧ ∃ (i j : Nat), a = .int .u64 (i : Int) ∧ b = .int .u64 (j : Int) ∧ Hid (i < 18446744073709551616 ∧ j < 18446744073709551616) ∧ Hid (Nat.gcd i j = G)) (fun _ b _ => (intOf b).toNat)
  case atStart => exact ⟨⟨0, rfl⟩, x, y, rfl, rfl, HX, HG⟩
  case round =>
    clear HX HG
    obtain ⟨⟨q, rfl⟩, i, j, rfl, rfl, HX, HG⟩ := hrel
    by_cases hz : j = 0
    · subst hz
      have hG : i = G := by rw [← HG.out, Nat.gcd_zero_right]
      subst hG
      go_wp2_with fail
      go_ret
      exact ⟨rfl, below_drewN (Below.refl _ _) q⟩
    · have g1 : decide (0 < (j : Int)) = true := by rw [decide_eq_true_iff]; omega
      have g2 : ((j : Int) == 0) = false := by rw [beq_eq_false_iff_ne]; omega
      have g3 : ¬ ((j : Int) = 0) := by omega
      have g4 : 0 < j := by omega
      obtain ⟨r, hr⟩ : ∃ r, i % j = r := ⟨_, rfl⟩
      have htm : (i : Int).tmod (j : Int) = (r : Int) := by rw [Int.tmod_eq_emod_of_nonneg (by omega), ← hr]; rfl
      have hlt : r < j := by rw [← hr]; exact Nat.mod_lt _ g4
      have HG2 : Hid (Nat.gcd j r = G) := by
        show _ = _
        rw [← hr, ← HG.out, Nat.gcd_comm i j, Nat.gcd_rec j i, Nat.gcd_comm]
      have HX2 : Hid (j < 18446744073709551616 ∧ r < 18446744073709551616) := ⟨HX.out.2, by have := HX.out.2; omega⟩
      clear hr hz
      go_wp2_with fail
      go_quiet (fail)
      go_wp2_with fail
      go_roundw
      case rel => exact ⟨⟨_, World.drewN_drewN _ _ _⟩, j, r, rfl, rfl, HX2, HG2⟩
      case measure => simp [intOf]; omega

theorem Va.limb {w : World} {b : Nat} {t : TypeId} {x : Int} (h : Va w b t #[.int .u64 x]) (hx : Word x) : Sl w (some ⟨b, 0, none⟩) 1 [x] := by
  refine ⟨rfl, ?_, fun _ => ⟨b, 0, rfl, fun i hi => ?_⟩⟩
  · intro z hz
    simp at hz; subst hz; exact hx
  · obtain rfl : i = 0 := by omega
    exact h.cell
def Rq (w : World) (v : Rat) (e : Ending) (w' : World) : Prop := ∃ s a l c zs b m d ys, e = .returned (.agg #[.bool s, .slice a l c, .slice b m d]) ∧ Rr w' s a l c zs b m d ys v ∧ Hid (Norm s zs ys ∧ l ≤ 1024 ∧ m ≤ 1024) ∧ Below w.heap.size w w'
theorem ratio_num {x y : Int} (x0 : x ≠ 0) (y0 : 0 < y) {n e : Nat} (hn : x.natAbs / Nat.gcd x.natAbs y.natAbs = n) (he : y.natAbs / Nat.gcd x.natAbs y.natAbs = e) :
    iv (decide (x < 0)) [(n : Int)] = (Rat.divInt x y).num ∧ num [(e : Int)] = (Rat.divInt x y).den ∧ n ≠ 0 ∧ e ≠ 0 ∧ Nat.gcd n e = 1 := by
  have g0 : 0 < Nat.gcd x.natAbs y.natAbs := Nat.gcd_pos_of_pos_left _ (by omega)
  have q1 : n * Nat.gcd x.natAbs y.natAbs = x.natAbs := by rw [← hn]; exact Nat.div_mul_cancel (Nat.gcd_dvd_left _ _)
  have q2 : e * Nat.gcd x.natAbs y.natAbs = y.natAbs := by rw [← he]; exact Nat.div_mul_cancel (Nat.gcd_dvd_right _ _)
  obtain ⟨r1, r2⟩ := rat_new x y (by omega) rfl q1 q2
  have n0 : n ≠ 0 := by intro h; rw [h, Nat.zero_mul] at q1; omega
  have e0 : e ≠ 0 := by intro h; rw [h, Nat.zero_mul] at q2; omega
  refine ⟨?_, ?_, n0, e0, ?_⟩
  · rw [r1, Int.sign_eq_one_of_pos y0, Int.one_mul]
    unfold iv
    by_cases g : x < 0
    · simp [g, num]
    · simp [g, num]
  · rw [r2]; simp [num]
  · rw [← hn, ← he]; exact Nat.gcd_div_gcd_div_gcd_of_pos_left (by omega)

theorem ratio_norm {s : Bool} {n d : Nat} {v : Rat} (h : iv s [(n : Int)] = v.num ∧ num [(d : Int)] = v.den ∧ n ≠ 0 ∧ d ≠ 0 ∧ Nat.gcd n d = 1) : Hid (Norm s [(n : Int)] [(d : Int)] ∧ 1 ≤ 1024 ∧ 1 ≤ 1024) := by
  obtain ⟨-, -, n0, d0, hg⟩ := h
  refine ⟨⟨?_, ?_, by simp, by simp, ?_⟩, by omega, by omega⟩
  · simp [usedN]; omega
  · simp [usedN]; omega
  · simp only [num, Int.mul_zero, Int.add_zero]
    exact hg
theorem ratio_rr {w : World} {s : Bool} {a b : Option Addr} {n d : Nat} {v : Rat} (h : iv s [(n : Int)] = v.num ∧ num [(d : Int)] = v.den ∧ n ≠ 0 ∧ d ≠ 0 ∧ Nat.gcd n d = 1) (h1 : Sl w a 1 [(n : Int)]) (h2 : Sl w b 1 [(d : Int)]) : Rr w s a 1 1 [(n : Int)] b 1 1 [(d : Int)] v := by
  obtain ⟨e1, e2, n0, d0, hg⟩ := h
  refine ⟨h1, h2, ?_, ?_, ⟨Nat.le_refl _, Nat.le_refl _⟩, e1, e2, fun _ => ?_⟩
  · simp [usedN]; omega
  · simp [usedN]; omega
  · simp [num]; omega

set_option maxHeartbeats 2000000 in
theorem ratioOf8 (x y : Int) (x0 : x ≠ 0) (x1 : -9223372036854775808 ≤ x) (x2 : x ≤ 9223372036854775807) (y0 : 0 < y) (y2 : y ≤ 9223372036854775807) (w : World) :
    Calls Tryz.prog 23 #[.int .i64 x, .int .i64 y] w fun e w' => Rq w (Rat.divInt x y) e w' := by
  (obtain ⟨n, hn⟩ : ∃ n, x.natAbs / Nat.gcd x.natAbs y.natAbs = n := ⟨_, rfl⟩); (obtain ⟨d, hd⟩ : ∃ d, y.natAbs / Nat.gcd x.natAbs y.natAbs = d := ⟨_, rfl⟩); have HR := ratio_num x0 y0 hn hd; have g0 : 0 < Nat.gcd x.natAbs y.natAbs := Nat.gcd_pos_of_pos_left _ (by omega); (have nb : n ≤ x.natAbs := by rw [← hn]; exact Nat.div_le_self _ _); (have db : d ≤ y.natAbs := by rw [← hd]; exact Nat.div_le_self _ _); (have HD1 : Hid (IntKind.u64.wrap ((x.natAbs : Int) / (Nat.gcd x.natAbs y.natAbs : Int)) = (n : Int)) := by show _ = _; rw [show ((x.natAbs : Int) / (Nat.gcd x.natAbs y.natAbs : Int)) = (n : Int) by rw [← hn]; rfl, IntKind.wrap_u64]; omega); (have HD2 : Hid (IntKind.u64.wrap ((y.natAbs : Int) / (Nat.gcd x.natAbs y.natAbs : Int)) = (d : Int)) := by show _ = _; rw [show ((y.natAbs : Int) / (Nat.gcd x.natAbs y.natAbs : Int)) = (d : Int) by rw [← hd]; rfl, IntKind.wrap_u64]; omega); have HS := size8 x x1 x2
  have HS2 := size8 y (by omega) y2; have HC := common8 x.natAbs y.natAbs (by omega) (by omega); (obtain ⟨X, hX⟩ : ∃ X, x.natAbs = X := ⟨_, rfl⟩); (obtain ⟨Y, hY⟩ : ∃ Y, y.natAbs = Y := ⟨_, rfl⟩); (obtain ⟨G, hG⟩ : ∃ G, Nat.gcd x.natAbs y.natAbs = G := ⟨_, rfl⟩); rw [hG] at HD1 HD2 HC g0; rw [hX] at HD1 HS HC; rw [hY] at HD2 HS2 HC; have HB : Hid (Word (n : Int) ∧ Word (d : Int)) := ⟨⟨by omega, by omega⟩, ⟨by omega, by omega⟩⟩; (have g1 : (y == 0) = false := by rw [beq_eq_false_iff_ne]; omega); (have g2 : (x == 0) = false := by rw [beq_eq_false_iff_ne]; omega); (have g3 : ¬ (y = 0) := by omega); (have g4 : decide (y < 0) = false := by rw [decide_eq_false_iff_not]; omega); (have g7 : ¬ (y < 0) := by omega); (have g5 : ¬ ((G : Int) = 0) := by omega); (have HG0 : Hid (¬ G = 0) := by show ¬ _; omega); (have g6 : ((G : Int) == 0) = false := by rw [beq_eq_false_iff_ne]; omega); have HSx : Hid (∀ w, Calls Tryz.prog 60 #[.int .i64 x] w fun e w' => e = .returned (.int .u64 (X : Int)) ∧ w' = w) := HS
  have HSy : Hid (∀ w, Calls Tryz.prog 60 #[.int .i64 y] w fun e w' => e = .returned (.int .u64 (Y : Int)) ∧ w' = w) := HS2; have HCo : Hid (∀ w, Calls Tryz.prog 61 #[.int .u64 (X : Int), .int .u64 (Y : Int)] w fun e w' => e = .returned (.int .u64 (G : Int)) ∧ Below w.heap.size w w') := HC; have HRR : Hid (iv (decide (x < 0)) [(n : Int)] = (Rat.divInt x y).num ∧ num [(d : Int)] = (Rat.divInt x y).den ∧ n ≠ 0 ∧ d ≠ 0 ∧ Nat.gcd n d = 1) := HR; (obtain ⟨sb, hsb⟩ : ∃ sb, decide (x < 0) = sb := ⟨_, rfl⟩); rw [hsb] at HRR; clear hX hY hG hn hd x1 x2 y0 y2 nb db HS HS2 HC HR g0; have B0 : Below w.heap.size w w := Below.refl _ _
  go_enter Tryz.func23, Tryz.ntmps23
  (go_wp2_with fail); refine ent1 w _ _ (Q := fun W => Calls Tryz.prog _ _ W _) ?_; intro x1 hb hs_x1 V4; replace B0 := step B0 hb; clear hb hs_x1; refine (HSx.out _).mono ?_; rintro e x2 ⟨rfl, hw⟩; rw [hw]; clear hw; (go_wp2_with fail); refine (HSy.out _).mono ?_; rintro e x3 ⟨rfl, hw⟩; rw [hw]; clear hw; (go_wp2_with fail); refine (HCo.out x1).mono ?_; rintro e x4 ⟨rfl, hb⟩; replace V4 := V4.a hb; replace B0 := step B0 hb; clear hb; (go_wp2_with fail); refine wp_region_noPanic ?_; replace V4 : Va x4.drew _ _ _ := V4; replace B0 := Below.drew B0; refine wp_region_held_drew (S := (fun W => True)) (by kernel_rfl) trivial (fun hHeld => ?_); (obtain ⟨x5, hxd⟩ : ∃ xd, xd = x4.drew := ⟨_, rfl⟩); rw [← hxd] at V4 B0 ⊢; clear hxd; refine tjz 0 hHeld ?_; refine wpAnyH_take (i := 1) (v := .bool sb) rfl (by kernel_rfl) (by kernel_rfl) (by kernel_rfl) (fun _ _ _ h => h) (Or.inl ⟨by rfl, ?_⟩) hHeld ?_
  · (intro W hSw; (try dsimp only at hSw); go_simp; first | rfl | (rw [hsb]) | skip)
  simp only [gA, gB, gC, Act.put, gD, gE, gF]; refine tjz 2 hHeld ?_; refine wpAnyH_take (i := 3) (v := .bool false) rfl (by kernel_rfl) (by kernel_rfl) (by kernel_rfl) (fun _ _ _ h => h) (Or.inl ⟨by rfl, ?_⟩) hHeld ?_
  · (intro W hSw; (try dsimp only at hSw); go_simp; first | rfl | (rw [g4]) | (simp; omega) | skip)
  simp only [gA, gB, gC, Act.put, gD, gE, gF]; refine wpAnyH_take (i := 4) (v := .bool sb) rfl (by kernel_rfl) (by kernel_rfl) (by kernel_rfl) (fun _ _ _ h => h) (Or.inl ⟨by rfl, ?_⟩) hHeld ?_
  · (intro W hSw; (try dsimp only at hSw); go_simp; first | rfl | (cases sb <;> rfl) | skip)
  simp only [gA, gB, gC, Act.put, gD, gE, gF]; refine tjz 5 hHeld ?_; refine tjz 6 hHeld ?_; refine wpAnyH_take (i := 7) (v := .int .u64 (n : Int)) rfl (by kernel_rfl) (by kernel_rfl) (by kernel_rfl) (fun _ _ _ h => h) (Or.inl ⟨by rfl, ?_⟩) hHeld ?_
  · (intro W hSw; (try dsimp only at hSw); go_simp; first | rfl | (rw [if_neg HG0.out, HD1.out]) | skip)
  simp only [gA, gB, gC, Act.put, gD, gE, gF]; refine tjz 9 hHeld ?_; refine tjz 10 hHeld ?_; refine wpAnyH_take (i := 11) (v := .int .u64 (d : Int)) rfl (by kernel_rfl) (by kernel_rfl) (by kernel_rfl) (fun _ _ _ h => h) (Or.inl ⟨by rfl, ?_⟩) hHeld ?_
  · (intro W hSw; (try dsimp only at hSw); go_simp; first | rfl | (rw [if_neg HG0.out, HD2.out]) | skip)
  simp only [gA, gB, gC, Act.put, gD, gE, gF]; refine wpAnyH_ready (rs := [8, 12]) (by kernel_rfl) (by simp) ?_; refine AllReadyH.cons rfl (fun K hK => ?_) (AllReadyH.cons rfl (fun K hK => ?_) AllReadyH.nil)
  ·
    simp only [gA, gB, gC]; (go_simp); have lt_Vn_V4 := V4.lt; have sz_Vn := B0.size; refine ent1 _ _ _ (Q := fun V => K _ V) ?_; intro x6 hb hs_ Vn; replace V4 := V4.a hb; replace B0 := step B0 hb; clear hb hs_; refine hK.out _ _ trivial (fun hHeld => ?_); clear hK K; refine ryz 12 (fun K hK => ?_)
    ·
      simp only [gA, gB, gC]; (go_simp); have lt_Vd_V4 := V4.lt; have lt_Vd_Vn := Vn.lt; have sz_Vd := B0.size; refine ent1 _ _ _ (Q := fun V => K _ V) ?_; intro x7 hb hs_ Vd; replace V4 := V4.a hb; replace Vn := Vn.a hb; replace B0 := step B0 hb; clear hb hs_; refine hK.out _ _ trivial (fun hHeld => ?_); clear hK K; refine tjz 13 hHeld ?_; have hzn := Vn.limb HB.out.1; have hzd := Vd.limb HB.out.2; clear Vn Vd; have c_V4 := V4.d0; have f0_V4 := V4.frozen 0; have d_V4 := V4.d1; have f1_V4 := V4.frozen 1; have e_V4 := V4.d2; have f2_V4 := V4.frozen 2; have l_V4 := V4.lt; have m_V4 := Nat.le_of_lt l_V4; refine ryz 14 (fun K hK => ?_); simp only [gA, gB, gC]; (go_simp); clear c_V4 f0_V4 d_V4 f1_V4 e_V4 f2_V4 l_V4 m_V4; refine sto3 V4 (.bool sb) (.slice (some ⟨x5.heap.size, 0, none⟩) 1 1) (.slice (some ⟨x6.heap.size, 0, none⟩) 1 1) (Q := fun W => K _ W) ?_
      intro x8 V' oth far; replace hzn := hzn.far V4 (noInt3 _ _ _ _ _ _ _) far.1; replace hzd := hzd.far V4 (noInt3 _ _ _ _ _ _ _) far.1; replace B0 := apz (far.2 _ _) B0; replace V4 := V'; clear oth far; refine hK.out _ _ trivial (fun hHeld => ?_); clear hK K; refine dnz ?_; clear hHeld; (go_wp2_with fail); refine bodyPost_ret (results_ra rfl rfl V4) rfl ?_; refine ⟨sb, _, 1, 1, [(n : Int)], _, 1, 1, [(d : Int)], rfl, ratio_rr HRR.out hzn hzd, ratio_norm HRR.out, B0⟩
  ·
    simp only [gA, gB, gC]; (go_simp); have lt_Vd_V4 := V4.lt; have sz_Vd := B0.size; refine ent1 _ _ _ (Q := fun V => K _ V) ?_; intro x6 hb hs_ Vd; replace V4 := V4.a hb; replace B0 := step B0 hb; clear hb hs_; refine hK.out _ _ trivial (fun hHeld => ?_); clear hK K; refine ryz 8 (fun K hK => ?_)
    ·
      simp only [gA, gB, gC]; (go_simp); have lt_Vn_V4 := V4.lt; have lt_Vn_Vd := Vd.lt; have sz_Vn := B0.size; refine ent1 _ _ _ (Q := fun V => K _ V) ?_; intro x7 hb hs_ Vn; replace V4 := V4.a hb; replace Vd := Vd.a hb; replace B0 := step B0 hb; clear hb hs_; refine hK.out _ _ trivial (fun hHeld => ?_); clear hK K; refine tjz 13 hHeld ?_; have hzn := Vn.limb HB.out.1; have hzd := Vd.limb HB.out.2; clear Vn Vd; have c_V4 := V4.d0; have f0_V4 := V4.frozen 0; have d_V4 := V4.d1; have f1_V4 := V4.frozen 1; have e_V4 := V4.d2; have f2_V4 := V4.frozen 2; have l_V4 := V4.lt; have m_V4 := Nat.le_of_lt l_V4; refine ryz 14 (fun K hK => ?_); simp only [gA, gB, gC]; (go_simp); clear c_V4 f0_V4 d_V4 f1_V4 e_V4 f2_V4 l_V4 m_V4; refine sto3 V4 (.bool sb) (.slice (some ⟨x6.heap.size, 0, none⟩) 1 1) (.slice (some ⟨x5.heap.size, 0, none⟩) 1 1) (Q := fun W => K _ W) ?_
      intro x8 V' oth far; replace hzn := hzn.far V4 (noInt3 _ _ _ _ _ _ _) far.1; replace hzd := hzd.far V4 (noInt3 _ _ _ _ _ _ _) far.1; replace B0 := apz (far.2 _ _) B0; replace V4 := V'; clear oth far; refine hK.out _ _ trivial (fun hHeld => ?_); clear hK K; refine dnz ?_; clear hHeld; (go_wp2_with fail); refine bodyPost_ret (results_ra rfl rfl V4) rfl ?_; refine ⟨sb, _, 1, 1, [(n : Int)], _, 1, 1, [(d : Int)], rfl, ratio_rr HRR.out hzn hzd, ratio_norm HRR.out, B0⟩

end Go.Proofs.YtngichjgfppnpaaGreatDoor
