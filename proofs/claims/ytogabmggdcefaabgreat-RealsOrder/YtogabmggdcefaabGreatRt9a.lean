/-
  The document's Check; may, tiny, fine of the statements of layer 5.
-/
import Derived.Test.YtogabmggdcefaabGreatRt8
namespace Go.Proofs.YtogabmggdcefaabGreat
open Go.RowKit Go.Shelf
set_option linter.unusedVariables false

/-- A ratio is normal. -/
def Norm (s : Bool) (zs ys : List Int) : Prop := usedN zs = zs.length ∧ usedN ys = ys.length ∧ ys.length ≠ 0 ∧ ¬ (s = true ∧ zs.length = 0) ∧ Int.gcd (num zs) (num ys) = 1
/-- A ratio that is handed in. -/
def Ri (w : World) (a : Option Addr) (l c : Nat) (zs : List Int) (b : Option Addr) (m d : Nat) (ys : List Int) : Prop := Sl w a l zs ∧ Sl w b m ys ∧ l ≤ c ∧ m ≤ d
theorem Ri.after {w w' : World} (hb : Below w.heap.size w w') {a : Option Addr} {l c : Nat} {zs : List Int} {b : Option Addr} {m d : Nat} {ys : List Int} (h : Ri w a l c zs b m d ys) : Ri w' a l c zs b m d ys := ⟨h.1.below hb (Nat.le_refl _), h.2.1.below hb (Nat.le_refl _), h.2.2⟩
theorem Ri.drw {w : World} {a : Option Addr} {l c : Nat} {zs : List Int} {b : Option Addr} {m d : Nat} {ys : List Int} (h : Ri w a l c zs b m d ys) : Ri w.drew a l c zs b m d ys := h
theorem Ri.far {w : World} {a : Option Addr} {l c : Nat} {zs : List Int} {b : Option Addr} {m d : Nat} {ys : List Int} (h : Ri w a l c zs b m d ys) {b' : Nat} {t : TypeId} {cs : Array Value} (V : Va w b' t cs) (hn : NoInt cs) {w' : World} (k : ∀ c, c ≠ b' → w'.heap[c]? = w.heap[c]?) : Ri w' a l c zs b m d ys := ⟨h.1.far V hn k, h.2.1.far V hn k, h.2.2⟩
theorem used_last {zs : List Int} {k : Nat} (h : zs.length = k + 1) : (usedN zs = k + 1) ↔ zs.getD k 0 ≠ 0 := by
  constructor
  · intro e
    have := usedN_top zs (by omega)
    rw [e] at this
    exact this
  · intro e
    exact usedN_eq (by omega) (fun i h1 h2 => by omega) (Or.inr (by simpa using e))
/-- A normal ratio is a number. -/
theorem norm_rat {s : Bool} {zs ys : List Int} (hz : Limbs zs) (hy : Limbs ys) (h : Norm s zs ys) : ∃ v : Rat, iv s zs = v.num ∧ num ys = v.den ∧ (s = true → num zs ≠ 0) := by
  have z0 := num_nonneg hz
  have y0 := num_nonneg hy
  have y1 : num ys ≠ 0 := fun e => h.2.2.1 (by rw [← h.2.1]; exact (num_eq_zero hy).1 e)
  have c : (iv s zs).natAbs.gcd (num ys).toNat = 1 := by
    have e1 : (iv s zs).natAbs = (num zs).natAbs := by cases s <;> simp only [iv_t, iv_f] <;> omega
    have e2 : (num ys).toNat = (num ys).natAbs := by omega
    rw [e1, e2]
    exact h.2.2.2.2
  refine ⟨⟨iv s zs, (num ys).toNat, by omega, c⟩, rfl, by show num ys = ((num ys).toNat : Int); omega, fun e1 e2 => h.2.2.2.1 ⟨e1, by rw [← h.1]; exact (num_eq_zero hz).1 e2⟩⟩

theorem trimmed5 (a : Option Addr) (l c : Nat) (zs : List Int) (w : World) (h : Sl w a l zs) (hl : l ≤ 40000000000000) :
    Calls Tryz.prog 53 #[.slice a l c] w fun e w' => e = .returned (.bool (decide (usedN zs = l))) ∧ Below w.heap.size w w' := by
  rcases l with _ | k
  · have e0 : decide (usedN zs = 0) = true := by simp; have := usedN_le zs; have := h.1; omega
    rw [e0]
    clear e0 h
    go_enter Tryz.func53, Tryz.ntmps53
    go_wp2_with fail
    go_ret
    exact ⟨rfl, Below.refl _ _⟩
  · obtain ⟨b, off, rfl, hc⟩ := h.2.2 (by omega)
    have hck := hc k (by omega)
    have hu := used_last h.1
    obtain ⟨x, hx⟩ : ∃ x, zs.getD k 0 = x := ⟨_, rfl⟩
    rw [hx] at hck hu
    have e1 : (x != 0) = decide (usedN zs = k + 1) := by
      by_cases hh : x = 0
      · subst hh; simp at hu; simp; omega
      · simp only [hu.2 hh]; simp [hh]
    have e2 : IntKind.i64.wrap ((((k + 1 : Nat) : Int)) - 1) = (k : Int) := by rw [IntKind.wrap_i64]; omega
    obtain ⟨q, hq⟩ : ∃ q : Bool, decide (usedN zs = k + 1) = q := ⟨_, rfl⟩
    rw [hq] at e1 ⊢
    clear hq hu hx hc h
    go_enter Tryz.func53, Tryz.ntmps53
    go_wp2_with fail
    go_ret
    exact ⟨rfl, Below.refl _ _⟩

theorem one5 (w : World) :
    Calls Tryz.prog 56 #[] w fun e w' => ∃ g, e = .returned (.slice (some ⟨g, 0, none⟩) 1 1) ∧ Sl w' (some ⟨g, 0, none⟩) 1 [1] ∧ Below w.heap.size w w' := by
  go_enter Tryz.func56, Tryz.ntmps56
  go_wp2_with fail
  go_ret
  exact ⟨w.heap.size, rfl, sl_one w 1 ⟨by omega, by omega⟩, (Below.refl _ _).alloc (Nat.le_refl _) _⟩

/-- What Check answers. -/
def Chk (s : Bool) (l m : Nat) (zs ys : List Int) (er : Int) : Prop := (er = 3 ∧ (1024 < l ∨ 1024 < m)) ∨ (er = 50 ∧ l ≤ 1024 ∧ m ≤ 1024 ∧ ¬ Norm s zs ys) ∨ (er = 0 ∧ l ≤ 1024 ∧ m ≤ 1024 ∧ Norm s zs ys)
set_option maxHeartbeats 8000000 in
theorem check5 (s : Bool) (a : Option Addr) (l c : Nat) (zs : List Int) (b : Option Addr) (m d : Nat) (ys : List Int) (w : World) (h : Ri w a l c zs b m d ys) :
    Calls Tryz.prog 21 #[.agg #[.bool s, .slice a l c, .slice b m d]] w fun e w' => ∃ er, e = .returned (.int .i64 er) ∧ Hid (Chk s l m zs ys er) ∧ Below w.heap.size w w' := by
  have hzl := h.1.1
  have hyl := h.2.1.1
  by_cases h1 : 1024 < l
  ·
    have B0 : Below w.heap.size w w := Below.refl _ _
    go_enter Tryz.func21, Tryz.ntmps21
    go_wp2_with fail
    go_ret
    exact ⟨_, rfl, Or.inl ⟨rfl, Or.inl h1⟩, B0.alloc (Nat.le_refl _) _⟩
  by_cases h2 : 1024 < m
  ·
    have B0 : Below w.heap.size w w := Below.refl _ _
    go_enter Tryz.func21, Tryz.ntmps21
    go_wp2_with fail
    go_ret
    exact ⟨_, rfl, Or.inl ⟨rfl, Or.inr h2⟩, B0.alloc (Nat.le_refl _) _⟩
  have HT : Hid (l ≤ 1024 ∧ m ≤ 1024) := ⟨by omega, by omega⟩
  have hl : l ≤ 40000000000000 := by omega
  have hm : m ≤ 40000000000000 := by omega
  by_cases u1 : usedN zs = l
  rotate_left
  ·
    have B0 : Below w.heap.size w w := Below.refl _ _
    go_enter Tryz.func21, Tryz.ntmps21
    go_wp2_with fail
    refine ent1 w _ _ (Q := fun W => Calls Tryz.prog _ _ W _) ?_
    intro x1 hb hs_x1 V0
    replace h := Ri.after hb h
    replace B0 := step B0 hb
    clear hb hs_x1
    refine (trimmed5 a l c zs x1 h.1 hl).mono ?_
    rintro e x2 ⟨rfl, hb⟩
    replace V0 := Va.after hb V0
    replace h := Ri.after hb h
    replace B0 := step B0 hb
    clear hb
    rw [decide_eq_false u1]
    have c_V0 := V0.d0
    have f0_V0 := V0.frozen 0
    have d_V0 := V0.d1
    have f1_V0 := V0.frozen 1
    have e_V0 := V0.d2
    have f2_V0 := V0.frozen 2
    have l_V0 := V0.lt
    have m_V0 := Nat.le_of_lt l_V0
    go_wp2_with fail
    go_ret
    exact ⟨_, rfl, Or.inr (Or.inl ⟨rfl, HT.out.1, HT.out.2, fun e => u1 (by rw [e.1, hzl])⟩), B0⟩
  by_cases u2 : usedN ys = m
  rotate_left
  ·
    have B0 : Below w.heap.size w w := Below.refl _ _
    go_enter Tryz.func21, Tryz.ntmps21
    go_wp2_with fail
    refine ent1 w _ _ (Q := fun W => Calls Tryz.prog _ _ W _) ?_
    intro x1 hb hs_x1 V0
    replace h := Ri.after hb h
    replace B0 := step B0 hb
    clear hb hs_x1
    refine (trimmed5 a l c zs x1 h.1 hl).mono ?_
    rintro e x2 ⟨rfl, hb⟩
    replace V0 := Va.after hb V0
    replace h := Ri.after hb h
    replace B0 := step B0 hb
    clear hb
    rw [decide_eq_true u1]
    have c_V0 := V0.d0
    have f0_V0 := V0.frozen 0
    have d_V0 := V0.d1
    have f1_V0 := V0.frozen 1
    have e_V0 := V0.d2
    have f2_V0 := V0.frozen 2
    have l_V0 := V0.lt
    have m_V0 := Nat.le_of_lt l_V0
    go_wp2_with fail
    refine (trimmed5 b m d ys x2 h.2.1 hm).mono ?_
    rintro e x3 ⟨rfl, hb⟩
    replace V0 := Va.after hb V0
    replace h := Ri.after hb h
    replace B0 := step B0 hb
    clear hb
    rw [decide_eq_false u2]
    clear c_V0 f0_V0 d_V0 f1_V0 e_V0 f2_V0 l_V0 m_V0
    have c_V0 := V0.d0
    have f0_V0 := V0.frozen 0
    have d_V0 := V0.d1
    have f1_V0 := V0.frozen 1
    have e_V0 := V0.d2
    have f2_V0 := V0.frozen 2
    have l_V0 := V0.lt
    have m_V0 := Nat.le_of_lt l_V0
    go_wp2_with fail
    go_ret
    exact ⟨_, rfl, Or.inr (Or.inl ⟨rfl, HT.out.1, HT.out.2, fun e => u2 (by rw [e.2.1, hyl])⟩), B0⟩
  have HU : Hid (usedN zs = l ∧ usedN ys = m) := ⟨u1, u2⟩
  by_cases m0 : m = 0
  · subst m0
    have B0 : Below w.heap.size w w := Below.refl _ _
    go_enter Tryz.func21, Tryz.ntmps21
    go_wp2_with fail
    refine ent1 w _ _ (Q := fun W => Calls Tryz.prog _ _ W _) ?_
    intro x1 hb hs_x1 V0
    replace h := Ri.after hb h
    replace B0 := step B0 hb
    clear hb hs_x1
    refine (trimmed5 a l c zs x1 h.1 hl).mono ?_
    rintro e x2 ⟨rfl, hb⟩
    replace V0 := Va.after hb V0
    replace h := Ri.after hb h
    replace B0 := step B0 hb
    clear hb
    rw [decide_eq_true u1]
    have c_V0 := V0.d0
    have f0_V0 := V0.frozen 0
    have d_V0 := V0.d1
    have f1_V0 := V0.frozen 1
    have e_V0 := V0.d2
    have f2_V0 := V0.frozen 2
    have l_V0 := V0.lt
    have m_V0 := Nat.le_of_lt l_V0
    go_wp2_with fail
    refine (trimmed5 b 0 d ys x2 h.2.1 hm).mono ?_
    rintro e x3 ⟨rfl, hb⟩
    replace V0 := Va.after hb V0
    replace h := Ri.after hb h
    replace B0 := step B0 hb
    clear hb
    rw [decide_eq_true u2]
    clear c_V0 f0_V0 d_V0 f1_V0 e_V0 f2_V0 l_V0 m_V0
    have c_V0 := V0.d0
    have f0_V0 := V0.frozen 0
    have d_V0 := V0.d1
    have f1_V0 := V0.frozen 1
    have e_V0 := V0.d2
    have f2_V0 := V0.frozen 2
    have l_V0 := V0.lt
    have m_V0 := Nat.le_of_lt l_V0
    go_wp2_with fail
    go_ret
    exact ⟨_, rfl, Or.inr (Or.inl ⟨rfl, HT.out.1, HT.out.2, fun e => e.2.2.1 hyl⟩), B0⟩
  have m1 : 0 < m := Nat.pos_of_ne_zero m0
  have mb : ((m : Int) == 0) = false := by simp; omega
  cases s
  ·
    have B0 : Below w.heap.size w w := Below.refl _ _
    go_enter Tryz.func21, Tryz.ntmps21
    go_wp2_with fail
    refine ent1 w _ _ (Q := fun W => Calls Tryz.prog _ _ W _) ?_
    intro x1 hb hs_x1 V0
    replace h := Ri.after hb h
    replace B0 := step B0 hb
    clear hb hs_x1
    refine (trimmed5 a l c zs x1 h.1 hl).mono ?_
    rintro e x2 ⟨rfl, hb⟩
    replace V0 := Va.after hb V0
    replace h := Ri.after hb h
    replace B0 := step B0 hb
    clear hb
    rw [decide_eq_true u1]
    have c_V0 := V0.d0
    have f0_V0 := V0.frozen 0
    have d_V0 := V0.d1
    have f1_V0 := V0.frozen 1
    have e_V0 := V0.d2
    have f2_V0 := V0.frozen 2
    have l_V0 := V0.lt
    have m_V0 := Nat.le_of_lt l_V0
    go_wp2_with fail
    refine (trimmed5 b m d ys x2 h.2.1 hm).mono ?_
    rintro e x3 ⟨rfl, hb⟩
    replace V0 := Va.after hb V0
    replace h := Ri.after hb h
    replace B0 := step B0 hb
    clear hb
    rw [decide_eq_true u2]
    clear c_V0 f0_V0 d_V0 f1_V0 e_V0 f2_V0 l_V0 m_V0
    have c_V0 := V0.d0
    have f0_V0 := V0.frozen 0
    have d_V0 := V0.d1
    have f1_V0 := V0.frozen 1
    have e_V0 := V0.d2
    have f2_V0 := V0.frozen 2
    have l_V0 := V0.lt
    have m_V0 := Nat.le_of_lt l_V0
    go_wp2_with fail
    refine (rgcd_n a b l c m d zs ys x3 h.1 h.2.1 h.2.2.1 h.2.2.2 (by omega) (by omega) (by have := HU.out.1; have := HT.out.1; omega) (by have := HU.out.2; have := HT.out.2; omega)).mono ?_
    rintro e x4 ⟨ag, mg, cg, zg, rfl, hcg, hg, ug, eg, hb⟩
    replace V0 := Va.after hb V0
    replace h := Ri.after hb h
    replace B0 := step B0 hb
    clear hb
    have EG : Hid (num zg = (Int.gcd (num zs) (num ys) : Nat)) := eg
    have hmg : mg ≤ 1024 := by
      have y0 := num_nonneg h.2.1.2.1
      have yn : num ys ≠ 0 := fun e => m0 (by rw [← HU.out.2]; exact (num_eq_zero h.2.1.2.1).1 e)
      have hgl : num zg ≤ num ys := Int.le_of_dvd (by omega) (by rw [eg]; exact Int.gcd_dvd_right ..)
      have := used_of_lt hg.2.1 (n := 1024) (Int.lt_of_le_of_lt hgl (lt_of_used h.2.1.2.1 (by rw [HU.out.2]; exact HT.out.2)))
      omega
    clear eg
    clear c_V0 f0_V0 d_V0 f1_V0 e_V0 f2_V0 l_V0 m_V0
    have c_V0 := V0.d0
    have f0_V0 := V0.frozen 0
    have d_V0 := V0.d1
    have f1_V0 := V0.frozen 1
    have e_V0 := V0.d2
    have f2_V0 := V0.frozen 2
    have l_V0 := V0.lt
    have m_V0 := Nat.le_of_lt l_V0
    go_wp2_with fail
    refine (one5 x4).mono ?_
    rintro e x5 ⟨g1, rfl, hg1, hb⟩
    replace V0 := Va.after hb V0
    replace h := Ri.after hb h
    replace hg := Sl.after hb hg
    replace B0 := step B0 hb
    clear hb
    clear c_V0 f0_V0 d_V0 f1_V0 e_V0 f2_V0 l_V0 m_V0
    have c_V0 := V0.d0
    have f0_V0 := V0.frozen 0
    have d_V0 := V0.d1
    have f1_V0 := V0.frozen 1
    have e_V0 := V0.d2
    have f2_V0 := V0.frozen 2
    have l_V0 := V0.lt
    have m_V0 := Nat.le_of_lt l_V0
    go_wp2_with fail
    refine (rcompare_n ag (some ⟨g1, 0, none⟩) mg cg 1 1 zg [1] x5 hg hg1 (by omega) (by omega) hcg (by omega)).mono ?_
    rintro e x6 ⟨rfl, hb⟩
    replace V0 := Va.after hb V0
    replace h := Ri.after hb h
    replace hg := Sl.after hb hg
    replace hg1 := Sl.after hb hg1
    replace B0 := step B0 hb
    clear hb
    have n1 : num [1] = 1 := by simp [num]
    rw [n1, EG.out]
    clear n1
    by_cases g1' : Int.gcd (num zs) (num ys) = 1
    ·
      have ec : cmp3 ((Int.gcd (num zs) (num ys) : Nat) : Int) 1 = 0 := by rw [g1']; rfl
      rw [ec]
      clear c_V0 f0_V0 d_V0 f1_V0 e_V0 f2_V0 l_V0 m_V0
      have c_V0 := V0.d0
      have f0_V0 := V0.frozen 0
      have d_V0 := V0.d1
      have f1_V0 := V0.frozen 1
      have e_V0 := V0.d2
      have f2_V0 := V0.frozen 2
      have l_V0 := V0.lt
      have m_V0 := Nat.le_of_lt l_V0
      go_wp2_with fail
      go_ret
      exact ⟨_, rfl, Or.inr (Or.inr ⟨rfl, HT.out.1, HT.out.2, by rw [hzl]; exact HU.out.1, by rw [hyl]; exact HU.out.2, by rw [hyl]; exact m0, (fun e => by cases e.1), g1'⟩), B0⟩
    ·
      have gp : 0 < Int.gcd (num zs) (num ys) := Int.gcd_pos_of_ne_zero_right _ (fun e => m0 (by rw [← HU.out.2]; exact (num_eq_zero h.2.1.2.1).1 e))
      have ec : cmp3 ((Int.gcd (num zs) (num ys) : Nat) : Int) 1 = 1 := cmp3_gt (by omega)
      rw [ec]
      clear c_V0 f0_V0 d_V0 f1_V0 e_V0 f2_V0 l_V0 m_V0
      have c_V0 := V0.d0
      have f0_V0 := V0.frozen 0
      have d_V0 := V0.d1
      have f1_V0 := V0.frozen 1
      have e_V0 := V0.d2
      have f2_V0 := V0.frozen 2
      have l_V0 := V0.lt
      have m_V0 := Nat.le_of_lt l_V0
      go_wp2_with fail
      go_ret
      exact ⟨_, rfl, Or.inr (Or.inl ⟨rfl, HT.out.1, HT.out.2, fun e => g1' e.2.2.2.2⟩), B0⟩
  ·
    by_cases l0 : l = 0
    · subst l0
      have B0 : Below w.heap.size w w := Below.refl _ _
      go_enter Tryz.func21, Tryz.ntmps21
      go_wp2_with fail
      refine ent1 w _ _ (Q := fun W => Calls Tryz.prog _ _ W _) ?_
      intro x1 hb hs_x1 V0
      replace h := Ri.after hb h
      replace B0 := step B0 hb
      clear hb hs_x1
      refine (trimmed5 a 0 c zs x1 h.1 hl).mono ?_
      rintro e x2 ⟨rfl, hb⟩
      replace V0 := Va.after hb V0
      replace h := Ri.after hb h
      replace B0 := step B0 hb
      clear hb
      rw [decide_eq_true u1]
      have c_V0 := V0.d0
      have f0_V0 := V0.frozen 0
      have d_V0 := V0.d1
      have f1_V0 := V0.frozen 1
      have e_V0 := V0.d2
      have f2_V0 := V0.frozen 2
      have l_V0 := V0.lt
      have m_V0 := Nat.le_of_lt l_V0
      go_wp2_with fail
      refine (trimmed5 b m d ys x2 h.2.1 hm).mono ?_
      rintro e x3 ⟨rfl, hb⟩
      replace V0 := Va.after hb V0
      replace h := Ri.after hb h
      replace B0 := step B0 hb
      clear hb
      rw [decide_eq_true u2]
      clear c_V0 f0_V0 d_V0 f1_V0 e_V0 f2_V0 l_V0 m_V0
      have c_V0 := V0.d0
      have f0_V0 := V0.frozen 0
      have d_V0 := V0.d1
      have f1_V0 := V0.frozen 1
      have e_V0 := V0.d2
      have f2_V0 := V0.frozen 2
      have l_V0 := V0.lt
      have m_V0 := Nat.le_of_lt l_V0
      go_wp2_with fail
      go_ret
      exact ⟨_, rfl, Or.inr (Or.inl ⟨rfl, HT.out.1, HT.out.2, fun e => e.2.2.2.1 ⟨rfl, hzl⟩⟩), B0⟩
    have l1 : 0 < l := Nat.pos_of_ne_zero l0
    have lb : ((l : Int) == 0) = false := by simp; omega
    have mb : ((m : Int) == 0) = false := by simp; omega
    have B0 : Below w.heap.size w w := Below.refl _ _
    go_enter Tryz.func21, Tryz.ntmps21
    go_wp2_with fail
    refine ent1 w _ _ (Q := fun W => Calls Tryz.prog _ _ W _) ?_
    intro x1 hb hs_x1 V0
    replace h := Ri.after hb h
    replace B0 := step B0 hb
    clear hb hs_x1
    refine (trimmed5 a l c zs x1 h.1 hl).mono ?_
    rintro e x2 ⟨rfl, hb⟩
    replace V0 := Va.after hb V0
    replace h := Ri.after hb h
    replace B0 := step B0 hb
    clear hb
    rw [decide_eq_true u1]
    have c_V0 := V0.d0
    have f0_V0 := V0.frozen 0
    have d_V0 := V0.d1
    have f1_V0 := V0.frozen 1
    have e_V0 := V0.d2
    have f2_V0 := V0.frozen 2
    have l_V0 := V0.lt
    have m_V0 := Nat.le_of_lt l_V0
    go_wp2_with fail
    refine (trimmed5 b m d ys x2 h.2.1 hm).mono ?_
    rintro e x3 ⟨rfl, hb⟩
    replace V0 := Va.after hb V0
    replace h := Ri.after hb h
    replace B0 := step B0 hb
    clear hb
    rw [decide_eq_true u2]
    clear c_V0 f0_V0 d_V0 f1_V0 e_V0 f2_V0 l_V0 m_V0
    have c_V0 := V0.d0
    have f0_V0 := V0.frozen 0
    have d_V0 := V0.d1
    have f1_V0 := V0.frozen 1
    have e_V0 := V0.d2
    have f2_V0 := V0.frozen 2
    have l_V0 := V0.lt
    have m_V0 := Nat.le_of_lt l_V0
    go_wp2_with fail
    refine (rgcd_n a b l c m d zs ys x3 h.1 h.2.1 h.2.2.1 h.2.2.2 (by omega) (by omega) (by have := HU.out.1; have := HT.out.1; omega) (by have := HU.out.2; have := HT.out.2; omega)).mono ?_
    rintro e x4 ⟨ag, mg, cg, zg, rfl, hcg, hg, ug, eg, hb⟩
    replace V0 := Va.after hb V0
    replace h := Ri.after hb h
    replace B0 := step B0 hb
    clear hb
    have EG : Hid (num zg = (Int.gcd (num zs) (num ys) : Nat)) := eg
    have hmg : mg ≤ 1024 := by
      have y0 := num_nonneg h.2.1.2.1
      have yn : num ys ≠ 0 := fun e => m0 (by rw [← HU.out.2]; exact (num_eq_zero h.2.1.2.1).1 e)
      have hgl : num zg ≤ num ys := Int.le_of_dvd (by omega) (by rw [eg]; exact Int.gcd_dvd_right ..)
      have := used_of_lt hg.2.1 (n := 1024) (Int.lt_of_le_of_lt hgl (lt_of_used h.2.1.2.1 (by rw [HU.out.2]; exact HT.out.2)))
      omega
    clear eg
    clear c_V0 f0_V0 d_V0 f1_V0 e_V0 f2_V0 l_V0 m_V0
    have c_V0 := V0.d0
    have f0_V0 := V0.frozen 0
    have d_V0 := V0.d1
    have f1_V0 := V0.frozen 1
    have e_V0 := V0.d2
    have f2_V0 := V0.frozen 2
    have l_V0 := V0.lt
    have m_V0 := Nat.le_of_lt l_V0
    go_wp2_with fail
    refine (one5 x4).mono ?_
    rintro e x5 ⟨g1, rfl, hg1, hb⟩
    replace V0 := Va.after hb V0
    replace h := Ri.after hb h
    replace hg := Sl.after hb hg
    replace B0 := step B0 hb
    clear hb
    clear c_V0 f0_V0 d_V0 f1_V0 e_V0 f2_V0 l_V0 m_V0
    have c_V0 := V0.d0
    have f0_V0 := V0.frozen 0
    have d_V0 := V0.d1
    have f1_V0 := V0.frozen 1
    have e_V0 := V0.d2
    have f2_V0 := V0.frozen 2
    have l_V0 := V0.lt
    have m_V0 := Nat.le_of_lt l_V0
    go_wp2_with fail
    refine (rcompare_n ag (some ⟨g1, 0, none⟩) mg cg 1 1 zg [1] x5 hg hg1 (by omega) (by omega) hcg (by omega)).mono ?_
    rintro e x6 ⟨rfl, hb⟩
    replace V0 := Va.after hb V0
    replace h := Ri.after hb h
    replace hg := Sl.after hb hg
    replace hg1 := Sl.after hb hg1
    replace B0 := step B0 hb
    clear hb
    have n1 : num [1] = 1 := by simp [num]
    rw [n1, EG.out]
    clear n1
    by_cases g1' : Int.gcd (num zs) (num ys) = 1
    ·
      have ec : cmp3 ((Int.gcd (num zs) (num ys) : Nat) : Int) 1 = 0 := by rw [g1']; rfl
      rw [ec]
      clear c_V0 f0_V0 d_V0 f1_V0 e_V0 f2_V0 l_V0 m_V0
      have c_V0 := V0.d0
      have f0_V0 := V0.frozen 0
      have d_V0 := V0.d1
      have f1_V0 := V0.frozen 1
      have e_V0 := V0.d2
      have f2_V0 := V0.frozen 2
      have l_V0 := V0.lt
      have m_V0 := Nat.le_of_lt l_V0
      go_wp2_with fail
      go_ret
      exact ⟨_, rfl, Or.inr (Or.inr ⟨rfl, HT.out.1, HT.out.2, by rw [hzl]; exact HU.out.1, by rw [hyl]; exact HU.out.2, by rw [hyl]; exact m0, (fun e => l0 (by rw [← hzl]; exact e.2)), g1'⟩), B0⟩
    ·
      have gp : 0 < Int.gcd (num zs) (num ys) := Int.gcd_pos_of_ne_zero_right _ (fun e => m0 (by rw [← HU.out.2]; exact (num_eq_zero h.2.1.2.1).1 e))
      have ec : cmp3 ((Int.gcd (num zs) (num ys) : Nat) : Int) 1 = 1 := cmp3_gt (by omega)
      rw [ec]
      clear c_V0 f0_V0 d_V0 f1_V0 e_V0 f2_V0 l_V0 m_V0
      have c_V0 := V0.d0
      have f0_V0 := V0.frozen 0
      have d_V0 := V0.d1
      have f1_V0 := V0.frozen 1
      have e_V0 := V0.d2
      have f2_V0 := V0.frozen 2
      have l_V0 := V0.lt
      have m_V0 := Nat.le_of_lt l_V0
      go_wp2_with fail
      go_ret
      exact ⟨_, rfl, Or.inr (Or.inl ⟨rfl, HT.out.1, HT.out.2, fun e => g1' e.2.2.2.2⟩), B0⟩

end Go.Proofs.YtogabmggdcefaabGreat
