import Derived.Test.YtenmkbofpmbedabGreatDoorMgAa
import Derived.Test.YtenmkbofpmbedabGreatDoorMgAp
import Derived.Test.YtenmkbofpmbedabGreatDoorMgAm
import Derived.Test.YtenmkbofpmbedabGreatDoorMgAo
import Derived.Test.YtenmkbofpmbedabGreatDoorMgAk
namespace Go.Proofs.YtenmkbofpmbedabGreatDoor
open Go.RowKit Go.Shelf
set_option linter.unusedVariables false
set_option maxRecDepth 20000

theorem Le.drw {α : Type} {E : El α} {w : World} {a : Option Addr} {n : Nat} {xs : List α} (h : Le E w a n xs) : Le E w.drew a n xs := h
theorem Tn.drw {w : World} (h : Tn w) : Tn w.drew := h
theorem ata_ex {l : List Pq} (h : Sok l) {b : Rat} (h0 : 0 ≤ b) : ∃ v, Ata l b v := by
  obtain ⟨k, hk⟩ := Bg.ex h b
  exact ⟨_, k, hk, hk.pos h h0, rfl⟩
theorem sgn_le (u : Rat) : Int.sign u.num ≤ 0 ↔ u ≤ 0 := by
  have h1 := sgn_lt u
  have h2 := sgn_eq u
  constructor
  · intro h
    rcases Int.lt_or_eq_of_le h with h' | h'
    · exact Rat.le_of_lt (h1.1 h')
    · rw [h2.1 h']; exact Rat.le_refl
  · intro h
    rcases Rat.le_iff_lt_or_eq.1 h with h' | h'
    · exact Int.le_of_lt (h1.2 h')
    · exact Int.le_of_eq (h2.2 h')
theorem bv_sz {bs : List Br} {l : List Pq} {n : Nat} (h : BVals bs l n) (hW : ∀ i, i < n → (bs.getD i bz).ok) : ∀ i, i < n → Sz 3 (aq l i) ∧ Sz 3 (rq l i) := fun i hi => by
  obtain ⟨⟨c1, c2⟩, e1, e2⟩ := h.2 i hi
  have ok := hW i hi
  refine ⟨?_, ?_⟩
  · rw [e1]; exact (dvv_sz ok.1 c1.1 c1.2.1).mono (by omega)
  · rw [e2, Rat.div_def]
    exact ((dvv_sz ok.2.2.1 c2.1 c2.2.1).mul (sz_one (n := 1) (d := 100) (100 : Rat)⁻¹ (by decide +kernel) (by decide +kernel) (by decide) (by decide))).mono (by omega)
theorem pc1 {w : World} {B n' c' n : Nat} {a : Option Addr} {er : Int} {bs : List Br} (hW : ∀ i, i < n → (bs.getD i bz).ok) (h : PcR w B a n' c' er bs n 1) :
    (er = 180 ∧ n' = 0 ∧ Hid (¬ ((1 ≤ n ∧ n ≤ 8) ∧ ∃ l, BVals bs l n ∧ Sok l))) ∨
    (er = 0 ∧ ∃ (g : Nat) (ps : List Pc) (l : List Pq), (a = some ⟨g, 0, none⟩ ∧ n = n' ∧ n = c' ∧ Bk elP w g ps ∧ ps.length = n) ∧ Hid ((1 ≤ n ∧ n ≤ 8) ∧ BVals bs l n ∧ Sok l) ∧ Ps w ps l n) := by
  rcases h with ⟨h0, -, h1, h⟩ | ⟨l, hn, hl, hs, h⟩
  · exact .inl ⟨h0, h1, h⟩
  rcases h with ⟨-, -, -, h⟩ | ⟨-, -, -, -, i, hi, h⟩ | ⟨h0, -, -, g, ps, m, h1, h2, h3, h4, h5, h6, h7, h8⟩
  · exact absurd h (by decide +kernel)
  · rw [Rat.mul_one] at h
    exact absurd (bv_sz hl hW i hi).1 h
  · have e : m = l := pq_ext (by rw [h6, hl.1]) (fun i hi => by
      have := h7 i (by omega)
      rw [Rat.mul_one] at this
      exact this)
    rw [e] at h8
    exact .inr ⟨h0, g, ps, l, ⟨h1, h2.symm, h3.symm, h4, h5⟩, ⟨hn, hl, hs⟩, h8⟩
theorem pcu0 {w : World} {B n' c' n : Nat} {a : Option Addr} {er : Int} {bs : List Br} {u : Rat} (h : PcR w B a n' c' er bs n u) (hn : ¬ ((1 ≤ n ∧ n ≤ 8) ∧ ∃ l, BVals bs l n ∧ Sok l)) : er = 180 ∧ n' = 0 := by
  rcases h with ⟨h0, -, h1, -⟩ | ⟨l, h1, h2, h3, -⟩
  · exact ⟨h0, h1⟩
  · exact absurd ⟨h1, l, h2, h3⟩ hn
def Inu (l m : List Pq) (n : Nat) (u : Rat) : Prop := m.length = n ∧ ∀ i, i < n → (aq m i = aq l i * u ∧ rq m i = rq l i) ∧ Sz 3 (aq m i)
theorem pcu {w : World} {B n' c' n : Nat} {a : Option Addr} {er : Int} {bs : List Br} {l : List Pq} {u : Rat} (h : PcR w B a n' c' er bs n u) (hu : 0 < u) (hx : (1 ≤ n ∧ n ≤ 8) ∧ BVals bs l n ∧ Sok l) :
    (er = 3 ∧ n' = 0) ∨
    (er = 0 ∧ ∃ (g : Nat) (ps : List Pc) (m : List Pq), (a = some ⟨g, 0, none⟩ ∧ n = n' ∧ n = c' ∧ Bk elP w g ps ∧ ps.length = n) ∧ Hid (Inu l m n u) ∧ Ps w ps m n) := by
  obtain ⟨hn, hl, hs⟩ := hx
  rcases h with ⟨-, -, -, h⟩ | ⟨l', -, hl', -, h⟩
  · exact absurd ⟨hn, l, hl, hs⟩ h
  obtain rfl := bv_uniq hl' hl
  rcases h with ⟨-, -, -, h⟩ | ⟨h0, -, h1, -, -⟩ | ⟨h0, -, hz, g, ps, m, h1, h2, h3, h4, h5, h6, h7, h8⟩
  · exact absurd hu (Rat.not_lt.2 h)
  · exact .inl ⟨h0, h1⟩
  · exact .inr ⟨h0, g, ps, m, ⟨h1, h2.symm, h3.symm, h4, h5⟩, ⟨h6, fun i hi => ⟨h7 i hi, by rw [(h7 i hi).1]; exact hz i hi⟩⟩, h8⟩
theorem Inu.sok {l m : List Pq} {n : Nat} {u : Rat} (h : Inu l m n u) (hl : l.length = n) (hs : Sok l) (hu : 0 < u) : Sok m where
  one := by rw [h.1, ← hl]; exact hs.one
  few := by rw [h.1, ← hl]; exact hs.few
  nought := by
    have := hs.one
    rw [(h.2 0 (by omega)).1.1, hs.nought, Rat.zero_mul]
  up := fun i hi => by
    rw [h.1] at hi
    rw [(h.2 i (by omega)).1.1, (h.2 (i + 1) hi).1.1]
    exact Rat.mul_lt_mul_of_pos_right (hs.up i (by omega)) hu
  rate := fun i hi => by
    rw [h.1] at hi
    rw [(h.2 i hi).1.2]
    exact hs.rate i (by omega)
theorem of_ok9 {w w0 : World} {B n : Nat} {q : Option Addr} {ps : List Pc} {l : List Pq} {er : Int} (hp : Ps w0 ps l n) (hl : l.length = n) (hs : Sok l) (hz : ∀ i, i < n → Sz 3 (aq l i) ∧ Sz 3 (rq l i)) (h : OfS w B q ps n er) : er = 0 ∧ ∃ (g b : Nat) (xs : List Pc), q = some ⟨g, 0, none⟩ ∧ Sd w g b 0 n n xs l := by
  have hv := ps_vals hp hl
  have ho1 := hs.one
  have ho8 := hs.few
  rcases h with ⟨h0, g, b, xs, l', h1, h2, h3, -⟩ | ⟨-, -, h⟩
  · obtain rfl := va_uniq h3 hv
    exact ⟨h0, g, b, xs, h1, h2⟩
  · rcases h with ⟨-, h⟩ | ⟨-, -, i, hi, h⟩ | ⟨-, -, -, h⟩
    · omega
    · exact absurd h (ps_lg hp hi (hz i hi).1 (hz i hi).2)
    · exact absurd ⟨l, hv, hs⟩ h
theorem bg_one {l : List Pq} (h : Sok l) (h1 : l.length = 1) {b : Rat} (h0 : 0 ≤ b) : Bg l b 1 := by
  obtain ⟨k, hk⟩ := Bg.ex h b
  have a := hk.pos h h0
  have c := hk.le
  obtain rfl : k = 1 := by omega
  exact hk
set_option maxHeartbeats 32000000 in
theorem units_walk (a : Option Addr) (n c : Nat) (bs : List Br) (px py : Rc) (w : World) (hT : Tn w) (hL : Le elB w a n bs) (hn : a = none → n = 0 ∧ c = 0) (hln : n ≤ 4398046511104) (hW : ∀ i, i < n → (bs.getD i bz).ok) (hx : Rd2 w px) (hy : Rd2 w py) (gx : Lng px) (gy : Lng py) :
  Calls Tryz.prog 3 #[.slice a n c, .agg #[.bool px.s, .slice px.a px.l px.c, .slice px.b px.m px.d], .agg #[.bool py.s, .slice py.a py.l py.c, .slice py.b py.m py.d]] w fun e w' => e = .returned (.bool true) ∧ Below w.heap.size w w' := by
 have HN : Hid (a = none → n = 0 ∧ c = 0) := hn; have HLn : Hid (n ≤ 4398046511104) := hln; have HW : Hid (∀ i, i < n → (bs.getD i bz).ok) := hW; clear hn hln hW; have B0 : Below w.heap.size w w := Below.refl _ _
 go_enter Tryz.func3, Tryz.ntmps3
 (go_wp2_with fail); refine ent2 w _ _ _ _ (Q := fun W => Calls Tryz.prog _ _ W _) ?_; intro x1 hb hs_x1 V4 V5; replace hT := Tn.after hb hT; replace hL := Le.after hb hL; replace hx := Rd2.after hb hx; replace hy := Rd2.after hb hy; replace B0 := step B0 hb; clear hb hs_x1; refine (awake18 _ hT).mono ?_; rintro e x2 ⟨rfl, hb⟩; replace V4 := V4.a hb; replace V5 := V5.a hb; replace hT := Tn.after hb hT; replace hL := Le.after hb hL; replace hx := Rd2.after hb hx; replace hy := Rd2.after hb hy; replace B0 := step B0 hb; clear hb; have c_V4 := V4.d0; have f0_V4 := V4.frozen 0; have d_V4 := V4.d1; have f1_V4 := V4.frozen 1; have e_V4 := V4.d2; have f2_V4 := V4.frozen 2; have l_V4 := V4.lt; have m_V4 := Nat.le_of_lt l_V4; (go_wp2_with fail); clear c_V4 f0_V4 d_V4 f1_V4 e_V4 f2_V4 l_V4 m_V4; refine (base_any px _ hx gx).mono ?_; rintro e x3 ⟨r1, t1, rfl, hbs1, hb⟩; replace V4 := V4.a hb; replace V5 := V5.a hb; replace hT := Tn.after hb hT
 replace hL := Le.after hb hL; replace hx := Rd2.after hb hx; replace hy := Rd2.after hb hy; replace B0 := step B0 hb; clear hb; have hs1 : BsR x3 r1 t1 px := hbs1.out; clear hbs1; have c_V5 := V5.d0; have f0_V5 := V5.frozen 0; have d_V5 := V5.d1; have f1_V5 := V5.frozen 1; have e_V5 := V5.d2; have f2_V5 := V5.frozen 2; have l_V5 := V5.lt; have m_V5 := Nat.le_of_lt l_V5; (go_wp2_with fail); have lt_V7_V4 := V4.lt; have lt_V7_V5 := V5.lt; refine ent1 x3 _ _ (Q := fun W => Calls Tryz.prog _ _ W _) ?_; intro x4 hb hs_x4 V7; replace V4 := V4.a hb; replace V5 := V5.a hb; replace hT := Tn.after hb hT; replace hL := Le.after hb hL; replace hx := Rd2.after hb hx; replace hy := Rd2.after hb hy; replace hs1 := BsR.after hb hs1; replace B0 := step B0 hb; clear hb hs_x4; clear c_V5 f0_V5 d_V5 f1_V5 e_V5 f2_V5 l_V5 m_V5; refine (base_any py _ hy gy).mono ?_; rintro e x5 ⟨r2, t2, rfl, hbs2, hb⟩; replace V4 := V4.a hb; replace V5 := V5.a hb
 replace V7 := V7.a hb; replace hT := Tn.after hb hT; replace hL := Le.after hb hL; replace hx := Rd2.after hb hx; replace hy := Rd2.after hb hy; replace hs1 := BsR.after hb hs1; replace B0 := step B0 hb; clear hb; have hs2 : BsR x5 r2 t2 py := hbs2.out; clear hbs2; clear V4 V5 hx hy; clear gx gy
 by_cases h8 : 8 < n
 ·
  (have e1 : decide ((8 : Int) < (n : Int)) = true := by rw [decide_eq_true_iff]; omega); clear hL; clear hT; clear hs1; clear hs2; clear V7; (go_wp2_with fail)
  go_ret
  exact ⟨rfl, B0.alloc (by have := B0.size; omega) _⟩
 ·
  (have e1 : decide ((8 : Int) < (n : Int)) = false := by rw [decide_eq_false_iff_not]; omega)
  cases t1
  ·
   clear hL; clear hT; clear hs1; clear hs2; clear V7; (go_wp2_with fail)
   go_ret
   exact ⟨rfl, B0.alloc (by have := B0.size; omega) _⟩
  ·
   cases t2
   ·
    clear hL; clear hT; clear hs1; clear hs2; clear V7; (go_wp2_with fail)
    go_ret
    exact ⟨rfl, B0.alloc (by have := B0.size; omega) _⟩
   ·
    (obtain ⟨y1, h1⟩ : ∃ v, Rv x5 r1 v := Or.elim hs1 (fun h => let ⟨v, _, h⟩ := h.2.2; ⟨v, h⟩) (fun h => ⟨0, h.2⟩)); (obtain ⟨y2, h2⟩ : ∃ v, Rv x5 r2 v := Or.elim hs2 (fun h => let ⟨v, _, h⟩ := h.2.2; ⟨v, h⟩) (fun h => ⟨0, h.2⟩)); clear hs1 hs2; have c_V7 := V7.d0; have f0_V7 := V7.frozen 0; have d_V7 := V7.d1; have f1_V7 := V7.frozen 1; have e_V7 := V7.d2; have f2_V7 := V7.frozen 2; have l_V7 := V7.lt; have m_V7 := Nat.le_of_lt l_V7; (go_wp2_with fail); have lt_V9_V7 := V7.lt; refine ent1 x5 _ _ (Q := fun W => Calls Tryz.prog _ _ W _) ?_; intro x6 hb hs_x6 V9; replace V7 := V7.a hb; replace hT := Tn.after hb hT; replace hL := Le.after hb hL; replace h1 := Rv.after hb h1; replace h2 := Rv.after hb h2; replace B0 := step B0 hb; clear hb hs_x6; clear c_V7 f0_V7 d_V7 f1_V7 e_V7 f2_V7 l_V7 m_V7; refine (long_rc r1 y1 _ h1).mono ?_; rintro e x7 ⟨n1, rfl, hn1, hb⟩; replace V7 := V7.a hb; replace V9 := V9.a hb; replace hT := Tn.after hb hT
    replace hL := Le.after hb hL; replace h1 := Rv.after hb h1; replace h2 := Rv.after hb h2; replace B0 := step B0 hb; clear hb; have HN1 : Hid (n1 ≤ 3 ↔ Sz 3 y1) := hn1 3; clear hn1
    by_cases gb : 3 < n1
    ·
     have eb : decide (3 < n1) = true := decide_eq_true gb; clear hL; clear hT; clear h1; clear h2; clear V7; clear V9; (go_wp2_with fail)
     go_ret
     exact ⟨rfl, B0⟩
    ·
     have eb : decide (3 < n1) = false := decide_eq_false gb; have HZ1 : Hid (Sz 3 y1) := HN1.out.1 (by omega); clear HN1; have c_V9 := V9.d0; have f0_V9 := V9.frozen 0; have d_V9 := V9.d1; have f1_V9 := V9.frozen 1; have e_V9 := V9.d2; have f2_V9 := V9.frozen 2; have l_V9 := V9.lt; have m_V9 := Nat.le_of_lt l_V9; (go_wp2_with fail); clear c_V9 f0_V9 d_V9 f1_V9 e_V9 f2_V9 l_V9 m_V9; refine (long_rc r2 y2 _ h2).mono ?_; rintro e x8 ⟨n2, rfl, hn2, hb⟩; replace V7 := V7.a hb; replace V9 := V9.a hb; replace hT := Tn.after hb hT; replace hL := Le.after hb hL; replace h1 := Rv.after hb h1; replace h2 := Rv.after hb h2; replace B0 := step B0 hb; clear hb; have HN2 : Hid (n2 ≤ 64 ↔ Sz 64 y2) := hn2 64; clear hn2
     by_cases gc : 64 < n2
     ·
      have ec : decide (64 < n2) = true := decide_eq_true gc; clear hL; clear hT; clear h1; clear h2; clear V7; clear V9; (go_wp2_with fail)
      go_ret
      exact ⟨rfl, B0⟩
     ·
      have ec : decide (64 < n2) = false := decide_eq_false gc; have HZ2 : Hid (Sz 64 y2) := HN2.out.1 (by omega); clear HN2; have c_V7 := V7.d0; have f0_V7 := V7.frozen 0; have d_V7 := V7.d1; have f1_V7 := V7.frozen 1; have e_V7 := V7.d2; have f2_V7 := V7.frozen 2; have l_V7 := V7.lt; have m_V7 := Nat.le_of_lt l_V7; (go_wp2_with fail); clear c_V7 f0_V7 d_V7 f1_V7 e_V7 f2_V7 l_V7 m_V7; refine (sign_rc r1 y1 _ h1).mono ?_; rintro e x9 ⟨rfl, hb⟩; replace V7 := V7.a hb; replace V9 := V9.a hb; replace hT := Tn.after hb hT; replace hL := Le.after hb hL; replace h1 := Rv.after hb h1; replace h2 := Rv.after hb h2; replace B0 := step B0 hb; clear hb; (obtain ⟨s1, hs1⟩ : ∃ s, Int.sign y1.num = s := ⟨_, rfl⟩); rw [hs1]; (have HS1 : Hid (s1 ≤ 0 ↔ y1 ≤ 0) := by have := sgn_le y1; rw [hs1] at this; exact this); clear hs1
      by_cases gd : s1 ≤ 0
      ·
       have ed : decide (s1 ≤ 0) = true := decide_eq_true gd; clear hL; clear hT; clear h1; clear h2; clear V7; clear V9; (go_wp2_with fail)
       go_ret
       exact ⟨rfl, B0⟩
      ·
       have ed : decide (s1 ≤ 0) = false := decide_eq_false gd; (have HP1 : Hid (0 < y1) := by have := HS1.out; show 0 < y1; grind); clear HS1; have c_V9 := V9.d0; have f0_V9 := V9.frozen 0; have d_V9 := V9.d1; have f1_V9 := V9.frozen 1; have e_V9 := V9.d2; have f2_V9 := V9.frozen 2; have l_V9 := V9.lt; have m_V9 := Nat.le_of_lt l_V9; (go_wp2_with fail); clear c_V9 f0_V9 d_V9 f1_V9 e_V9 f2_V9 l_V9 m_V9; refine (sign_rc r2 y2 _ h2).mono ?_; rintro e x10 ⟨rfl, hb⟩; replace V7 := V7.a hb; replace V9 := V9.a hb; replace hT := Tn.after hb hT; replace hL := Le.after hb hL; replace h1 := Rv.after hb h1; replace h2 := Rv.after hb h2; replace B0 := step B0 hb; clear hb; (obtain ⟨s2, hs2⟩ : ∃ s, Int.sign y2.num = s := ⟨_, rfl⟩); rw [hs2]; (have HS2 : Hid (s2 < 0 ↔ y2 < 0) := by have := sgn_lt y2; rw [hs2] at this; exact this); clear hs2
       by_cases gf : s2 < 0
       ·
        have ef : decide (s2 < 0) = true := decide_eq_true gf; clear hL; clear hT; clear h1; clear h2; clear V7; clear V9; (go_wp2_with fail)
        go_ret
        exact ⟨rfl, B0⟩
       ·
        have ef : decide (s2 < 0) = false := decide_eq_false gf; (have HP2 : Hid (0 ≤ y2) := by have := HS2.out; show 0 ≤ y2; grind); clear HS2; (go_wp2_with fail); refine (copyB9 a n c bs _ hL HN.out HLn.out).mono ?_; rintro e x11 ⟨a1, c1, rfl, hL1, hb⟩; replace V7 := V7.a hb; replace V9 := V9.a hb; replace hT := Tn.after hb hT; replace hL := Le.after hb hL; replace h1 := Rv.after hb h1; replace h2 := Rv.after hb h2; replace B0 := step B0 hb; clear hb; (go_wp2_with fail); refine (number_rc 1 1 (by omega) (by omega) (by decide +kernel) (sz_one (n := 1) (d := 1) 1 rfl rfl (by decide) (by decide)) _).mono ?_; rintro e x12 ⟨r3, rfl, h3, hb⟩; replace V7 := V7.a hb; replace V9 := V9.a hb; replace hT := Tn.after hb hT; replace hL := Le.after hb hL; replace h1 := Rv.after hb h1; replace h2 := Rv.after hb h2; replace hL1 := Le.after hb hL1; replace B0 := step B0 hb; clear hb; (go_wp2_with fail); refine (pcs_any a1 n c1 bs r3 1 _ hL1 HW.out hT h3).mono ?_
        rintro e x13 ⟨a2, n2, c2, er1, rfl, hp, hb⟩; replace V7 := V7.a hb; replace V9 := V9.a hb; replace hT := Tn.after hb hT; replace hL := Le.after hb hL; replace h1 := Rv.after hb h1; replace h2 := Rv.after hb h2; replace hL1 := Le.after hb hL1; replace h3 := Rv.after hb h3; replace B0 := step B0 hb; clear hb; clear hL1 h3
        rcases pc1 HW.out hp.out with ⟨rfl, rfl, hno⟩ | ⟨rfl, g1, ps1, l, ⟨rfl, rfl, rfl, hB1, hpl1⟩, HX, hP1⟩
        all_goals clear hp
        ·
         (go_wp2_with fail); refine wp_region_noPanic ?_; replace V7 : Va x13.drew _ _ _ := V7; replace V9 : Va x13.drew _ _ _ := V9; replace hT := hT.drw; replace hL := hL.drw; replace h1 := h1.drw; replace h2 := h2.drw; replace B0 := Below.drew B0; refine wp_region_held_drew (S := (fun W => W.cell? ⟨x3.heap.size, 0, none⟩ = some (.bool r1.s) ∧ W.cell? ⟨x3.heap.size, 1, none⟩ = some (.slice r1.a r1.l r1.c) ∧ W.cell? ⟨x3.heap.size, 2, none⟩ = some (.slice r1.b r1.m r1.d))) (by kernel_rfl) ⟨V7.d0, V7.d1, V7.d2⟩ (fun hHeld => ?_); (obtain ⟨x14, hxd⟩ : ∃ xd, xd = x13.drew := ⟨_, rfl⟩); rw [← hxd] at V7 V9 hT hL h1 h2 B0 hHeld ⊢; clear hxd; refine tjz 0 hHeld ?_; refine tjz 2 hHeld ?_; refine ryz 1 (fun K hK => ?_); simp only [gA, gB, gC]; (go_simp); refine (copyB9 a n c bs _ hL HN.out HLn.out).mono ?_
         rintro e x15 ⟨a3, c3, rfl, hL2, hb⟩; replace V7 := V7.a hb; replace V9 := V9.a hb; replace hT := Tn.after hb hT; replace hL := Le.after hb hL; replace h1 := Rv.after hb h1; replace h2 := Rv.after hb h2; replace B0 := step B0 hb; clear hb; (try go_wp2_with fail); refine hK.out _ _ ⟨V7.d0, V7.d1, V7.d2⟩ (fun hHeld => ?_); clear hK K; refine ryz 3 (fun K hK => ?_); simp only [gA, gB, gC]; (go_simp); refine (pcs_any a3 n c3 bs r1 y1 _ hL2 HW.out hT h1).mono ?_; rintro e x16 ⟨a4, n4, c4, er2, rfl, hp2, hb⟩; replace V7 := V7.a hb; replace V9 := V9.a hb; replace hT := Tn.after hb hT; replace hL := Le.after hb hL; replace h1 := Rv.after hb h1; replace h2 := Rv.after hb h2; replace hL2 := Le.after hb hL2; replace B0 := step B0 hb; clear hb; (try go_wp2_with fail); refine hK.out _ _ ⟨V7.d0, V7.d1, V7.d2⟩ (fun hHeld => ?_); clear hK K; refine tk 4 rfl hHeld ?_
         simp only [gA, gB, gC, Act.put, gD, gE, gF]; refine tjz 5 hHeld ?_; refine tjz 6 hHeld ?_; refine tjz 7 hHeld ?_; refine tjz 8 hHeld ?_; refine dnz ?_; clear hHeld; clear hL2 hL hT; obtain ⟨rfl, rfl⟩ := pcu0 hp2.out hno.out; clear hp2; clear h1; clear h2; clear V7; clear V9; (go_wp2_with fail)
         go_ret
         exact ⟨by simp, B0⟩
        ·
         (go_wp2_with fail); refine wp_region_noPanic ?_; replace V7 : Va x13.drew _ _ _ := V7; replace V9 : Va x13.drew _ _ _ := V9; replace hT := hT.drw; replace hL := hL.drw; replace h1 := h1.drw; replace h2 := h2.drw; replace hB1 := hB1.drw; replace hP1 := hP1.drw; replace B0 := Below.drew B0; refine wp_region_held_drew (S := (fun W => W.cell? ⟨x3.heap.size, 0, none⟩ = some (.bool r1.s) ∧ W.cell? ⟨x3.heap.size, 1, none⟩ = some (.slice r1.a r1.l r1.c) ∧ W.cell? ⟨x3.heap.size, 2, none⟩ = some (.slice r1.b r1.m r1.d))) (by kernel_rfl) ⟨V7.d0, V7.d1, V7.d2⟩ (fun hHeld => ?_); (obtain ⟨x17, hxd⟩ : ∃ xd, xd = x13.drew := ⟨_, rfl⟩); rw [← hxd] at V7 V9 hT hL h1 h2 hB1 hP1 B0 hHeld ⊢; clear hxd; refine tjz 0 hHeld ?_; refine tjz 2 hHeld ?_; refine ryz 1 (fun K hK => ?_)
         simp only [gA, gB, gC]; (go_simp); refine (copyB9 a n c bs _ hL HN.out HLn.out).mono ?_; rintro e x18 ⟨a3, c3, rfl, hL2, hb⟩; replace V7 := V7.a hb; replace V9 := V9.a hb; replace hT := Tn.after hb hT; replace hL := Le.after hb hL; replace h1 := Rv.after hb h1; replace h2 := Rv.after hb h2; replace hB1 := Bk.after hb hB1; replace hP1 := Ps.after hb hP1; replace B0 := step B0 hb; clear hb; (try go_wp2_with fail); refine hK.out _ _ ⟨V7.d0, V7.d1, V7.d2⟩ (fun hHeld => ?_); clear hK K; refine ryz 3 (fun K hK => ?_); simp only [gA, gB, gC]; (go_simp); refine (pcs_any a3 n c3 bs r1 y1 _ hL2 HW.out hT h1).mono ?_; rintro e x19 ⟨a4, n4, c4, er2, rfl, hp2, hb⟩; replace V7 := V7.a hb; replace V9 := V9.a hb; replace hT := Tn.after hb hT; replace hL := Le.after hb hL; replace h1 := Rv.after hb h1; replace h2 := Rv.after hb h2; replace hB1 := Bk.after hb hB1
         replace hP1 := Ps.after hb hP1; replace hL2 := Le.after hb hL2; replace B0 := step B0 hb; clear hb; (try go_wp2_with fail); refine hK.out _ _ ⟨V7.d0, V7.d1, V7.d2⟩ (fun hHeld => ?_); clear hK K; refine tjz 4 hHeld ?_; refine tjz 5 hHeld ?_; refine tjz 6 hHeld ?_; refine tjz 7 hHeld ?_; refine tjz 8 hHeld ?_; refine dnz ?_; clear hHeld; clear hL2 hL hT
         rcases pcu hp2.out HP1.out HX.out with ⟨rfl, rfl⟩ | ⟨rfl, g2, ps2, m, ⟨rfl, rfl, rfl, hB2, hpl2⟩, HM, hP2⟩
         all_goals clear hp2
         ·
          clear hB1 hP1; clear h1; clear h2; clear V7; clear V9; (go_wp2_with fail)
          go_ret
          exact ⟨by simp, B0⟩
         ·
          (go_wp2_with fail); refine (of8_any (some ⟨g1, 0, none⟩) n n ps1 _ (by have := hB1.le; rwa [hpl1] at this) (ps_rp hP1)).mono ?_; rintro e x20 ⟨q1, er3, rfl, ho, hb⟩; replace V7 := V7.a hb; replace V9 := V9.a hb; replace h1 := Rv.after hb h1; replace h2 := Rv.after hb h2; replace hB1 := Bk.after hb hB1; replace hP1 := Ps.after hb hP1; replace hB2 := Bk.after hb hB2; replace hP2 := Ps.after hb hP2; replace B0 := step B0 hb; obtain ⟨rfl, g3, bg3, xs1, rfl, hd1⟩ := of_ok9 hP1 HX.out.2.1.1 HX.out.2.2 (bv_sz HX.out.2.1 HW.out) ho.out; clear hb ho; clear hB1 hP1; (go_wp2_with fail); refine (of8_any (some ⟨g2, 0, none⟩) n n ps2 _ (by have := hB2.le; rwa [hpl2] at this) (ps_rp hP2)).mono ?_; rintro e x21 ⟨q2, er4, rfl, ho, hb⟩; replace V7 := V7.a hb; replace V9 := V9.a hb; replace h1 := Rv.after hb h1; replace h2 := Rv.after hb h2; replace hB2 := Bk.after hb hB2; replace hP2 := Ps.after hb hP2; replace hd1 := Sd.after hb hd1
          replace B0 := step B0 hb; obtain ⟨rfl, g4, bg4, xs2, rfl, hd2⟩ := of_ok9 hP2 HM.out.1 (HM.out.sok HX.out.2.1.1 HX.out.2.2 HP1.out) ((fun i hi => ⟨(HM.out.2 i hi).2, by rw [(HM.out.2 i hi).1.2]; exact (bv_sz HX.out.2.1 HW.out i hi).2⟩)) ho.out; clear hb ho; clear hB2 hP2; have c_V7 := V7.d0; have f0_V7 := V7.frozen 0; have d_V7 := V7.d1; have f1_V7 := V7.frozen 1; have e_V7 := V7.d2; have f2_V7 := V7.frozen 2; have l_V7 := V7.lt; have m_V7 := Nat.le_of_lt l_V7; have c_V9 := V9.d0; have f0_V9 := V9.frozen 0; have d_V9 := V9.d1; have f1_V9 := V9.frozen 1; have e_V9 := V9.d2; have f2_V9 := V9.frozen 2; have l_V9 := V9.lt; have m_V9 := Nat.le_of_lt l_V9; (go_wp2_with fail); clear c_V7 f0_V7 d_V7 f1_V7 e_V7 f2_V7 l_V7 m_V7 c_V9 f0_V9 d_V9 f1_V9 e_V9 f2_V9 l_V9 m_V9; obtain ⟨vx, hvx⟩ := ata_ex HX.out.2.2 HP2.out; obtain ⟨wx, hwx⟩ := ata_ex (HM.out.sok HX.out.2.1.1 HX.out.2.2 HP1.out) (Rat.mul_nonneg (Rat.le_of_lt HP1.out) HP2.out); obtain rfl : wx = y1 * vx := at_unit HP1.out (by rw [HM.out.1, HX.out.2.1.1]) (fun i hi => (HM.out.2 i (by rw [← HX.out.2.1.1]; exact hi)).1.1) (fun i hi => (HM.out.2 i (by rw [← HX.out.2.1.1]; exact hi)).1.2) hvx hwx
          have HVX : Hid (Ata l y2 vx) := hvx; have HWX : Hid (Ata m (y1 * y2) (y1 * vx)) := hwx; clear hvx hwx; refine (mul_rc r1 r2 y1 y2 (y1 * y2) _ h1 h2 rfl ((HZ1.out.mul HZ2.out).short (by omega))).mono ?_; rintro e x22 ⟨r5, rfl, h5, hb⟩; replace V7 := V7.a hb; replace V9 := V9.a hb; replace h1 := Rv.after hb h1; replace h2 := Rv.after hb h2; replace hd1 := Sd.after hb hd1; replace hd2 := Sd.after hb hd2; replace B0 := step B0 hb; clear hb; (go_wp2_with fail); have lt_V17_V7 := V7.lt; have lt_V17_V9 := V9.lt; refine ent1 x22 _ _ (Q := fun W => Calls Tryz.prog _ _ W _) ?_; intro x23 hb hs_x23 V17; replace V7 := V7.a hb; replace V9 := V9.a hb; replace h1 := Rv.after hb h1; replace h2 := Rv.after hb h2; replace hd1 := Sd.after hb hd1; replace hd2 := Sd.after hb hd2; replace h5 := Rv.after hb h5; replace B0 := step B0 hb; clear hb hs_x23; refine (at8_any g4 bg4 0 n n xs2 m r5 (y1 * y2) _ hd2 h5).mono ?_; rintro e x24 ⟨q6, er, rfl, ha, hb⟩
          replace V7 := V7.a hb; replace V9 := V9.a hb; replace V17 := V17.a hb; replace h1 := Rv.after hb h1; replace h2 := Rv.after hb h2; replace hd1 := Sd.after hb hd1; replace hd2 := Sd.after hb hd2; replace h5 := Rv.after hb h5; replace B0 := step B0 hb; obtain ⟨rfl, h6, -⟩ := at_ok ha.out (HZ1.out.mul HZ2.out) (by omega) (Rat.mul_nonneg (Rat.le_of_lt HP1.out) HP2.out) HWX.out; clear hb ha; clear V17 h5 hd2; have c_V9 := V9.d0; have f0_V9 := V9.frozen 0; have d_V9 := V9.d1; have f1_V9 := V9.frozen 1; have e_V9 := V9.d2; have f2_V9 := V9.frozen 2; have l_V9 := V9.lt; have m_V9 := Nat.le_of_lt l_V9; (go_wp2_with fail); have lt_V18_V7 := V7.lt; have lt_V18_V9 := V9.lt; refine ent1 x24 _ _ (Q := fun W => Calls Tryz.prog _ _ W _) ?_; intro x25 hb hs_x25 V18; replace V7 := V7.a hb; replace V9 := V9.a hb; replace h1 := Rv.after hb h1; replace h2 := Rv.after hb h2; replace hd1 := Sd.after hb hd1; replace h6 := Rv.after hb h6
          replace B0 := step B0 hb; clear hb hs_x25; clear c_V9 f0_V9 d_V9 f1_V9 e_V9 f2_V9 l_V9 m_V9; refine (at8_any g3 bg3 0 n n xs1 l r2 y2 _ hd1 h2).mono ?_; rintro e x26 ⟨q7, er, rfl, ha, hb⟩; replace V7 := V7.a hb; replace V9 := V9.a hb; replace V18 := V18.a hb; replace h1 := Rv.after hb h1; replace h2 := Rv.after hb h2; replace hd1 := Sd.after hb hd1; replace h6 := Rv.after hb h6; replace B0 := step B0 hb; obtain ⟨rfl, h7, hz7⟩ := at_ok ha.out HZ2.out (by omega) HP2.out HVX.out; have HZ7 : Hid (Sz 150 vx) := hz7; clear hb ha hz7; have c_V7 := V7.d0; have f0_V7 := V7.frozen 0; have d_V7 := V7.d1; have f1_V7 := V7.frozen 1; have e_V7 := V7.d2; have f2_V7 := V7.frozen 2; have l_V7 := V7.lt; have m_V7 := Nat.le_of_lt l_V7; (go_wp2_with fail); have lt_V19_V7 := V7.lt; have lt_V19_V9 := V9.lt; have lt_V19_V18 := V18.lt; refine ent1 x26 _ _ (Q := fun W => Calls Tryz.prog _ _ W _) ?_; intro x27 hb hs_x27 V19; replace V7 := V7.a hb
          replace V9 := V9.a hb; replace V18 := V18.a hb; replace h1 := Rv.after hb h1; replace h2 := Rv.after hb h2; replace hd1 := Sd.after hb hd1; replace h6 := Rv.after hb h6; replace h7 := Rv.after hb h7; replace B0 := step B0 hb; clear hb hs_x27; clear c_V7 f0_V7 d_V7 f1_V7 e_V7 f2_V7 l_V7 m_V7; refine (mul_rc r1 q7 y1 vx (y1 * vx) _ h1 h7 rfl ((HZ1.out.mul HZ7.out).short (by omega))).mono ?_; rintro e x28 ⟨r8, rfl, h8, hb⟩; replace V7 := V7.a hb; replace V9 := V9.a hb; replace V18 := V18.a hb; replace V19 := V19.a hb; replace h1 := Rv.after hb h1; replace h2 := Rv.after hb h2; replace hd1 := Sd.after hb hd1; replace h6 := Rv.after hb h6; replace h7 := Rv.after hb h7; replace B0 := step B0 hb; clear hb; clear V7 h1; have c_V18 := V18.d0; have f0_V18 := V18.frozen 0; have d_V18 := V18.d1; have f1_V18 := V18.frozen 1; have e_V18 := V18.d2; have f2_V18 := V18.frozen 2; have l_V18 := V18.lt; have m_V18 := Nat.le_of_lt l_V18
          (go_wp2_with fail); have lt_V21_V9 := V9.lt; have lt_V21_V18 := V18.lt; have lt_V21_V19 := V19.lt; refine ent1 x28 _ _ (Q := fun W => Calls Tryz.prog _ _ W _) ?_; intro x29 hb hs_x29 V21; replace V9 := V9.a hb; replace V18 := V18.a hb; replace V19 := V19.a hb; replace h2 := Rv.after hb h2; replace hd1 := Sd.after hb hd1; replace h6 := Rv.after hb h6; replace h7 := Rv.after hb h7; replace h8 := Rv.after hb h8; replace B0 := step B0 hb; clear hb hs_x29; clear c_V18 f0_V18 d_V18 f1_V18 e_V18 f2_V18 l_V18 m_V18; refine (cmp_rc q6 r8 (y1 * vx) (y1 * vx) _ h6 h8).mono ?_; rintro e x30 ⟨rfl, hb⟩; replace V9 := V9.a hb; replace V18 := V18.a hb; replace V19 := V19.a hb; replace V21 := V21.a hb; replace h2 := Rv.after hb h2; replace hd1 := Sd.after hb hd1; replace h6 := Rv.after hb h6; replace h7 := Rv.after hb h7; replace h8 := Rv.after hb h8; replace B0 := step B0 hb; clear hb; clear V18 V21 h6 h8; rw [(cmp_eq (y1 * vx) (y1 * vx)).2 rfl]
          by_cases g9 : 1 < n
          ·
           (have e9 : decide ((1 : Int) < (n : Int)) = true := by rw [decide_eq_true_iff]; omega); clear V9 V19 h2 h7 hd1; (go_wp2_with fail)
           go_ret
           exact ⟨rfl, B0⟩
          ·
           (have e9 : decide ((1 : Int) < (n : Int)) = false := by rw [decide_eq_false_iff_not]; omega); (have HL1 : Hid (l.length = 1) := by have h1 := HX.out.1.1; have h2 := HX.out.2.1.1; show l.length = 1; omega); have HEV : Hid (vx = rq l 0 * y2) := at_one HX.out.2.2 HL1.out HVX.out; have HZR : Hid (Sz 3 (rq l 0)) := (bv_sz HX.out.2.1 HW.out 0 (by have h1 := HX.out.1.1; omega)).2; have c_V9 := V9.d0; have f0_V9 := V9.frozen 0; have d_V9 := V9.d1; have f1_V9 := V9.frozen 1; have e_V9 := V9.d2; have f2_V9 := V9.frozen 2; have l_V9 := V9.lt; have m_V9 := Nat.le_of_lt l_V9; (go_wp2_with fail); clear c_V9 f0_V9 d_V9 f1_V9 e_V9 f2_V9 l_V9 m_V9; refine (slope8_ok g3 bg3 0 n n xs1 l r2 y2 _ hd1 h2 1 (bg_one HX.out.2.2 HL1.out HP2.out) HP2.out).mono ?_; rintro e x31 ⟨q9, rfl, h9, hb⟩; replace V9 := V9.a hb; replace V19 := V19.a hb; replace h2 := Rv.after hb h2; replace hd1 := Sd.after hb hd1; replace h7 := Rv.after hb h7; replace B0 := step B0 hb
           clear hb; clear hd1; have c_V9 := V9.d0; have f0_V9 := V9.frozen 0; have d_V9 := V9.d1; have f1_V9 := V9.frozen 1; have e_V9 := V9.d2; have f2_V9 := V9.frozen 2; have l_V9 := V9.lt; have m_V9 := Nat.le_of_lt l_V9; (go_wp2_with fail); have lt_V23_V9 := V9.lt; have lt_V23_V19 := V19.lt; refine ent1 x31 _ _ (Q := fun W => Calls Tryz.prog _ _ W _) ?_; intro x32 hb hs_x32 V23; replace V9 := V9.a hb; replace V19 := V19.a hb; replace h2 := Rv.after hb h2; replace h7 := Rv.after hb h7; replace h9 := Rv.after hb h9; replace B0 := step B0 hb; clear hb hs_x32; clear c_V9 f0_V9 d_V9 f1_V9 e_V9 f2_V9 l_V9 m_V9; refine (mul_rc q9 r2 (rq l 0) y2 vx _ h9 h2 HEV.out.symm ((HZ7.out).short (by omega))).mono ?_; rintro e x33 ⟨r10, rfl, h10, hb⟩; replace V9 := V9.a hb; replace V19 := V19.a hb; replace V23 := V23.a hb; replace h2 := Rv.after hb h2; replace h7 := Rv.after hb h7; replace h9 := Rv.after hb h9; replace B0 := step B0 hb; clear hb
           clear V9 V23 h9 h2; have c_V19 := V19.d0; have f0_V19 := V19.frozen 0; have d_V19 := V19.d1; have f1_V19 := V19.frozen 1; have e_V19 := V19.d2; have f2_V19 := V19.frozen 2; have l_V19 := V19.lt; have m_V19 := Nat.le_of_lt l_V19; (go_wp2_with fail); have lt_V24_V19 := V19.lt; refine ent1 x33 _ _ (Q := fun W => Calls Tryz.prog _ _ W _) ?_; intro x34 hb hs_x34 V24; replace V19 := V19.a hb; replace h7 := Rv.after hb h7; replace h10 := Rv.after hb h10; replace B0 := step B0 hb; clear hb hs_x34; clear c_V19 f0_V19 d_V19 f1_V19 e_V19 f2_V19 l_V19 m_V19; refine (cmp_rc r10 q7 vx vx _ h10 h7).mono ?_; rintro e x35 ⟨rfl, hb⟩; replace V19 := V19.a hb; replace V24 := V24.a hb; replace h7 := Rv.after hb h7; replace h10 := Rv.after hb h10; replace B0 := step B0 hb; clear hb; rw [(cmp_eq vx vx).2 rfl]; clear V19 V24 h10 h7; (go_wp2_with fail)
           go_ret
           exact ⟨by simp, B0⟩
end Go.Proofs.YtenmkbofpmbedabGreatDoor
namespace Go.Proofs.YtenmkbofpmbedabGreatDoor
open Go.ChangeShapes Go.WideShapes Go.ChangeAt Go.RowKit
set_option linter.unusedVariables false

theorem list4b {α : Type} {l : List α} (h : l.length = 4) : ∃ a b c d, l = [a, b, c, d] := by
  match l, h with
  | [a, b, c, d], _ => exact ⟨a, b, c, d, rfl⟩
instance : Inhabited Br := ⟨bz⟩
def Br.vs (x : Br) : List Value := [.int .i64 x.u, .int .i64 x.p, .int .i64 x.v, .int .i64 x.q]
theorem cBracket : Tryz.prog.cellsOf 83 = 4 := by kernel_rfl
theorem cDecimal : Tryz.prog.cellsOf 81 = 2 := by kernel_rfl
theorem bytesBr : Tryz.prog.bytesOf 83 = 32 := by kernel_rfl
theorem w64_of_wf {x : Int} (h : (Lit.int .i64 x).wf = true) : W64 x := by
  simp [Lit.wf, IntKind.min, IntKind.max, IntKind.signed, IntKind.bits] at h
  exact ⟨by omega, by omega⟩
section
variable {H : Type} {enc : TypeId × Value → H} {W : World}
theorem decimal_open {n : Nat} {v0 v1 : Value} {y : DataW H × List MemPlace} (h : DataW.trod enc Tryz.prog W 0 (fun _ => true) true n 81 [v0, v1] = some y) :
    ∃ u p : Int, v0 = .int .i64 u ∧ v1 = .int .i64 p ∧ W64 u ∧ W64 p := by
  obtain ⟨xs, k, _, hy, hl, hxl, hf⟩ := DataW.trod_struct Tryz.underlying81 h
  obtain ⟨y0, y1, rfl⟩ := list2p hxl
  have g0 := hf 0 _ rfl
  have g1 := hf 1 _ rfl
  have e1 : Tryz.prog.cellsOf 2 = 1 := by kernel_rfl
  have e2 : Tryz.prog.cellsOf 3 = 1 := by kernel_rfl
  simp [e1, e2] at g0 g1
  obtain ⟨x, hx0, -, wx⟩ := DataW.trod_int Tryz.underlying2 g0
  obtain ⟨z, hz0, -, wz⟩ := DataW.trod_int Tryz.underlying3 g1
  exact ⟨x, z, by simpa using hx0, by simpa using hz0, w64_of_wf wx, w64_of_wf wz⟩
theorem bracket_open {n : Nat} {cs : List Value} {y : DataW H × List MemPlace} (h : DataW.trod enc Tryz.prog W 0 (fun _ => true) true n 83 cs = some y) :
    ∃ p : Br, cs = Br.vs p ∧ p.ok := by
  obtain ⟨xs, k, _, hy, hl, hxl, hf⟩ := DataW.trod_struct Tryz.underlying83 h
  obtain ⟨v0, v1, v2, v3, rfl⟩ := list4b (hl.trans cBracket)
  obtain ⟨y0, y1, rfl⟩ := list2p hxl
  have g0 := hf 0 _ rfl
  have g1 := hf 1 _ rfl
  simp [cDecimal] at g0 g1
  obtain ⟨u, p, rfl, rfl, h1, h2⟩ := decimal_open g0
  obtain ⟨v, q, rfl, rfl, h3, h4⟩ := decimal_open g1
  exact ⟨⟨u, p, v, q⟩, rfl, h1, h2, h3, h4⟩
theorem open_brackets {a : Option Addr} {len cap : Nat} {d : DataW H} {p : List MemPlace} (h : DataW.Trod enc Tryz.prog W 0 (fun _ => true) true 22 (.slice a len cap) d p) (hs : ∀ x ∈ d.weights Tryz.prog 22, x ≤ reachBytes) :
    ∃ ps : List Br, Le elB W a len ps ∧ len ≤ cap ∧ cap ≤ 4398046511104 ∧ (a = none → len = 0 ∧ cap = 0) ∧ ∀ q ∈ ps, q.ok := by
  obtain ⟨fuel, hf⟩ := h
  rcases Go.Deep.open_slice Tryz.underlying22 hf with ⟨hcs, _⟩ | ⟨ad, l, c, m, n, D, Pl, hcs, _, hl, hcm, hmm, hd, hx⟩
  · simp [Value.cells] at hcs
    obtain ⟨rfl, rfl, rfl⟩ := hcs
    exact ⟨[], Le.nil _ _, Nat.le_refl _, by decide, fun _ => ⟨rfl, rfl⟩, fun n hn => by simp at hn⟩
  · simp [Value.cells] at hcs
    obtain ⟨rfl, rfl, rfl⟩ := hcs
    simp at hmm
    subst hmm
    have hd1 : d = DataW.slice ((List.range len).map D) ((List.range (m - len)).map fun j => D (len + j)) := congrArg Prod.fst hd
    rw [hd1] at hs
    simp only [DataW.weights, Tryz.underlying22] at hs
    have hb := hs _ (List.mem_cons_self ..)
    rw [bytesBr] at hb
    simp only [List.length_map, List.length_range, reachBytes] at hb
    have each : ∀ i, i < len → ∃ nd : Br, (∀ j u, (Br.vs nd)[j]? = some u → W.cell? ((ad.add (i * 4)).add j) = some u) ∧ nd.ok := by
      intro i hi
      obtain ⟨cs', h1, h2⟩ := hx i (by omega)
      rw [cBracket] at h1
      obtain ⟨nd, rfl, h6⟩ := bracket_open h2
      obtain ⟨_, hlen, hcell⟩ := World.cells?_some h1
      refine ⟨nd, fun j u hj => ?_, h6⟩
      have hj6 : j < 4 := by
        rcases Nat.lt_or_ge j 4 with h' | h'
        · exact h'
        · rw [List.getElem?_eq_none (by exact h')] at hj; cases hj
      have := hcell j hj6
      rw [this, hj]
    obtain ⟨Q, hQ⟩ := Go.Deep.choose_lt each
    refine ⟨(List.range len).map Q, ⟨by simp, fun h0 => ?_⟩, hl, by omega, (fun h => by cases h), fun n hn => ?_⟩
    · obtain ⟨b, off, spot⟩ := ad
      have hspot : spot = none := by
        have := (hQ 0 h0).1 0 _ rfl
        simpa [Addr.add] using World.cell?_spot this
      subst hspot
      refine ⟨b, off, rfl, fun i u hu => ?_⟩
      have hlen : (rowE elB ((List.range len).map Q)).length = len * 4 := by rw [rowE_length]; simp; rfl
      have hi : i < len * 4 := by
        rcases Nat.lt_or_ge i (rowE elB ((List.range len).map Q)).length with h' | h'
        · omega
        · rw [List.getElem?_eq_none h'] at hu; cases hu
      have hq := rowE_get elB (i % 4) (Nat.mod_lt _ (by decide)) ((List.range len).map Q) (i / 4) (by simp; omega)
      rw [show i / 4 * elB.s + i % 4 = i by show i / 4 * 4 + i % 4 = i; omega, hu] at hq
      have hg : ((List.range len).map Q).getD (i / 4) elB.dft = Q (i / 4) := by simp [show i / 4 < len by omega]
      rw [hg] at hq
      have := (hQ (i / 4) (by omega)).1 (i % 4) u hq.symm
      rw [Go.WideShapes.add_plain, Go.WideShapes.add_plain] at this
      rw [← this]
      congr 2
      omega
    · simp only [List.mem_map, List.mem_range] at hn
      obtain ⟨i, hi, rfl⟩ := hn
      exact (hQ i hi).2
end
end Go.Proofs.YtenmkbofpmbedabGreatDoor
