import Derived.Test.YtenmkbofpmbedaaGreatDoorMgAm
import Derived.Test.YtenmkbofpmbedaaGreatDoorMgAa
namespace Go.Proofs.YtenmkbofpmbedaaGreatDoor
open Go.RowKit Go.Shelf
set_option linter.unusedVariables false
set_option maxRecDepth 20000

def MuR (w : World) (r : Rc) (v : Rat) (er : Int) : Prop := (er = 0 ∧ Short v ∧ Rv w r v) ∨ (er ≠ 0 ∧ ¬ Short v ∧ Rv w r 0)
theorem MuR.after {w w' : World} (hb : Below w.heap.size w w') {r : Rc} {v : Rat} {er : Int} (h : MuR w r v er) : MuR w' r v er := by
  rcases h with ⟨h0, h1, h2⟩ | ⟨h0, h1, h2⟩
  · exact .inl ⟨h0, h1, h2.after hb⟩
  · exact .inr ⟨h0, h1, h2.after hb⟩
theorem mul8_any (p q : Rc) (x y : Rat) (w : World) (h1 : Rv w p x) (h2 : Rv w q y) :
    Calls Tryz.prog 32 #[.agg #[.bool p.s, .slice p.a p.l p.c, .slice p.b p.m p.d], .agg #[.bool q.s, .slice q.a q.l q.c, .slice q.b q.m q.d]] w fun e w' => ∃ (r : Rc) (er : Int), e = .returned (.tuple #[.agg #[.bool r.s, .slice r.a r.l r.c, .slice r.b r.m r.d], .int .i64 er]) ∧ MuR w' r (x * y) er ∧ Below w.heap.size w w' := by
  refine (qmul_any p.s p.a p.l p.c p.z p.b p.m p.d p.y x q.s q.a q.l q.c q.z q.b q.m q.d q.y y w h1 h2).mono ?_
  rintro e w' ⟨er, s, a, l, c, z, b, m, d, t, v', rfl, h', hra, hb⟩
  refine ⟨⟨s, a, l, c, z, b, m, d, t⟩, er, rfl, ?_, hb⟩
  rcases hra.out with ⟨hs, rfl, rfl⟩ | ⟨hs, rfl, rfl⟩
  · exact .inl ⟨rfl, hs, h'⟩
  · exact .inr ⟨by decide, hs, h'⟩
def put3 (w : World) (g k : Nat) (r : Rc) : World := ((w.setCell ⟨g, k * 6, none⟩ (.bool r.s)).setCell ⟨g, k * 6 + 1, none⟩ (.slice r.a r.l r.c)).setCell ⟨g, k * 6 + 2, none⟩ (.slice r.b r.m r.d)
theorem put3_other (w : World) (g k : Nat) (r : Rc) : ∀ c, c ≠ g → (put3 w g k r).heap[c]? = w.heap[c]? := fun c hc => by
  unfold put3
  rw [setAt_other _ _ _ _ c hc, setAt_other _ _ _ _ c hc, setAt_other _ _ _ _ c hc]
theorem put3_below {B : Nat} {a w : World} (h : Below B a w) {g : Nat} (hg : B ≤ g) (k : Nat) (r : Rc) : Below B a (put3 w g k r) :=
  ((h.setCell (p := ⟨g, k * 6, none⟩) hg _).setCell (p := ⟨g, k * 6 + 1, none⟩) hg _).setCell (p := ⟨g, k * 6 + 2, none⟩) hg _
theorem set3 {E : El Pc} (hE : E.s = 6) (r : Rc) (he : E.enc = Pc.vs) : ∀ (xs : List Pc) (k : Nat), k < xs.length →
    (((rowE E xs).set (k * 6) (.bool r.s)).set (k * 6 + 1) (.slice r.a r.l r.c)).set (k * 6 + 2) (.slice r.b r.m r.d) = rowE E (xs.set k (r, (xs.getD k (Rc.nil, Rc.nil)).2))
  | [], k, h => by simp at h
  | x :: xs, 0, h => by simp [rowE_cons, he]
  | x :: xs, k + 1, h => by
    have ih := set3 hE r he xs k (by simpa using h)
    have hl : (E.enc x).length = 6 := by rw [E.len, hE]
    rw [rowE_cons, List.set_cons_succ, rowE_cons, show ((x :: xs).getD (k + 1) (Rc.nil, Rc.nil)) = xs.getD k (Rc.nil, Rc.nil) from rfl, ← ih]
    rw [show (k + 1) * 6 = 6 + k * 6 by omega]
    simp only [Nat.add_assoc]
    simp only [List.set_append_right _ _ (show (E.enc x).length ≤ 6 + (k * 6) by omega), List.set_append_right _ _ (show (E.enc x).length ≤ 6 + (k * 6 + 1) by omega), List.set_append_right _ _ (show (E.enc x).length ≤ 6 + (k * 6 + 2) by omega)]
    rw [hl]
    simp only [Nat.add_sub_cancel_left]
theorem Bk.put3 {E : El Pc} (hE : E.s = 6) (he : E.enc = Pc.vs) {w : World} {g k : Nat} {xs : List Pc} (h : Bk E w g xs) (hk : k < xs.length) (r : Rc) : Bk E (put3 w g k r) g (xs.set k (r, (xs.getD k (Rc.nil, Rc.nil)).2)) := by
  have := ((Va.setAt (i := k * 6) (show Va w g E.te (rowE E xs).toArray from h) (.bool r.s)).setAt (i := k * 6 + 1) (.slice r.a r.l r.c)).setAt (i := k * 6 + 2) (.slice r.b r.m r.d)
  rw [set3 hE r he xs k hk] at this
  exact this
theorem aq_set {l : List Pq} {k i : Nat} (p : Pq) (h : k < l.length) : aq (l.set k p) i = if i = k then p.1 else aq l i := by
  unfold aq
  rw [getD_set l k i p (0, 0) h]
  by_cases e : i = k
  · rw [if_pos e, if_pos e]
  · rw [if_neg e, if_neg e]
theorem rq_set {l : List Pq} {k i : Nat} (p : Pq) (h : k < l.length) : rq (l.set k p) i = if i = k then p.2 else rq l i := by
  unfold rq
  rw [getD_set l k i p (0, 0) h]
  by_cases e : i = k
  · rw [if_pos e, if_pos e]
  · rw [if_neg e, if_neg e]
theorem Sf.put3 {w w' : World} {xs : List Pc} {l : List Pq} {k n g : Nat} {r : Rc} {x : Rat} (h : Sf w xs l n) (hl : l.length = n) (hb : Bk elT w g xs) (hxl : xs.length = n) (hk : k < n) (h1 : Rv w r x) (hf : ∀ c, c ≠ g → w'.heap[c]? = w.heap[c]?) : Sf w' (xs.set k (r, (xs.getD k (Rc.nil, Rc.nil)).2)) (l.set k (x, rq l k)) n := by
  intro i hi
  rw [getD_set _ _ _ _ _ (by omega), aq_set _ (by omega), rq_set _ (by omega)]
  by_cases e : i = k
  · subst e
    rw [if_pos rfl, if_pos rfl, if_pos rfl]
    exact ⟨h1.far hb (row_noInt rfl _) hf, ((h i hi).2).far hb (row_noInt rfl _) hf⟩
  · rw [if_neg e, if_neg e, if_neg e]
    have := h i hi
    exact ⟨this.1.far hb (row_noInt rfl _) hf, this.2.far hb (row_noInt rfl _) hf⟩
def PcR (w : World) (B : Nat) (a : Option Addr) (n' c' : Nat) (er : Int) (bs : List Br) (n : Nat) (u : Rat) : Prop :=
  (er = 180 ∧ a = none ∧ n' = 0 ∧ ¬ ((1 ≤ n ∧ n ≤ 8) ∧ ∃ l, BVals bs l n ∧ Sok l)) ∨
  ∃ l, (1 ≤ n ∧ n ≤ 8) ∧ BVals bs l n ∧ Sok l ∧ ((er = 2 ∧ a = none ∧ n' = 0 ∧ u ≤ 0) ∨ (er = 3 ∧ a = none ∧ n' = 0 ∧ 0 < u ∧ ∃ i, i < n ∧ ¬ Sz 3 (aq l i * u)) ∨
    (er = 0 ∧ 0 < u ∧ (∀ i, i < n → Sz 3 (aq l i * u)) ∧ ∃ (g : Nat) (ps : List Pc) (m : List Pq), a = some ⟨g, 0, none⟩ ∧ n' = n ∧ c' = n ∧ Bk elP w g ps ∧ ps.length = n ∧ m.length = n ∧ (∀ i, i < n → aq m i = aq l i * u ∧ rq m i = rq l i) ∧ Ps w ps m n))
set_option maxHeartbeats 16000000 in
theorem pcs_any (a : Option Addr) (n c : Nat) (bs : List Br) (r : Rc) (u : Rat) (w : World) (hL : Le elB w a n bs) (hW : ∀ i, i < n → (bs.getD i bz).ok) (hT : Tn w) (hr : Rv w r u) :
    Calls Tryz.prog 15 #[.slice a n c, .agg #[.bool r.s, .slice r.a r.l r.c, .slice r.b r.m r.d]] w fun e w' => ∃ (a' : Option Addr) (n' c' : Nat) (er : Int), e = .returned (.tuple #[.slice a' n' c', .int .i64 er]) ∧ Hid (PcR w' w.heap.size a' n' c' er bs n u) ∧ Below w.heap.size w w' := by
  obtain ⟨su, hsu⟩ : ∃ s, Int.sign u.num = s := ⟨_, rfl⟩
  have HSU : Hid (su ≤ 0 ↔ u ≤ 0) := by
    show _ ↔ _
    have h1 := sgn_lt u
    have h2 := sgn_eq u
    rw [hsu] at h1 h2
    constructor
    · intro h
      rcases Int.lt_or_eq_of_le h with h' | h'
      · exact Rat.le_of_lt (h1.1 h')
      · rw [h2.1 h']; exact Rat.le_refl
    · intro h
      rcases Rat.le_iff_lt_or_eq.1 h with h' | h'
      · exact Int.le_of_lt (h1.2 h')
      · exact Int.le_of_eq (h2.2 h')
  have B0 : Below w.heap.size w w := Below.refl _ _
  have hL0 := hL
  have hT0 := hT
  clear hL hT
  go_enter Tryz.func15, Tryz.ntmps15
  go_wp2_with fail
  refine ent1 w _ _ (Q := fun W => Calls Tryz.prog _ _ W _) ?_
  intro x1 hb hs_x1 V3
  replace hr := Rv.after hb hr
  replace hL0 := Le.after hb hL0
  replace hT0 := Tn.after hb hT0
  replace B0 := step B0 hb
  clear hb hs_x1
  refine (ofBr_any a n c bs _ hL0 hW hT0).mono ?_
  rintro e x2 ⟨a1, n1, c1, er, rfl, hs, hb⟩
  have hsz := B0.size
  have l31 := V3.lt
  replace V3 := V3.a hb
  replace hr := Rv.after hb hr
  replace hL0 := Le.after hb hL0
  replace hT0 := Tn.after hb hT0
  replace B0 := step B0 hb
  clear hb hL0 hT0
  by_cases z : er = 0
  ·
    have HS : Hid (Stb x2 _ a1 n1 c1 bs n) := Or.elim hs.out (fun h => h.2) (fun h => absurd z (by omega))
    clear hs
    subst z
    obtain ⟨g, xs, l, e1, e2, e3, hBg, hxl, hG, hF, hV, hO⟩ := HS.out.ex
    subst e1
    subst e2
    subst e3
    clear HS
    have HV : Hid (BVals bs l c1) := hV
    have HO : Hid (Sok l) := hO
    have hln := hV.1
    have h1 : 1 ≤ c1 := by rw [← hln]; exact hO.one
    have h8 : c1 ≤ 8 := by rw [← hln]; exact hO.few
    clear hV hO
    have c_V3 := V3.d0
    have f0_V3 := V3.frozen 0
    have d_V3 := V3.d1
    have f1_V3 := V3.frozen 1
    have e_V3 := V3.d2
    have f2_V3 := V3.frozen 2
    have l_V3 := V3.lt
    have m_V3 := Nat.le_of_lt l_V3
    go_wp2_with fail
    refine (sign_rc r u _ hr).mono ?_
    rintro e x3 ⟨rfl, hb⟩
    replace V3 := V3.a hb
    replace hr := Rv.after hb hr
    replace hG := Bk.after hb hG
    replace hF := Sf.after hb hF
    replace B0 := step B0 hb
    clear hb
    rw [hsu]
    by_cases g1 : su ≤ 0
    clear c_V3 f0_V3 d_V3 f1_V3 e_V3 f2_V3 l_V3 m_V3
    ·
      have g2 : decide (su ≤ 0) = true := decide_eq_true g1
      go_wp2_with fail
      go_ret2
      exact ⟨none, 0, 0, 2, rfl, .inr ⟨l, ⟨h1, h8⟩, HV.out, HO.out, .inl ⟨rfl, rfl, rfl, HSU.out.1 g1⟩⟩, B0⟩
    ·
      have g2 : decide (su ≤ 0) = false := decide_eq_false g1
      have HU : Hid (0 < u) := by show 0 < u; have := HSU.out; grind
      have c_V3 := V3.d0
      have f0_V3 := V3.frozen 0
      have d_V3 := V3.d1
      have f1_V3 := V3.frozen 1
      have e_V3 := V3.d2
      have f2_V3 := V3.frozen 2
      have l_V3 := V3.lt
      have m_V3 := Nat.le_of_lt l_V3
      go_wp2_with fail
      clear c_V3 f0_V3 d_V3 f1_V3 e_V3 f2_V3 l_V3 m_V3
      have HV3 : Hid (Va x3 w.heap.size 36 #[.bool r.s, .slice r.a r.l r.c, .slice r.b r.m r.d]) := V3
      have HR : Hid (Rv x3 r u) := hr
      have HG : Hid (Bk elT x3 g xs) := hG
      have HF : Hid (Sf x3 xs l c1) := hF
      have HB : Hid (Below w.heap.size w x3) := B0
      clear V3 hr hG hF B0
      go_loopw [27] (fun i wr => ∃ (k : Nat) (ys : List Pc) (m : List Pq), k ≤ c1 ∧ i = .int .i64 k ∧ ys.length = c1 ∧ m.length = c1 ∧ Hid (Va wr w.heap.size 36 #[.bool r.s, .slice r.a r.l r.c, .slice r.b r.m r.d]) ∧ Hid (Rv wr r u) ∧ Hid (Bk elT wr g ys) ∧ Hid (Sf wr ys m c1) ∧ Hid (∀ i, i < k → aq m i = aq l i * u ∧ Sz 3 (aq m i)) ∧ Hid (∀ i, k ≤ i → aq m i = aq l i) ∧ Hid (∀ i, rq m i = rq l i) ∧ Hid (Below w.heap.size w wr)) (fun i _ => c1 - (intOf i).toNat)
      case atStart => exact ⟨0, xs, l, Nat.zero_le _, rfl, hxl, hln, HV3.out, HR.out, HG.out, HF.out, fun j hj => absurd hj (by omega), fun _ _ => rfl, fun _ => rfl, HB.out⟩
      case round =>
        clear HV3 HR HG HF HB
        obtain ⟨k, ys, m, hk, rfl, hyl, hml, HV3, HR, HG, HF, HA, HA2, HQ, HB⟩ := hrel
        by_cases hlt : k < c1
        ·
          have B0 := HB.out
          have V3 := HV3.out
          have hr := HR.out
          have hG := HG.out
          have hF := HF.out
          have hc : At6 wr g (k * 6) (ys.getD k (Rc.nil, Rc.nil)) := hG.at6 rfl rfl k (by omega)
          have hp : Rv wr (ys.getD k (Rc.nil, Rc.nil)).1 (aq l k) := by have := (hF k hlt).1; rwa [HA2.out k (Nat.le_refl _)] at this
          obtain ⟨p, hpe⟩ : ∃ p, ys.getD k (Rc.nil, Rc.nil) = p := ⟨_, rfl⟩
          rw [hpe] at hc hp
          have HPE : Hid (ys.getD k (Rc.nil, Rc.nil) = p) := hpe
          clear hpe
          obtain ⟨c0, c1', c2, c3, c4, c5⟩ := hc
          have lb0 := cell_lt c0
          have c_V3 := V3.d0
          have f0_V3 := V3.frozen 0
          have d_V3 := V3.d1
          have f1_V3 := V3.frozen 1
          have e_V3 := V3.d2
          have f2_V3 := V3.frozen 2
          have l_V3 := V3.lt
          have m_V3 := Nat.le_of_lt l_V3
          go_wp2_with fail
          clear c_V3 f0_V3 d_V3 f1_V3 e_V3 f2_V3 l_V3 m_V3
          refine ent1 wr _ _ (Q := fun W => Calls Tryz.prog _ _ W _) ?_
          intro x31 hb hs_x31 V9
          replace V3 := V3.a hb
          replace hr := Rv.after hb hr
          replace hG := Bk.after hb hG
          replace hF := Sf.after hb hF
          replace hp := Rv.after hb hp
          replace B0 := step B0 hb
          clear hb hs_x31
          clear c0 c1' c2 c3 c4 c5 lb0
          refine (mul8_any p.1 r (aq l k) u _ hp hr).mono ?_
          rintro e x32 ⟨q, e1, rfl, hm, hb⟩
          replace V3 := V3.a hb
          replace V9 := V9.a hb
          replace hr := Rv.after hb hr
          replace hG := Bk.after hb hG
          replace hF := Sf.after hb hF
          replace hp := Rv.after hb hp
          replace B0 := step B0 hb
          clear hb
          by_cases z1 : e1 = 0
          ·
            subst z1
            have hq : Rv x32 q (aq l k * u) := Or.elim hm (fun h => h.2.2) (fun h => absurd rfl h.1)
            clear hm
            have g10 := hG.lt
            go_wp2_with fail
            refine ent1 x32 _ _ (Q := fun W => Calls Tryz.prog _ _ W _) ?_
            intro x33 hb hs_x33 V10
            replace V3 := V3.a hb
            replace V9 := V9.a hb
            replace hr := Rv.after hb hr
            replace hG := Bk.after hb hG
            replace hF := Sf.after hb hF
            replace hp := Rv.after hb hp
            replace hq := Rv.after hb hq
            replace B0 := step B0 hb
            clear hb hs_x33
            refine (long_rc q (aq l k * u) _ hq).mono ?_
            rintro e x34 ⟨nl, rfl, hnl, hb⟩
            replace V3 := V3.a hb
            replace V9 := V9.a hb
            replace V10 := V10.a hb
            replace hr := Rv.after hb hr
            replace hG := Bk.after hb hG
            replace hF := Sf.after hb hF
            replace hp := Rv.after hb hp
            replace hq := Rv.after hb hq
            replace B0 := step B0 hb
            clear hb
            have HNL : Hid (nl ≤ 3 ↔ Sz 3 (aq l k * u)) := hnl 3
            clear hnl
            by_cases g3 : 3 < nl
            ·
              have g4 : decide (3 < nl) = true := decide_eq_true g3
              go_wp2_with fail
              go_ret2
              exact ⟨none, 0, 0, 3, rfl, .inr ⟨l, ⟨h1, h8⟩, HV.out, HO.out, .inr (.inl ⟨rfl, rfl, rfl, HU.out, k, hlt, fun h => absurd (HNL.out.2 h) (by omega)⟩)⟩, B0⟩
            ·
              have g4 : decide (3 < nl) = false := decide_eq_false g3
              have HZ : Hid (Sz 3 (aq l k * u)) := HNL.out.1 (by omega)
              obtain ⟨b0, b1, b2, b3, b4, b5⟩ := hG.at6 rfl rfl k (by omega)
              have fr0 := hG.frozen (k * 6)
              have fr1 := hG.frozen (k * 6 + 1)
              have fr2 := hG.frozen (k * 6 + 2)
              have fr3 := hG.frozen (k * 6 + 3)
              have fr4 := hG.frozen (k * 6 + 4)
              have fr5 := hG.frozen (k * 6 + 5)
              have c_V10 := V10.d0
              have f0_V10 := V10.frozen 0
              have d_V10 := V10.d1
              have f1_V10 := V10.frozen 1
              have e_V10 := V10.d2
              have f2_V10 := V10.frozen 2
              have l_V10 := V10.lt
              have m_V10 := Nat.le_of_lt l_V10
              go_wp2_with fail
              clear c_V10 f0_V10 d_V10 f1_V10 e_V10 f2_V10 l_V10 m_V10
              go_roundw
              case measure => simp [intOf]; omega
              case rel =>
                have HPG := hF.put3 hml hG hyl hlt hq (put3_other _ g k q)
                refine ⟨k + 1, ys.set k (q, (ys.getD k (Rc.nil, Rc.nil)).2), m.set k (aq l k * u, rq m k), by omega, by go_num, by rw [List.length_set]; exact hyl, by rw [List.length_set]; exact hml, V3.stay (put3_other _ g k q) (by omega), hr.far hG (row_noInt rfl _) (put3_other _ g k q), hG.put3 rfl rfl (by omega) q, HPG, fun i hi => ?_, fun i hi => ?_, fun i => ?_, put3_below B0 (by omega) k q⟩
                · rw [aq_set _ (by omega)]
                  by_cases e : i = k
                  · rw [if_pos e, e]; exact ⟨rfl, HZ.out⟩
                  · rw [if_neg e]; exact HA.out i (by omega)
                · rw [aq_set _ (by omega), if_neg (by omega)]; exact HA2.out i (by omega)
                · rw [rq_set _ (by omega)]
                  by_cases e : i = k
                  · rw [if_pos e, e]; exact HQ.out k
                  · rw [if_neg e]; exact HQ.out i
          ·
            have z2 : (e1 != 0) = true := by simp [z1]
            have z3 : (e1 == 0) = false := by simp [z1]
            have HSH : Hid (¬ Short (aq l k * u)) := Or.elim hm (fun h => absurd h.1 z1) (fun h => h.2.1)
            go_wp2_with fail
            go_ret2
            exact ⟨none, 0, 0, 3, rfl, .inr ⟨l, ⟨h1, h8⟩, HV.out, HO.out, .inr (.inl ⟨rfl, rfl, rfl, HU.out, k, hlt, fun h => HSH.out (h.short (by omega))⟩)⟩, B0.alloc (by have := B0.size; omega) _⟩
        ·
          obtain rfl : k = c1 := by omega
          have hL2 : Le elT wr (some ⟨g, 0, none⟩) k ys := by have := HG.out.le; rwa [hyl] at this
          have hS2 : Ss wr ys m := ⟨by rw [hyl, hml], fun i hi => HF.out i (by rw [← hml]; exact hi)⟩
          go_wp2_with fail
          refine (plain_any g 0 k k ys m wr hL2 hS2 hml h8).mono ?_
          rintro e wz ⟨g2, ps, rfl, hB, hpl, hP, hb⟩
          clear hL2 hS2
          have HBP : Hid (Bk elP wz g2 ps) := hB
          clear hB
          go_wp2_with fail
          go_ret2
          exact ⟨_, _, _, 0, rfl, .inr ⟨l, ⟨h1, h8⟩, HV.out, HO.out, .inr (.inr ⟨rfl, HU.out, fun i hi => by have := HA.out i hi; rw [← this.1]; exact this.2, g2, ps, m, rfl, rfl, rfl, HBP.out, hpl, hml, fun i hi => ⟨(HA.out i hi).1, HQ.out i⟩, hP.out⟩)⟩, step HB.out hb⟩
  ·
    have HS : Hid (er = 180 ∧ ¬ ((1 ≤ n ∧ n ≤ 8) ∧ ∃ l, BVals bs l n ∧ Sok l)) := Or.elim hs.out (fun h => absurd h.1 z) (fun h => h)
    have z1 : (er != 0) = true := by simp [z]
    have z2 : (er == 0) = false := by simp [z]
    clear hs
    go_wp2_with fail
    go_ret2
    exact ⟨none, 0, 0, er, rfl, .inl ⟨HS.out.1, rfl, rfl, HS.out.2⟩, B0⟩
end Go.Proofs.YtenmkbofpmbedaaGreatDoor
namespace Go.Proofs.YtenmkbofpmbedaaGreatDoor
open Go.RowKit Go.Shelf
set_option linter.unusedVariables false
set_option maxRecDepth 20000
set_option maxHeartbeats 16000000 in
theorem at8_any (g b off n c : Nat) (xs : List Pc) (l : List Pq) (r : Rc) (v : Rat) (w : World) (hd : Sd w g b off n c xs l) (hr : Rv w r v) :
    Calls Tryz.prog 24 #[.pointer (some ⟨g, 0, none⟩), .agg #[.bool r.s, .slice r.a r.l r.c, .slice r.b r.m r.d]] w fun e w' => ∃ (q : Rc) (er : Int), e = .returned (.tuple #[.agg #[.bool q.s, .slice q.a q.l q.c, .slice q.b q.m q.d], .int .i64 er]) ∧ Hid (AtR w' q er l v) ∧ Below w.heap.size w w' := by
  have L0 := hd.lts; (obtain ⟨sv, hsv⟩ : ∃ s, Int.sign v.num = s := ⟨_, rfl⟩); (have HSV : Hid (sv < 0 ↔ v < 0) := by have := sgn_lt v; rw [hsv] at this; exact this); have B0 : Below w.heap.size w w := Below.refl _ _
  go_enter Tryz.func24, Tryz.ntmps24
  (go_wp2_with fail); refine ent2 w _ _ _ _ (Q := fun W => Calls Tryz.prog _ _ W _) ?_; intro x1 hb hs_x1 V3 V4; replace hd := Sd.after hb hd; replace hr := Rv.after hb hr; replace B0 := step B0 hb; clear hb hs_x1; have h1 := hd.few.1; refine (isSch_yes g b off n c _ hd.va h1).mono ?_; rintro e wz ⟨rfl, hw⟩; rw [hw]; clear hw wz h1; obtain ⟨c_V3, f0_V3, d_V3, f1_V3, e_V3, f2_V3, l_V3, m_V3⟩ := V3.q3; (go_wp2_with fail); refine (sign_rc r v _ hr).mono ?_; rintro e x2 ⟨rfl, hb⟩; replace V3 := V3.a hb; replace V4 := V4.a hb; replace hd := Sd.after hb hd; replace hr := Rv.after hb hr; replace B0 := step B0 hb; clear hb; rw [hsv]
  by_cases g1 : sv < 0
  ·
    have e1 : decide (sv < 0) = true := decide_eq_true g1; clear c_V3 f0_V3 d_V3 f1_V3 e_V3 f2_V3 l_V3 m_V3; obtain ⟨c_V4, f0_V4, d_V4, f1_V4, e_V4, f2_V4, l_V4, m_V4⟩ := V4.q3; (go_wp2_with fail); clear c_V4 f0_V4 d_V4 f1_V4 e_V4 f2_V4 l_V4 m_V4; refine bodyPost_ret (results_rt rfl rfl (V4.set3 _ _ _)) rfl ?_; exact ⟨Rc.nil, 2, rfl, .inl ⟨rfl, HSV.out.1 g1, Rv.nil _⟩, belo3 B0 (by omega) _ _ _⟩
  ·
    have e1 : decide (sv < 0) = false := decide_eq_false g1; (have HV0 : Hid (0 ≤ v) := by show 0 ≤ v; have := HSV.out; grind); clear c_V3 f0_V3 d_V3 f1_V3 e_V3 f2_V3 l_V3 m_V3; obtain ⟨c_V3, f0_V3, d_V3, f1_V3, e_V3, f2_V3, l_V3, m_V3⟩ := V3.q3; (go_wp2_with fail); refine (long_rc r v _ hr).mono ?_; rintro e x3 ⟨nl, rfl, hnl, hb⟩; replace V3 := V3.a hb; replace V4 := V4.a hb; replace hd := Sd.after hb hd; replace hr := Rv.after hb hr; replace B0 := step B0 hb; clear hb; have HNL : Hid (nl ≤ 512 ↔ Sz 512 v) := hnl 512; clear hnl
    by_cases g2 : 512 < nl
    ·
      have e2 : decide (512 < nl) = true := decide_eq_true g2; clear c_V3 f0_V3 d_V3 f1_V3 e_V3 f2_V3 l_V3 m_V3; obtain ⟨c_V4, f0_V4, d_V4, f1_V4, e_V4, f2_V4, l_V4, m_V4⟩ := V4.q3; (go_wp2_with fail); clear c_V4 f0_V4 d_V4 f1_V4 e_V4 f2_V4 l_V4 m_V4; refine bodyPost_ret (results_rt rfl rfl (V4.set3 _ _ _)) rfl ?_; exact ⟨Rc.nil, 3, rfl, .inr (.inl ⟨rfl, HV0.out, fun h => absurd (HNL.out.2 h) (by omega), Rv.nil _⟩), belo3 B0 (by omega) _ _ _⟩
    ·
      have e2 : decide (512 < nl) = false := decide_eq_false g2; have HZ : Hid (Sz 512 v) := HNL.out.1 (by omega); have bx : Bx x3 x3 := Below.refl _ _; have HDX : Hid (Sd x3 g b off n c xs l) := hd; have HRX : Hid (Rv x3 r v) := hr; have HV3 : Hid (Va x3 (w.heap.size) 36 #[.bool r.s, .slice r.a r.l r.c, .slice r.b r.m r.d]) := V3; have HV4 : Hid (Va x3 (w.heap.size + 1) 36 #[.bool false, .slice none 0 0, .slice none 0 0]) := V4; have HBX : Hid (Below w.heap.size w x3) := B0; clear c_V3 f0_V3 d_V3 f1_V3 e_V3 f2_V3 l_V3 m_V3; obtain ⟨c_V3, f0_V3, d_V3, f1_V3, e_V3, f2_V3, l_V3, m_V3⟩ := V3.q3; (go_wp2_with fail); refine ent1 x3 _ _ (Q := fun W => Calls Tryz.prog _ _ W _) ?_; intro x4 hb hs_x4 V6; replace V3 := V3.a hb; replace V4 := V4.a hb; replace hd := Sd.after hb hd; replace hr := Rv.after hb hr; replace bx := Bx.after hb bx
      replace B0 := step B0 hb; clear hb hs_x4; clear c_V3 f0_V3 d_V3 f1_V3 e_V3 f2_V3 l_V3 m_V3; refine (begun8_any g b off n c xs l r v _ hd hr).mono ?_; rintro e x5 ⟨k, rfl, hk, hb⟩; replace V3 := V3.a hb; replace V4 := V4.a hb; replace V6 := V6.a hb; replace hd := Sd.after hb hd; replace hr := Rv.after hb hr; replace bx := Bx.after hb bx; replace B0 := step B0 hb; clear hb; have HK : Hid (Bg l v k) := hk.out; (obtain ⟨j, rfl⟩ : ∃ j, k = j + 1 := ⟨k - 1, by have := hk.out.pos hd.ok HV0.out; omega⟩); clear hk; have hln := hd.ln; (have hkn : j < n := by have := HK.out.le; omega); have h8 := hd.few.2; have hlc := hd.lc; have c0 := hd.va.cell; (have e3 : ((j + 1 : Nat) : Int) - 1 = (j : Int) := by omega); (go_wp2_with fail); have HV6 : Hid (Va x5 x3.heap.size 36 #[.bool false, .slice none 0 0, .slice none 0 0]) := V6; have HX5 : Hid (Below x3.heap.size x3 x5) := bx; have LX := HBX.out.size; clear V3 V4 V6 hd hr bx B0 c0 e3
      go_loopw [38] (fun i wr => ∃ (m : Nat) (q : Rc), m ≤ j ∧ i = .int .i64 m ∧ Hid (Va wr x3.heap.size 36 #[.bool q.s, .slice q.a q.l q.c, .slice q.b q.m q.d]) ∧ Hid (Rv wr q (ful l m)) ∧ Hid (Below x3.heap.size x3 wr)) (fun i _ => j - (intOf i).toNat)
      case atStart => exact ⟨0, Rc.nil, Nat.zero_le _, rfl, HV6.out, Rv.nil _, HX5.out⟩
      case round =>
        clear HV6 HX5; obtain ⟨m, q, hm, rfl, HVS, HVQ, HW⟩ := hrel
        by_cases hlt : m < j
        ·
          have B0 := HW.out; have VS := HVS.out; have hq := HVQ.out; have hd := HDX.out.after B0; have lts := HDX.out.lts; have lws := VS.lt; have hc : At6 wr b (off + m * 6) (xs.getD m (Rc.nil, Rc.nil)) := hd.le.six rfl rfl m (by omega); (obtain ⟨m1, hm1⟩ : ∃ m1, m + 1 = m1 := ⟨_, rfl⟩); (have hm2 : m1 < n := by omega); have hc2 : At6 wr b (off + m1 * 6) (xs.getD m1 (Rc.nil, Rc.nil)) := hd.le.six rfl rfl m1 hm2; have hS := hd.ss.2 m (by omega); (obtain ⟨z1, hz1⟩ : ∃ z, aq l m1 = z := ⟨_, rfl⟩); have hS2 := (hd.ss.2 m1 (by omega)).1; rw [hz1] at hS2; (have HZ1 : Hid (aq l (m + 1) = z1) := by show _ = _; rw [hm1]; exact hz1); (have e6 : (m : Int) + 1 = (m1 : Int) := by omega); clear hm1 hz1
          generalize xs.getD m (Rc.nil, Rc.nil) = p at hc hS
          generalize xs.getD m1 (Rc.nil, Rc.nil) = p2 at hc2 hS2
          obtain ⟨hp1, hp2⟩ := hS; have HT := HDX.out.sh; have HP := HT.part (i := m) (by omega); (have HS1 : Hid (Short (z1 - aq l m)) := by rw [HZ1.out] at HP; exact HP.1.short (by omega)); (have HS2 : Hid (Short (rq l m * (z1 - aq l m))) := by rw [HZ1.out] at HP; exact HP.2.short (by omega)); (have HS3 : Hid (Short (ful l m + rq l m * (z1 - aq l m))) := by rw [HZ1.out] at HP; exact ((HT.ful m (by omega)).add HP.2).short (by omega)); (have HFN : Hid (ful l m + rq l m * (z1 - aq l m) = ful l (m + 1)) := by show _ = _; rw [← HZ1.out]; rfl); clear HT HP; obtain ⟨c0, c1, c2, c3, c4, c5⟩ := hc; have lb0 := cell_lt c0; (go_wp2_with fail); refine ent1 wr _ _ (Q := fun W => Code.wp Tryz.prog _ _ _ W) ?_; intro x21 hb hs_x21 V10; replace VS := VS.a hb; replace hd := Sd.after hb hd; replace hq := Rv.after hb hq; replace hc2 := At6.after hb hc2; replace hp1 := Rv.after hb hp1; replace hp2 := Rv.after hb hp2; replace hS2 := Rv.after hb hS2
          replace B0 := step B0 hb; clear hb hs_x21; clear c0 c1 c2 c3 c4 c5 lb0; refine wp_region_noPanic ?_; replace VS : Va x21.drew _ _ _ := VS; replace V10 : Va x21.drew _ _ _ := V10; replace hd := hd.drw; replace hq := hq.drw; replace hc2 := hc2.drw; replace hp1 := hp1.drw; replace hp2 := hp2.drw; replace hS2 := hS2.drw; replace B0 := Below.drew B0; refine wp_region_held_drew (S := (fun W => W.cell? ⟨wr.heap.size, 0, none⟩ = some (.bool p.1.s) ∧ W.cell? ⟨wr.heap.size, 1, none⟩ = some (.slice p.1.a p.1.l p.1.c) ∧ W.cell? ⟨wr.heap.size, 2, none⟩ = some (.slice p.1.b p.1.m p.1.d) ∧ W.cell? ⟨wr.heap.size, 3, none⟩ = some (.bool p.2.s) ∧ W.cell? ⟨wr.heap.size, 4, none⟩ = some (.slice p.2.a p.2.l p.2.c) ∧ W.cell? ⟨wr.heap.size, 5, none⟩ = some (.slice p.2.b p.2.m p.2.d) ∧ W.cell? ⟨g, 0, none⟩ = some (.slice (some ⟨b, off, none⟩) n c) ∧ W.cell? ⟨b, off + m1 * 6, none⟩ = some (.bool p2.1.s) ∧ W.cell? ⟨b, off + m1 * 6 + 1, none⟩ = some (.slice p2.1.a p2.1.l p2.1.c) ∧ W.cell? ⟨b, off + m1 * 6 + 2, none⟩ = some (.slice p2.1.b p2.1.m p2.1.d))) (by kernel_rfl) ⟨V10.e0, V10.e1, V10.e2, V10.e3, V10.e4, V10.e5, hd.va.cell, hc2.c0, hc2.c1, hc2.c2⟩ (fun hHeld => ?_)
          (obtain ⟨x22, hxd⟩ : ∃ xd, xd = x21.drew := ⟨_, rfl⟩); rw [← hxd] at VS V10 hd hq hc2 hp1 hp2 hS2 B0 hHeld ⊢; clear hxd; refine tjz 0 hHeld ?_; refine tjz 1 hHeld ?_; refine tjz 2 hHeld ?_; refine tjz 3 hHeld ?_; refine tjz 4 hHeld ?_; refine tjz 5 hHeld ?_; refine tjz 6 hHeld ?_; refine tjz 7 hHeld ?_; refine tjz 8 hHeld ?_; refine tjz 9 hHeld ?_; refine tuz 10 (.int .i64 (m1 : Int)) rfl (Or.inl ⟨by rfl, ?_⟩) hHeld ?_
          · (intro W hSw; (try dsimp only at hSw); go_simp; (simp only [IntKind.wrap_i64]; omega))
          simp only [gA, gB, gC, Act.put, gD, gE, gF]; refine tjz 11 hHeld ?_; refine tjz 12 hHeld ?_; refine tjz 13 hHeld ?_; refine ryz 14 (fun K hK => ?_); simp only [gA, gB, gC]; (go_simp); refine (levy_any x3.heap.size q p.2 p.1 p2.1 (ful l m) (rq l m) (aq l m) z1 _ VS hq hp2 hp1 hS2 HS1.out HS2.out HS3.out).mono ?_; rintro e y ⟨⟨u, rfl⟩, q', VS', hq', hfar, hbl⟩; have hy := B0.size; have hh : y.heap[b]? = _ := hfar b (by omega) (by omega); replace hc2 := hc2.hop hh; replace V10 := V10.hop (hfar _ V10.lt (by omega)); replace hd : Sd y g b off n c xs l := HDX.out.after (B0.trans hbl); (try go_wp2_with fail); refine hK.out _ _ ⟨V10.e0, V10.e1, V10.e2, V10.e3, V10.e4, V10.e5, hd.va.cell, hc2.c0, hc2.c1, hc2.c2⟩ (fun hHeld => ?_)
          clear hK K; refine dnz ?_; clear hHeld; have HVS' : Hid (Va y x3.heap.size 36 #[.bool q'.s, .slice q'.a q'.l q'.c, .slice q'.b q'.m q'.d]) := VS'; clear V10 VS' VS hc2; (go_wp2_with fail)
          go_roundw
          case measure => simp [intOf]; omega
          case rel => exact ⟨m + 1, q', by omega, by go_num, HVS'.out, by rw [← HFN.out]; exact hq', B0.trans hbl⟩
        ·
          (obtain rfl : m = j := by omega); have B0 := HW.out; have VS := HVS.out; have hq := HVQ.out; have hd := HDX.out.after B0; have lts := HDX.out.lts; have lws := VS.lt; have l3 := HV3.out.lt; have l4 := HV4.out.lt; have V3 := Va.after B0 HV3.out; have V4 := Va.after B0 HV4.out; have hr := HRX.out.after B0; have hc : At6 wr b (off + m * 6) (xs.getD m (Rc.nil, Rc.nil)) := hd.le.six rfl rfl m (by omega); have hS := hd.ss.2 m (by omega)
          generalize xs.getD m (Rc.nil, Rc.nil) = p at hc hS
          obtain ⟨hp1, hp2⟩ := hS; have HT := HDX.out.sh; (have HSZ : Hid (∀ i, Sz i v → Sz (i + 86) (atk l (m + 1) v)) := fun i hi => (HT.last (k := m + 1) (by omega) (by omega) (by omega) hi).2.2); have hT := HT.last (k := m + 1) (by omega) (by omega) (by omega) HZ.out; have HS1 : Hid (Short (v - aq l m)) := hT.1.short (by omega); have HS2 : Hid (Short (rq l m * (v - aq l m))) := hT.2.1.short (by omega); have HS3 : Hid (Short (ful l m + rq l m * (v - aq l m))) := hT.2.2.short (by omega); clear HT hT; (go_wp2_with fail); refine wp_region_noPanic ?_; replace VS : Va wr.drew _ _ _ := VS; replace V3 : Va wr.drew _ _ _ := V3; replace V4 : Va wr.drew _ _ _ := V4; replace hd := hd.drw; replace hq := hq.drw; replace hr := hr.drw; replace hc := hc.drw; replace hp1 := hp1.drw; replace hp2 := hp2.drw; replace B0 := Below.drew B0; refine wp_region_held_drew (S := (fun W => W.cell? ⟨w.heap.size, 0, none⟩ = some (.bool r.s) ∧ W.cell? ⟨w.heap.size, 1, none⟩ = some (.slice r.a r.l r.c) ∧ W.cell? ⟨w.heap.size, 2, none⟩ = some (.slice r.b r.m r.d) ∧ W.cell? ⟨g, 0, none⟩ = some (.slice (some ⟨b, off, none⟩) n c) ∧ W.cell? ⟨b, off + m * 6, none⟩ = some (.bool p.1.s) ∧ W.cell? ⟨b, off + m * 6 + 1, none⟩ = some (.slice p.1.a p.1.l p.1.c) ∧ W.cell? ⟨b, off + m * 6 + 2, none⟩ = some (.slice p.1.b p.1.m p.1.d) ∧ W.cell? ⟨b, off + m * 6 + 3, none⟩ = some (.bool p.2.s) ∧ W.cell? ⟨b, off + m * 6 + 4, none⟩ = some (.slice p.2.a p.2.l p.2.c) ∧ W.cell? ⟨b, off + m * 6 + 5, none⟩ = some (.slice p.2.b p.2.m p.2.d))) (by kernel_rfl) ⟨V3.d0, V3.d1, V3.d2, hd.va.cell, hc.c0, hc.c1, hc.c2, hc.c3, hc.c4, hc.c5⟩ (fun hHeld => ?_)
          (obtain ⟨x21, hxd⟩ : ∃ xd, xd = wr.drew := ⟨_, rfl⟩); rw [← hxd] at VS V3 V4 hd hq hr hc hp1 hp2 B0 hHeld ⊢; clear hxd; refine tjz 0 hHeld ?_; refine tjz 1 hHeld ?_; refine tjz 2 hHeld ?_; refine tjz 3 hHeld ?_; refine tjz 4 hHeld ?_; refine tjz 5 hHeld ?_; refine tjz 6 hHeld ?_; refine tjz 7 hHeld ?_; refine tjz 8 hHeld ?_; refine tjz 9 hHeld ?_; refine tjz 10 hHeld ?_; refine tjz 11 hHeld ?_
          refine tjz 12 hHeld ?_; refine tjz 13 hHeld ?_; refine tjz 14 hHeld ?_; refine tjz 15 hHeld ?_; refine tjz 16 hHeld ?_; refine tjz 17 hHeld ?_; refine ryz 18 (fun K hK => ?_); simp only [gA, gB, gC]; (go_simp); refine (levy_any x3.heap.size q p.2 p.1 r (ful l m) (rq l m) (aq l m) v _ VS hq hp2 hp1 hr HS1.out HS2.out HS3.out).mono ?_; rintro e y ⟨⟨u, rfl⟩, q', VS', hq', hfar, hbl⟩; have hy := B0.size; have hh : y.heap[b]? = _ := hfar b (by omega) (by omega); replace hc := hc.hop hh; replace V3 := V3.hop (hfar _ V3.lt (by omega)); replace V4 := V4.hop (hfar _ V4.lt (by omega))
          replace hd : Sd y g b off n c xs l := HDX.out.after (B0.trans hbl); (try go_wp2_with fail); refine hK.out _ _ ⟨V3.d0, V3.d1, V3.d2, hd.va.cell, hc.c0, hc.c1, hc.c2, hc.c3, hc.c4, hc.c5⟩ (fun hHeld => ?_); clear hK K; refine dnz ?_; clear hHeld hc VS; have VS := VS'; clear VS'; have HBY : Hid (Below w.heap.size w y) := HBX.out.trans ((B0.trans hbl).mono LX); obtain ⟨c_VS, f0_VS, d_VS, f1_VS, e_VS, f2_VS, l_VS, m_VS⟩ := VS.q3; obtain ⟨c_V4, f0_V4, d_V4, f1_V4, e_V4, f2_V4, l_V4, m_V4⟩ := V4.q3; (go_wp2_with fail); clear c_VS f0_VS d_VS f1_VS e_VS f2_VS l_VS m_VS c_V4 f0_V4 d_V4 f1_V4 e_V4 f2_V4 l_V4 m_V4; refine bodyPost_ret (results_rt rfl rfl (V4.set3 _ _ _)) rfl ?_
          exact ⟨q', 0, rfl, .inr (.inr ⟨rfl, HV0.out, HZ.out, atk l (m + 1) v, ⟨m + 1, HK.out, by omega, rfl⟩, HSZ.out, hq'.far V4 (noInt3 _ _ _ _ _ _ _) (fa3 _ _ _ _ _)⟩), belo3 HBY.out (by omega) _ _ _⟩
end Go.Proofs.YtenmkbofpmbedaaGreatDoor
