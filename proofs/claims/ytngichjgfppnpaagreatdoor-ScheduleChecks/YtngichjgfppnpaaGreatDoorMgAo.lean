import Derived.Test.YtngichjgfppnpaaGreatDoorMgAn
import Derived.Test.YtngichjgfppnpaaGreatDoorMgAa
import Derived.Test.YtngichjgfppnpaaGreatDoorMgAj
import Derived.Lib.LaidTab
import Derived.Lib.AppendIntMem
import Derived.Test.YtngichjgfppnpaaGreatDoorMgAm
import Derived.Test.YtngichjgfppnpaaGreatDoorWh3
import Derived.Test.YtngichjgfppnpaaGreatDoorBsO
import Derived.Test.YtngichjgfppnpaaGreatDoorMgAh
namespace Go.Proofs.YtngichjgfppnpaaGreatDoor
open Go.RowKit Go.Shelf
set_option linter.unusedVariables false
set_option maxRecDepth 20000

abbrev pz : Pc := (Rc.nil, Rc.nil)
def Lg (p : Pc) : Prop := 3 < max (p.1.l : Int) (p.1.m : Int) ∨ 3 < max (p.2.l : Int) (p.2.m : Int)
def Vals (ps : List Pc) (l : List Pq) (k : Nat) : Prop := l.length = k ∧ ∀ i, i < k → Nm (ps.getD i pz).1 (aq l i) ∧ Nm (ps.getD i pz).2 (rq l i)
theorem Nm.uniq {r : Rc} {x y : Rat} (h1 : Nm r x) (h2 : Nm r y) : x = y := by
  obtain ⟨-, a1, a2⟩ := h1
  obtain ⟨-, b1, b2⟩ := h2
  have e : (x.den : Int) = y.den := by rw [← a2, ← b2]
  exact Rat.ext (by rw [← a1, ← b1]) (by omega)
theorem aq_app {l : List Pq} {i : Nat} (p : Pq) (h : i < l.length) : aq (l ++ [p]) i = aq l i := by
  unfold aq; rw [List.getD_eq_getElem?_getD, List.getElem?_append_left h, ← List.getD_eq_getElem?_getD]
theorem rq_app {l : List Pq} {i : Nat} (p : Pq) (h : i < l.length) : rq (l ++ [p]) i = rq l i := by
  unfold rq; rw [List.getD_eq_getElem?_getD, List.getElem?_append_left h, ← List.getD_eq_getElem?_getD]
theorem aq_last (l : List Pq) (p : Pq) : aq (l ++ [p]) l.length = p.1 := by
  unfold aq; rw [List.getD_eq_getElem?_getD, List.getElem?_append_right (Nat.le_refl _)]; simp
theorem rq_last (l : List Pq) (p : Pq) : rq (l ++ [p]) l.length = p.2 := by
  unfold rq; rw [List.getD_eq_getElem?_getD, List.getElem?_append_right (Nat.le_refl _)]; simp
theorem Vals.snoc {ps : List Pc} {l : List Pq} {k : Nat} (h : Vals ps l k) {x y : Rat} (h1 : Nm (ps.getD k pz).1 x) (h2 : Nm (ps.getD k pz).2 y) : Vals ps (l ++ [(x, y)]) (k + 1) := by
  refine ⟨by rw [List.length_append, h.1]; rfl, fun i hi => ?_⟩
  have hl := h.1
  by_cases e : i = k
  · rw [e, ← hl, aq_last, rq_last, hl]; exact ⟨h1, h2⟩
  · rw [aq_app _ (by omega), rq_app _ (by omega)]; exact h.2 i (by omega)
theorem Vals.val {ps : List Pc} {l l' : List Pq} {k n i : Nat} (h : Vals ps l k) (h' : Vals ps l' n) (hi : i < k) (hn : i < n) : aq l i = aq l' i ∧ rq l i = rq l' i :=
  ⟨(h.2 i hi).1.uniq (h'.2 i hn).1, (h.2 i hi).2.uniq (h'.2 i hn).2⟩
theorem ck_congr {ps : List Pc} {l l' : List Pq} {n i : Nat} (h : Vals ps l n) (h' : Vals ps l' n) (hi : i < n) (hc : Ck l' i) : Ck l i := by
  obtain ⟨e1, e2⟩ := h.val h' hi hi
  refine ⟨fun h0 => ?_, fun h0 => ?_, by rw [e2]; exact hc.r0, by rw [e2]; exact hc.r1⟩
  · subst h0; rw [e1]; exact hc.z rfl
  · obtain ⟨e3, -⟩ := h.val h' (i := i - 1) (by omega) (by omega)
    rw [e1, e3]; exact hc.u h0
theorem Sht.snoc {l : List Pq} (h : Sht l) {x y : Rat} (h1 : Sz 3 x) (h2 : Sz 3 y) : Sht (l ++ [(x, y)]) := by
  intro i hi
  rw [List.length_append] at hi
  by_cases e : i = l.length
  · rw [e, aq_last, rq_last]; exact ⟨h1, h2⟩
  · have : i < l.length := by simp at hi; omega
    rw [aq_app _ this, rq_app _ this]; exact h i this
def OfE (ps : List Pc) (n : Nat) (er : Int) : Prop :=
  (er = 180 ∧ ¬ (1 ≤ n ∧ n ≤ 8)) ∨ (er = 3 ∧ (1 ≤ n ∧ n ≤ 8) ∧ ∃ i, i < n ∧ Lg (ps.getD i pz)) ∨
  (er = 180 ∧ (1 ≤ n ∧ n ≤ 8) ∧ (∀ i, i < n → ¬ Lg (ps.getD i pz)) ∧ ¬ ∃ l, Vals ps l n ∧ Sok l)
def Sf (w : World) (xs : List Pc) (l : List Pq) (k : Nat) : Prop := ∀ i, i < k → Rv w (xs.getD i pz).1 (aq l i) ∧ Rv w (xs.getD i pz).2 (rq l i)
theorem Sf.after {w w' : World} (hb : Below w.heap.size w w') {xs : List Pc} {l : List Pq} {k : Nat} (h : Sf w xs l k) : Sf w' xs l k := fun i hi => ⟨(h i hi).1.after hb, (h i hi).2.after hb⟩
theorem Sf.drw {w : World} {xs : List Pc} {l : List Pq} {k : Nat} (h : Sf w xs l k) : Sf w.drew xs l k := h
theorem Sf.put {w w' : World} {xs : List Pc} {l : List Pq} {k g : Nat} {p : Pc} {x y : Rat} (h : Sf w xs l k) (hl : l.length = k) (hb : Bk elT w g xs) (hk : k < xs.length) (h1 : Rv w p.1 x) (h2 : Rv w p.2 y) (hf : ∀ c, c ≠ g → w'.heap[c]? = w.heap[c]?) : Sf w' (xs.set k p) (l ++ [(x, y)]) (k + 1) := by
  intro i hi
  rw [getD_set _ _ _ _ _ hk]
  by_cases e : i = k
  · subst e
    rw [if_pos rfl]
    have e1 : aq (l ++ [(x, y)]) i = x := by rw [← hl, aq_last]
    have e2 : rq (l ++ [(x, y)]) i = y := by rw [← hl, rq_last]
    rw [e1, e2]
    exact ⟨h1.far hb (row_noInt rfl _) hf, h2.far hb (row_noInt rfl _) hf⟩
  · rw [if_neg e, aq_app _ (by omega), rq_app _ (by omega)]
    have := h i (by omega)
    exact ⟨this.1.far hb (row_noInt rfl _) hf, this.2.far hb (row_noInt rfl _) hf⟩
def Rp (w : World) (ps : List Pc) (n : Nat) : Prop := ∀ i, i < n → Rd2 w (ps.getD i pz).1 ∧ Rd2 w (ps.getD i pz).2
theorem Rp.after {w w' : World} (hb : Below w.heap.size w w') {ps : List Pc} {n : Nat} (h : Rp w ps n) : Rp w' ps n := fun i hi => ⟨(h i hi).1.after hb, (h i hi).2.after hb⟩
def OfR (w : World) (p r : Rc) (er : Int) : Prop := (er = 0 ∧ ∃ v, Nm p v ∧ Sz 3 v ∧ Rv w r v) ∨ (er ≠ 0 ∧ ∀ v, ¬ Nm p v)
theorem OfR.after {w w' : World} (hb : Below w.heap.size w w') {p r : Rc} {er : Int} (h : OfR w p r er) : OfR w' p r er := by
  rcases h with ⟨h0, v, h1, h2, h3⟩ | h
  · exact .inl ⟨h0, v, h1, h2, h3.after hb⟩
  · exact .inr h
theorem of_any (p : Rc) (w : World) (h : Rd2 w p) (hl : ¬ 3 < max (p.l : Int) (p.m : Int)) :
    Calls Tryz.prog 25 #[.agg #[.bool p.s, .slice p.a p.l p.c, .slice p.b p.m p.d]] w fun e w' => ∃ (r : Rc) (er : Int), e = .returned (.tuple #[.agg #[.bool r.s, .slice r.a r.l r.c, .slice r.b r.m r.d], .int .i64 er]) ∧ OfR w' p r er ∧ Below w.heap.size w w' := by
  by_cases hN : Norm p.s p.z p.y
  · obtain ⟨v, e1, e2, e3⟩ := norm_rat h.1.2.1 h.2.1.2.1 hN
    refine (of_rc p v w h (by omega) (by omega) ⟨hN, e1, e2⟩).mono ?_
    rintro e w' ⟨r, rfl, hr, hb⟩
    exact ⟨r, 0, rfl, .inl ⟨rfl, v, ⟨hN, e1, e2⟩, sz_of h.1 h.2.1 (by omega) (by omega) e1 e2, hr⟩, hb⟩
  · refine (of_bad_rc p w h (by omega) (by omega) hN).mono ?_
    rintro e w' ⟨rfl, hb⟩
    exact ⟨Rc.nil, 50, rfl, .inr ⟨by decide, fun v hv => hN hv.1⟩, hb⟩
structure Stp (w : World) (B : Nat) (a : Option Addr) (n' c' : Nat) (ps : List Pc) (n : Nat) : Prop where
  ex : ∃ (g : Nat) (xs : List Pc) (l : List Pq), a = some ⟨g, 0, none⟩ ∧ n' = n ∧ c' = n ∧ B ≤ g ∧ xs.length = n ∧ Bk elT w g xs ∧ Sf w xs l n ∧ Vals ps l n ∧ Sok l ∧ Sht l
set_option maxHeartbeats 16000000 in
theorem ofPieces_any (a : Option Addr) (n c : Nat) (ps : List Pc) (w : World) (hL : Le elP w a n ps) (hR : Rp w ps n) :
    Calls Tryz.prog 49 #[.slice a n c] w fun e w' => ∃ (a' : Option Addr) (n' c' : Nat) (er : Int), e = .returned (.tuple #[.slice a' n' c', .int .i64 er]) ∧ Hid ((er = 0 ∧ Stp w' w.heap.size a' n' c' ps n) ∨ (er ≠ 0 ∧ OfE ps n er)) ∧ Below w.heap.size w w' := by
  have HL : Hid (Le elP w a n ps) := hL
  have HR : Hid (Rp w ps n) := hR
  clear hL hR
  by_cases hn : 1 ≤ n ∧ n ≤ 8
  · have HN : Hid (1 ≤ n ∧ n ≤ 8) := hn
    have hb0 : decide ((1 : Int) ≤ (n : Int) ∧ (n : Int) ≤ 8) = true := by rw [decide_eq_true_iff]; omega
    obtain ⟨lb, lo, rfl⟩ := HL.out.ex hn.1
    clear hn
    go_enter Tryz.func49, Tryz.ntmps49
    go_wp2_with fail
    refine (isCount_any (n : Int) w).mono ?_
    rintro e wz ⟨rfl, hw⟩
    rw [hw, hb0]
    clear hw wz
    go_wp2_with fail
    go_loopw [19] (fun i wr => ∃ k : Nat, k ≤ n ∧ i = .int .i64 k ∧ Hid (∀ j, j < k → ¬ Lg (ps.getD j pz)) ∧ Hid (Below w.heap.size w wr)) (fun i _ => n - (intOf i).toNat)
    case atStart => exact ⟨0, Nat.zero_le _, rfl, fun j hj => absurd hj (by omega), Below.refl _ _⟩
    case round =>
      obtain ⟨k, hk, rfl, HO, HW⟩ := hrel
      have h8 := HN.out.2
      by_cases hlt : k < n
      ·
        have B0 := HW.out
        have hc : At6 wr lb (lo + k * 6) (ps.getD k pz) := (HL.out.after B0).six rfl rfl k hlt
        obtain ⟨p, hp⟩ : ∃ p, ps.getD k pz = p := ⟨_, rfl⟩
        rw [hp] at hc
        have HP : Hid (ps.getD k pz = p) := hp
        clear hp
        obtain ⟨c0, c1, c2, c3, c4, c5⟩ := hc
        have lb0 := cell_lt c0
        go_wp2_with fail
        refine ent1 wr _ _ (Q := fun W => Calls Tryz.prog _ _ W _) ?_
        intro x6 hb hs_x6 V6
        replace B0 := step B0 hb
        clear hb hs_x6
        clear c0 c1 c2 c3 c4 c5 lb0
        refine (isLong_any p.1 _).mono ?_
        rintro e x7 ⟨rfl, hb⟩
        replace V6 := V6.a hb
        replace B0 := step B0 hb
        clear hb
        by_cases g1 : 3 < max (p.1.l : Int) (p.1.m : Int)
        ·
          rw [decide_eq_true g1]
          go_wp2_with fail
          go_ret2
          exact ⟨none, 0, 0, 3, rfl, .inr ⟨by decide, .inr (.inl ⟨rfl, HN.out, k, hlt, by rw [HP.out]; exact .inl g1⟩)⟩, B0⟩
        ·
          rw [decide_eq_false g1]
          have c_V6 := V6.e0
          have f0_V6 := V6.frozen 0
          have d_V6 := V6.e1
          have f1_V6 := V6.frozen 1
          have e_V6 := V6.e2
          have f2_V6 := V6.frozen 2
          have j_V6 := V6.e3
          have f3_V6 := V6.frozen 3
          have k_V6 := V6.e4
          have f4_V6 := V6.frozen 4
          have z_V6 := V6.e5
          have f5_V6 := V6.frozen 5
          have l_V6 := V6.lt
          have m_V6 := Nat.le_of_lt l_V6
          go_wp2_with fail
          refine (isLong_any p.2 _).mono ?_
          rintro e x8 ⟨rfl, hb⟩
          replace V6 := V6.a hb
          replace B0 := step B0 hb
          clear hb
          clear c_V6 f0_V6 d_V6 f1_V6 e_V6 f2_V6 j_V6 f3_V6 k_V6 f4_V6 z_V6 f5_V6 l_V6 m_V6
          by_cases g2 : 3 < max (p.2.l : Int) (p.2.m : Int)
          ·
            rw [decide_eq_true g2]
            go_wp2_with fail
            go_ret2
            exact ⟨none, 0, 0, 3, rfl, .inr ⟨by decide, .inr (.inl ⟨rfl, HN.out, k, hlt, by rw [HP.out]; exact .inr g2⟩)⟩, B0⟩
          ·
            rw [decide_eq_false g2]
            have HK : Hid (¬ Lg (ps.getD k pz)) := by rw [HP.out]; exact fun h => h.elim (fun h' => by omega) (fun h' => by omega)
            go_wp2_with fail
            go_roundw
            case measure => simp [intOf]; omega
            case rel =>
              refine ⟨k + 1, by omega, by go_num, fun j hj => ?_, B0⟩
              rcases Nat.lt_or_ge j k with h' | h'
              · exact HO.out j h'
              · obtain rfl : j = k := by omega
                exact HK.out
      ·
        obtain rfl : k = n := by omega
        obtain ⟨w2, rfl⟩ : ∃ w2, w2 = wr := ⟨_, rfl⟩
        have HBW := HW
        have HON := HO
        clear HW HO
        obtain ⟨w1, hmk, hG, hb1, hs1⟩ := make_T k HN.out.2 w2
        have HG : Hid (Bk elT w1 w2.heap.size (List.replicate k (Rc.nil, Rc.nil))) := hG
        have HB1 : Hid (Below w2.heap.size w2 w1) := hb1
        clear hG hb1 hs1
        go_wp2_with fail
        clear hmk
        go_loopw [37] (fun i wr => ∃ (j : Nat) (xs : List Pc) (l : List Pq), j ≤ k ∧ i = .int .i64 j ∧ xs.length = k ∧ Hid (Bk elT wr w2.heap.size xs) ∧ Hid (Sf wr xs l j) ∧ Hid (Vals ps l j) ∧ Hid (Sht l) ∧ Hid (Below w2.heap.size w2 wr)) (fun i _ => k - (intOf i).toNat)
        case atStart => exact ⟨0, _, [], Nat.zero_le _, rfl, List.length_replicate, HG.out, fun j hj => absurd hj (by omega), ⟨rfl, fun j hj => absurd hj (by omega)⟩, fun j hj => absurd hj (by simp), HB1.out⟩
        case round =>
          clear HG HB1
          obtain ⟨j, xs, l, hj, rfl, hxl, HG, HF, HV, HT, HQ⟩ := hrel
          have hww := HBW.out.size
          by_cases hlt : j < k
          ·
            have B0 := HQ.out
            have hG := HG.out
            have hF := HF.out
            have flt := HG.out.lt
            have hc : At6 wr lb (lo + j * 6) (ps.getD j pz) := ((HL.out.after HBW.out).after B0).six rfl rfl j hlt
            have hR2 := ((HR.out.after HBW.out).after B0) j hlt
            have hNL := HON.out j hlt
            obtain ⟨p, hp⟩ : ∃ p, ps.getD j pz = p := ⟨_, rfl⟩
            rw [hp] at hc hR2 hNL
            have HP : Hid (ps.getD j pz = p) := hp
            clear hp
            obtain ⟨hr1, hr2⟩ := hR2
            have HNL : Hid (¬ Lg p) := hNL
            clear hNL
            obtain ⟨c0, c1, c2, c3, c4, c5⟩ := hc
            have lb0 := cell_lt c0
            go_wp2_with fail
            refine ent1 wr _ _ (Q := fun W => Calls Tryz.prog _ _ W _) ?_
            intro x21 hb hs_x21 V8
            replace hG := Bk.after hb hG
            replace hF := Sf.after hb hF
            replace hr1 := Rd2.after hb hr1
            replace hr2 := Rd2.after hb hr2
            replace B0 := step B0 hb
            clear hb hs_x21
            clear c0 c1 c2 c3 c4 c5 lb0
            refine (of_any p.1 _ hr1 (fun h => HNL.out (.inl h))).mono ?_
            rintro e x22 ⟨r1, e1, rfl, ho1, hb⟩
            replace V8 := V8.a hb
            replace hG := Bk.after hb hG
            replace hF := Sf.after hb hF
            replace hr1 := Rd2.after hb hr1
            replace hr2 := Rd2.after hb hr2
            replace B0 := step B0 hb
            clear hb
            have c_V8 := V8.e0
            have f0_V8 := V8.frozen 0
            have d_V8 := V8.e1
            have f1_V8 := V8.frozen 1
            have e_V8 := V8.e2
            have f2_V8 := V8.frozen 2
            have j_V8 := V8.e3
            have f3_V8 := V8.frozen 3
            have k_V8 := V8.e4
            have f4_V8 := V8.frozen 4
            have z_V8 := V8.e5
            have f5_V8 := V8.frozen 5
            have l_V8 := V8.lt
            have m_V8 := Nat.le_of_lt l_V8
            go_wp2_with fail
            refine ent1 x22 _ _ (Q := fun W => Calls Tryz.prog _ _ W _) ?_
            intro x23 hb hs_x23 V9
            replace V8 := V8.a hb
            replace hG := Bk.after hb hG
            replace hF := Sf.after hb hF
            replace hr1 := Rd2.after hb hr1
            replace hr2 := Rd2.after hb hr2
            replace ho1 := OfR.after hb ho1
            replace B0 := step B0 hb
            clear hb hs_x23
            clear c_V8 f0_V8 d_V8 f1_V8 e_V8 f2_V8 j_V8 f3_V8 k_V8 f4_V8 z_V8 f5_V8 l_V8 m_V8
            refine (of_any p.2 _ hr2 (fun h => HNL.out (.inr h))).mono ?_
            rintro e x24 ⟨r2, e2, rfl, ho2, hb⟩
            replace V8 := V8.a hb
            replace V9 := V9.a hb
            replace hG := Bk.after hb hG
            replace hF := Sf.after hb hF
            replace hr1 := Rd2.after hb hr1
            replace hr2 := Rd2.after hb hr2
            replace ho1 := OfR.after hb ho1
            replace B0 := step B0 hb
            clear hb
            by_cases z1 : e1 = 0
            ·
              have z1' : (e1 != 0) = false := by simp [z1]
              by_cases z2 : e2 = 0
              ·
                have z2' : (e2 != 0) = false := by simp [z2]
                obtain ⟨x, hx, sx, vx⟩ : ∃ v, Nm p.1 v ∧ Sz 3 v ∧ Rv x24 r1 v := Or.elim ho1 (fun h => h.2) (fun h => absurd z1 h.1)
                obtain ⟨y, hy, sy, vy⟩ : ∃ v, Nm p.2 v ∧ Sz 3 v ∧ Rv x24 r2 v := Or.elim ho2 (fun h => h.2) (fun h => absurd z2 h.1)
                clear ho1 ho2
                clear hr1 hr2
                have HNX : Hid (Vals ps (l ++ [(x, y)]) (j + 1)) := HV.out.snoc (by rw [HP.out]; exact hx) (by rw [HP.out]; exact hy)
                have HSX : Hid (Sht (l ++ [(x, y)])) := HT.out.snoc sx sy
                clear hx hy sx sy
                have lg := hG.lt
                have lg2 := Nat.ne_of_lt lg
                obtain ⟨b0, b1, b2, b3, b4, b5⟩ := hG.at6 rfl rfl j (by omega)
                have fr0 := hG.frozen (j * 6)
                have fr1 := hG.frozen (j * 6 + 1)
                have fr2 := hG.frozen (j * 6 + 2)
                have fr3 := hG.frozen (j * 6 + 3)
                have fr4 := hG.frozen (j * 6 + 4)
                have fr5 := hG.frozen (j * 6 + 5)
                have hGa : Bk elT (x24.alloc (.cells #[.bool r2.s, .slice r2.a r2.l r2.c, .slice r2.b r2.m r2.d] 36)) w2.heap.size xs := Va.old hG _
                obtain ⟨d0, d1, d2, d3, d4, d5⟩ := hGa.at6 rfl rfl j (by omega)
                have ga0 := hGa.frozen (j * 6)
                have ga1 := hGa.frozen (j * 6 + 1)
                have ga2 := hGa.frozen (j * 6 + 2)
                have ga3 := hGa.frozen (j * 6 + 3)
                have ga4 := hGa.frozen (j * 6 + 4)
                have ga5 := hGa.frozen (j * 6 + 5)
                have c_V9 := V9.d0
                have f0_V9 := V9.frozen 0
                have d_V9 := V9.d1
                have f1_V9 := V9.frozen 1
                have e_V9 := V9.d2
                have f2_V9 := V9.frozen 2
                have l_V9 := V9.lt
                have m_V9 := Nat.le_of_lt l_V9
                have p0_V9 := (V9.old (.cells #[.bool r2.s, .slice r2.a r2.l r2.c, .slice r2.b r2.m r2.d] 36)).d0
                have q0_V9 := (V9.old (.cells #[.bool r2.s, .slice r2.a r2.l r2.c, .slice r2.b r2.m r2.d] 36)).frozen 0
                have p1_V9 := (V9.old (.cells #[.bool r2.s, .slice r2.a r2.l r2.c, .slice r2.b r2.m r2.d] 36)).d1
                have q1_V9 := (V9.old (.cells #[.bool r2.s, .slice r2.a r2.l r2.c, .slice r2.b r2.m r2.d] 36)).frozen 1
                have p2_V9 := (V9.old (.cells #[.bool r2.s, .slice r2.a r2.l r2.c, .slice r2.b r2.m r2.d] 36)).d2
                have q2_V9 := (V9.old (.cells #[.bool r2.s, .slice r2.a r2.l r2.c, .slice r2.b r2.m r2.d] 36)).frozen 2
                go_wp2_with fail
                go_roundw
                case measure => simp [intOf]; omega
                case rel =>
                  have AL : ∀ W o, Below W.heap.size W (W.alloc o) := fun W o => (Below.refl _ _).alloc (Nat.le_refl _) _
                  have PB := put6_below B0 (Nat.le_refl _) j (r1, r2)
                  exact ⟨j + 1, xs.set j (r1, r2), l ++ [(x, y)], by omega, by go_num, by rw [List.length_set]; exact hxl, (hG.put6 rfl rfl (by omega) (r1, r2)).after (AL _ _), (hF.put HV.out.1 hG (by omega) vx vy (put6_other _ _ _ (r1, r2))).after (AL _ _), HNX.out, HSX.out, PB.alloc PB.size _⟩
              ·
                have z2' : (e2 != 0) = true := by simp [z2]
                have z2'' : (e2 == 0) = false := by simp [z2]
                go_wp2_with fail
                have HBAD : Hid (∀ l', Vals ps l' k → False) := fun l' hv => by
                  have h' := hv.2 j hlt
                  rw [HP.out] at h'
                  rcases ho2 with ⟨h0, -⟩ | ⟨-, h0⟩
                  · exact z2 h0
                  · exact h0 _ h'.2
                go_ret2
                exact ⟨none, 0, 0, 180, rfl, .inr ⟨by decide, .inr (.inr ⟨rfl, HN.out, HON.out, fun ⟨l', hv, _⟩ => HBAD.out l' hv⟩)⟩, HBW.out.trans ((B0.alloc (by have := B0.size; omega) _).mono hww)⟩
            ·
              have z1' : (e1 != 0) = true := by simp [z1]
              have z1'' : (e1 == 0) = false := by simp [z1]
              go_wp2_with fail
              have HBAD : Hid (∀ l', Vals ps l' k → False) := fun l' hv => by
                have h' := hv.2 j hlt
                rw [HP.out] at h'
                rcases ho1 with ⟨h0, -⟩ | ⟨-, h0⟩
                · exact z1 h0
                · exact h0 _ h'.1
              go_ret2
              exact ⟨none, 0, 0, 180, rfl, .inr ⟨by decide, .inr (.inr ⟨rfl, HN.out, HON.out, fun ⟨l', hv, _⟩ => HBAD.out l' hv⟩)⟩, HBW.out.trans ((B0.alloc (by have := B0.size; omega) _).mono hww)⟩
          ·
            obtain rfl : j = k := by omega
            have hL2 : Le elT wr (some ⟨w2.heap.size, 0, none⟩) j xs := by have := HG.out.le; rwa [hxl] at this
            have hS2 : Ss wr xs l := ⟨by rw [hxl, HV.out.1], fun i hi => HF.out i (by rw [← HV.out.1]; exact hi)⟩
            go_wp2_with fail
            refine (check_any w2.heap.size 0 j j xs l wr hL2 hS2 HV.out.1 HN.out.2).mono ?_
            rintro e wz ⟨er, rfl, hck, hb⟩
            clear hL2 hS2
            go_wp2_with fail
            go_ret2
            refine ⟨_, _, _, er, rfl, ?_, HBW.out.trans ((step HQ.out hb).mono hww)⟩
            rcases hck.out with ⟨h0, hk⟩ | ⟨h0, hk⟩
            · exact .inl ⟨h0, ⟨w2.heap.size, xs, l, rfl, rfl, rfl, hww, hxl, HG.out.after hb, HF.out.after hb, HV.out, Sok.of (by rw [HV.out.1]; exact HN.out.1) (by rw [HV.out.1]; exact HN.out.2) (by rw [HV.out.1]; exact hk), HT.out⟩⟩
            · refine .inr ⟨by omega, .inr (.inr ⟨h0, HN.out, HON.out, fun ⟨l', hv, ho⟩ => hk (fun i hi => ?_)⟩)⟩
              have := ho.ck (j := i) (by rw [hv.1]; exact hi)
              exact ck_congr HV.out hv hi this
  · have hb0 : decide ((1 : Int) ≤ (n : Int) ∧ (n : Int) ≤ 8) = false := by rw [decide_eq_false_iff_not]; omega
    have HN : Hid (¬ (1 ≤ n ∧ n ≤ 8)) := hn
    clear hn
    go_enter Tryz.func49, Tryz.ntmps49
    go_wp2_with fail
    refine (isCount_any (n : Int) w).mono ?_
    rintro e wz ⟨rfl, hw⟩
    rw [hw, hb0]
    clear hw wz
    go_wp2_with fail
    go_ret2
    exact ⟨none, 0, 0, 180, rfl, .inr ⟨by decide, .inl ⟨rfl, HN.out⟩⟩, Below.refl _ _⟩
end Go.Proofs.YtngichjgfppnpaaGreatDoor
namespace Go.Proofs.YtngichjgfppnpaaGreatDoor
open Go.RowKit Go.Shelf
set_option linter.unusedVariables false

def Tn (w : World) : Prop := Go.Lib.TabIs Tryz.prog w "tollbook/decimal.tens" .i64 [1, 10, 100, 1000, 10000, 100000, 1000000, 10000000, 100000000, 1000000000]
theorem Tn.to {w w' : World} (h : Tn w) (hb : Below w.heap.size w w') : Tn w' := Go.Lib.tabBelow_of_tabIs h w' hb
theorem Tn.cell {w : World} (h : Tn w) (P : Nat) (hP : P ≤ 9) : w.cell? ⟨0, P, none⟩ = some (.int .i64 (10 ^ P)) := by
  have := Go.Lib.TabIs.cell (g := 0) h (by kernel_rfl) P (by simp; omega)
  rw [this]
  match P, hP with
  | 0, _ => rfl
  | 1, _ => rfl
  | 2, _ => rfl
  | 3, _ => rfl
  | 4, _ => rfl
  | 5, _ => rfl
  | 6, _ => rfl
  | 7, _ => rfl
  | 8, _ => rfl
  | 9, _ => rfl
theorem short64 {x y : Int} (h1 : -9223372036854775808 ≤ x) (h2 : x ≤ 9223372036854775807) (h3 : -9223372036854775808 ≤ y) (h4 : y ≤ 9223372036854775807) (h0 : y ≠ 0) : Short (Rat.divInt x y) := by
  have b1 : (9223372036854775808 : Int) < pw 1024 := Int.lt_of_lt_of_le (by decide : (9223372036854775808 : Int) < pw 1) (pw_mono (by omega))
  unfold Short
  rw [Rat.num_divInt, Rat.den_divInt, if_neg h0]
  have g1 : ((y.sign * x) / (y.gcd x : Nat)).natAbs ≤ x.natAbs := by
    have hd : ((y.gcd x : Nat) : Int) ∣ y.sign * x := Int.dvd_mul_of_dvd_right (Int.gcd_dvd_right ..)
    rw [Int.natAbs_ediv_of_dvd hd, Int.natAbs_mul, Int.natAbs_sign_of_ne_zero h0, Nat.one_mul]
    exact Nat.div_le_self _ _
  have g2 := Nat.div_le_self y.natAbs (y.gcd x)
  exact ⟨Int.lt_of_le_of_lt (by omega) b1, Int.lt_of_le_of_lt (by omega) b1⟩
theorem ten_bound {P : Nat} (hP : P ≤ 9) : 1 ≤ (10 : Int) ^ P ∧ (10 : Int) ^ P ≤ 1000000000 := by
  match P, hP with
  | 0, _ => decide
  | 1, _ => decide
  | 2, _ => decide
  | 3, _ => decide
  | 4, _ => decide
  | 5, _ => decide
  | 6, _ => decide
  | 7, _ => decide
  | 8, _ => decide
  | 9, _ => decide
set_option maxHeartbeats 4000000 in
theorem rat_ok (U : Int) (P : Nat) (h1 : -9223372036854775808 ≤ U) (h2 : U ≤ 9223372036854775807) (hc : Can U P) (w : World) (hT : Tn w) :
  Calls Tryz.prog 39 #[.agg #[.int .i64 U, .int .i64 P]] w fun e W' => ∃ s a l c zs b m d ds, e = .returned (.tuple #[.agg #[.bool s, .slice a l c, .slice b m d], .int .i64 0]) ∧ Rt W' s a l c zs b m d ds (Rat.divInt U (10 ^ P)) ∧ Below w.heap.size w W' := by
 have HC : Hid (CanI U P) := (canI_iff U P).2 hc; have hP := hc.1; clear hc; (obtain ⟨T, hTT⟩ : ∃ T : Int, (10 : Int) ^ P = T := ⟨_, rfl⟩); have hTb := ten_bound hP; (have hTc : Hid (∀ W, Below w.heap.size w W → W.cell? ⟨0, P, none⟩ = some (.int .i64 T)) := fun W hb => by rw [← hTT]; exact (hT.to hb).cell P hP); rw [hTT] at hTb ⊢; have HS : Hid (Short (Rat.divInt U T)) := short64 h1 h2 (by omega) (by omega) (by omega); (have hP10 : (P : Int) < 10 := by omega); clear hTT; have B0 : Below w.heap.size w w := Below.refl _ _
 go_enter Tryz.func39, Tryz.ntmps39
 (go_wp2_with fail); refine ent2 w _ _ _ _ (Q := fun W => Calls Tryz.prog _ _ W _) ?_; intro x1 hb hs_x1 V0 V1; replace B0 := step B0 hb; clear hb hs_x1; refine (check_ok U P HC.out _).mono ?_; rintro e x2 ⟨rfl, hb⟩; replace V0 := V0.a hb; replace V1 := V1.a hb; replace B0 := step B0 hb; clear hb; have c_V0 := V0.c0; have f0_V0 := V0.frozen 0; have d_V0 := V0.c1; have f1_V0 := V0.frozen 1; have l_V0 := V0.lt; have m_V0 := Nat.le_of_lt l_V0; (go_wp2_with fail); clear c_V0 f0_V0 d_V0 f1_V0 l_V0 m_V0; refine wp_region_noPanic ?_; replace V0 : Va x2.drew _ _ _ := V0; replace V1 : Va x2.drew _ _ _ := V1; replace B0 := Below.drew B0; refine wp_region_held_drew (S := (fun W => W.cell? ⟨w.heap.size, 0, none⟩ = some (.int .i64 U) ∧ W.cell? ⟨w.heap.size, 1, none⟩ = some (.int .i64 P) ∧ W.cell? ⟨0, P, none⟩ = some (.int .i64 T))) (by kernel_rfl) ⟨V0.c0, V0.c1, (hTc.out _ B0)⟩ (fun hHeld => ?_); (obtain ⟨x3, hxd⟩ : ∃ xd, xd = x2.drew := ⟨_, rfl⟩)
 rw [← hxd] at V0 V1 B0 hHeld ⊢; clear hxd; refine tjz 0 hHeld ?_; refine tjz 1 hHeld ?_; refine tjz 2 hHeld ?_; refine tjz 3 hHeld ?_; refine tjz 4 hHeld ?_; refine tjz 5 hHeld ?_; refine ryz 6 (fun K hK => ?_); simp only [gA, gB, gC]; (go_simp); refine (qsmall_ok U T h1 h2 (by omega) (by omega) (by omega) _).mono ?_; rintro e x4 ⟨er, s', a', l', c', z', b', m', d', y', v', rfl, h', hra, hb⟩; replace V0 := V0.a hb; replace V1 := V1.a hb; replace B0 := step B0 hb; clear hb; obtain ⟨-, rfl, rfl⟩ := hra.out.resolve_right (fun h => h.1 HS.out); clear hra; (try go_wp2_with fail)
 refine hK.out _ _ ⟨V0.c0, V0.c1, (hTc.out _ B0)⟩ (fun hHeld => ?_); clear hK K; refine tjz 7 hHeld ?_; refine tjz 8 hHeld ?_; have c_V1 := V1.d0; have f0_V1 := V1.frozen 0; have d_V1 := V1.d1; have f1_V1 := V1.frozen 1; have e_V1 := V1.d2; have f2_V1 := V1.frozen 2; have l_V1 := V1.lt; have m_V1 := Nat.le_of_lt l_V1; refine ryz 9 (fun K hK => ?_); simp only [gA, gB, gC]; (go_simp); clear c_V1 f0_V1 d_V1 f1_V1 e_V1 f2_V1 l_V1 m_V1; refine sto3 V1 (.bool s') (.slice a' l' c') (.slice b' m' d') (Q := fun W => K _ W) ?_; intro x5 V' oth far; replace V0 := apz (oth _ _ _) V0; replace h' := h'.far V1 (noInt3 _ _ _ _ _ _ _) far.1; replace B0 := apz (far.2 _ _) B0; replace V1 := V'; clear oth far
 refine hK.out _ _ ⟨V0.c0, V0.c1, (hTc.out _ B0)⟩ (fun hHeld => ?_); clear hK K; refine tjz 10 hHeld ?_; refine dnz ?_; clear hHeld; (go_wp2_with fail); refine bodyPost_ret (results_rt rfl rfl V1) rfl ?_; exact ⟨s', a', l', c', z', b', m', d', y', rfl, h', B0⟩
set_option maxHeartbeats 4000000 in
theorem rat_no (U P : Int) (hc : ¬ CanI U P) (w : World) :
    Calls Tryz.prog 39 #[.agg #[.int .i64 U, .int .i64 P]] w fun e W' => e = .returned (.tuple #[.agg #[.bool false, .slice none 0 0, .slice none 0 0], .int .i64 60]) ∧ Below w.heap.size w W' := by
  have B0 : Below w.heap.size w w := Below.refl _ _
  go_enter Tryz.func39, Tryz.ntmps39
  go_wp2_with fail
  refine ent2 w _ _ _ _ (Q := fun W => Calls Tryz.prog _ _ W _) ?_
  intro x1 hb hs_x1 V0 V1
  replace B0 := step B0 hb
  clear hb hs_x1
  refine (check_no U P hc _).mono ?_
  rintro e x2 ⟨rfl, hb⟩
  replace V0 := V0.a hb
  replace V1 := V1.a hb
  replace B0 := step B0 hb
  clear hb
  have c_V1 := V1.d0
  have f0_V1 := V1.frozen 0
  have d_V1 := V1.d1
  have f1_V1 := V1.frozen 1
  have e_V1 := V1.d2
  have f2_V1 := V1.frozen 2
  have l_V1 := V1.lt
  have m_V1 := Nat.le_of_lt l_V1
  go_wp2_with fail
  refine bodyPost_ret (results_rt rfl rfl (V1.set3 _ _ _)) rfl ?_
  exact ⟨rfl, belo3 B0 (by omega) _ _ _⟩
end Go.Proofs.YtngichjgfppnpaaGreatDoor
namespace Go.Proofs.YtngichjgfppnpaaGreatDoor
open Go.RowKit Go.Shelf
set_option linter.unusedVariables false
set_option maxRecDepth 20000

theorem Rd2.far {w : World} {r : Rc} (h : Rd2 w r) {b' : Nat} {t : TypeId} {cs : Array Value} (V : Va w b' t cs) (hn : NoInt cs) {w' : World} (k : ∀ c, c ≠ b' → w'.heap[c]? = w.heap[c]?) : Rd2 w' r := Ri.far h V hn k
def Tq (w : World) (a : Option Addr) : Prop := ∀ b off s, a = some ⟨b, off, s⟩ → ∃ cur, w.heap[b]? = some (.cells cur 89 (0, 0))
theorem Tq.after {w w' : World} (hb : Below w.heap.size w w') {a : Option Addr} (h : Tq w a) : Tq w' a := fun b off s e => by
  obtain ⟨cur, hc⟩ := h b off s e
  exact ⟨cur, by rw [hb.block b (Array.getElem?_eq_some_iff.1 hc).1]; exact hc⟩
theorem Tq.drw {w : World} {a : Option Addr} (h : Tq w a) : Tq w.drew a := h
theorem Tq.ne {w : World} {a : Option Addr} (h : Tq w a) {b' : Nat} {t : TypeId} {cs : Array Value} (V : Va w b' t cs) (ht : t ≠ 89) {b off : Nat} {s : Option Nat} (e : a = some ⟨b, off, none⟩) : b ≠ b' := by
  intro e2
  obtain ⟨cur, hc⟩ := h b off _ e
  unfold Va at V
  rw [e2, V] at hc
  cases hc
  exact ht rfl
theorem Tq.far {w : World} {a : Option Addr} (h : Tq w a) {b' : Nat} {t : TypeId} {cs : Array Value} (V : Va w b' t cs) (hn : NoInt cs) {w' : World} (k : ∀ c, c ≠ b' → w'.heap[c]? = w.heap[c]?) (ht : t ≠ 89 := by decide) : Tq w' a := fun b off s e => by
  obtain ⟨cur, hc⟩ := h b off s e
  refine ⟨cur, ?_⟩
  rw [k b (fun e2 => ?_)]
  · exact hc
  · unfold Va at V
    rw [e2, V] at hc
    cases hc
    exact ht rfl
theorem copyl9 (a : Option Addr) (la ca : Nat) (zs : List Int) (w : World) (h : Sl w a la zs) (hl : la ≤ 17592186044416) :
    Calls Tryz.prog 72 #[.slice a la ca] w fun e w' => ∃ a' c', e = .returned (.slice a' la c') ∧ Sl w' a' la zs ∧ la ≤ c' ∧ Tq w' a' ∧ Below w.heap.size w w' := by
  have hL := h.2.1
  have hz := h.1
  cases a with
  | none =>
    obtain rfl : la = 0 := by
      rcases Nat.eq_zero_or_pos la with h0 | h0
      · exact h0
      · obtain ⟨bb, off, e, -⟩ := h.2.2 h0; cases e
    have hz : zs = [] := List.eq_nil_of_length_eq_zero h.1
    subst hz
    go_enter Tryz.func72, Tryz.ntmps72
    go_wp2_with fail
    go_ret
    have hT : Tq w none := fun b off s e => nomatch e
    exact ⟨_, _, rfl, h, Nat.zero_le _, hT, Below.refl _ _⟩
  | some ad =>
    have HSL : Hid (Sl w (some ad) la zs) := h
    have HLL : Hid (Limbs zs ∧ zs.length = la) := ⟨hL, hz⟩
    clear h hL hz
    go_enter Tryz.func72, Tryz.ntmps72
    go_wp2_with (at_builtin; refine wpList_app_some rfl (.tmp 4) (.tmp 5) rfl w.heap.size _ [] rfl (Gr.nil _ _) ad la ca zs rfl HSL.out (by simpa using hl) (Nat.le_refl _) ?_; intro v1 w1 hG hb)
    go_ret
    have hG0 := hG.out
    obtain ⟨a1, c1, gm, e1, h1, h2, -, h3, -⟩ := Gr.parts (by simpa using hG.out) HLL.out.1
    rw [HLL.out.2] at e1 h1 h2 h3
    subst e1
    refine ⟨a1, c1, rfl, h2, h1, fun b off s e => ?_, hb⟩
    obtain ⟨-, g2 | ⟨g, cap, cur, e2, -, hh, -⟩⟩ := hG0
    · have := g2.1; rw [e] at this; cases this
    · rw [e] at e2; cases e2; exact ⟨cur, hh⟩
def Tr (w : World) (r : Rc) : Prop := Tq w r.a ∧ Tq w r.b
theorem Tr.after {w w' : World} (hb : Below w.heap.size w w') {r : Rc} (h : Tr w r) : Tr w' r := ⟨h.1.after hb, h.2.after hb⟩
theorem Tr.drw {w : World} {r : Rc} (h : Tr w r) : Tr w.drew r := h
theorem Tr.far {w : World} {r : Rc} (h : Tr w r) {b' : Nat} {t : TypeId} {cs : Array Value} (V : Va w b' t cs) (hn : NoInt cs) {w' : World} (k : ∀ c, c ≠ b' → w'.heap[c]? = w.heap[c]?) (ht : t ≠ 89 := by decide) : Tr w' r := ⟨h.1.far V hn k ht, h.2.far V hn k ht⟩
def Sm (p q : Rc) : Prop := p.s = q.s ∧ p.l = q.l ∧ p.z = q.z ∧ p.m = q.m ∧ p.y = q.y
def Lng (r : Rc) : Prop := r.l ≤ 17592186043904 ∧ r.m ≤ 17592186043904
set_option maxHeartbeats 2000000 in
theorem copyR (p : Rc) (w : World) (hr : Rd2 w p) (hn : Lng p) :
    Calls Tryz.prog 26 #[.agg #[.bool p.s, .slice p.a p.l p.c, .slice p.b p.m p.d]] w fun e w' => ∃ q : Rc, e = .returned (.agg #[.bool q.s, .slice q.a q.l q.c, .slice q.b q.m q.d]) ∧ Rd2 w' q ∧ Sm p q ∧ Tr w' q ∧ Below w.heap.size w w' := by
  have B0 : Below w.heap.size w w := Below.refl _ _
  go_enter Tryz.func26, Tryz.ntmps26
  go_wp2_with fail
  refine ent2 w _ _ _ _ (Q := fun W => Calls Tryz.prog _ _ W _) ?_
  intro x1 hb hs_x1 V0 V1
  replace hr := Rd2.after hb hr
  replace B0 := step B0 hb
  clear hb hs_x1
  refine (copyl9 p.a p.l p.c p.z x1 hr.1 (by have := hn.1; omega)).mono ?_
  rintro e x2 ⟨a2, c2, rfl, h2, hc2, t2, hb⟩
  replace V0 := V0.a hb
  replace V1 := V1.a hb
  replace hr := Rd2.after hb hr
  replace B0 := step B0 hb
  clear hb
  have c_V0 := V0.d0
  have f0_V0 := V0.frozen 0
  have d_V0 := V0.d1
  have f1_V0 := V0.frozen 1
  have e_V0 := V0.d2
  have f2_V0 := V0.frozen 2
  have l_V0 := V0.lt
  have m_V0 := Nat.le_of_lt l_V0
  go_wp2_with fail
  clear c_V0 f0_V0 d_V0 f1_V0 e_V0 f2_V0 l_V0 m_V0
  refine sto317 V0 (.slice a2 p.l c2) (Q := fun W => Calls Tryz.prog _ _ W _) ?_
  intro x3 V' oth far
  replace V1 := oth _ _ _ (by first | omega | (simp; omega)) V1
  replace hr := hr.far V0 (noInt3 _ _ _ _ _ _ _) far.1
  replace h2 := h2.far V0 (noInt3 _ _ _ _ _ _ _) far.1
  replace t2 := t2.far V0 (noInt3 _ _ _ _ _ _ _) far.1
  replace B0 := apz (far.2 _ _) B0
  replace V0 := V'
  clear oth far
  refine (copyl9 p.b p.m p.d p.y x3 hr.2.1 (by have := hn.2; omega)).mono ?_
  rintro e x4 ⟨b2, d2, rfl, g2, hd2, t3, hb⟩
  replace V0 := V0.a hb
  replace V1 := V1.a hb
  replace hr := Rd2.after hb hr
  replace h2 := Sl.after hb h2
  replace t2 := Tq.after hb t2
  replace B0 := step B0 hb
  clear hb
  have U0 := V0.set327 (.slice b2 p.m d2)
  have U1 := V1.stay (fak _ _ 2 (.slice b2 p.m d2)) (show w.heap.size + 1 ≠ w.heap.size by omega)
  have c_V0 := V0.d0
  have f0_V0 := V0.frozen 0
  have d_V0 := V0.d1
  have f1_V0 := V0.frozen 1
  have e_V0 := V0.d2
  have f2_V0 := V0.frozen 2
  have l_V0 := V0.lt
  have m_V0 := Nat.le_of_lt l_V0
  have c_V1 := V1.d0
  have f0_V1 := V1.frozen 0
  have d_V1 := V1.d1
  have f1_V1 := V1.frozen 1
  have e_V1 := V1.d2
  have f2_V1 := V1.frozen 2
  have l_V1 := V1.lt
  have m_V1 := Nat.le_of_lt l_V1
  have dx0 := U0.d0
  have dx1 := U0.d1
  have dx2 := U0.d2
  have ex0 := U0.frozen 0
  have ex1 := U0.frozen 1
  have ex2 := U0.frozen 2
  have gx0 := U1.d0
  have gx1 := U1.d1
  have gx2 := U1.d2
  have hx0 := U1.frozen 0
  have hx1 := U1.frozen 1
  have hx2 := U1.frozen 2
  go_wp2_with fail
  refine bodyPost_ret (results_ra rfl rfl (U1.set3 _ _ _)) rfl ?_
  refine ⟨⟨p.s, a2, p.l, c2, p.z, b2, p.m, d2, p.y⟩, rfl, ?_, ⟨rfl, rfl, rfl, rfl, rfl⟩, ⟨(t2.far V0 (noInt3 _ _ _ _ _ _ _) (fak _ _ _ _)).far U1 (noInt3 _ _ _ _ _ _ _) (fa3 _ _ _ _ _), (t3.far V0 (noInt3 _ _ _ _ _ _ _) (fak _ _ _ _)).far U1 (noInt3 _ _ _ _ _ _ _) (fa3 _ _ _ _ _)⟩, belo3 (B0.setCell (p := ⟨w.heap.size, 2, none⟩) (Nat.le_refl _) _) (by omega) _ _ _⟩
  refine Ri.far (V := U1) (hn := noInt3 _ _ _ _ _ _ _) (k := fa3 _ _ _ _ _) ?_
  refine Ri.far (V := V0) (hn := noInt3 _ _ _ _ _ _ _) (k := fak _ _ _ _) ?_
  exact ⟨h2, g2, hc2, hd2⟩
end Go.Proofs.YtngichjgfppnpaaGreatDoor
namespace Go.Proofs.YtngichjgfppnpaaGreatDoor
open Go.RowKit Go.Shelf
set_option linter.unusedVariables false

end Go.Proofs.YtngichjgfppnpaaGreatDoor
namespace Go.Proofs.YtngichjgfppnpaaGreatDoor
open Go.RowKit Go.Shelf
set_option linter.unusedVariables false

end Go.Proofs.YtngichjgfppnpaaGreatDoor
namespace Go.Proofs.YtngichjgfppnpaaGreatDoor
open Go.RowKit Go.Shelf

end Go.Proofs.YtngichjgfppnpaaGreatDoor
