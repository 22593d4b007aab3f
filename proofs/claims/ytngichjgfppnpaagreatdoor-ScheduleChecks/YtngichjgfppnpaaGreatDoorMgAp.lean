import Derived.Test.YtngichjgfppnpaaGreatDoorMgAa
import Derived.Test.YtngichjgfppnpaaGreatDoorMgAo
import Derived.Test.YtngichjgfppnpaaGreatDoorMgAr
namespace Go.Proofs.YtngichjgfppnpaaGreatDoor
open Go.RowKit Go.Shelf
set_option linter.unusedVariables false
set_option maxRecDepth 20000

structure Br where
  u : Int
  p : Int
  v : Int
  q : Int
abbrev bz : Br := ⟨0, 0, 0, 0⟩
theorem infoBr : (Tryz.prog.info? 53).map (fun i => (i.zero, i.size, i.bytes)) = some (some (.agg #[.int .i64 0, .int .i64 0, .int .i64 0, .int .i64 0]), 4, 32) := by kernel_rfl
def elB : El Br where
  enc x := [.int .i64 x.u, .int .i64 x.p, .int .i64 x.v, .int .i64 x.q]
  dft := bz
  te := 53
  tl := 22
  z := .agg #[.int .i64 0, .int .i64 0, .int .i64 0, .int .i64 0]
  s := 4
  by8 := 32
  len := fun _ => rfl
  one := fun x v hv => by
    simp at hv
    rcases hv with rfl | rfl | rfl | rfl <;> rfl
  pos := by decide
  und := Tryz.underlying22
  inf := infoBr
  zs := rfl
  bt := by decide
theorem Va.b0 {w : World} {b : Nat} {t : TypeId} {u v x y : Value} (h : Va w b t #[u, v, x, y]) : w.cell? ⟨b, 0, none⟩ = some u := by rw [h.cellAt 0]; rfl
theorem Va.b1 {w : World} {b : Nat} {t : TypeId} {u v x y : Value} (h : Va w b t #[u, v, x, y]) : w.cell? ⟨b, 1, none⟩ = some v := by rw [h.cellAt 1]; rfl
theorem Va.b2 {w : World} {b : Nat} {t : TypeId} {u v x y : Value} (h : Va w b t #[u, v, x, y]) : w.cell? ⟨b, 2, none⟩ = some x := by rw [h.cellAt 2]; rfl
theorem Va.b3 {w : World} {b : Nat} {t : TypeId} {u v x y : Value} (h : Va w b t #[u, v, x, y]) : w.cell? ⟨b, 3, none⟩ = some y := by rw [h.cellAt 3]; rfl
def W64 (x : Int) : Prop := -9223372036854775808 ≤ x ∧ x ≤ 9223372036854775807
def Br.ok (x : Br) : Prop := W64 x.u ∧ W64 x.p ∧ W64 x.v ∧ W64 x.q
def dvv (u p : Int) : Rat := Rat.divInt u (10 ^ p.toNat)
theorem dvv_sz {u p : Int} (hu : W64 u) (h0 : 0 ≤ p) (h9 : p ≤ 9) : Sz 1 (dvv u p) := by
  have hb := ten_bound (P := p.toNat) (by omega)
  unfold dvv
  obtain ⟨T, hT⟩ : ∃ T : Nat, ((10 : Int) ^ p.toNat) = (T : Int) := ⟨10 ^ p.toNat, by simp⟩
  rw [hT] at hb ⊢
  have h1 : pw 1 = 18446744073709551616 := by decide
  have hu' := hu
  unfold W64 at hu'
  rw [show Rat.divInt u (T : Int) = mkRat u T from Rat.divInt_ofNat u T]
  exact Sz.mk (by omega) (by rw [h1]; omega) (by rw [h1]; omega)
def DrR (w : World) (r : Rc) (u p : Int) (er : Int) : Prop := (er = 0 ∧ CanI u p ∧ Rv w r (dvv u p)) ∨ (er ≠ 0 ∧ ¬ CanI u p)
theorem DrR.after {w w' : World} (hb : Below w.heap.size w w') {r : Rc} {u p er : Int} (h : DrR w r u p er) : DrR w' r u p er := by
  rcases h with ⟨h0, h1, h2⟩ | h
  · exact .inl ⟨h0, h1, h2.after hb⟩
  · exact .inr h
theorem drat_any (u p : Int) (hu : W64 u) (w : World) (hT : Tn w) :
    Calls Tryz.prog 39 #[.agg #[.int .i64 u, .int .i64 p]] w fun e w' => ∃ (r : Rc) (er : Int), e = .returned (.tuple #[.agg #[.bool r.s, .slice r.a r.l r.c, .slice r.b r.m r.d], .int .i64 er]) ∧ DrR w' r u p er ∧ Below w.heap.size w w' := by
  by_cases hc : CanI u p
  · obtain ⟨P, rfl⟩ : ∃ P : Nat, p = (P : Int) := ⟨p.toNat, by have := hc.1; omega⟩
    refine (rat_ok u P hu.1 hu.2 ((canI_iff u P).1 hc) w hT).mono ?_
    rintro e w' ⟨s, a, l, c, z, b, m, d, y, rfl, h, hb⟩
    exact ⟨⟨s, a, l, c, z, b, m, d, y⟩, 0, rfl, .inl ⟨rfl, hc, h⟩, hb⟩
  · refine (rat_no u p hc w).mono ?_
    rintro e w' ⟨rfl, hb⟩
    exact ⟨Rc.nil, 60, rfl, .inr ⟨by decide, hc⟩, hb⟩
def BVals (bs : List Br) (l : List Pq) (k : Nat) : Prop := l.length = k ∧ ∀ i, i < k → (CanI (bs.getD i bz).u (bs.getD i bz).p ∧ CanI (bs.getD i bz).v (bs.getD i bz).q) ∧ aq l i = dvv (bs.getD i bz).u (bs.getD i bz).p ∧ rq l i = dvv (bs.getD i bz).v (bs.getD i bz).q / 100
theorem BVals.snoc {bs : List Br} {l : List Pq} {k : Nat} (h : BVals bs l k) (h1 : CanI (bs.getD k bz).u (bs.getD k bz).p) (h2 : CanI (bs.getD k bz).v (bs.getD k bz).q) : BVals bs (l ++ [(dvv (bs.getD k bz).u (bs.getD k bz).p, dvv (bs.getD k bz).v (bs.getD k bz).q / 100)]) (k + 1) := by
  refine ⟨by rw [List.length_append, h.1]; rfl, fun i hi => ?_⟩
  have hl := h.1
  by_cases e : i = k
  · rw [e, ← hl, aq_last, rq_last, hl]; exact ⟨⟨h1, h2⟩, rfl, rfl⟩
  · rw [aq_app _ (by omega), rq_app _ (by omega)]; exact h.2 i (by omega)
theorem bck_congr {bs : List Br} {l l' : List Pq} {n i : Nat} (h : BVals bs l n) (h' : BVals bs l' n) (hi : i < n) (hc : Ck l' i) : Ck l i := by
  have e1 := (h.2 i hi).2.1.trans (h'.2 i hi).2.1.symm
  have e2 := (h.2 i hi).2.2.trans (h'.2 i hi).2.2.symm
  refine ⟨fun h0 => ?_, fun h0 => ?_, by rw [e2]; exact hc.r0, by rw [e2]; exact hc.r1⟩
  · subst h0; rw [e1]; exact hc.z rfl
  · have e3 := (h.2 (i - 1) (by omega)).2.1.trans (h'.2 (i - 1) (by omega)).2.1.symm
    rw [e1, e3]; exact hc.u h0
structure At4 (w : World) (b k : Nat) (x : Br) : Prop where
  c0 : w.cell? ⟨b, k, none⟩ = some (.int .i64 x.u)
  c1 : w.cell? ⟨b, k + 1, none⟩ = some (.int .i64 x.p)
  c2 : w.cell? ⟨b, k + 2, none⟩ = some (.int .i64 x.v)
  c3 : w.cell? ⟨b, k + 3, none⟩ = some (.int .i64 x.q)
theorem Le.four {w : World} {b off n : Nat} {xs : List Br} (h : Le elB w (some ⟨b, off, none⟩) n xs) (i : Nat) (hi : i < n) : At4 w b (off + i * 4) (xs.getD i bz) := by
  have q : ∀ j u, (elB.enc (xs.getD i bz))[j]? = some u → w.cell? ⟨b, off + i * 4 + j, none⟩ = some u := fun j u hj => by
    have := h.at i hi j u hj
    rw [Nat.add_assoc]
    exact this
  exact ⟨q 0 _ rfl, q 1 _ rfl, q 2 _ rfl, q 3 _ rfl⟩
structure Stb (w : World) (B : Nat) (a : Option Addr) (n' c' : Nat) (bs : List Br) (n : Nat) : Prop where
  ex : ∃ (g : Nat) (xs : List Pc) (l : List Pq), a = some ⟨g, 0, none⟩ ∧ n' = n ∧ c' = n ∧ B ≤ g ∧ xs.length = n ∧ Bk elT w g xs ∧ Sf w xs l n ∧ BVals bs l n ∧ Sok l
theorem Tn.after {w w' : World} (hb : Below w.heap.size w w') (h : Tn w) : Tn w' := h.to hb
set_option maxHeartbeats 16000000 in
theorem ofBr_any (a : Option Addr) (n c : Nat) (bs : List Br) (w : World) (hL : Le elB w a n bs) (hW : ∀ i, i < n → (bs.getD i bz).ok) (hT : Tn w) :
    Calls Tryz.prog 12 #[.slice a n c] w fun e w' => ∃ (a' : Option Addr) (n' c' : Nat) (er : Int), e = .returned (.tuple #[.slice a' n' c', .int .i64 er]) ∧ Hid ((er = 0 ∧ Stb w' w.heap.size a' n' c' bs n) ∨ (er = 180 ∧ ¬ ((1 ≤ n ∧ n ≤ 8) ∧ ∃ l, BVals bs l n ∧ Sok l))) ∧ Below w.heap.size w w' := by
  have HL : Hid (Le elB w a n bs) := hL; have HW : Hid (∀ i, i < n → (bs.getD i bz).ok) := hW; have HT : Hid (Tn w) := hT; clear hL hW hT
  by_cases hn : 1 ≤ n ∧ n ≤ 8
  · have HN : Hid (1 ≤ n ∧ n ≤ 8) := hn
    have h8 := hn.2; (have hb0 : decide ((1 : Int) ≤ (n : Int) ∧ (n : Int) ≤ 8) = true := by rw [decide_eq_true_iff]; omega); obtain ⟨lb, lo, rfl⟩ := HL.out.ex hn.1; obtain ⟨w1, hmk, hG, hb1, hs1⟩ := make_T n h8 w; have HG1 : Hid (Bk elT w1 w.heap.size (List.replicate n (Rc.nil, Rc.nil))) := hG; have HB1 : Hid (Below w.heap.size w w1) := hb1; clear hn hG hb1 hs1
    go_enter Tryz.func12, Tryz.ntmps12
    (go_wp2_with fail); refine (isCount_any (n : Int) w).mono ?_; rintro e wz ⟨rfl, hw⟩; rw [hw, hb0]; clear hw wz; (go_wp2_with fail); clear hmk
    go_loopw [20] (fun i wr => ∃ (j : Nat) (xs : List Pc) (l : List Pq), j ≤ n ∧ i = .int .i64 j ∧ xs.length = n ∧ Hid (Bk elT wr w.heap.size xs) ∧ Hid (Sf wr xs l j) ∧ Hid (BVals bs l j) ∧ Hid (Below w.heap.size w wr)) (fun i _ => n - (intOf i).toNat)
    case atStart => exact ⟨0, _, [], Nat.zero_le _, rfl, List.length_replicate, HG1.out, fun j hj => absurd hj (by omega), ⟨rfl, fun j hj => absurd hj (by omega)⟩, HB1.out⟩
    case round =>
      clear HG1 HB1; obtain ⟨j, xs, l, hj, rfl, hxl, HG, HF, HV, HQ⟩ := hrel
      by_cases hlt : j < n
      ·
        have B0 := HQ.out; have hG := HG.out; have hF := HF.out; have hT := HT.out.after B0; have flt := HG.out.lt; have hc : At4 wr lb (lo + j * 4) (bs.getD j bz) := (HL.out.after B0).four j hlt; have hok := HW.out j hlt; (obtain ⟨x, hx⟩ : ∃ x, bs.getD j bz = x := ⟨_, rfl⟩); rw [hx] at hc hok; have HX : Hid (bs.getD j bz = x) := hx; clear hx; obtain ⟨c0, c1, c2, c3⟩ := hc; have lb0 := cell_lt c0; (go_wp2_with fail); refine ent1 wr _ _ (Q := fun W => Calls Tryz.prog _ _ W _) ?_; intro x21 hb hs_x21 V6; replace hG := Bk.after hb hG; replace hF := Sf.after hb hF; replace hT := Tn.after hb hT; replace B0 := step B0 hb; clear hb hs_x21; clear c0 c1 c2 c3 lb0; refine (drat_any x.u x.p hok.1 _ hT).mono ?_; rintro e x22 ⟨r1, e1, rfl, ho1, hb⟩; replace V6 := V6.a hb; replace hG := Bk.after hb hG; replace hF := Sf.after hb hF; replace hT := Tn.after hb hT; replace B0 := step B0 hb; clear hb; have g7 := hG.lt; have c_V6 := V6.b0; have f0_V6 := V6.frozen 0; have d_V6 := V6.b1
        have f1_V6 := V6.frozen 1; have e_V6 := V6.b2; have f2_V6 := V6.frozen 2; have j_V6 := V6.b3; have f3_V6 := V6.frozen 3; have l_V6 := V6.lt; have m_V6 := Nat.le_of_lt l_V6; (go_wp2_with fail); refine ent1 x22 _ _ (Q := fun W => Calls Tryz.prog _ _ W _) ?_; intro x23 hb hs_x23 V7; replace V6 := V6.a hb; replace hG := Bk.after hb hG; replace hF := Sf.after hb hF; replace hT := Tn.after hb hT; replace ho1 := DrR.after hb ho1; replace B0 := step B0 hb; clear hb hs_x23; clear c_V6 f0_V6 d_V6 f1_V6 e_V6 f2_V6 j_V6 f3_V6 l_V6 m_V6; refine (drat_any x.v x.q hok.2.2.1 _ hT).mono ?_; rintro e x24 ⟨r2, e2, rfl, ho2, hb⟩; replace V6 := V6.a hb; replace V7 := V7.a hb; replace hG := Bk.after hb hG; replace hF := Sf.after hb hF; replace hT := Tn.after hb hT; replace ho1 := DrR.after hb ho1; replace B0 := step B0 hb; clear hb
        by_cases z1 : e1 = 0
        ·
          (have z1' : (e1 != 0) = false := by simp [z1])
          by_cases z2 : e2 = 0
          ·
            (have z2' : (e2 != 0) = false := by simp [z2]); obtain ⟨hcx, vx⟩ : CanI x.u x.p ∧ Rv x24 r1 (dvv x.u x.p) := Or.elim ho1 (fun h => h.2) (fun h => absurd z1 h.1); obtain ⟨hcy, vy⟩ : CanI x.v x.q ∧ Rv x24 r2 (dvv x.v x.q) := Or.elim ho2 (fun h => h.2) (fun h => absurd z2 h.1); clear ho1 ho2; clear hT; have HSY : Hid (Sz 1 (dvv x.v x.q)) := dvv_sz hok.2.2.1 hcy.1 hcy.2.1; (have HNX : Hid (BVals bs (l ++ [(dvv x.u x.p, dvv x.v x.q / 100)]) (j + 1)) := by have h0 := HV.out.snoc (by rw [HX.out]; exact hcx) (by rw [HX.out]; exact hcy); rw [HX.out] at h0; exact h0); clear hcx hcy hok; have g9 := hG.lt; (go_wp2_with fail); refine ent1 x24 _ _ (Q := fun W => Code.wp Tryz.prog _ _ _ W) ?_; intro x25 hb hs_x25 V9; replace V6 := V6.a hb; replace V7 := V7.a hb; replace hG := Bk.after hb hG; replace hF := Sf.after hb hF; replace vx := Rv.after hb vx; replace vy := Rv.after hb vy; replace B0 := step B0 hb; clear hb hs_x25; refine wp_region_noPanic ?_
            replace V6 : Va x25.drew _ _ _ := V6; replace V7 : Va x25.drew _ _ _ := V7; replace V9 : Va x25.drew _ _ _ := V9; replace hG := hG.drw; replace hF := hF.drw; replace vx := vx.drw; replace vy := vy.drw; replace B0 := Below.drew B0; refine wp_region_held_drew (S := (fun W => W.cell? ⟨x22.heap.size, 0, none⟩ = some (.bool r1.s) ∧ W.cell? ⟨x22.heap.size, 1, none⟩ = some (.slice r1.a r1.l r1.c) ∧ W.cell? ⟨x22.heap.size, 2, none⟩ = some (.slice r1.b r1.m r1.d) ∧ W.cell? ⟨x24.heap.size, 0, none⟩ = some (.bool r2.s) ∧ W.cell? ⟨x24.heap.size, 1, none⟩ = some (.slice r2.a r2.l r2.c) ∧ W.cell? ⟨x24.heap.size, 2, none⟩ = some (.slice r2.b r2.m r2.d))) (by kernel_rfl) ⟨V7.d0, V7.d1, V7.d2, V9.d0, V9.d1, V9.d2⟩ (fun hHeld => ?_); (obtain ⟨x26, hxd⟩ : ∃ xd, xd = x25.drew := ⟨_, rfl⟩); rw [← hxd] at V6 V7 V9 hG hF vx vy B0 hHeld ⊢; clear hxd; refine tjz 0 hHeld ?_; refine tk 1 rfl hHeld ?_
            simp only [gA, gB, gC, Act.put, gD, gE, gF]; refine tjz 2 hHeld ?_; refine tjz 3 hHeld ?_; refine ryz 4 (fun K hK => ?_); simp only [gA, gB, gC]; (go_simp); refine (hundredth_any r2 (dvv x.v x.q) 1 _ vy HSY.out (by omega)).mono ?_; rintro e x27 ⟨r3, rfl, vz, hb⟩; replace V6 := V6.a hb; replace V7 := V7.a hb; replace V9 := V9.a hb; replace hG := Bk.after hb hG; replace hF := Sf.after hb hF; replace vx := Rv.after hb vx; replace vy := Rv.after hb vy; replace B0 := step B0 hb; clear hb; (try go_wp2_with fail); refine hK.out _ _ ⟨V7.d0, V7.d1, V7.d2, V9.d0, V9.d1, V9.d2⟩ (fun hHeld => ?_); clear hK K; refine tjz 5 hHeld ?_; refine tjz 6 hHeld ?_; have fl := hG.lt
            obtain ⟨b0, b1, b2, b3, b4, b5⟩ := hG.at6 rfl rfl j (by omega); have fr0 := hG.frozen (j * 6); have fr1 := hG.frozen (j * 6 + 1); have fr2 := hG.frozen (j * 6 + 2); have fr3 := hG.frozen (j * 6 + 3); have fr4 := hG.frozen (j * 6 + 4); have fr5 := hG.frozen (j * 6 + 5); refine ryz 7 (fun K hK => ?_); simp only [gA, gB, gC]; (go_simp); clear b0 b1 b2 b3 b4 b5 fr0 fr1 fr2 fr3 fr4 fr5; refine sto6 (E := elT) rfl rfl hG (by omega) (r1, r3) (Q := fun W => K _ W) ?_; intro x9 hG9 far9 bel9; have HP9 : Hid (Sf x9 (xs.set j (r1, r3)) (l ++ [(dvv x.u x.p, dvv x.v x.q / 100)]) (j + 1)) := hF.put HV.out.1 hG (by omega) vx vz far9; have HG9 : Hid (Bk elT x9 w.heap.size (xs.set j (r1, r3))) := hG9; have HB9 : Hid (Below w.heap.size w x9) := bel9 _ _ (Nat.le_refl _) B0; replace V7 := V7.stay far9 (by omega); replace V9 := V9.stay far9 (by omega); refine hK.out _ _ ⟨V7.d0, V7.d1, V7.d2, V9.d0, V9.d1, V9.d2⟩ (fun hHeld => ?_)
            clear hK K; refine dnz ?_; clear hHeld; (go_wp2_with fail)
            go_roundw
            case measure => simp [intOf]; omega
            case rel => exact ⟨j + 1, xs.set j (r1, r3), _, by omega, by go_num, by rw [List.length_set]; exact hxl, HG9.out, HP9.out, HNX.out, HB9.out⟩
          ·
            (have z2' : (e2 != 0) = true := by simp [z2]); (have z2'' : (e2 == 0) = false := by simp [z2]); (go_wp2_with fail)
            have HBAD : Hid (∀ l', BVals bs l' n → False) := fun l' hv => by
              have h' := (hv.2 j hlt).1; rw [HX.out] at h'
              rcases ho2 with ⟨h0, -⟩ | ⟨-, h0⟩
              · exact z2 h0
              · exact h0 h'.2
            go_ret2
            exact ⟨none, 0, 0, 180, rfl, .inr ⟨rfl, fun ⟨_, l', hv, _⟩ => HBAD.out l' hv⟩, B0.alloc (by have := B0.size; omega) _⟩
        ·
          (have z1' : (e1 != 0) = true := by simp [z1]); (have z1'' : (e1 == 0) = false := by simp [z1]); (go_wp2_with fail)
          have HBAD : Hid (∀ l', BVals bs l' n → False) := fun l' hv => by
            have h' := (hv.2 j hlt).1; rw [HX.out] at h'
            rcases ho1 with ⟨h0, -⟩ | ⟨-, h0⟩
            · exact z1 h0
            · exact h0 h'.1
          go_ret2
          exact ⟨none, 0, 0, 180, rfl, .inr ⟨rfl, fun ⟨_, l', hv, _⟩ => HBAD.out l' hv⟩, B0.alloc (by have := B0.size; omega) _⟩
      ·
        (obtain rfl : j = n := by omega); (have hL2 : Le elT wr (some ⟨w.heap.size, 0, none⟩) j xs := by have := HG.out.le; rwa [hxl] at this); have hS2 : Ss wr xs l := ⟨by rw [hxl, HV.out.1], fun i hi => HF.out i (by rw [← HV.out.1]; exact hi)⟩; (go_wp2_with fail); refine (check_any w.heap.size 0 j j xs l wr hL2 hS2 HV.out.1 HN.out.2).mono ?_; rintro e wz ⟨er, rfl, hck, hb⟩; clear hL2 hS2; (go_wp2_with fail)
        go_ret2
        refine ⟨_, _, _, er, rfl, ?_, step HQ.out hb⟩
        rcases hck.out with ⟨h0, hk⟩ | ⟨h0, hk⟩
        · exact .inl ⟨h0, ⟨w.heap.size, xs, l, rfl, rfl, rfl, Nat.le_refl _, hxl, HG.out.after hb, HF.out.after hb, HV.out, Sok.of (by rw [HV.out.1]; exact HN.out.1) (by rw [HV.out.1]; exact HN.out.2) (by rw [HV.out.1]; exact hk)⟩⟩
        · refine .inr ⟨h0, fun ⟨_, l', hv, ho⟩ => hk (fun i hi => ?_)⟩
          have := ho.ck (j := i) (by rw [hv.1]; exact hi); exact bck_congr HV.out hv hi this
  · have hb0 : decide ((1 : Int) ≤ (n : Int) ∧ (n : Int) ≤ 8) = false := by rw [decide_eq_false_iff_not]; omega
    have HN : Hid (¬ (1 ≤ n ∧ n ≤ 8)) := hn; clear hn
    go_enter Tryz.func12, Tryz.ntmps12
    (go_wp2_with fail); refine (isCount_any (n : Int) w).mono ?_; rintro e wz ⟨rfl, hw⟩; rw [hw, hb0]; clear hw wz; (go_wp2_with fail)
    go_ret2
    exact ⟨none, 0, 0, 180, rfl, .inr ⟨rfl, fun h => HN.out h.1⟩, Below.refl _ _⟩
end Go.Proofs.YtngichjgfppnpaaGreatDoor
namespace Go.Proofs.YtngichjgfppnpaaGreatDoor
open Go.RowKit Go.Shelf
set_option linter.unusedVariables false
set_option maxRecDepth 20000

theorem dvv_mul (u p : Int) : ∃ T : Rat, 0 < T ∧ dvv u p * T = (u : Rat) := by
  refine ⟨(((10 ^ p.toNat : Int)) : Rat), ?_, ?_⟩
  · exact Rat.intCast_pos.2 (Int.pow_pos (by decide))
  · unfold dvv
    rw [Rat.divInt_eq_div]
    exact Rat.div_mul_cancel (fun h => by
      have h1 : (0 : Rat) < (((10 ^ p.toNat : Int)) : Rat) := Rat.intCast_pos.2 (Int.pow_pos (by decide))
      rw [h] at h1
      exact absurd h1 (by decide))
theorem dvv_neg (u p : Int) : dvv u p < 0 ↔ u < 0 := by
  obtain ⟨T, hT, e⟩ := dvv_mul u p
  constructor
  · intro h
    have := Rat.mul_lt_mul_of_pos_right h hT
    rw [e, Rat.zero_mul] at this
    exact Rat.intCast_neg_iff.1 this
  · intro h
    by_cases h' : dvv u p < 0
    · exact h'
    · have h2 := Rat.mul_nonneg (Rat.not_lt.1 h') (Rat.le_of_lt hT)
      rw [e] at h2
      have := Rat.intCast_nonneg.1 h2
      omega
theorem dvv_zero (u p : Int) : dvv u p = 0 ↔ u = 0 := by
  obtain ⟨T, hT, e⟩ := dvv_mul u p
  constructor
  · intro h
    rw [h, Rat.zero_mul] at e
    exact Rat.intCast_eq_zero_iff.1 e.symm
  · intro h
    subst h
    unfold dvv
    rw [Rat.zero_divInt]
theorem dvv_100 : dvv 100 0 = 100 := by decide +kernel
theorem can_100 : CanI 100 0 := ⟨by decide, by decide, fun h => absurd h (by decide)⟩
theorem rate_0 (v q : Int) : 0 ≤ dvv v q / 100 ↔ ¬ v < 0 := by
  have h := dvv_neg v q
  constructor
  · intro h1 h2
    have h3 := h.2 h2
    have e : dvv v q = dvv v q / 100 * 100 := by grind
    grind
  · intro h1
    have h3 : ¬ dvv v q < 0 := fun h4 => h1 (h.1 h4)
    grind
theorem rate_1 (v q : Int) : dvv v q / 100 ≤ 1 ↔ ¬ 0 < qcmp (dvv v q) (dvv 100 0) := by
  rw [cmp_gt, dvv_100]
  constructor
  · intro h1 h2; grind
  · intro h1; grind
theorem Sok.nonneg {l : List Pq} (h : Sok l) {i : Nat} (hi : i < l.length) : 0 ≤ aq l i := by
  have := h.monoL (Nat.zero_le i) hi
  rw [h.nought] at this
  exact this
end Go.Proofs.YtngichjgfppnpaaGreatDoor
namespace Go.Proofs.YtngichjgfppnpaaGreatDoor
open Go.RowKit Go.Shelf
set_option linter.unusedVariables false
set_option maxRecDepth 20000

def MuR (w : World) (r : Rc) (v : Rat) (er : Int) : Prop := (er = 0 ∧ Short v ∧ Rv w r v) ∨ (er ≠ 0 ∧ ¬ Short v ∧ Rv w r 0)
theorem MuR.after {w w' : World} (hb : Below w.heap.size w w') {r : Rc} {v : Rat} {er : Int} (h : MuR w r v er) : MuR w' r v er := by
  rcases h with ⟨h0, h1, h2⟩ | ⟨h0, h1, h2⟩
  · exact .inl ⟨h0, h1, h2.after hb⟩
  · exact .inr ⟨h0, h1, h2.after hb⟩
theorem mul8_any (p q : Rc) (x y : Rat) (w : World) (h1 : Rv w p x) (h2 : Rv w q y) :
    Calls Tryz.prog 34 #[.agg #[.bool p.s, .slice p.a p.l p.c, .slice p.b p.m p.d], .agg #[.bool q.s, .slice q.a q.l q.c, .slice q.b q.m q.d]] w fun e w' => ∃ (r : Rc) (er : Int), e = .returned (.tuple #[.agg #[.bool r.s, .slice r.a r.l r.c, .slice r.b r.m r.d], .int .i64 er]) ∧ MuR w' r (x * y) er ∧ Below w.heap.size w w' := by
  refine (qmul_any p.s p.a p.l p.c p.z p.b p.m p.d p.y x q.s q.a q.l q.c q.z q.b q.m q.d q.y y w h1 h2).mono ?_
  rintro e w' ⟨er, s, a, l, c, z, b, m, d, t, v', rfl, h', hra, hb⟩
  refine ⟨⟨s, a, l, c, z, b, m, d, t⟩, er, rfl, ?_, hb⟩
  rcases hra.out with ⟨hs, rfl, rfl⟩ | ⟨hs, rfl, rfl⟩
  · exact .inl ⟨rfl, hs, h'⟩
  · exact .inr ⟨by decide, hs, h'⟩
def put3 (w : World) (g k : Nat) (r : Rc) : World := ((w.setCell ⟨g, k * 6, none⟩ (.bool r.s)).setCell ⟨g, k * 6 + 1, none⟩ (.slice r.a r.l r.c)).setCell ⟨g, k * 6 + 2, none⟩ (.slice r.b r.m r.d)
theorem put3_other (w : World) (g k : Nat) (r : Rc) : ∀ c, c ≠ g → (put3 w g k r).heap[c]? = w.heap[c]? := fun c hc => by
  unfold put3
  rw [setAt_other _ _ _ _ c hc, setAt_other _ _ _ _ c hc, setAt_other _ _ _ _ c hc]
theorem put3_below {B : Nat} {a w : World} (h : Below B a w) {g : Nat} (hg : B ≤ g) (k : Nat) (r : Rc) : Below B a (put3 w g k r) :=
  ((h.setCell (p := ⟨g, k * 6, none⟩) hg _).setCell (p := ⟨g, k * 6 + 1, none⟩) hg _).setCell (p := ⟨g, k * 6 + 2, none⟩) hg _
theorem set3 {E : El Pc} (hE : E.s = 6) (r : Rc) (he : E.enc = Pc.vs) : ∀ (xs : List Pc) (k : Nat), k < xs.length →
    (((rowE E xs).set (k * 6) (.bool r.s)).set (k * 6 + 1) (.slice r.a r.l r.c)).set (k * 6 + 2) (.slice r.b r.m r.d) = rowE E (xs.set k (r, (xs.getD k (Rc.nil, Rc.nil)).2))
  | [], k, h => by simp at h
  | x :: xs, 0, h => by simp [rowE_cons, he]
  | x :: xs, k + 1, h => by
    have ih := set3 hE r he xs k (by simpa using h)
    have hl : (E.enc x).length = 6 := by rw [E.len, hE]
    rw [rowE_cons, List.set_cons_succ, rowE_cons, show ((x :: xs).getD (k + 1) (Rc.nil, Rc.nil)) = xs.getD k (Rc.nil, Rc.nil) from rfl, ← ih]
    rw [show (k + 1) * 6 = 6 + k * 6 by omega]
    simp only [Nat.add_assoc]
    simp only [List.set_append_right _ _ (show (E.enc x).length ≤ 6 + (k * 6) by omega), List.set_append_right _ _ (show (E.enc x).length ≤ 6 + (k * 6 + 1) by omega), List.set_append_right _ _ (show (E.enc x).length ≤ 6 + (k * 6 + 2) by omega)]
    rw [hl]
    simp only [Nat.add_sub_cancel_left]
theorem Bk.put3 {E : El Pc} (hE : E.s = 6) (he : E.enc = Pc.vs) {w : World} {g k : Nat} {xs : List Pc} (h : Bk E w g xs) (hk : k < xs.length) (r : Rc) : Bk E (put3 w g k r) g (xs.set k (r, (xs.getD k (Rc.nil, Rc.nil)).2)) := by
  have := ((Va.setAt (i := k * 6) (show Va w g E.te (rowE E xs).toArray from h) (.bool r.s)).setAt (i := k * 6 + 1) (.slice r.a r.l r.c)).setAt (i := k * 6 + 2) (.slice r.b r.m r.d)
  rw [set3 hE r he xs k hk] at this
  exact this
theorem aq_set {l : List Pq} {k i : Nat} (p : Pq) (h : k < l.length) : aq (l.set k p) i = if i = k then p.1 else aq l i := by
  unfold aq
  rw [getD_set l k i p (0, 0) h]
  by_cases e : i = k
  · rw [if_pos e, if_pos e]
  · rw [if_neg e, if_neg e]
theorem rq_set {l : List Pq} {k i : Nat} (p : Pq) (h : k < l.length) : rq (l.set k p) i = if i = k then p.2 else rq l i := by
  unfold rq
  rw [getD_set l k i p (0, 0) h]
  by_cases e : i = k
  · rw [if_pos e, if_pos e]
  · rw [if_neg e, if_neg e]
theorem Sf.put3 {w w' : World} {xs : List Pc} {l : List Pq} {k n g : Nat} {r : Rc} {x : Rat} (h : Sf w xs l n) (hl : l.length = n) (hb : Bk elT w g xs) (hxl : xs.length = n) (hk : k < n) (h1 : Rv w r x) (hf : ∀ c, c ≠ g → w'.heap[c]? = w.heap[c]?) : Sf w' (xs.set k (r, (xs.getD k (Rc.nil, Rc.nil)).2)) (l.set k (x, rq l k)) n := by
  intro i hi
  rw [getD_set _ _ _ _ _ (by omega), aq_set _ (by omega), rq_set _ (by omega)]
  by_cases e : i = k
  · subst e
    rw [if_pos rfl, if_pos rfl, if_pos rfl]
    exact ⟨h1.far hb (row_noInt rfl _) hf, ((h i hi).2).far hb (row_noInt rfl _) hf⟩
  · rw [if_neg e, if_neg e, if_neg e]
    have := h i hi
    exact ⟨this.1.far hb (row_noInt rfl _) hf, this.2.far hb (row_noInt rfl _) hf⟩
def PcR (w : World) (B : Nat) (a : Option Addr) (n' c' : Nat) (er : Int) (bs : List Br) (n : Nat) (u : Rat) : Prop :=
  (er = 180 ∧ a = none ∧ n' = 0 ∧ ¬ ((1 ≤ n ∧ n ≤ 8) ∧ ∃ l, BVals bs l n ∧ Sok l)) ∨
  ∃ l, (1 ≤ n ∧ n ≤ 8) ∧ BVals bs l n ∧ Sok l ∧ ((er = 2 ∧ a = none ∧ n' = 0 ∧ u ≤ 0) ∨ (er = 3 ∧ a = none ∧ n' = 0 ∧ 0 < u ∧ ∃ i, i < n ∧ ¬ Sz 3 (aq l i * u)) ∨
    (er = 0 ∧ 0 < u ∧ (∀ i, i < n → Sz 3 (aq l i * u)) ∧ ∃ (g : Nat) (ps : List Pc) (m : List Pq), a = some ⟨g, 0, none⟩ ∧ n' = n ∧ c' = n ∧ Bk elP w g ps ∧ ps.length = n ∧ m.length = n ∧ (∀ i, i < n → aq m i = aq l i * u ∧ rq m i = rq l i) ∧ Ps w ps m n))
set_option maxHeartbeats 16000000 in
theorem pcs_any (a : Option Addr) (n c : Nat) (bs : List Br) (r : Rc) (u : Rat) (w : World) (hL : Le elB w a n bs) (hW : ∀ i, i < n → (bs.getD i bz).ok) (hT : Tn w) (hr : Rv w r u) :
    Calls Tryz.prog 10 #[.slice a n c, .agg #[.bool r.s, .slice r.a r.l r.c, .slice r.b r.m r.d]] w fun e w' => ∃ (a' : Option Addr) (n' c' : Nat) (er : Int), e = .returned (.tuple #[.slice a' n' c', .int .i64 er]) ∧ Hid (PcR w' w.heap.size a' n' c' er bs n u) ∧ Below w.heap.size w w' := by
  obtain ⟨su, hsu⟩ : ∃ s, Int.sign u.num = s := ⟨_, rfl⟩
  have HSU : Hid (su ≤ 0 ↔ u ≤ 0) := by
    show _ ↔ _
    have h1 := sgn_lt u
    have h2 := sgn_eq u
    rw [hsu] at h1 h2
    constructor
    · intro h
      rcases Int.lt_or_eq_of_le h with h' | h'
      · exact Rat.le_of_lt (h1.1 h')
      · rw [h2.1 h']; exact Rat.le_refl
    · intro h
      rcases Rat.le_iff_lt_or_eq.1 h with h' | h'
      · exact Int.le_of_lt (h1.2 h')
      · exact Int.le_of_eq (h2.2 h')
  have B0 : Below w.heap.size w w := Below.refl _ _
  have hL0 := hL
  have hT0 := hT
  clear hL hT
  go_enter Tryz.func10, Tryz.ntmps10
  go_wp2_with fail
  refine ent1 w _ _ (Q := fun W => Calls Tryz.prog _ _ W _) ?_
  intro x1 hb hs_x1 V3
  replace hr := Rv.after hb hr
  replace hL0 := Le.after hb hL0
  replace hT0 := Tn.after hb hT0
  replace B0 := step B0 hb
  clear hb hs_x1
  refine (ofBr_any a n c bs _ hL0 hW hT0).mono ?_
  rintro e x2 ⟨a1, n1, c1, er, rfl, hs, hb⟩
  have hsz := B0.size
  have l31 := V3.lt
  replace V3 := V3.a hb
  replace hr := Rv.after hb hr
  replace hL0 := Le.after hb hL0
  replace hT0 := Tn.after hb hT0
  replace B0 := step B0 hb
  clear hb hL0 hT0
  by_cases z : er = 0
  ·
    have HS : Hid (Stb x2 _ a1 n1 c1 bs n) := Or.elim hs.out (fun h => h.2) (fun h => absurd z (by omega))
    clear hs
    subst z
    obtain ⟨g, xs, l, e1, e2, e3, hBg, hxl, hG, hF, hV, hO⟩ := HS.out.ex
    subst e1
    subst e2
    subst e3
    clear HS
    have HV : Hid (BVals bs l c1) := hV
    have HO : Hid (Sok l) := hO
    have hln := hV.1
    have h1 : 1 ≤ c1 := by rw [← hln]; exact hO.one
    have h8 : c1 ≤ 8 := by rw [← hln]; exact hO.few
    clear hV hO
    have c_V3 := V3.d0
    have f0_V3 := V3.frozen 0
    have d_V3 := V3.d1
    have f1_V3 := V3.frozen 1
    have e_V3 := V3.d2
    have f2_V3 := V3.frozen 2
    have l_V3 := V3.lt
    have m_V3 := Nat.le_of_lt l_V3
    go_wp2_with fail
    refine (sign_rc r u _ hr).mono ?_
    rintro e x3 ⟨rfl, hb⟩
    replace V3 := V3.a hb
    replace hr := Rv.after hb hr
    replace hG := Bk.after hb hG
    replace hF := Sf.after hb hF
    replace B0 := step B0 hb
    clear hb
    rw [hsu]
    by_cases g1 : su ≤ 0
    clear c_V3 f0_V3 d_V3 f1_V3 e_V3 f2_V3 l_V3 m_V3
    ·
      have g2 : decide (su ≤ 0) = true := decide_eq_true g1
      go_wp2_with fail
      go_ret2
      exact ⟨none, 0, 0, 2, rfl, .inr ⟨l, ⟨h1, h8⟩, HV.out, HO.out, .inl ⟨rfl, rfl, rfl, HSU.out.1 g1⟩⟩, B0⟩
    ·
      have g2 : decide (su ≤ 0) = false := decide_eq_false g1
      have HU : Hid (0 < u) := by show 0 < u; have := HSU.out; grind
      have c_V3 := V3.d0
      have f0_V3 := V3.frozen 0
      have d_V3 := V3.d1
      have f1_V3 := V3.frozen 1
      have e_V3 := V3.d2
      have f2_V3 := V3.frozen 2
      have l_V3 := V3.lt
      have m_V3 := Nat.le_of_lt l_V3
      go_wp2_with fail
      clear c_V3 f0_V3 d_V3 f1_V3 e_V3 f2_V3 l_V3 m_V3
      have HV3 : Hid (Va x3 w.heap.size 36 #[.bool r.s, .slice r.a r.l r.c, .slice r.b r.m r.d]) := V3
      have HR : Hid (Rv x3 r u) := hr
      have HG : Hid (Bk elT x3 g xs) := hG
      have HF : Hid (Sf x3 xs l c1) := hF
      have HB : Hid (Below w.heap.size w x3) := B0
      clear V3 hr hG hF B0
      go_loopw [27] (fun i wr => ∃ (k : Nat) (ys : List Pc) (m : List Pq), k ≤ c1 ∧ i = .int .i64 k ∧ ys.length = c1 ∧ m.length = c1 ∧ Hid (Va wr w.heap.size 36 #[.bool r.s, .slice r.a r.l r.c, .slice r.b r.m r.d]) ∧ Hid (Rv wr r u) ∧ Hid (Bk elT wr g ys) ∧ Hid (Sf wr ys m c1) ∧ Hid (∀ i, i < k → aq m i = aq l i * u ∧ Sz 3 (aq m i)) ∧ Hid (∀ i, k ≤ i → aq m i = aq l i) ∧ Hid (∀ i, rq m i = rq l i) ∧ Hid (Below w.heap.size w wr)) (fun i _ => c1 - (intOf i).toNat)
      case atStart => exact ⟨0, xs, l, Nat.zero_le _, rfl, hxl, hln, HV3.out, HR.out, HG.out, HF.out, fun j hj => absurd hj (by omega), fun _ _ => rfl, fun _ => rfl, HB.out⟩
      case round =>
        clear HV3 HR HG HF HB
        obtain ⟨k, ys, m, hk, rfl, hyl, hml, HV3, HR, HG, HF, HA, HA2, HQ, HB⟩ := hrel
        by_cases hlt : k < c1
        ·
          have B0 := HB.out
          have V3 := HV3.out
          have hr := HR.out
          have hG := HG.out
          have hF := HF.out
          have hc : At6 wr g (k * 6) (ys.getD k (Rc.nil, Rc.nil)) := hG.at6 rfl rfl k (by omega)
          have hp : Rv wr (ys.getD k (Rc.nil, Rc.nil)).1 (aq l k) := by have := (hF k hlt).1; rwa [HA2.out k (Nat.le_refl _)] at this
          obtain ⟨p, hpe⟩ : ∃ p, ys.getD k (Rc.nil, Rc.nil) = p := ⟨_, rfl⟩
          rw [hpe] at hc hp
          have HPE : Hid (ys.getD k (Rc.nil, Rc.nil) = p) := hpe
          clear hpe
          obtain ⟨c0, c1', c2, c3, c4, c5⟩ := hc
          have lb0 := cell_lt c0
          have c_V3 := V3.d0
          have f0_V3 := V3.frozen 0
          have d_V3 := V3.d1
          have f1_V3 := V3.frozen 1
          have e_V3 := V3.d2
          have f2_V3 := V3.frozen 2
          have l_V3 := V3.lt
          have m_V3 := Nat.le_of_lt l_V3
          go_wp2_with fail
          clear c_V3 f0_V3 d_V3 f1_V3 e_V3 f2_V3 l_V3 m_V3
          refine ent1 wr _ _ (Q := fun W => Calls Tryz.prog _ _ W _) ?_
          intro x31 hb hs_x31 V9
          replace V3 := V3.a hb
          replace hr := Rv.after hb hr
          replace hG := Bk.after hb hG
          replace hF := Sf.after hb hF
          replace hp := Rv.after hb hp
          replace B0 := step B0 hb
          clear hb hs_x31
          clear c0 c1' c2 c3 c4 c5 lb0
          refine (mul8_any p.1 r (aq l k) u _ hp hr).mono ?_
          rintro e x32 ⟨q, e1, rfl, hm, hb⟩
          replace V3 := V3.a hb
          replace V9 := V9.a hb
          replace hr := Rv.after hb hr
          replace hG := Bk.after hb hG
          replace hF := Sf.after hb hF
          replace hp := Rv.after hb hp
          replace B0 := step B0 hb
          clear hb
          by_cases z1 : e1 = 0
          ·
            subst z1
            have hq : Rv x32 q (aq l k * u) := Or.elim hm (fun h => h.2.2) (fun h => absurd rfl h.1)
            clear hm
            have g10 := hG.lt
            go_wp2_with fail
            refine ent1 x32 _ _ (Q := fun W => Calls Tryz.prog _ _ W _) ?_
            intro x33 hb hs_x33 V10
            replace V3 := V3.a hb
            replace V9 := V9.a hb
            replace hr := Rv.after hb hr
            replace hG := Bk.after hb hG
            replace hF := Sf.after hb hF
            replace hp := Rv.after hb hp
            replace hq := Rv.after hb hq
            replace B0 := step B0 hb
            clear hb hs_x33
            refine (long_rc q (aq l k * u) _ hq).mono ?_
            rintro e x34 ⟨nl, rfl, hnl, hb⟩
            replace V3 := V3.a hb
            replace V9 := V9.a hb
            replace V10 := V10.a hb
            replace hr := Rv.after hb hr
            replace hG := Bk.after hb hG
            replace hF := Sf.after hb hF
            replace hp := Rv.after hb hp
            replace hq := Rv.after hb hq
            replace B0 := step B0 hb
            clear hb
            have HNL : Hid (nl ≤ 3 ↔ Sz 3 (aq l k * u)) := hnl 3
            clear hnl
            by_cases g3 : 3 < nl
            ·
              have g4 : decide (3 < nl) = true := decide_eq_true g3
              go_wp2_with fail
              go_ret2
              exact ⟨none, 0, 0, 3, rfl, .inr ⟨l, ⟨h1, h8⟩, HV.out, HO.out, .inr (.inl ⟨rfl, rfl, rfl, HU.out, k, hlt, fun h => absurd (HNL.out.2 h) (by omega)⟩)⟩, B0⟩
            ·
              have g4 : decide (3 < nl) = false := decide_eq_false g3
              have HZ : Hid (Sz 3 (aq l k * u)) := HNL.out.1 (by omega)
              obtain ⟨b0, b1, b2, b3, b4, b5⟩ := hG.at6 rfl rfl k (by omega)
              have fr0 := hG.frozen (k * 6)
              have fr1 := hG.frozen (k * 6 + 1)
              have fr2 := hG.frozen (k * 6 + 2)
              have fr3 := hG.frozen (k * 6 + 3)
              have fr4 := hG.frozen (k * 6 + 4)
              have fr5 := hG.frozen (k * 6 + 5)
              have c_V10 := V10.d0
              have f0_V10 := V10.frozen 0
              have d_V10 := V10.d1
              have f1_V10 := V10.frozen 1
              have e_V10 := V10.d2
              have f2_V10 := V10.frozen 2
              have l_V10 := V10.lt
              have m_V10 := Nat.le_of_lt l_V10
              go_wp2_with fail
              clear c_V10 f0_V10 d_V10 f1_V10 e_V10 f2_V10 l_V10 m_V10
              go_roundw
              case measure => simp [intOf]; omega
              case rel =>
                have HPG := hF.put3 hml hG hyl hlt hq (put3_other _ g k q)
                refine ⟨k + 1, ys.set k (q, (ys.getD k (Rc.nil, Rc.nil)).2), m.set k (aq l k * u, rq m k), by omega, by go_num, by rw [List.length_set]; exact hyl, by rw [List.length_set]; exact hml, V3.stay (put3_other _ g k q) (by omega), hr.far hG (row_noInt rfl _) (put3_other _ g k q), hG.put3 rfl rfl (by omega) q, HPG, fun i hi => ?_, fun i hi => ?_, fun i => ?_, put3_below B0 (by omega) k q⟩
                · rw [aq_set _ (by omega)]
                  by_cases e : i = k
                  · rw [if_pos e, e]; exact ⟨rfl, HZ.out⟩
                  · rw [if_neg e]; exact HA.out i (by omega)
                · rw [aq_set _ (by omega), if_neg (by omega)]; exact HA2.out i (by omega)
                · rw [rq_set _ (by omega)]
                  by_cases e : i = k
                  · rw [if_pos e, e]; exact HQ.out k
                  · rw [if_neg e]; exact HQ.out i
          ·
            have z2 : (e1 != 0) = true := by simp [z1]
            have z3 : (e1 == 0) = false := by simp [z1]
            have HSH : Hid (¬ Short (aq l k * u)) := Or.elim hm (fun h => absurd h.1 z1) (fun h => h.2.1)
            go_wp2_with fail
            go_ret2
            exact ⟨none, 0, 0, 3, rfl, .inr ⟨l, ⟨h1, h8⟩, HV.out, HO.out, .inr (.inl ⟨rfl, rfl, rfl, HU.out, k, hlt, fun h => HSH.out (h.short (by omega))⟩)⟩, B0.alloc (by have := B0.size; omega) _⟩
        ·
          obtain rfl : k = c1 := by omega
          have hL2 : Le elT wr (some ⟨g, 0, none⟩) k ys := by have := HG.out.le; rwa [hyl] at this
          have hS2 : Ss wr ys m := ⟨by rw [hyl, hml], fun i hi => HF.out i (by rw [← hml]; exact hi)⟩
          go_wp2_with fail
          refine (plain_any g 0 k k ys m wr hL2 hS2 hml h8).mono ?_
          rintro e wz ⟨g2, ps, rfl, hB, hpl, hP, hb⟩
          clear hL2 hS2
          have HBP : Hid (Bk elP wz g2 ps) := hB
          clear hB
          go_wp2_with fail
          go_ret2
          exact ⟨_, _, _, 0, rfl, .inr ⟨l, ⟨h1, h8⟩, HV.out, HO.out, .inr (.inr ⟨rfl, HU.out, fun i hi => by have := HA.out i hi; rw [← this.1]; exact this.2, g2, ps, m, rfl, rfl, rfl, HBP.out, hpl, hml, fun i hi => ⟨(HA.out i hi).1, HQ.out i⟩, hP.out⟩)⟩, step HB.out hb⟩
  ·
    have HS : Hid (er = 180 ∧ ¬ ((1 ≤ n ∧ n ≤ 8) ∧ ∃ l, BVals bs l n ∧ Sok l)) := Or.elim hs.out (fun h => absurd h.1 z) (fun h => h)
    have z1 : (er != 0) = true := by simp [z]
    have z2 : (er == 0) = false := by simp [z]
    clear hs
    go_wp2_with fail
    go_ret2
    exact ⟨none, 0, 0, er, rfl, .inl ⟨HS.out.1, rfl, rfl, HS.out.2⟩, B0⟩
end Go.Proofs.YtngichjgfppnpaaGreatDoor
namespace Go.Proofs.YtngichjgfppnpaaGreatDoor
open Go.RowKit Go.Shelf
set_option linter.unusedVariables false

end Go.Proofs.YtngichjgfppnpaaGreatDoor
