import Derived.Test.YtngichjgfppnpaaGreatDoorMgAa
import Derived.Test.YtngichjgfppnpaaGreatDoorMgAv
import Derived.Test.YtngichjgfppnpaaGreatDoorMgAu
import Derived.Test.YtngichjgfppnpaaGreatDoorMgAs
namespace Go.Proofs.YtngichjgfppnpaaGreatDoor
open Go.RowKit Go.Shelf
set_option linter.unusedVariables false
set_option maxRecDepth 20000

theorem Le.drw {α : Type} {E : El α} {w : World} {a : Option Addr} {n : Nat} {xs : List α} (h : Le E w a n xs) : Le E w.drew a n xs := h
theorem Tn.drw {w : World} (h : Tn w) : Tn w.drew := h
theorem RpR.drw {w : World} {a : Option Addr} {n' c' : Nat} {er : Int} {bs : List Br} {n : Nat} {u : Rat} (h : RpR w a n' c' er bs n u) : RpR w.drew a n' c' er bs n u := h
theorem samePs0 (c1 c2 : Nat) (w : World) : Calls Tryz.prog 11 #[.slice none 0 c1, .slice none 0 c2] w fun e w' => e = .returned (.bool true) ∧ Below w.heap.size w w' := by
  go_enter Tryz.func11, Tryz.ntmps11
  go_wp2_with fail
  go_loopw [5] (fun i wr => i = .int .i64 0 ∧ Hid (Below w.heap.size w wr)) (fun i _ => 0)
  case atStart => exact ⟨rfl, Below.refl _ _⟩
  case round =>
    obtain ⟨rfl, HB⟩ := hrel
    go_wp2_with fail
    go_ret
    exact ⟨rfl, HB.out⟩
theorem pcs_both {w : World} {B n1 c1 n2 c2 n : Nat} {a1 a2 : Option Addr} {e1 e2 : Int} {bs : List Br} {u : Rat} (h : PcR w B a1 n1 c1 e1 bs n u) (g : RpR w a2 n2 c2 e2 bs n u) (hW : ∀ i, i < n → (bs.getD i bz).ok) :
    e1 = e2 ∧ ((a1 = none ∧ n1 = 0 ∧ a2 = none ∧ n2 = 0) ∨
      ∃ (b1 b2 o2 : Nat) (ps qs : List Pc), a1 = some ⟨b1, 0, none⟩ ∧ a2 = some ⟨b2, o2, none⟩ ∧ n1 = n ∧ n2 = n ∧ n ≤ 8 ∧ Le elP w (some ⟨b1, 0, none⟩) n ps ∧ Le elP w (some ⟨b2, o2, none⟩) n qs ∧ Rp w ps n ∧ Rp w qs n ∧ Smp ps qs n ∧ ∀ i, i < n → ((ps.getD i pz).1.l ≤ 3 ∧ (ps.getD i pz).1.m ≤ 3) ∧ ((ps.getD i pz).2.l ≤ 3 ∧ (ps.getD i pz).2.m ≤ 3)) := by
  rcases h with ⟨h0, h1, h2, h3⟩ | ⟨l, hn, hl, hs, h⟩
  · rcases g with ⟨g0, g1, g2, g3⟩ | ⟨l', hn', hl', hs', g⟩
    · exact ⟨by rw [h0, g0], .inl ⟨h1, h2, g1, g2⟩⟩
    · exact absurd ⟨hn', l', hl', hs'⟩ h3
  · rcases g with ⟨g0, g1, g2, g3⟩ | ⟨l', hn', hl', hs', g⟩
    · exact absurd ⟨hn, l, hl, hs⟩ g3
    · obtain rfl := bv_uniq hl hl'
      rcases h with ⟨h0, h1, h2, h3⟩ | ⟨h0, h1, h2, h3, h4⟩ | ⟨h0, h3, h4, b1, ps, m, h5, h6, h7, h8, h9, h10, h11, h12⟩ <;> rcases g with ⟨g0, g1, g2, g3⟩ | ⟨g0, g1, g2, g3, g4⟩ | ⟨g0, g3, g4, qs, m', g5, g6, g7, g8, g9⟩
      · exact ⟨by rw [h0, g0], .inl ⟨h1, h2, g1, g2⟩⟩
      · exact absurd g3 (Rat.not_lt.2 h3)
      · exact absurd g3 (Rat.not_lt.2 h3)
      · exact absurd h3 (Rat.not_lt.2 g3)
      · exact ⟨by rw [h0, g0], .inl ⟨h1, h2, g1, g2⟩⟩
      · obtain ⟨i, hi, hz⟩ := h4; exact absurd (g4 i hi) hz
      · exact absurd h3 (Rat.not_lt.2 g3)
      · obtain ⟨i, hi, hz⟩ := g4; exact absurd (h4 i hi) hz
      · have hm : m = m' := pq_ext (by rw [h10, g7]) (fun i hi => ⟨(h11 i (by omega)).1.trans (g8 i (by omega)).1.symm, (h11 i (by omega)).2.trans (g8 i (by omega)).2.symm⟩)
        subst hm
        obtain ⟨b2, o2, e2⟩ := g6.ex (by omega)
        have hle : Le elP w (some ⟨b1, 0, none⟩) n ps := by have := h8.le; rwa [h9] at this
        subst e2
        refine ⟨by rw [h0, g0], .inr ⟨b1, b2, o2, ps, qs, h5, rfl, h6, g5, hn.2, hle, g6, ps_rp h12, ps_rp g9, fun i hi => ?_, fun i hi => ?_⟩⟩
        · exact ⟨rn_uniq (h12 i hi).1 (g9 i hi).1, rn_uniq (h12 i hi).2 (g9 i hi).2⟩
        · have z1 : Sz 3 (aq m i) := by rw [(h11 i hi).1]; exact h4 i hi
          have z2 : Sz 3 (rq m i) := by
            rw [(h11 i hi).2, (hl.2 i hi).2.2]
            exact rate_sz (hW i hi).2.2.1 (hl.2 i hi).1.2
          exact ⟨rn_len (h12 i hi).1 z1, rn_len (h12 i hi).2 z2⟩
set_option maxHeartbeats 1200000 in
theorem checks_walk (a : Option Addr) (n c : Nat) (bs : List Br) (px : Rc) (w : World) (hT : Tn w) (hL : Le elB w a n bs) (hn : a = none → n = 0 ∧ c = 0) (hln : n ≤ 4398046511104) (hW : ∀ i, i < n → (bs.getD i bz).ok) (hx : Rd2 w px) (gx : Lng px) :
  Calls Tryz.prog 3 #[.slice a n c, .agg #[.bool px.s, .slice px.a px.l px.c, .slice px.b px.m px.d]] w fun e w' => e = .returned (.bool true) ∧ Below w.heap.size w w' := by
 have HN : Hid (a = none → n = 0 ∧ c = 0) := hn; have HLn : Hid (n ≤ 4398046511104) := hln; have HW : Hid (∀ i, i < n → (bs.getD i bz).ok) := hW; clear hn hln hW; have B0 : Below w.heap.size w w := Below.refl _ _
 go_enter Tryz.func3, Tryz.ntmps3
 (go_wp2_with fail); refine ent1 w _ _ (Q := fun W => Calls Tryz.prog _ _ W _) ?_; intro x1 hb hs_x1 V3; replace hT := Tn.after hb hT; replace hL := Le.after hb hL; replace hx := Rd2.after hb hx; replace B0 := step B0 hb; clear hb hs_x1; refine (copyB9 a n c bs _ hL HN.out HLn.out).mono ?_; rintro e x2 ⟨a1, c1, rfl, hL1, hb⟩; replace V3 := V3.a hb; replace hT := Tn.after hb hT; replace hL := Le.after hb hL; replace hx := Rd2.after hb hx; replace B0 := step B0 hb; clear hb; (go_wp2_with fail); refine (chk18_any a1 n c1 bs _ hL1 HW.out hT).mono ?_; rintro e x3 ⟨er1, rfl, he1, hb⟩; replace V3 := V3.a hb; replace hT := Tn.after hb hT; replace hL := Le.after hb hL; replace hx := Rd2.after hb hx; replace hL1 := Le.after hb hL1; replace B0 := step B0 hb; clear hb; clear hL1; (go_wp2_with fail); refine (rchk18_any a n c bs _ hL HW.out).mono ?_; rintro e x4 ⟨er2, rfl, he2, hb⟩; replace V3 := V3.a hb; replace hT := Tn.after hb hT; replace hL := Le.after hb hL
 replace hx := Rd2.after hb hx; replace B0 := step B0 hb; clear hb; obtain rfl : er1 = er2 := ChS.uniq he1.out he2.out; clear he1 he2; (have z1 : (er1 != er1) = false := by simp); (go_wp2_with fail); refine (awake18 _ hT).mono ?_; rintro e x5 ⟨rfl, hb⟩; replace V3 := V3.a hb; replace hT := Tn.after hb hT; replace hL := Le.after hb hL; replace hx := Rd2.after hb hx; replace B0 := step B0 hb; clear hb; have c_V3 := V3.d0; have f0_V3 := V3.frozen 0; have d_V3 := V3.d1; have f1_V3 := V3.frozen 1; have e_V3 := V3.d2; have f2_V3 := V3.frozen 2; have l_V3 := V3.lt; have m_V3 := Nat.le_of_lt l_V3; (go_wp2_with fail); clear c_V3 f0_V3 d_V3 f1_V3 e_V3 f2_V3 l_V3 m_V3; refine (base_any px _ hx gx).mono ?_; rintro e x6 ⟨r, t, rfl, hbs, hb⟩; replace V3 := V3.a hb; replace hT := Tn.after hb hT; replace hL := Le.after hb hL; replace hx := Rd2.after hb hx; replace B0 := step B0 hb; clear hb; have hb9 : BsR x6 r t px := hbs.out; clear hbs
 cases t
 ·
  clear hb9 V3 hx hL hT; (go_wp2_with fail)
  go_ret
  exact ⟨rfl, B0.alloc (by have := B0.size; omega) _⟩
 ·
  obtain ⟨v, hv, hr⟩ := Or.elim hb9 (fun h => h.2.2) (fun h => absurd h.1 (by decide)); have hxn := rd_rn hx hv; have HSV : Hid (Short v) := hr.2.2.2.2; clear hb9 hv; clear hx; have c_V3 := V3.d0; have f0_V3 := V3.frozen 0; have d_V3 := V3.d1; have f1_V3 := V3.frozen 1; have e_V3 := V3.d2; have f2_V3 := V3.frozen 2; have l_V3 := V3.lt; have m_V3 := Nat.le_of_lt l_V3; have p0_V3 := (V3.old (.cells #[.bool r.s, .slice r.a r.l r.c, .slice r.b r.m r.d] 36)).d0; have q0_V3 := (V3.old (.cells #[.bool r.s, .slice r.a r.l r.c, .slice r.b r.m r.d] 36)).frozen 0; have p1_V3 := (V3.old (.cells #[.bool r.s, .slice r.a r.l r.c, .slice r.b r.m r.d] 36)).d1; have q1_V3 := (V3.old (.cells #[.bool r.s, .slice r.a r.l r.c, .slice r.b r.m r.d] 36)).frozen 1; have p2_V3 := (V3.old (.cells #[.bool r.s, .slice r.a r.l r.c, .slice r.b r.m r.d] 36)).d2; have q2_V3 := (V3.old (.cells #[.bool r.s, .slice r.a r.l r.c, .slice r.b r.m r.d] 36)).frozen 2
  (go_wp2_with fail); have lt_V5_V3 := V3.lt; refine ent1 x6 _ _ (Q := fun W => Calls Tryz.prog _ _ W _) ?_; intro x7 hb hs_x7 V5; replace V3 := V3.a hb; replace hT := Tn.after hb hT; replace hL := Le.after hb hL; replace hr := Rv.after hb hr; replace hxn := Rn.after hb hxn; replace B0 := step B0 hb; clear hb hs_x7; clear c_V3 f0_V3 d_V3 f1_V3 e_V3 f2_V3 l_V3 m_V3 p0_V3 q0_V3 p1_V3 q1_V3 p2_V3 q2_V3; refine (rpcs_any a n c bs px v _ hL HW.out hxn HSV.out).mono ?_; rintro e x8 ⟨a2, n2, c2, er, rfl, hp0, hb⟩; replace V3 := V3.a hb; replace V5 := V5.a hb; replace hT := Tn.after hb hT; replace hL := Le.after hb hL; replace hr := Rv.after hb hr; replace hxn := Rn.after hb hxn; replace B0 := step B0 hb; clear hb; have hrp : RpR x8 a2 n2 c2 er bs n v := hp0.out; clear hp0; clear hxn V3; (go_wp2_with fail); refine wp_region_noPanic ?_; replace V5 : Va x8.drew _ _ _ := V5; replace hT := hT.drw; replace hL := hL.drw; replace hr := hr.drw
  replace hrp := hrp.drw; replace B0 := Below.drew B0; refine wp_region_held_drew (S := (fun W => W.cell? ⟨x6.heap.size, 0, none⟩ = some (.bool r.s) ∧ W.cell? ⟨x6.heap.size, 1, none⟩ = some (.slice r.a r.l r.c) ∧ W.cell? ⟨x6.heap.size, 2, none⟩ = some (.slice r.b r.m r.d))) (by kernel_rfl) ⟨V5.d0, V5.d1, V5.d2⟩ (fun hHeld => ?_); (obtain ⟨x9, hxd⟩ : ∃ xd, xd = x8.drew := ⟨_, rfl⟩); rw [← hxd] at V5 hT hL hr hrp B0 hHeld ⊢; clear hxd; refine tjz 0 hHeld ?_; refine tjz 2 hHeld ?_; refine ryz 1 (fun K hK => ?_); simp only [gA, gB, gC]; (go_simp); refine (copyB9 a n c bs _ hL HN.out HLn.out).mono ?_; rintro e x10 ⟨a3, c3, rfl, hL3, hb⟩; replace V5 := V5.a hb; replace hT := Tn.after hb hT; replace hL := Le.after hb hL; replace hr := Rv.after hb hr
  replace hrp := RpR.after hb hrp; replace B0 := step B0 hb; clear hb; (try go_wp2_with fail); refine hK.out _ _ ⟨V5.d0, V5.d1, V5.d2⟩ (fun hHeld => ?_); clear hK K; refine ryz 3 (fun K hK => ?_); simp only [gA, gB, gC]; (go_simp); refine (pcs_any a3 n c3 bs r v _ hL3 HW.out hT hr).mono ?_; rintro e x11 ⟨a4, n4, c4, er4, rfl, hp4, hb⟩; replace V5 := V5.a hb; replace hT := Tn.after hb hT; replace hL := Le.after hb hL; replace hr := Rv.after hb hr; replace hrp := RpR.after hb hrp; replace hL3 := Le.after hb hL3; replace B0 := step B0 hb; clear hb; (try go_wp2_with fail); refine hK.out _ _ ⟨V5.d0, V5.d1, V5.d2⟩ (fun hHeld => ?_); clear hK K; refine tjz 4 hHeld ?_; refine tjz 5 hHeld ?_; refine tjz 6 hHeld ?_; refine tk 7 rfl hHeld ?_
  simp only [gA, gB, gC, Act.put, gD, gE, gF]; refine tjz 8 hHeld ?_; refine dnz ?_; clear hHeld; clear hL3 hL hT hr V5; obtain ⟨rfl, hbo⟩ := pcs_both hp4.out hrp HW.out; clear hp4 hrp
  rcases hbo with ⟨rfl, rfl, rfl, rfl⟩ | ⟨b1, b2, o2, ps, qs, rfl, rfl, rfl, rfl, h8, hLp, hLq, hRp, hRq, hSm, hl⟩
  ·
   (go_wp2_with fail); refine (samePs0 c4 c2 _).mono ?_; rintro e x12 ⟨rfl, hb⟩; replace B0 := step B0 hb; clear hb; (go_wp2_with fail)
   go_ret
   exact ⟨by simp, B0⟩
  ·
   have HQ : Hid ((Smp ps qs n2) ∧ ∀ i, i < n2 → ((ps.getD i pz).1.l ≤ 3 ∧ (ps.getD i pz).1.m ≤ 3) ∧ ((ps.getD i pz).2.l ≤ 3 ∧ (ps.getD i pz).2.m ≤ 3)) := ⟨hSm, hl⟩; clear hSm hl; (go_wp2_with fail); refine (samePs b1 0 b2 o2 n2 c4 c2 ps qs _ hLp hLq hRp hRq HQ.out.1 HQ.out.2 h8).mono ?_; rintro e x13 ⟨rfl, hb⟩; replace B0 := step B0 hb; clear hb; (go_wp2_with fail)
   go_ret
   exact ⟨by simp, B0⟩
end Go.Proofs.YtngichjgfppnpaaGreatDoor
