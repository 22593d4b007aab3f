import Derived.Test.YtngichjgfppnpaaGreatDoorMgAa
import Derived.Test.YtngichjgfppnpaaGreatDoorMgAu
import Derived.Test.YtngichjgfppnpaaGreatDoorDm3
import Derived.Test.YtngichjgfppnpaaGreatDoorMgAt
import Derived.Test.YtngichjgfppnpaaGreatDoorMgAr
import Derived.Test.YtngichjgfppnpaaGreatDoorMgAp
namespace Go.Proofs.YtngichjgfppnpaaGreatDoor
open Go.RowKit Go.Shelf
set_option linter.unusedVariables false
set_option maxRecDepth 20000

theorem qv_div (x y : Rat) : qv x y = x / y := by
  unfold qv
  rw [Rat.divInt_eq_div]
  have h1 : x = (x.num : Rat) / ((x.den : Int) : Rat) := by rw [← Rat.divInt_eq_div, Rat.num_divInt_den]
  have h2 : y = (y.num : Rat) / ((y.den : Int) : Rat) := by rw [← Rat.divInt_eq_div, Rat.num_divInt_den]
  have h3 : ((x.den : Int) : Rat) ≠ 0 := fun e => x.den_nz (by have := Rat.intCast_eq_zero_iff.1 e; omega)
  have h4 : ((y.den : Int) : Rat) ≠ 0 := fun e => y.den_nz (by have := Rat.intCast_eq_zero_iff.1 e; omega)
  simp only [Rat.intCast_mul]
  generalize (x.num : Rat) = a at *
  generalize ((x.den : Int) : Rat) = b at *
  generalize (y.num : Rat) = c at *
  generalize ((y.den : Int) : Rat) = d at *
  rw [h1, h2]
  by_cases hc : c = 0
  · subst hc; simp [Rat.div_def]
  · grind
theorem rworth_rc (u p : Int) (hu : W64 u) (hc : CanI u p) (w : World) :
    Calls Tryz.prog 29 #[.agg #[.int .i64 u, .int .i64 p]] w fun e w' => ∃ q : Rc, e = .returned (.agg #[.bool q.s, .slice q.a q.l q.c, .slice q.b q.m q.d]) ∧ Rn w' q (dvv u p) ∧ Below w.heap.size w w' := by
  obtain ⟨P, rfl⟩ : ∃ P : Nat, p = (P : Int) := ⟨p.toNat, by have := hc.1; omega⟩
  refine (rworth6 u P (by have := hc.2.1; omega) hu.1 hu.2 w).mono ?_
  rintro e w' ⟨s, a, l, c, z, b, m, d, y, rfl, h, hb⟩
  exact ⟨⟨s, a, l, c, z, b, m, d, y⟩, rfl, h, hb⟩
theorem rquo_rc (p q : Rc) (x y v : Rat) (w : World) (h1 : Rn w p x) (h2 : Rn w q y) (he : x / y = v) (t1 : Short x) (t2 : Short y) (t3 : 0 < y.num) :
    Calls Tryz.prog 30 #[.agg #[.bool p.s, .slice p.a p.l p.c, .slice p.b p.m p.d], .agg #[.bool q.s, .slice q.a q.l q.c, .slice q.b q.m q.d]] w fun e w' => ∃ r : Rc, e = .returned (.agg #[.bool r.s, .slice r.a r.l r.c, .slice r.b r.m r.d]) ∧ Rn w' r v ∧ Below w.heap.size w w' := by
  subst he
  rw [← qv_div]
  refine (rquo9 p.s p.a p.l p.c p.z p.b p.m p.d p.y x q.s q.a q.l q.c q.z q.b q.m q.d q.y y w h1 h2 t1 t2 t3).mono ?_
  rintro e w' ⟨s, a, l, c, z, b, m, d, t, rfl, h, hb⟩
  exact ⟨⟨s, a, l, c, z, b, m, d, t⟩, rfl, h, hb⟩
theorem sz_per : Sz 1 (1 / 100 : Rat) := by
  have h1 : (1 / 100 : Rat).num = 1 := by decide +kernel
  have h2 : (1 / 100 : Rat).den = 100 := by decide +kernel
  have h3 : pw 1 = 18446744073709551616 := by decide
  unfold Sz
  rw [h1, h2, h3]
  decide
theorem div_100 : Rat.divInt 100 1 = (100 : Rat) := by decide +kernel
theorem rate_sz {v q : Int} (hv : W64 v) (hc : CanI v q) : Sz 3 (dvv v q / 100) := by
  have h1 : dvv v q / 100 = dvv v q * (1 / 100) := by grind
  rw [h1]
  exact ((dvv_sz hv hc.1 hc.2.1).mul sz_per).mono (by omega)
theorem At4.far {w w' : World} {b i b' : Nat} {x : Br} (h : At4 w b i x) (k : ∀ c, c ≠ b' → w'.heap[c]? = w.heap[c]?) (hb : b ≠ b') : At4 w' b i x := ⟨cell_far h.c0 k hb, cell_far h.c1 k hb, cell_far h.c2 k hb, cell_far h.c3 k hb⟩
def RpR (w : World) (a : Option Addr) (n' c' : Nat) (er : Int) (bs : List Br) (n : Nat) (u : Rat) : Prop :=
  (er = 180 ∧ a = none ∧ n' = 0 ∧ ¬ ((1 ≤ n ∧ n ≤ 8) ∧ ∃ l, BVals bs l n ∧ Sok l)) ∨
  ∃ l, (1 ≤ n ∧ n ≤ 8) ∧ BVals bs l n ∧ Sok l ∧ ((er = 2 ∧ a = none ∧ n' = 0 ∧ u ≤ 0) ∨ (er = 3 ∧ a = none ∧ n' = 0 ∧ 0 < u ∧ ∃ i, i < n ∧ ¬ Sz 3 (aq l i * u)) ∨
    (er = 0 ∧ 0 < u ∧ (∀ i, i < n → Sz 3 (aq l i * u)) ∧ ∃ (ps : List Pc) (m : List Pq), n' = n ∧ Le elP w a n ps ∧ m.length = n ∧ (∀ i, i < n → aq m i = aq l i * u ∧ rq m i = rq l i) ∧ Ps w ps m n))
theorem RpR.after {w w' : World} (hb : Below w.heap.size w w') {a : Option Addr} {n' c' : Nat} {er : Int} {bs : List Br} {n : Nat} {u : Rat} (h : RpR w a n' c' er bs n u) : RpR w' a n' c' er bs n u := by
  rcases h with h | ⟨l, h1, h2, h3, h | h | ⟨h4, h5, h6, ps, m, h7, h8, h9, h10, h11⟩⟩
  · exact .inl h
  · exact .inr ⟨l, h1, h2, h3, .inl h⟩
  · exact .inr ⟨l, h1, h2, h3, .inr (.inl h)⟩
  · exact .inr ⟨l, h1, h2, h3, .inr (.inr ⟨h4, h5, h6, ps, m, h7, h8.after hb, h9, h10, Ps.after hb h11⟩)⟩
set_option maxHeartbeats 16000000 in
theorem rpcs_any (a : Option Addr) (n c : Nat) (bs : List Br) (r : Rc) (u : Rat) (w : World) (hL : Le elB w a n bs) (hW : ∀ i, i < n → (bs.getD i bz).ok) (hr : Rn w r u) (hu : Short u) :
    Calls Tryz.prog 9 #[.slice a n c, .agg #[.bool r.s, .slice r.a r.l r.c, .slice r.b r.m r.d]] w fun e w' => ∃ (a' : Option Addr) (n' c' : Nat) (er : Int), e = .returned (.tuple #[.slice a' n' c', .int .i64 er]) ∧ Hid (RpR w' a' n' c' er bs n u) ∧ Below w.heap.size w w' := by
  (obtain ⟨su, hsu⟩ : ∃ s, Int.sign u.num = s := ⟨_, rfl⟩)
  have HSU : Hid (su ≤ 0 ↔ u ≤ 0) := by
    show _ ↔ _
    have h1 := sgn_lt u; have h2 := sgn_eq u; rw [hsu] at h1 h2
    constructor
    · intro h
      rcases Int.lt_or_eq_of_le h with h' | h'
      · exact Rat.le_of_lt (h1.1 h')
      · rw [h2.1 h']; exact Rat.le_refl
    · intro h
      rcases Rat.le_iff_lt_or_eq.1 h with h' | h'
      · exact Int.le_of_lt (h1.2 h')
      · exact Int.le_of_eq (h2.2 h')
  have HW : Hid (∀ i, i < n → (bs.getD i bz).ok) := hW; have HU9 : Hid (Short u) := hu; clear hW hu; have B0 : Below w.heap.size w w := Below.refl _ _
  go_enter Tryz.func9, Tryz.ntmps9
  (go_wp2_with fail); refine ent1 w _ _ (Q := fun W => Calls Tryz.prog _ _ W _) ?_; intro x1 hb hs_x1 V3; replace hL := Le.after hb hL; replace hr := Rn.after hb hr; replace B0 := step B0 hb; clear hb hs_x1; refine (rchk18_any a n c bs _ hL HW.out).mono ?_; rintro e x2 ⟨er, rfl, he, hb⟩; replace V3 := V3.a hb; replace hL := Le.after hb hL; replace hr := Rn.after hb hr; replace B0 := step B0 hb; clear hb
  by_cases z : er = 0
  ·
    obtain ⟨l, hV, hO⟩ := Or.elim he.out (fun h => h.2.2) (fun h => absurd z (by rw [h.1]; decide)); have HV : Hid (BVals bs l n) := hV; have HO : Hid (Sok l) := hO; have hln := hV.1; (have h1 : 1 ≤ n := by rw [← hln]; exact hO.one); (have h8 : n ≤ 8 := by rw [← hln]; exact hO.few); clear he hV hO; subst z; obtain ⟨lb, lo, rfl⟩ := hL.ex h1; have c_V3 := V3.d0; have f0_V3 := V3.frozen 0; have d_V3 := V3.d1; have f1_V3 := V3.frozen 1; have e_V3 := V3.d2; have f2_V3 := V3.frozen 2; have l_V3 := V3.lt; have m_V3 := Nat.le_of_lt l_V3; (go_wp2_with fail); refine (rsign_rc r u _ hr).mono ?_; rintro e x3 ⟨rfl, hb⟩; replace V3 := V3.a hb; replace hL := Le.after hb hL; replace hr := Rn.after hb hr; replace B0 := step B0 hb; clear hb; rw [hsu]
    by_cases g1 : su ≤ 0
    clear c_V3 f0_V3 d_V3 f1_V3 e_V3 f2_V3 l_V3 m_V3
    ·
      have g2 : decide (su ≤ 0) = true := decide_eq_true g1; (go_wp2_with fail)
      go_ret2
      exact ⟨none, 0, 0, 2, rfl, .inr ⟨l, ⟨h1, h8⟩, HV.out, HO.out, .inl ⟨rfl, rfl, rfl, HSU.out.1 g1⟩⟩, B0⟩
    ·
      have g2 : decide (su ≤ 0) = false := decide_eq_false g1; (have HU : Hid (0 < u) := by show 0 < u; have := HSU.out; grind); (go_wp2_with fail); (obtain ⟨wb, rfl⟩ : ∃ W, W = x3 := ⟨_, rfl⟩); have HV3 : Hid (Va wb w.heap.size 25 #[.bool r.s, .slice r.a r.l r.c, .slice r.b r.m r.d]) := V3; have HR : Hid (Rn wb r u) := hr; have HL : Hid (Le elB wb (some ⟨lb, lo, none⟩) n bs) := hL; have HB : Hid (Below w.heap.size w wb) := B0; clear V3 hr hL B0 g1 g2
      go_loopw [6, 7] (fun v i wr => ∃ (k : Nat) (ps : List Pc) (m : List Pq), k ≤ n ∧ i = .int .i64 k ∧ ps.length = k ∧ m.length = k ∧ Hid (∃ a c, v = .slice a k c) ∧ Hid (Ge elP wr wb.heap.size v ps) ∧ Hid (Nb wr v) ∧ Hid (Ps wr ps m k) ∧ Hid (∀ i, i < k → (aq m i = aq l i * u ∧ rq m i = rq l i) ∧ Sz 3 (aq l i * u)) ∧ Hid (Below wb.heap.size wb wr)) (fun _ i _ => n - (intOf i).toNat)
      case atStart => exact ⟨0, [], [], Nat.zero_le _, rfl, rfl, rfl, ⟨_, _, rfl⟩, Ge.nil _ _, Nb.nil _, fun i hi => absurd hi (by omega), fun i hi => absurd hi (by omega), Below.refl _ _⟩
      case round =>
        obtain ⟨k, ps, m, hk, rfl, hpl, hml, HS, HG, HN, HP, HA, HW9⟩ := hrel; obtain ⟨av, cv, rfl⟩ := HS.out; clear HS
        by_cases hlt : k < n
        ·
          have B0 := Below.refl wr.heap.size wr; have V3 := Va.after HW9.out HV3.out; have hr := Rn.after HW9.out HR.out; have hc : At4 wr lb (lo + k * 4) (bs.getD k bz) := (HL.out.after HW9.out).four k hlt; have hok := HW.out k hlt; have hv := HV.out.2 k hlt; (obtain ⟨x, hx⟩ : ∃ x, bs.getD k bz = x := ⟨_, rfl⟩); rw [hx] at hc hok hv; have HX : Hid ((CanI x.u x.p ∧ CanI x.v x.q) ∧ aq l k = dvv x.u x.p ∧ rq l k = dvv x.v x.q / 100) := hv; have HOK : Hid x.ok := hok; clear hx hok hv; have lb0 := cell_lt hc.c0; (obtain ⟨y, hy⟩ : ∃ y, dvv x.u x.p * u = y := ⟨_, rfl⟩); (have HY : Hid (aq l k * u = y) := by show _ = _; rw [HX.out.2.1]; exact hy); (go_wp2_with fail); have HCX : Hid (CanI x.u x.p ∧ W64 x.u) := ⟨HX.out.1.1, HOK.out.1⟩
          go_cut [8] (fun s8 wx => ∃ (b8 : Nat) (q2 : Rc), s8 = .pointer (some ⟨b8, 0, none⟩) ∧ Hid (Va wx b8 25 #[.bool q2.s, .slice q2.a q2.l q2.c, .slice q2.b q2.m q2.d]) ∧ Hid (Va wx (w.heap.size) 25 #[.bool r.s, .slice r.a r.l r.c, .slice r.b r.m r.d]) ∧ Hid (Rn wx r u) ∧ Hid (At4 wx lb (lo + k * 4) x) ∧ Hid (Rn wx q2 y) ∧ Hid (Below wr.heap.size wr wx) ∧ Hid (wr.heap.size ≤ b8))
          case first =>
            refine wp_region_noPanic ?_; replace V3 : Va wr.drew _ _ _ := V3; replace hr := hr.drw; replace hc := hc.drw; replace B0 := Below.drew B0; refine wp_region_held_drew (S := (fun W => W.cell? ⟨w.heap.size, 0, none⟩ = some (.bool r.s) ∧ W.cell? ⟨w.heap.size, 1, none⟩ = some (.slice r.a r.l r.c) ∧ W.cell? ⟨w.heap.size, 2, none⟩ = some (.slice r.b r.m r.d) ∧ W.cell? ⟨lb, lo + k * 4, none⟩ = some (.int .i64 x.u) ∧ W.cell? ⟨lb, lo + k * 4 + 1, none⟩ = some (.int .i64 x.p))) (by kernel_rfl) ⟨V3.d0, V3.d1, V3.d2, hc.c0, hc.c1⟩ (fun hHeld => ?_); (obtain ⟨x31, hxd⟩ : ∃ xd, xd = wr.drew := ⟨_, rfl⟩); rw [← hxd] at V3 hr hc B0 hHeld ⊢; clear hxd; refine tjz 0 hHeld ?_; refine tjz 1 hHeld ?_; refine tjz 2 hHeld ?_; refine tjz 3 hHeld ?_; refine tk 4 rfl hHeld ?_
            simp only [gA, gB, gC, Act.put, gD, gE, gF]; refine tjz 6 hHeld ?_; refine wpAnyH_ready (rs := [5, 8]) (by kernel_rfl) (by simp) ?_; refine AllReadyH.cons rfl (fun K hK => ?_) (AllReadyH.cons rfl (fun K hK => ?_) AllReadyH.nil)
            ·
              simp only [gA, gB, gC]; (go_simp); refine (rworth_rc x.u x.p HCX.out.2 HCX.out.1 _).mono ?_; rintro e x32 ⟨q1, rfl, hq1, hb⟩; replace V3 := V3.a hb; replace hr := Rn.after hb hr; replace hc := At4.after hb hc; replace B0 := step B0 hb; clear hb; (try go_wp2_with fail); refine hK.out _ _ ⟨V3.d0, V3.d1, V3.d2, hc.c0, hc.c1⟩ (fun hHeld => ?_); clear hK K; refine wpAnyH_ready (rs := [7, 8]) (by kernel_rfl) (by simp) ?_; refine AllReadyH.cons rfl (fun K hK => ?_) (AllReadyH.cons rfl (fun K hK => ?_) AllReadyH.nil)
              ·
                simp only [gA, gB, gC]; (go_simp); refine (rmul_rc q1 r (dvv x.u x.p) u y _ hq1 hr hy (dvv_sz HCX.out.2 HCX.out.1.1 HCX.out.1.2.1) (show Sz 1024 u from HU9.out) (by omega)).mono ?_; rintro e x33 ⟨q2, rfl, hq2, hb⟩; replace V3 := V3.a hb; replace hr := Rn.after hb hr; replace hc := At4.after hb hc; replace hq1 := Rn.after hb hq1; replace B0 := step B0 hb; clear hb; (try go_wp2_with fail); refine hK.out _ _ ⟨V3.d0, V3.d1, V3.d2, hc.c0, hc.c1⟩ (fun hHeld => ?_); clear hK K; refine ryz 8 (fun K hK => ?_)
                ·
                  simp only [gA, gB, gC]; (go_simp); have lt_V8_V3 := V3.lt; have sz_V8 := B0.size; refine ent1 _ _ _ (Q := fun V => K _ V) ?_; intro x34 hb hs_ V8; replace V3 := V3.a hb; replace hr := Rn.after hb hr; replace hc := At4.after hb hc; replace hq1 := Rn.after hb hq1; replace hq2 := Rn.after hb hq2; replace B0 := step B0 hb; clear hb hs_; refine hK.out _ _ ⟨V3.d0, V3.d1, V3.d2, hc.c0, hc.c1⟩ (fun hHeld => ?_); clear hK K; have c_V8 := V8.d0; have f0_V8 := V8.frozen 0; have d_V8 := V8.d1; have f1_V8 := V8.frozen 1; have e_V8 := V8.d2; have f2_V8 := V8.frozen 2; have l_V8 := V8.lt; have m_V8 := Nat.le_of_lt l_V8; refine ryz 9 (fun K hK => ?_); simp only [gA, gB, gC]; (go_simp); clear c_V8 f0_V8 d_V8 f1_V8 e_V8 f2_V8 l_V8 m_V8; refine sto3 V8 (.bool q2.s) (.slice q2.a q2.l q2.c) (.slice q2.b q2.m q2.d) (Q := fun W => K _ W) ?_; intro x35 V' oth far; replace V3 := apz (oth _ _ _) V3
                  replace hr := hr.far V8 (noInt3 _ _ _ _ _ _ _) far.1; replace hq1 := hq1.far V8 (noInt3 _ _ _ _ _ _ _) far.1; replace hq2 := hq2.far V8 (noInt3 _ _ _ _ _ _ _) far.1; replace B0 := apz (far.2 _ _) B0; replace hc := hc.far far.1 (by omega); replace V8 := V'; clear oth far; refine hK.out _ _ ⟨V3.d0, V3.d1, V3.d2, hc.c0, hc.c1⟩ (fun hHeld => ?_); clear hK K; refine dnz ?_; clear hHeld; (go_wp2_with fail)
                  go_meet
                  exact ⟨_, q2, rfl, V8, V3, hr, hc, hq2, B0, by show _ ≤ _; omega⟩
              ·
                simp only [gA, gB, gC]; (go_simp); have lt_V8_V3 := V3.lt; have sz_V8 := B0.size; refine ent1 _ _ _ (Q := fun V => K _ V) ?_; intro x33 hb hs_ V8; replace V3 := V3.a hb; replace hr := Rn.after hb hr; replace hc := At4.after hb hc; replace hq1 := Rn.after hb hq1; replace B0 := step B0 hb; clear hb hs_; refine hK.out _ _ ⟨V3.d0, V3.d1, V3.d2, hc.c0, hc.c1⟩ (fun hHeld => ?_); clear hK K; refine ryz 7 (fun K hK => ?_)
                ·
                  simp only [gA, gB, gC]; (go_simp); refine (rmul_rc q1 r (dvv x.u x.p) u y _ hq1 hr hy (dvv_sz HCX.out.2 HCX.out.1.1 HCX.out.1.2.1) (show Sz 1024 u from HU9.out) (by omega)).mono ?_; rintro e x34 ⟨q2, rfl, hq2, hb⟩; replace V3 := V3.a hb; replace V8 := V8.a hb; replace hr := Rn.after hb hr; replace hc := At4.after hb hc; replace hq1 := Rn.after hb hq1; replace B0 := step B0 hb; clear hb; (try go_wp2_with fail); refine hK.out _ _ ⟨V3.d0, V3.d1, V3.d2, hc.c0, hc.c1⟩ (fun hHeld => ?_); clear hK K; have c_V8 := V8.d0; have f0_V8 := V8.frozen 0; have d_V8 := V8.d1; have f1_V8 := V8.frozen 1; have e_V8 := V8.d2; have f2_V8 := V8.frozen 2; have l_V8 := V8.lt; have m_V8 := Nat.le_of_lt l_V8; refine ryz 9 (fun K hK => ?_); simp only [gA, gB, gC]; (go_simp); clear c_V8 f0_V8 d_V8 f1_V8 e_V8 f2_V8 l_V8 m_V8; refine sto3 V8 (.bool q2.s) (.slice q2.a q2.l q2.c) (.slice q2.b q2.m q2.d) (Q := fun W => K _ W) ?_
                  intro x35 V' oth far; replace V3 := apz (oth _ _ _) V3; replace hr := hr.far V8 (noInt3 _ _ _ _ _ _ _) far.1; replace hq1 := hq1.far V8 (noInt3 _ _ _ _ _ _ _) far.1; replace hq2 := hq2.far V8 (noInt3 _ _ _ _ _ _ _) far.1; replace B0 := apz (far.2 _ _) B0; replace hc := hc.far far.1 (by omega); replace V8 := V'; clear oth far; refine hK.out _ _ ⟨V3.d0, V3.d1, V3.d2, hc.c0, hc.c1⟩ (fun hHeld => ?_); clear hK K; refine dnz ?_; clear hHeld; (go_wp2_with fail)
                  go_meet
                  exact ⟨_, q2, rfl, V8, V3, hr, hc, hq2, B0, by show _ ≤ _; omega⟩
            ·
              simp only [gA, gB, gC]; (go_simp); have lt_V8_V3 := V3.lt; have sz_V8 := B0.size; refine ent1 _ _ _ (Q := fun V => K _ V) ?_; intro x32 hb hs_ V8; replace V3 := V3.a hb; replace hr := Rn.after hb hr; replace hc := At4.after hb hc; replace B0 := step B0 hb; clear hb hs_; refine hK.out _ _ ⟨V3.d0, V3.d1, V3.d2, hc.c0, hc.c1⟩ (fun hHeld => ?_); clear hK K; refine ryz 5 (fun K hK => ?_)
              ·
                simp only [gA, gB, gC]; (go_simp); refine (rworth_rc x.u x.p HCX.out.2 HCX.out.1 _).mono ?_; rintro e x33 ⟨q1, rfl, hq1, hb⟩; replace V3 := V3.a hb; replace V8 := V8.a hb; replace hr := Rn.after hb hr; replace hc := At4.after hb hc; replace B0 := step B0 hb; clear hb; (try go_wp2_with fail); refine hK.out _ _ ⟨V3.d0, V3.d1, V3.d2, hc.c0, hc.c1⟩ (fun hHeld => ?_); clear hK K; refine ryz 7 (fun K hK => ?_)
                ·
                  simp only [gA, gB, gC]; (go_simp); refine (rmul_rc q1 r (dvv x.u x.p) u y _ hq1 hr hy (dvv_sz HCX.out.2 HCX.out.1.1 HCX.out.1.2.1) (show Sz 1024 u from HU9.out) (by omega)).mono ?_; rintro e x34 ⟨q2, rfl, hq2, hb⟩; replace V3 := V3.a hb; replace V8 := V8.a hb; replace hr := Rn.after hb hr; replace hc := At4.after hb hc; replace hq1 := Rn.after hb hq1; replace B0 := step B0 hb; clear hb; (try go_wp2_with fail); refine hK.out _ _ ⟨V3.d0, V3.d1, V3.d2, hc.c0, hc.c1⟩ (fun hHeld => ?_); clear hK K; have c_V8 := V8.d0; have f0_V8 := V8.frozen 0; have d_V8 := V8.d1; have f1_V8 := V8.frozen 1; have e_V8 := V8.d2; have f2_V8 := V8.frozen 2; have l_V8 := V8.lt; have m_V8 := Nat.le_of_lt l_V8; refine ryz 9 (fun K hK => ?_); simp only [gA, gB, gC]; (go_simp); clear c_V8 f0_V8 d_V8 f1_V8 e_V8 f2_V8 l_V8 m_V8; refine sto3 V8 (.bool q2.s) (.slice q2.a q2.l q2.c) (.slice q2.b q2.m q2.d) (Q := fun W => K _ W) ?_
                  intro x35 V' oth far; replace V3 := apz (oth _ _ _) V3; replace hr := hr.far V8 (noInt3 _ _ _ _ _ _ _) far.1; replace hq1 := hq1.far V8 (noInt3 _ _ _ _ _ _ _) far.1; replace hq2 := hq2.far V8 (noInt3 _ _ _ _ _ _ _) far.1; replace B0 := apz (far.2 _ _) B0; replace hc := hc.far far.1 (by omega); replace V8 := V'; clear oth far; refine hK.out _ _ ⟨V3.d0, V3.d1, V3.d2, hc.c0, hc.c1⟩ (fun hHeld => ?_); clear hK K; refine dnz ?_; clear hHeld; (go_wp2_with fail)
                  go_meet
                  exact ⟨_, q2, rfl, V8, V3, hr, hc, hq2, B0, by show _ ≤ _; omega⟩
          case rest =>
            clear V3 hr hc B0; obtain ⟨b8, q2, rfl, V8', V3', hr', hc', hq2', B0', hineq'⟩ := hcut; have V8 := V8'.out; have V3 := V3'.out; have hr := hr'.out; have hc := hc'.out; have hq2 := hq2'.out; have B0 := B0'.out; have hineq := hineq'.out; clear V8' V3' hr' hc' hq2' B0' hineq'; have iq0 := hineq; clear hineq; obtain ⟨c0, c1, c2, c3⟩ := id hc; (go_wp2_with fail); clear c0 c1 c2 c3; refine (rworth_rc x.v x.q HOK.out.2.2.1 HX.out.1.2 _).mono ?_; rintro e x31 ⟨q3, rfl, hq3, hb⟩; replace V3 := V3.a hb; replace V8 := V8.a hb; replace hr := Rn.after hb hr; replace hc := At4.after hb hc; replace hq2 := Rn.after hb hq2; replace B0 := step B0 hb; clear hb; (go_wp2_with fail); refine (rint_rc 100 100 (by decide) (by decide) div_100 _).mono ?_; rintro e x32 ⟨q4, rfl, hq4, hb⟩; replace V3 := V3.a hb; replace V8 := V8.a hb; replace hr := Rn.after hb hr; replace hc := At4.after hb hc; replace hq2 := Rn.after hb hq2; replace hq3 := Rn.after hb hq3
            replace B0 := step B0 hb; clear hb; (go_wp2_with fail); refine (rquo_rc q3 q4 (dvv x.v x.q) 100 (dvv x.v x.q / 100) _ hq3 hq4 rfl ((dvv_sz HOK.out.2.2.1 HX.out.1.2.1 HX.out.1.2.2.1).short (by omega)) (sz_100.short (by omega)) (by decide +kernel)).mono ?_; rintro e x33 ⟨q5, rfl, hq5, hb⟩; replace V3 := V3.a hb; replace V8 := V8.a hb; replace hr := Rn.after hb hr; replace hc := At4.after hb hc; replace hq2 := Rn.after hb hq2; replace hq3 := Rn.after hb hq3; replace hq4 := Rn.after hb hq4; replace B0 := step B0 hb; clear hb; clear hq3 hq4 hc; have c_V8 := V8.d0; have f0_V8 := V8.frozen 0; have d_V8 := V8.d1; have f1_V8 := V8.frozen 1; have e_V8 := V8.d2; have f2_V8 := V8.frozen 2; have l_V8 := V8.lt; have m_V8 := Nat.le_of_lt l_V8; have p0_V8 := (V8.old (.cells #[.bool q5.s, .slice q5.a q5.l q5.c, .slice q5.b q5.m q5.d] 25)).d0; have q0_V8 := (V8.old (.cells #[.bool q5.s, .slice q5.a q5.l q5.c, .slice q5.b q5.m q5.d] 25)).frozen 0
            have p1_V8 := (V8.old (.cells #[.bool q5.s, .slice q5.a q5.l q5.c, .slice q5.b q5.m q5.d] 25)).d1; have q1_V8 := (V8.old (.cells #[.bool q5.s, .slice q5.a q5.l q5.c, .slice q5.b q5.m q5.d] 25)).frozen 1; have p2_V8 := (V8.old (.cells #[.bool q5.s, .slice q5.a q5.l q5.c, .slice q5.b q5.m q5.d] 25)).d2; have q2_V8 := (V8.old (.cells #[.bool q5.s, .slice q5.a q5.l q5.c, .slice q5.b q5.m q5.d] 25)).frozen 2; (go_wp2_with fail); refine ent1 x33 _ _ (Q := fun W => Calls Tryz.prog _ _ W _) ?_; intro x34 hb hs_x34 V9; replace V3 := V3.a hb; replace V8 := V8.a hb; replace hr := Rn.after hb hr; replace hq2 := Rn.after hb hq2; replace hq5 := Rn.after hb hq5; replace B0 := step B0 hb; clear hb hs_x34; clear c_V8 f0_V8 d_V8 f1_V8 e_V8 f2_V8 l_V8 m_V8 p0_V8 q0_V8 p1_V8 q1_V8 p2_V8 q2_V8; refine (rlong_rc q2 _).mono ?_; rintro e x35 ⟨rfl, hb⟩; replace V3 := V3.a hb; replace V8 := V8.a hb; replace V9 := V9.a hb
            replace hr := Rn.after hb hr; replace hq2 := Rn.after hb hq2; replace hq5 := Rn.after hb hq5; replace B0 := step B0 hb; clear hb; (obtain ⟨m1, hm1⟩ : ∃ z, max (q2.l : Int) (q2.m : Int) = z := ⟨_, rfl⟩); (have HM1 : Hid (m1 ≤ 3 ↔ Sz 3 y) := by have := long_sz hq2 3; rw [hm1] at this; exact this); rw [hm1]; clear hm1
            by_cases g3 : 3 < m1
            ·
              have g4 : decide (3 < m1) = true := decide_eq_true g3; (go_wp2_with fail)
              go_ret2
              exact ⟨none, 0, 0, 3, rfl, .inr ⟨l, ⟨h1, h8⟩, HV.out, HO.out, .inr (.inl ⟨rfl, rfl, rfl, HU.out, k, hlt, fun h => by rw [HY.out] at h; exact absurd (HM1.out.2 h) (by omega)⟩)⟩, step (step HB.out HW9.out) B0⟩
            ·
              have g4 : decide (3 < m1) = false := decide_eq_false g3; have HZ : Hid (Sz 3 y) := HM1.out.1 (by omega); clear HM1 g3; have c_V9 := V9.d0; have f0_V9 := V9.frozen 0; have d_V9 := V9.d1; have f1_V9 := V9.frozen 1; have e_V9 := V9.d2; have f2_V9 := V9.frozen 2; have l_V9 := V9.lt; have m_V9 := Nat.le_of_lt l_V9; (go_wp2_with fail); clear c_V9 f0_V9 d_V9 f1_V9 e_V9 f2_V9 l_V9 m_V9; refine (rlong_rc q5 _).mono ?_; rintro e x36 ⟨rfl, hb⟩; replace V3 := V3.a hb; replace V8 := V8.a hb; replace V9 := V9.a hb; replace hr := Rn.after hb hr; replace hq2 := Rn.after hb hq2; replace hq5 := Rn.after hb hq5; replace B0 := step B0 hb; clear hb; (obtain ⟨m2, hm1⟩ : ∃ z, max (q5.l : Int) (q5.m : Int) = z := ⟨_, rfl⟩); (have hm2 : m2 ≤ 3 := by have := (long_sz hq5 3).2 (rate_sz HOK.out.2.2.1 HX.out.1.2); rw [hm1] at this; exact this); rw [hm1]; clear hm1; (have g5 : decide (3 < m2) = false := by rw [decide_eq_false_iff_not]; omega); have HGE : Hid (Ge elP x36 wb.heap.size (.slice av k cv) ps) := HG.out.after B0
              have HNB : Hid (Nb x36 (.slice av k cv)) := HN.out.after B0; have HPS : Hid (Ps x36 ps m k) := Ps.after B0 HP.out; have HQ : Hid (Rn x36 q2 y ∧ Rn x36 q5 (dvv x.v x.q / 100)) := ⟨hq2, hq5⟩; have HBX : Hid (Below wb.heap.size wb x36) := step HW9.out B0; have hwz := HBX.out.size; have VN := Va.new x36 75 #[.bool q2.s, .slice q2.a q2.l q2.c, .slice q2.b q2.m q2.d, .bool q5.s, .slice q5.a q5.l q5.c, .slice q5.b q5.m q5.d]; have HVN : Hid (Le elP (x36.alloc (.cells #[.bool q2.s, .slice q2.a q2.l q2.c, .slice q2.b q2.m q2.d, .bool q5.s, .slice q5.a q5.l q5.c, .slice q5.b q5.m q5.d] 75)) (some ⟨x36.heap.size, 0, none⟩) 1 [(q2, q5)]) := Le.one VN rfl; (have hn9 : ps.length + 1 ≤ 1000000000000 := by omega); clear VN; clear hq2 hq5 hr V3; have c_V8 := V8.d0; have f0_V8 := V8.frozen 0; have d_V8 := V8.d1; have f1_V8 := V8.frozen 1; have e_V8 := V8.d2; have f2_V8 := V8.frozen 2; have l_V8 := V8.lt; have m_V8 := Nat.le_of_lt l_V8; have c_V9 := V9.d0
              have f0_V9 := V9.frozen 0; have d_V9 := V9.d1; have f1_V9 := V9.frozen 1; have e_V9 := V9.d2; have f2_V9 := V9.frozen 2; have l_V9 := V9.lt; have m_V9 := Nat.le_of_lt l_V9; clear B0
              go_wp2_with (at_builtin; refine wpList_appN rfl _ _ _ rfl rfl wb.heap.size _ ps rfl (HGE.out.al _) (HNB.out.al _) x36.heap.size 0 1 (q2, q5) rfl HVN.out hn9 (by simp; omega) ?_; intro v' w5 hg5 hgr5 hn5; have HG5 : Hid (Ge elP w5 wb.heap.size v' (ps ++ [(q2, q5)])) := hg5; have HR5 : Hid ((x36.alloc (.cells #[.bool q2.s, .slice q2.a q2.l q2.c, .slice q2.b q2.m q2.d, .bool q5.s, .slice q5.a q5.l q5.c, .slice q5.b q5.m q5.d] 75)).grownBy w5 (Value.ownBlock (.slice av k cv))) := hgr5; have HN5 : Hid (Nb w5 v') := hn5; clear hg5 hgr5 hn5)
              clear c_V8 f0_V8 d_V8 f1_V8 e_V8 f2_V8 l_V8 m_V8 c_V9 f0_V9 d_V9 f1_V9 e_V9 f2_V9 l_V9 m_V9
              go_roundw
              case measure => simp [intOf]; omega
              case rel =>
                have HNa := HNB.out.al (.cells #[.bool q2.s, .slice q2.a q2.l q2.c, .slice q2.b q2.m q2.d, .bool q5.s, .slice q5.a q5.l q5.c, .slice q5.b q5.m q5.d] 75); have HGa := HGE.out.al (.cells #[.bool q2.s, .slice q2.a q2.l q2.c, .slice q2.b q2.m q2.d, .bool q5.s, .slice q5.a q5.l q5.c, .slice q5.b q5.m q5.d] 75); have AL : Below x36.heap.size x36 (x36.alloc (.cells #[.bool q2.s, .slice q2.a q2.l q2.c, .slice q2.b q2.m q2.d, .bool q5.s, .slice q5.a q5.l q5.c, .slice q5.b q5.m q5.d] 75)) := (Below.refl _ _).alloc (Nat.le_refl _) _; have p5 : Ps w5 ps m k := Ps.gr (Ps.after AL HPS.out) HR5.out HNa; have q6 : Rn w5 q2 y := Rn.gr (HQ.out.1.after AL) HR5.out HNa; have q7 : Rn w5 q5 (dvv x.v x.q / 100) := Rn.gr (HQ.out.2.after AL) HR5.out HNa; subst hpl; refine ⟨ps.length + 1, ps ++ [(q2, q5)], m ++ [(y, dvv x.v x.q / 100)], by omega, by go_num, by simp, by simp [hml], ?_, HG5.out, HN5.out, Ps.snoc p5 hml q6 q7, fun i hi => ?_, (HBX.out.alloc (by omega) _).grown HR5.out (by simp; omega) (fun g hg => HGa.block g hg)⟩
                · obtain ⟨a', cap, e, -, -, -⟩ := HG5.out.shape
                  exact ⟨a', cap, by rw [e]; simp⟩
                · by_cases e : i = ps.length
                  · rw [e]
                    (have a1 : aq (m ++ [(y, dvv x.v x.q / 100)]) ps.length = y := by rw [← hml, aq_last]); (have a2 : rq (m ++ [(y, dvv x.v x.q / 100)]) ps.length = dvv x.v x.q / 100 := by rw [← hml, rq_last]); rw [a1, a2, HY.out, HX.out.2.2]; exact ⟨⟨rfl, rfl⟩, HZ.out⟩
                  · rw [aq_app _ (by omega), rq_app _ (by omega)]
                    exact HA.out i (by omega)
        ·
          (obtain rfl : k = n := by omega); (go_wp2_with fail)
          go_ret2
          exact ⟨av, k, cv, 0, rfl, .inr ⟨l, ⟨h1, h8⟩, HV.out, HO.out, .inr (.inr ⟨rfl, HU.out, fun i hi => (HA.out i hi).2, ps, m, rfl, HG.out.toLe, hml, fun i hi => (HA.out i hi).1, HP.out⟩)⟩, step HB.out HW9.out⟩
  ·
    have HE : Hid (er = 180 ∧ ¬ ((1 ≤ n ∧ n ≤ 8) ∧ ∃ l, BVals bs l n ∧ Sok l)) := Or.elim he.out (fun h => absurd h.1 z) (fun h => h); (have z1 : (er != 0) = true := by simp [z]); (have z2 : (er == 0) = false := by simp [z]); clear he; (go_wp2_with fail)
    go_ret2
    exact ⟨none, 0, 0, 180, rfl, .inl ⟨rfl, rfl, rfl, HE.out.2⟩, B0⟩
end Go.Proofs.YtngichjgfppnpaaGreatDoor
namespace Go.Proofs.YtngichjgfppnpaaGreatDoor
open Go.ChangeShapes Go.WideShapes Go.ChangeAt Go.RowKit
set_option linter.unusedVariables false

theorem list4b {α : Type} {l : List α} (h : l.length = 4) : ∃ a b c d, l = [a, b, c, d] := by
  match l, h with
  | [a, b, c, d], _ => exact ⟨a, b, c, d, rfl⟩
instance : Inhabited Br := ⟨bz⟩
def Br.vs (x : Br) : List Value := [.int .i64 x.u, .int .i64 x.p, .int .i64 x.v, .int .i64 x.q]
theorem cBracket : Tryz.prog.cellsOf 53 = 4 := by kernel_rfl
theorem cDecimal : Tryz.prog.cellsOf 51 = 2 := by kernel_rfl
theorem bytesBr : Tryz.prog.bytesOf 53 = 32 := by kernel_rfl
theorem w64_of_wf {x : Int} (h : (Lit.int .i64 x).wf = true) : W64 x := by
  simp [Lit.wf, IntKind.min, IntKind.max, IntKind.signed, IntKind.bits] at h
  exact ⟨by omega, by omega⟩
section
variable {H : Type} {enc : TypeId × Value → H} {W : World}
theorem decimal_open {n : Nat} {v0 v1 : Value} {y : DataW H × List MemPlace} (h : DataW.trod enc Tryz.prog W 0 (fun _ => true) true n 51 [v0, v1] = some y) :
    ∃ u p : Int, v0 = .int .i64 u ∧ v1 = .int .i64 p ∧ W64 u ∧ W64 p := by
  obtain ⟨xs, k, _, hy, hl, hxl, hf⟩ := DataW.trod_struct Tryz.underlying51 h
  obtain ⟨y0, y1, rfl⟩ := list2p hxl
  have g0 := hf 0 _ rfl
  have g1 := hf 1 _ rfl
  have e1 : Tryz.prog.cellsOf 2 = 1 := by kernel_rfl
  have e2 : Tryz.prog.cellsOf 3 = 1 := by kernel_rfl
  simp [e1, e2] at g0 g1
  obtain ⟨x, hx0, -, wx⟩ := DataW.trod_int Tryz.underlying2 g0
  obtain ⟨z, hz0, -, wz⟩ := DataW.trod_int Tryz.underlying3 g1
  exact ⟨x, z, by simpa using hx0, by simpa using hz0, w64_of_wf wx, w64_of_wf wz⟩
theorem bracket_open {n : Nat} {cs : List Value} {y : DataW H × List MemPlace} (h : DataW.trod enc Tryz.prog W 0 (fun _ => true) true n 53 cs = some y) :
    ∃ p : Br, cs = Br.vs p ∧ p.ok := by
  obtain ⟨xs, k, _, hy, hl, hxl, hf⟩ := DataW.trod_struct Tryz.underlying53 h
  obtain ⟨v0, v1, v2, v3, rfl⟩ := list4b (hl.trans cBracket)
  obtain ⟨y0, y1, rfl⟩ := list2p hxl
  have g0 := hf 0 _ rfl
  have g1 := hf 1 _ rfl
  simp [cDecimal] at g0 g1
  obtain ⟨u, p, rfl, rfl, h1, h2⟩ := decimal_open g0
  obtain ⟨v, q, rfl, rfl, h3, h4⟩ := decimal_open g1
  exact ⟨⟨u, p, v, q⟩, rfl, h1, h2, h3, h4⟩
theorem open_brackets {a : Option Addr} {len cap : Nat} {d : DataW H} {p : List MemPlace} (h : DataW.Trod enc Tryz.prog W 0 (fun _ => true) true 22 (.slice a len cap) d p) (hs : ∀ x ∈ d.weights Tryz.prog 22, x ≤ reachBytes) :
    ∃ ps : List Br, Le elB W a len ps ∧ len ≤ cap ∧ cap ≤ 4398046511104 ∧ (a = none → len = 0 ∧ cap = 0) ∧ ∀ q ∈ ps, q.ok := by
  obtain ⟨fuel, hf⟩ := h
  rcases Go.Deep.open_slice Tryz.underlying22 hf with ⟨hcs, _⟩ | ⟨ad, l, c, m, n, D, Pl, hcs, _, hl, hcm, hmm, hd, hx⟩
  · simp [Value.cells] at hcs
    obtain ⟨rfl, rfl, rfl⟩ := hcs
    exact ⟨[], Le.nil _ _, Nat.le_refl _, by decide, fun _ => ⟨rfl, rfl⟩, fun n hn => by simp at hn⟩
  · simp [Value.cells] at hcs
    obtain ⟨rfl, rfl, rfl⟩ := hcs
    simp at hmm
    subst hmm
    have hd1 : d = DataW.slice ((List.range len).map D) ((List.range (m - len)).map fun j => D (len + j)) := congrArg Prod.fst hd
    rw [hd1] at hs
    simp only [DataW.weights, Tryz.underlying22] at hs
    have hb := hs _ (List.mem_cons_self ..)
    rw [bytesBr] at hb
    simp only [List.length_map, List.length_range, reachBytes] at hb
    have each : ∀ i, i < len → ∃ nd : Br, (∀ j u, (Br.vs nd)[j]? = some u → W.cell? ((ad.add (i * 4)).add j) = some u) ∧ nd.ok := by
      intro i hi
      obtain ⟨cs', h1, h2⟩ := hx i (by omega)
      rw [cBracket] at h1
      obtain ⟨nd, rfl, h6⟩ := bracket_open h2
      obtain ⟨_, hlen, hcell⟩ := World.cells?_some h1
      refine ⟨nd, fun j u hj => ?_, h6⟩
      have hj6 : j < 4 := by
        rcases Nat.lt_or_ge j 4 with h' | h'
        · exact h'
        · rw [List.getElem?_eq_none (by exact h')] at hj; cases hj
      have := hcell j hj6
      rw [this, hj]
    obtain ⟨Q, hQ⟩ := Go.Deep.choose_lt each
    refine ⟨(List.range len).map Q, ⟨by simp, fun h0 => ?_⟩, hl, by omega, (fun h => by cases h), fun n hn => ?_⟩
    · obtain ⟨b, off, spot⟩ := ad
      have hspot : spot = none := by
        have := (hQ 0 h0).1 0 _ rfl
        simpa [Addr.add] using World.cell?_spot this
      subst hspot
      refine ⟨b, off, rfl, fun i u hu => ?_⟩
      have hlen : (rowE elB ((List.range len).map Q)).length = len * 4 := by rw [rowE_length]; simp; rfl
      have hi : i < len * 4 := by
        rcases Nat.lt_or_ge i (rowE elB ((List.range len).map Q)).length with h' | h'
        · omega
        · rw [List.getElem?_eq_none h'] at hu; cases hu
      have hq := rowE_get elB (i % 4) (Nat.mod_lt _ (by decide)) ((List.range len).map Q) (i / 4) (by simp; omega)
      rw [show i / 4 * elB.s + i % 4 = i by show i / 4 * 4 + i % 4 = i; omega, hu] at hq
      have hg : ((List.range len).map Q).getD (i / 4) elB.dft = Q (i / 4) := by simp [show i / 4 < len by omega]
      rw [hg] at hq
      have := (hQ (i / 4) (by omega)).1 (i % 4) u hq.symm
      rw [Go.WideShapes.add_plain, Go.WideShapes.add_plain] at this
      rw [← this]
      congr 2
      omega
    · simp only [List.mem_map, List.mem_range] at hn
      obtain ⟨i, hi, rfl⟩ := hn
      exact (hQ i hi).2
end
end Go.Proofs.YtngichjgfppnpaaGreatDoor
