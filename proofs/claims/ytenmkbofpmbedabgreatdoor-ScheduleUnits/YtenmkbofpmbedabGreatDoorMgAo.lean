import Derived.Test.YtenmkbofpmbedabGreatDoorMgAl
import Derived.Test.YtenmkbofpmbedabGreatDoorMgAa
import Derived.Test.YtenmkbofpmbedabGreatDoorMgAm
namespace Go.Proofs.YtenmkbofpmbedabGreatDoor
open Go.RowKit Go.Shelf
set_option linter.unusedVariables false
set_option maxRecDepth 20000

theorem Va.hop {w w' : World} {b : Nat} {t : TypeId} {cs : Array Value} (h : Va w b t cs) (k : w'.heap[b]? = w.heap[b]?) : Va w' b t cs := by unfold Va at *; rw [k]; exact h
theorem cell_hop {w w' : World} {b i : Nat} {v : Value} (h : w.cell? ⟨b, i, none⟩ = some v) (k : w'.heap[b]? = w.heap[b]?) : w'.cell? ⟨b, i, none⟩ = some v := by
  simp only [World.cell?] at h ⊢
  rw [k]; exact h
theorem At6.hop {w w' : World} {b i : Nat} {p : Pc} (h : At6 w b i p) (k : w'.heap[b]? = w.heap[b]?) : At6 w' b i p := ⟨cell_hop h.c0 k, cell_hop h.c1 k, cell_hop h.c2 k, cell_hop h.c3 k, cell_hop h.c4 k, cell_hop h.c5 k⟩
def OfS (w : World) (B : Nat) (q : Option Addr) (ps : List Pc) (n : Nat) (er : Int) : Prop :=
  (er = 0 ∧ ∃ (g b : Nat) (xs : List Pc) (l : List Pq), q = some ⟨g, 0, none⟩ ∧ Sd w g b 0 n n xs l ∧ Vals ps l n ∧ B ≤ g ∧ B ≤ b) ∨ (er ≠ 0 ∧ q = none ∧ OfE ps n er)
theorem OfS.after {w w' : World} (hb : Below w.heap.size w w') {B : Nat} {q : Option Addr} {ps : List Pc} {n : Nat} {er : Int} (h : OfS w B q ps n er) : OfS w' B q ps n er := by
  rcases h with ⟨h0, g, b, xs, l, h1, h2, h3⟩ | h
  · exact .inl ⟨h0, g, b, xs, l, h1, h2.after hb, h3⟩
  · exact .inr h
set_option maxHeartbeats 4000000 in
theorem of8_any (a : Option Addr) (n c : Nat) (ps : List Pc) (w : World) (hL : Le elP w a n ps) (hR : Rp w ps n) :
    Calls Tryz.prog 11 #[.slice a n c] w fun e w' => ∃ (q : Option Addr) (er : Int), e = .returned (.tuple #[.pointer q, .int .i64 er]) ∧ Hid (OfS w' w.heap.size q ps n er) ∧ Below w.heap.size w w' := by
  have HO := ofPieces_any a n c ps w hL hR
  clear hL hR
  go_enter Tryz.func11, Tryz.ntmps11
  go_wp2_with fail
  refine HO.mono ?_
  rintro e w1 ⟨a', n', c', er, rfl, hs, hb⟩
  clear HO
  by_cases z : er = 0
  · have HS : Hid (Stp w1 w.heap.size a' n' c' ps n) := Or.elim hs.out (fun h => h.2) (fun h => absurd z h.1)
    have z1 : (er != 0) = false := by simp [z]
    clear hs
    go_wp2_with fail
    go_ret2
    obtain ⟨g, xs, l, rfl, rfl, rfl, hB, hxl, hG, hF, hV, hO, hT⟩ := HS.out.ex
    have AL : Below w1.heap.size w1 (w1.alloc (.cells #[.slice (some ⟨g, 0, none⟩) c' c'] 68)) := (Below.refl _ _).alloc (Nat.le_refl _) _
    refine ⟨some ⟨w1.heap.size, 0, none⟩, 0, rfl, .inl ⟨rfl, w1.heap.size, g, xs, l, rfl, ⟨Va.new w1 _ _, ?_, ⟨by rw [hxl, hV.1], fun i hi => ?_⟩, hV.1, hO, hT, Nat.le_refl _⟩, hV, hb.size, hB⟩, step hb AL⟩
    · have := (hG.after AL).le
      rwa [hxl] at this
    · exact (hF.after AL) i (by rw [← hV.1]; exact hi)
  · have HS : Hid (OfE ps n er) := Or.elim hs.out (fun h => absurd h.1 z) (fun h => h.2)
    have z1 : (er != 0) = true := by simp [z]
    have z2 : (er == 0) = false := by simp [z]
    clear hs
    go_wp2_with fail
    go_ret2
    exact ⟨none, er, rfl, .inr ⟨z, rfl, HS.out⟩, hb⟩
set_option maxHeartbeats 8000000 in
theorem levy_any (g : Nat) (r0 p q t : Rc) (x0 x y z : Rat) (w : World) (VS : Va w g 32 #[.bool r0.s, .slice r0.a r0.l r0.c, .slice r0.b r0.m r0.d]) (h0 : Rv w r0 x0) (hp : Rv w p x) (hq : Rv w q y) (ht : Rv w t z) (s1 : Short (z - y)) (s2 : Short (x * (z - y))) (s3 : Short (x0 + x * (z - y))) :
    Calls Tryz.prog 37 #[.agg #[.bool p.s, .slice p.a p.l p.c, .slice p.b p.m p.d], .agg #[.bool q.s, .slice q.a q.l q.c, .slice q.b q.m q.d], .agg #[.bool t.s, .slice t.a t.l t.c, .slice t.b t.m t.d], .pointer (some ⟨g, 0, none⟩)] w fun e w' => (∃ u, e = .returned u) ∧ ∃ r : Rc, Va w' g 32 #[.bool r.s, .slice r.a r.l r.c, .slice r.b r.m r.d] ∧ Rv w' r (x0 + x * (z - y)) ∧ (∀ c, c < w.heap.size → c ≠ g → w'.heap[c]? = w.heap[c]?) ∧ Below g w w' := by
  have S1 : Hid (Short (z - y)) := s1
  have S2 : Hid (Short (x * (z - y))) := s2
  have S3 : Hid (Short (x0 + x * (z - y))) := s3
  have hgw := VS.lt
  clear s1 s2 s3
  have B0 : Below w.heap.size w w := Below.refl _ _
  go_enter Tryz.func37, Tryz.ntmps37
  go_wp2_with fail
  refine ent3 w _ _ _ _ _ _ (Q := fun W => Calls Tryz.prog _ _ W _) ?_
  intro x1 hb hs_x1 V4 V5 V6
  replace VS := VS.a hb
  replace h0 := Rv.after hb h0
  replace hp := Rv.after hb hp
  replace hq := Rv.after hb hq
  replace ht := Rv.after hb ht
  replace B0 := step B0 hb
  clear hb hs_x1
  refine (sub_rc t q z y (z - y) _ ht hq rfl S1.out).mono ?_
  rintro e x2 ⟨r1, rfl, h1, hb⟩
  replace VS := VS.a hb
  replace V4 := V4.a hb
  replace V5 := V5.a hb
  replace V6 := V6.a hb
  replace h0 := Rv.after hb h0
  replace hp := Rv.after hb hp
  replace hq := Rv.after hb hq
  replace ht := Rv.after hb ht
  replace B0 := step B0 hb
  clear hb
  clear V5 V6 ht hq
  have c_V4 := V4.d0
  have f0_V4 := V4.frozen 0
  have d_V4 := V4.d1
  have f1_V4 := V4.frozen 1
  have e_V4 := V4.d2
  have f2_V4 := V4.frozen 2
  have l_V4 := V4.lt
  have m_V4 := Nat.le_of_lt l_V4
  have c_VS := VS.d0
  have f0_VS := VS.frozen 0
  have d_VS := VS.d1
  have f1_VS := VS.frozen 1
  have e_VS := VS.d2
  have f2_VS := VS.frozen 2
  have l_VS := VS.lt
  have m_VS := Nat.le_of_lt l_VS
  go_wp2_with fail
  refine ent1 x2 _ _ (Q := fun W => Calls Tryz.prog _ _ W _) ?_
  intro x3 hb hs_x3 V7
  replace VS := VS.a hb
  replace V4 := V4.a hb
  replace h0 := Rv.after hb h0
  replace hp := Rv.after hb hp
  replace h1 := Rv.after hb h1
  replace B0 := step B0 hb
  clear hb hs_x3
  clear c_V4 f0_V4 d_V4 f1_V4 e_V4 f2_V4 l_V4 m_V4 c_VS f0_VS d_VS f1_VS e_VS f2_VS l_VS m_VS
  refine (mul_rc p r1 x (z - y) (x * (z - y)) _ hp h1 rfl S2.out).mono ?_
  rintro e x4 ⟨r2, rfl, h2, hb⟩
  replace VS := VS.a hb
  replace V4 := V4.a hb
  replace V7 := V7.a hb
  replace h0 := Rv.after hb h0
  replace hp := Rv.after hb hp
  replace h1 := Rv.after hb h1
  replace B0 := step B0 hb
  clear hb
  clear V4 V7 hp h1
  have c_VS := VS.d0
  have f0_VS := VS.frozen 0
  have d_VS := VS.d1
  have f1_VS := VS.frozen 1
  have e_VS := VS.d2
  have f2_VS := VS.frozen 2
  have l_VS := VS.lt
  have m_VS := Nat.le_of_lt l_VS
  go_wp2_with fail
  refine ent1 x4 _ _ (Q := fun W => Calls Tryz.prog _ _ W _) ?_
  intro x5 hb hs_x5 V9
  replace VS := VS.a hb
  replace h0 := Rv.after hb h0
  replace h2 := Rv.after hb h2
  replace B0 := step B0 hb
  clear hb hs_x5
  clear c_VS f0_VS d_VS f1_VS e_VS f2_VS l_VS m_VS
  refine (add_rc r0 r2 x0 (x * (z - y)) (x0 + x * (z - y)) _ h0 h2 rfl S3.out).mono ?_
  rintro e x6 ⟨r3, rfl, h3, hb⟩
  replace VS := VS.a hb
  replace V9 := V9.a hb
  replace h0 := Rv.after hb h0
  replace h2 := Rv.after hb h2
  replace B0 := step B0 hb
  clear hb
  clear V9 h0 h2
  have c_VS := VS.d0
  have f0_VS := VS.frozen 0
  have d_VS := VS.d1
  have f1_VS := VS.frozen 1
  have e_VS := VS.d2
  have f2_VS := VS.frozen 2
  have l_VS := VS.lt
  have m_VS := Nat.le_of_lt l_VS
  go_wp2_with fail
  clear c_VS f0_VS d_VS f1_VS e_VS f2_VS l_VS m_VS
  go_end0
  exact ⟨⟨_, rfl⟩, r3, VS.set3 _ _ _, h3.far VS (noInt3 _ _ _ _ _ _ _) (fa3 _ _ _ _ _), fun c hc hne => (fa3 _ _ _ _ _ c hne).trans (B0.block c hc), belo3 (B0.mono (Nat.le_of_lt hgw)) (Nat.le_refl _) _ _ _⟩
def Bx (w X : World) : Prop := Below X.heap.size X w
theorem Bx.after {w w' X : World} (hb : Below w.heap.size w w') (h : Bx w X) : Bx w' X := step h hb
theorem Bx.drw {w X : World} (h : Bx w X) : Bx w.drew X := Below.drew h
def AtR (w : World) (q : Rc) (er : Int) (l : List Pq) (v : Rat) : Prop :=
  (er = 2 ∧ v < 0 ∧ Rv w q 0) ∨ (er = 3 ∧ 0 ≤ v ∧ ¬ Sz 512 v ∧ Rv w q 0) ∨ (er = 0 ∧ 0 ≤ v ∧ Sz 512 v ∧ ∃ a, Ata l v a ∧ (∀ n, Sz n v → Sz (n + 86) a) ∧ Rv w q a)
theorem AtR.after {w w' : World} (hb : Below w.heap.size w w') {q : Rc} {er : Int} {l : List Pq} {v : Rat} (h : AtR w q er l v) : AtR w' q er l v := by
  rcases h with ⟨h1, h2, h3⟩ | ⟨h1, h2, h3, h4⟩ | ⟨h1, h2, h3, a, h4, h5, h6⟩
  · exact .inl ⟨h1, h2, h3.after hb⟩
  · exact .inr (.inl ⟨h1, h2, h3, h4.after hb⟩)
  · exact .inr (.inr ⟨h1, h2, h3, a, h4, h5, h6.after hb⟩)
end Go.Proofs.YtenmkbofpmbedabGreatDoor
namespace Go.Proofs.YtenmkbofpmbedabGreatDoor
open Go.RowKit Go.Shelf
set_option linter.unusedVariables false
set_option maxRecDepth 20000
set_option maxHeartbeats 16000000 in
theorem at8_any (g b off n c : Nat) (xs : List Pc) (l : List Pq) (r : Rc) (v : Rat) (w : World) (hd : Sd w g b off n c xs l) (hr : Rv w r v) :
    Calls Tryz.prog 13 #[.pointer (some ⟨g, 0, none⟩), .agg #[.bool r.s, .slice r.a r.l r.c, .slice r.b r.m r.d]] w fun e w' => ∃ (q : Rc) (er : Int), e = .returned (.tuple #[.agg #[.bool q.s, .slice q.a q.l q.c, .slice q.b q.m q.d], .int .i64 er]) ∧ Hid (AtR w' q er l v) ∧ Below w.heap.size w w' := by
  have L0 := hd.lts; (obtain ⟨sv, hsv⟩ : ∃ s, Int.sign v.num = s := ⟨_, rfl⟩); (have HSV : Hid (sv < 0 ↔ v < 0) := by have := sgn_lt v; rw [hsv] at this; exact this); have B0 : Below w.heap.size w w := Below.refl _ _
  go_enter Tryz.func13, Tryz.ntmps13
  (go_wp2_with fail); refine ent2 w _ _ _ _ (Q := fun W => Calls Tryz.prog _ _ W _) ?_; intro x1 hb hs_x1 V3 V4; replace hd := Sd.after hb hd; replace hr := Rv.after hb hr; replace B0 := step B0 hb; clear hb hs_x1; have h1 := hd.few.1; refine (isSch_yes g b off n c _ hd.va h1).mono ?_; rintro e wz ⟨rfl, hw⟩; rw [hw]; clear hw wz h1; have c_V3 := V3.d0; have f0_V3 := V3.frozen 0; have d_V3 := V3.d1; have f1_V3 := V3.frozen 1; have e_V3 := V3.d2; have f2_V3 := V3.frozen 2; have l_V3 := V3.lt; have m_V3 := Nat.le_of_lt l_V3; (go_wp2_with fail); refine (sign_rc r v _ hr).mono ?_; rintro e x2 ⟨rfl, hb⟩; replace V3 := V3.a hb; replace V4 := V4.a hb; replace hd := Sd.after hb hd; replace hr := Rv.after hb hr; replace B0 := step B0 hb; clear hb; rw [hsv]
  by_cases g1 : sv < 0
  ·
    have e1 : decide (sv < 0) = true := decide_eq_true g1; clear c_V3 f0_V3 d_V3 f1_V3 e_V3 f2_V3 l_V3 m_V3; have c_V4 := V4.d0; have f0_V4 := V4.frozen 0; have d_V4 := V4.d1; have f1_V4 := V4.frozen 1; have e_V4 := V4.d2; have f2_V4 := V4.frozen 2; have l_V4 := V4.lt; have m_V4 := Nat.le_of_lt l_V4; (go_wp2_with fail); clear c_V4 f0_V4 d_V4 f1_V4 e_V4 f2_V4 l_V4 m_V4; refine bodyPost_ret (results_rt rfl rfl (V4.set3 _ _ _)) rfl ?_; exact ⟨Rc.nil, 2, rfl, .inl ⟨rfl, HSV.out.1 g1, Rv.nil _⟩, belo3 B0 (by omega) _ _ _⟩
  ·
    have e1 : decide (sv < 0) = false := decide_eq_false g1; (have HV0 : Hid (0 ≤ v) := by show 0 ≤ v; have := HSV.out; grind); clear c_V3 f0_V3 d_V3 f1_V3 e_V3 f2_V3 l_V3 m_V3; have c_V3 := V3.d0; have f0_V3 := V3.frozen 0; have d_V3 := V3.d1; have f1_V3 := V3.frozen 1; have e_V3 := V3.d2; have f2_V3 := V3.frozen 2; have l_V3 := V3.lt; have m_V3 := Nat.le_of_lt l_V3; (go_wp2_with fail); refine (long_rc r v _ hr).mono ?_; rintro e x3 ⟨nl, rfl, hnl, hb⟩; replace V3 := V3.a hb; replace V4 := V4.a hb; replace hd := Sd.after hb hd; replace hr := Rv.after hb hr; replace B0 := step B0 hb; clear hb; have HNL : Hid (nl ≤ 512 ↔ Sz 512 v) := hnl 512; clear hnl
    by_cases g2 : 512 < nl
    ·
      have e2 : decide (512 < nl) = true := decide_eq_true g2; clear c_V3 f0_V3 d_V3 f1_V3 e_V3 f2_V3 l_V3 m_V3; have c_V4 := V4.d0; have f0_V4 := V4.frozen 0; have d_V4 := V4.d1; have f1_V4 := V4.frozen 1; have e_V4 := V4.d2; have f2_V4 := V4.frozen 2; have l_V4 := V4.lt; have m_V4 := Nat.le_of_lt l_V4; (go_wp2_with fail); clear c_V4 f0_V4 d_V4 f1_V4 e_V4 f2_V4 l_V4 m_V4; refine bodyPost_ret (results_rt rfl rfl (V4.set3 _ _ _)) rfl ?_; exact ⟨Rc.nil, 3, rfl, .inr (.inl ⟨rfl, HV0.out, fun h => absurd (HNL.out.2 h) (by omega), Rv.nil _⟩), belo3 B0 (by omega) _ _ _⟩
    ·
      have e2 : decide (512 < nl) = false := decide_eq_false g2; have HZ : Hid (Sz 512 v) := HNL.out.1 (by omega); have bx : Bx x3 x3 := Below.refl _ _; have HDX : Hid (Sd x3 g b off n c xs l) := hd; have HRX : Hid (Rv x3 r v) := hr; have HV3 : Hid (Va x3 (w.heap.size) 32 #[.bool r.s, .slice r.a r.l r.c, .slice r.b r.m r.d]) := V3; have HV4 : Hid (Va x3 (w.heap.size + 1) 32 #[.bool false, .slice none 0 0, .slice none 0 0]) := V4; have HBX : Hid (Below w.heap.size w x3) := B0; clear c_V3 f0_V3 d_V3 f1_V3 e_V3 f2_V3 l_V3 m_V3; have c_V3 := V3.d0; have f0_V3 := V3.frozen 0; have d_V3 := V3.d1; have f1_V3 := V3.frozen 1; have e_V3 := V3.d2; have f2_V3 := V3.frozen 2; have l_V3 := V3.lt; have m_V3 := Nat.le_of_lt l_V3; (go_wp2_with fail); refine ent1 x3 _ _ (Q := fun W => Calls Tryz.prog _ _ W _) ?_; intro x4 hb hs_x4 V6; replace V3 := V3.a hb; replace V4 := V4.a hb; replace hd := Sd.after hb hd; replace hr := Rv.after hb hr; replace bx := Bx.after hb bx
      replace B0 := step B0 hb; clear hb hs_x4; clear c_V3 f0_V3 d_V3 f1_V3 e_V3 f2_V3 l_V3 m_V3; refine (begun8_any g b off n c xs l r v _ hd hr).mono ?_; rintro e x5 ⟨k, rfl, hk, hb⟩; replace V3 := V3.a hb; replace V4 := V4.a hb; replace V6 := V6.a hb; replace hd := Sd.after hb hd; replace hr := Rv.after hb hr; replace bx := Bx.after hb bx; replace B0 := step B0 hb; clear hb; have HK : Hid (Bg l v k) := hk.out; (obtain ⟨j, rfl⟩ : ∃ j, k = j + 1 := ⟨k - 1, by have := hk.out.pos hd.ok HV0.out; omega⟩); clear hk; have hln := hd.ln; (have hkn : j < n := by have := HK.out.le; omega); have h8 := hd.few.2; have hlc := hd.lc; have c0 := hd.va.cell; (have e3 : ((j + 1 : Nat) : Int) - 1 = (j : Int) := by omega); (go_wp2_with fail); have HV6 : Hid (Va x5 x3.heap.size 32 #[.bool false, .slice none 0 0, .slice none 0 0]) := V6; have HX5 : Hid (Below x3.heap.size x3 x5) := bx; have LX := HBX.out.size; clear V3 V4 V6 hd hr bx B0 c0 e3
      go_loopw [38] (fun i wr => ∃ (m : Nat) (q : Rc), m ≤ j ∧ i = .int .i64 m ∧ Hid (Va wr x3.heap.size 32 #[.bool q.s, .slice q.a q.l q.c, .slice q.b q.m q.d]) ∧ Hid (Rv wr q (ful l m)) ∧ Hid (Below x3.heap.size x3 wr)) (fun i _ => j - (intOf i).toNat)
      case atStart => exact ⟨0, Rc.nil, Nat.zero_le _, rfl, HV6.out, Rv.nil _, HX5.out⟩
      case round =>
        clear HV6 HX5; obtain ⟨m, q, hm, rfl, HVS, HVQ, HW⟩ := hrel
        by_cases hlt : m < j
        ·
          have B0 := HW.out; have VS := HVS.out; have hq := HVQ.out; have hd := HDX.out.after B0; have lts := HDX.out.lts; have lws := VS.lt; have hc : At6 wr b (off + m * 6) (xs.getD m (Rc.nil, Rc.nil)) := hd.le.six rfl rfl m (by omega); (obtain ⟨m1, hm1⟩ : ∃ m1, m + 1 = m1 := ⟨_, rfl⟩); (have hm2 : m1 < n := by omega); have hc2 : At6 wr b (off + m1 * 6) (xs.getD m1 (Rc.nil, Rc.nil)) := hd.le.six rfl rfl m1 hm2; have hS := hd.ss.2 m (by omega); (obtain ⟨z1, hz1⟩ : ∃ z, aq l m1 = z := ⟨_, rfl⟩); have hS2 := (hd.ss.2 m1 (by omega)).1; rw [hz1] at hS2; (have HZ1 : Hid (aq l (m + 1) = z1) := by show _ = _; rw [hm1]; exact hz1); (have e6 : (m : Int) + 1 = (m1 : Int) := by omega); clear hm1 hz1
          generalize xs.getD m (Rc.nil, Rc.nil) = p at hc hS
          generalize xs.getD m1 (Rc.nil, Rc.nil) = p2 at hc2 hS2
          obtain ⟨hp1, hp2⟩ := hS; have HT := HDX.out.sh; have HP := HT.part (i := m) (by omega); (have HS1 : Hid (Short (z1 - aq l m)) := by rw [HZ1.out] at HP; exact HP.1.short (by omega)); (have HS2 : Hid (Short (rq l m * (z1 - aq l m))) := by rw [HZ1.out] at HP; exact HP.2.short (by omega)); (have HS3 : Hid (Short (ful l m + rq l m * (z1 - aq l m))) := by rw [HZ1.out] at HP; exact ((HT.ful m (by omega)).add HP.2).short (by omega)); (have HFN : Hid (ful l m + rq l m * (z1 - aq l m) = ful l (m + 1)) := by show _ = _; rw [← HZ1.out]; rfl); clear HT HP; obtain ⟨c0, c1, c2, c3, c4, c5⟩ := hc; have lb0 := cell_lt c0; (go_wp2_with fail); refine ent1 wr _ _ (Q := fun W => Code.wp Tryz.prog _ _ _ W) ?_; intro x21 hb hs_x21 V10; replace VS := VS.a hb; replace hd := Sd.after hb hd; replace hq := Rv.after hb hq; replace hc2 := At6.after hb hc2; replace hp1 := Rv.after hb hp1; replace hp2 := Rv.after hb hp2; replace hS2 := Rv.after hb hS2
          replace B0 := step B0 hb; clear hb hs_x21; clear c0 c1 c2 c3 c4 c5 lb0; refine wp_region_noPanic ?_; replace VS : Va x21.drew _ _ _ := VS; replace V10 : Va x21.drew _ _ _ := V10; replace hd := hd.drw; replace hq := hq.drw; replace hc2 := hc2.drw; replace hp1 := hp1.drw; replace hp2 := hp2.drw; replace hS2 := hS2.drw; replace B0 := Below.drew B0; refine wp_region_held_drew (S := (fun W => W.cell? ⟨wr.heap.size, 0, none⟩ = some (.bool p.1.s) ∧ W.cell? ⟨wr.heap.size, 1, none⟩ = some (.slice p.1.a p.1.l p.1.c) ∧ W.cell? ⟨wr.heap.size, 2, none⟩ = some (.slice p.1.b p.1.m p.1.d) ∧ W.cell? ⟨wr.heap.size, 3, none⟩ = some (.bool p.2.s) ∧ W.cell? ⟨wr.heap.size, 4, none⟩ = some (.slice p.2.a p.2.l p.2.c) ∧ W.cell? ⟨wr.heap.size, 5, none⟩ = some (.slice p.2.b p.2.m p.2.d) ∧ W.cell? ⟨g, 0, none⟩ = some (.slice (some ⟨b, off, none⟩) n c) ∧ W.cell? ⟨b, off + m1 * 6, none⟩ = some (.bool p2.1.s) ∧ W.cell? ⟨b, off + m1 * 6 + 1, none⟩ = some (.slice p2.1.a p2.1.l p2.1.c) ∧ W.cell? ⟨b, off + m1 * 6 + 2, none⟩ = some (.slice p2.1.b p2.1.m p2.1.d))) (by kernel_rfl) ⟨V10.e0, V10.e1, V10.e2, V10.e3, V10.e4, V10.e5, hd.va.cell, hc2.c0, hc2.c1, hc2.c2⟩ (fun hHeld => ?_)
          (obtain ⟨x22, hxd⟩ : ∃ xd, xd = x21.drew := ⟨_, rfl⟩); rw [← hxd] at VS V10 hd hq hc2 hp1 hp2 hS2 B0 hHeld ⊢; clear hxd; refine tjz 0 hHeld ?_; refine tjz 1 hHeld ?_; refine tjz 2 hHeld ?_; refine tjz 3 hHeld ?_; refine tjz 4 hHeld ?_; refine tjz 5 hHeld ?_; refine tjz 6 hHeld ?_; refine tjz 7 hHeld ?_; refine tjz 8 hHeld ?_; refine tjz 9 hHeld ?_; refine wpAnyH_take (i := 10) (v := .int .i64 (m1 : Int)) rfl (by kernel_rfl) (by kernel_rfl) (by kernel_rfl) (fun _ _ _ h => h) (Or.inl ⟨by rfl, ?_⟩) hHeld ?_
          · (intro W hSw; (try dsimp only at hSw); go_simp; (simp only [IntKind.wrap_i64]; omega))
          simp only [gA, gB, gC, Act.put, gD, gE, gF]; refine tjz 11 hHeld ?_; refine tjz 12 hHeld ?_; refine tjz 13 hHeld ?_; refine ryz 14 (fun K hK => ?_); simp only [gA, gB, gC]; (go_simp); refine (levy_any x3.heap.size q p.2 p.1 p2.1 (ful l m) (rq l m) (aq l m) z1 _ VS hq hp2 hp1 hS2 HS1.out HS2.out HS3.out).mono ?_; rintro e y ⟨⟨u, rfl⟩, q', VS', hq', hfar, hbl⟩; have hy := B0.size; have hh : y.heap[b]? = _ := hfar b (by omega) (by omega); replace hc2 := hc2.hop hh; replace V10 := V10.hop (hfar _ V10.lt (by omega)); replace hd : Sd y g b off n c xs l := HDX.out.after (B0.trans hbl); (try go_wp2_with fail); refine hK.out _ _ ⟨V10.e0, V10.e1, V10.e2, V10.e3, V10.e4, V10.e5, hd.va.cell, hc2.c0, hc2.c1, hc2.c2⟩ (fun hHeld => ?_)
          clear hK K; refine dnz ?_; clear hHeld; have HVS' : Hid (Va y x3.heap.size 32 #[.bool q'.s, .slice q'.a q'.l q'.c, .slice q'.b q'.m q'.d]) := VS'; clear V10 VS' VS hc2; (go_wp2_with fail)
          go_roundw
          case measure => simp [intOf]; omega
          case rel => exact ⟨m + 1, q', by omega, by go_num, HVS'.out, by rw [← HFN.out]; exact hq', B0.trans hbl⟩
        ·
          (obtain rfl : m = j := by omega); have B0 := HW.out; have VS := HVS.out; have hq := HVQ.out; have hd := HDX.out.after B0; have lts := HDX.out.lts; have lws := VS.lt; have l3 := HV3.out.lt; have l4 := HV4.out.lt; have V3 := Va.after B0 HV3.out; have V4 := Va.after B0 HV4.out; have hr := HRX.out.after B0; have hc : At6 wr b (off + m * 6) (xs.getD m (Rc.nil, Rc.nil)) := hd.le.six rfl rfl m (by omega); have hS := hd.ss.2 m (by omega)
          generalize xs.getD m (Rc.nil, Rc.nil) = p at hc hS
          obtain ⟨hp1, hp2⟩ := hS; have HT := HDX.out.sh; (have HSZ : Hid (∀ i, Sz i v → Sz (i + 86) (atk l (m + 1) v)) := fun i hi => (HT.last (k := m + 1) (by omega) (by omega) (by omega) hi).2.2); have hT := HT.last (k := m + 1) (by omega) (by omega) (by omega) HZ.out; have HS1 : Hid (Short (v - aq l m)) := hT.1.short (by omega); have HS2 : Hid (Short (rq l m * (v - aq l m))) := hT.2.1.short (by omega); have HS3 : Hid (Short (ful l m + rq l m * (v - aq l m))) := hT.2.2.short (by omega); clear HT hT; (go_wp2_with fail); refine wp_region_noPanic ?_; replace VS : Va wr.drew _ _ _ := VS; replace V3 : Va wr.drew _ _ _ := V3; replace V4 : Va wr.drew _ _ _ := V4; replace hd := hd.drw; replace hq := hq.drw; replace hr := hr.drw; replace hc := hc.drw; replace hp1 := hp1.drw; replace hp2 := hp2.drw; replace B0 := Below.drew B0; refine wp_region_held_drew (S := (fun W => W.cell? ⟨w.heap.size, 0, none⟩ = some (.bool r.s) ∧ W.cell? ⟨w.heap.size, 1, none⟩ = some (.slice r.a r.l r.c) ∧ W.cell? ⟨w.heap.size, 2, none⟩ = some (.slice r.b r.m r.d) ∧ W.cell? ⟨g, 0, none⟩ = some (.slice (some ⟨b, off, none⟩) n c) ∧ W.cell? ⟨b, off + m * 6, none⟩ = some (.bool p.1.s) ∧ W.cell? ⟨b, off + m * 6 + 1, none⟩ = some (.slice p.1.a p.1.l p.1.c) ∧ W.cell? ⟨b, off + m * 6 + 2, none⟩ = some (.slice p.1.b p.1.m p.1.d) ∧ W.cell? ⟨b, off + m * 6 + 3, none⟩ = some (.bool p.2.s) ∧ W.cell? ⟨b, off + m * 6 + 4, none⟩ = some (.slice p.2.a p.2.l p.2.c) ∧ W.cell? ⟨b, off + m * 6 + 5, none⟩ = some (.slice p.2.b p.2.m p.2.d))) (by kernel_rfl) ⟨V3.d0, V3.d1, V3.d2, hd.va.cell, hc.c0, hc.c1, hc.c2, hc.c3, hc.c4, hc.c5⟩ (fun hHeld => ?_)
          (obtain ⟨x21, hxd⟩ : ∃ xd, xd = wr.drew := ⟨_, rfl⟩); rw [← hxd] at VS V3 V4 hd hq hr hc hp1 hp2 B0 hHeld ⊢; clear hxd; refine tjz 0 hHeld ?_; refine tjz 1 hHeld ?_; refine tjz 2 hHeld ?_; refine tjz 3 hHeld ?_; refine tjz 4 hHeld ?_; refine tjz 5 hHeld ?_; refine tjz 6 hHeld ?_; refine tjz 7 hHeld ?_; refine tjz 8 hHeld ?_; refine tjz 9 hHeld ?_; refine tjz 10 hHeld ?_; refine tjz 11 hHeld ?_
          refine tjz 12 hHeld ?_; refine tjz 13 hHeld ?_; refine tjz 14 hHeld ?_; refine tjz 15 hHeld ?_; refine tjz 16 hHeld ?_; refine tjz 17 hHeld ?_; refine ryz 18 (fun K hK => ?_); simp only [gA, gB, gC]; (go_simp); refine (levy_any x3.heap.size q p.2 p.1 r (ful l m) (rq l m) (aq l m) v _ VS hq hp2 hp1 hr HS1.out HS2.out HS3.out).mono ?_; rintro e y ⟨⟨u, rfl⟩, q', VS', hq', hfar, hbl⟩; have hy := B0.size; have hh : y.heap[b]? = _ := hfar b (by omega) (by omega); replace hc := hc.hop hh; replace V3 := V3.hop (hfar _ V3.lt (by omega)); replace V4 := V4.hop (hfar _ V4.lt (by omega))
          replace hd : Sd y g b off n c xs l := HDX.out.after (B0.trans hbl); (try go_wp2_with fail); refine hK.out _ _ ⟨V3.d0, V3.d1, V3.d2, hd.va.cell, hc.c0, hc.c1, hc.c2, hc.c3, hc.c4, hc.c5⟩ (fun hHeld => ?_); clear hK K; refine dnz ?_; clear hHeld hc VS; have VS := VS'; clear VS'; have HBY : Hid (Below w.heap.size w y) := HBX.out.trans ((B0.trans hbl).mono LX); have c_VS := VS.d0; have f0_VS := VS.frozen 0; have d_VS := VS.d1; have f1_VS := VS.frozen 1; have e_VS := VS.d2; have f2_VS := VS.frozen 2; have l_VS := VS.lt; have m_VS := Nat.le_of_lt l_VS; have c_V4 := V4.d0; have f0_V4 := V4.frozen 0; have d_V4 := V4.d1; have f1_V4 := V4.frozen 1; have e_V4 := V4.d2; have f2_V4 := V4.frozen 2; have l_V4 := V4.lt; have m_V4 := Nat.le_of_lt l_V4; (go_wp2_with fail); clear c_VS f0_VS d_VS f1_VS e_VS f2_VS l_VS m_VS c_V4 f0_V4 d_V4 f1_V4 e_V4 f2_V4 l_V4 m_V4; refine bodyPost_ret (results_rt rfl rfl (V4.set3 _ _ _)) rfl ?_
          exact ⟨q', 0, rfl, .inr (.inr ⟨rfl, HV0.out, HZ.out, atk l (m + 1) v, ⟨m + 1, HK.out, by omega, rfl⟩, HSZ.out, hq'.far V4 (noInt3 _ _ _ _ _ _ _) (fa3 _ _ _ _ _)⟩), belo3 HBY.out (by omega) _ _ _⟩
end Go.Proofs.YtenmkbofpmbedabGreatDoor
namespace Go.Proofs.YtenmkbofpmbedabGreatDoor
open Go.RowKit Go.Shelf
set_option linter.unusedVariables false
set_option linter.unusedSimpArgs false
set_option maxRecDepth 20000

theorem wpList_appB {ops : Array Oper} {rest : List Oper} {o : Oper} {a : Act} {w : World} {Q : Exit → Act → World → Prop} (hgd : o.guard = none) (s x : Operand)
    (ho : o.op = .call { callee := .builtin .append, args := #[s, x], argTypes := #[22, 22] })
    (hs : a.eval s = .slice none 0 0) (b off m c : Nat) (ys : List Br) (hx : a.eval x = .slice (some ⟨b, off, none⟩) m c) (hy : Le elB w (some ⟨b, off, none⟩) m ys) (hb : m ≤ 4398046511104)
    (h : ∀ v' w', Ge elB w' w.heap.size v' ys → w.grownBy w' none → wpList Tryz.prog ops Q rest (a.put o.dst v') w') : wpList Tryz.prog ops Q (o :: rest) a w := by
  refine wpList_plain hgd fun K hK => ?_
  obtain ⟨i0, hi, hz0, hz1, hz2⟩ := info_parts infoBr
  obtain ⟨v', w', hr, h2, h3, -, h5⟩ := run_append_own_at (P := Tryz.prog) (w := w) w.heap.size 22 o.type 83 i0 (.agg #[.int .i64 0, .int .i64 0, .int .i64 0, .int .i64 0]) 4 32 Tryz.underlying22 hi hz0 hz1 hz2 rfl (by decide) (.slice none 0 0) 0 [] (Ge.nil (E := elB) w w.heap.size) ⟨b, off, none⟩ m c (rowE elB ys) (by rw [rowE_length, hy.1]; rfl) (Le.news hy) (rowE_one elB _) (by unfold maxLen; omega) (by omega) (Nat.le_refl _)
  unfold Oper.wp execOp
  simp only [ho, resolve, invoke, builtin, Sem.run_bind, Sem.run_pure, Result.andThen_ok, List.map_toArray, List.map_cons, List.map_nil, hs, hx, hr]
  refine hK _ _ (h v' w' ?_ h3)
  have h6 : World.ownsRow w' w.heap.size 83 4 v' m (rowE elB ys) := by simpa using h2
  show World.ownsRow _ _ _ _ _ _ _
  rw [hy.1]
  exact h6
set_option maxHeartbeats 2000000 in
theorem copyB (a : Option Addr) (len cap : Nat) (ys : List Br) (w : World) (h : Le elB w a len ys) (hn : a = none → len = 0 ∧ cap = 0) (hl : len ≤ 4398046511104) :
    Calls Tryz.prog 9 #[.slice a len cap] w fun e w' => (∃ a' c', e = .returned (.slice a' len c') ∧ Le elB w' a' len ys) ∧ Below w.heap.size w w' := by
  have hlen := h.1
  cases a with
  | none =>
    obtain ⟨rfl, rfl⟩ := hn rfl
    have hp : ys = [] := List.length_eq_zero_iff.1 h.1
    subst hp
    go_enter Tryz.func9, Tryz.ntmps9
    go_wp2_with fail
    go_ret
    first
      | exact ⟨⟨_, _, rfl, Le.nil _ _⟩, Below.refl _ _⟩
      | exact ⟨⟨_, ⟨_, rfl⟩, Le.nil _ _⟩, Below.refl _ _⟩
  | some ad =>
    rcases Nat.eq_zero_or_pos len with h0 | h0
    · subst h0
      have hp : ys = [] := List.length_eq_zero_iff.1 h.1
      subst hp
      have HL : Hid (Le elB w (some ⟨0, 0, none⟩) 0 []) := Le.nil _ _
      clear h hn
      go_enter Tryz.func9, Tryz.ntmps9
      go_wp2_with fail
      go_ret
      first
        | exact ⟨⟨_, _, rfl, Le.nil _ _⟩, Below.refl _ _⟩
        | exact ⟨⟨_, ⟨_, rfl⟩, Le.nil _ _⟩, Below.refl _ _⟩
    · obtain ⟨b, off, e⟩ := Le.ex h h0
      cases e
      have HL : Hid (Le elB w (some ⟨b, off, none⟩) len ys) := h
      clear h hn
      go_enter Tryz.func9, Tryz.ntmps9
      go_wp2_with (at_builtin; refine wpList_appB rfl _ _ rfl rfl b off len cap ys rfl HL.out hl ?_; intro v1 w1 hg hgr; obtain ⟨a2, c2, rfl, -, -, -⟩ := hg.shape; have HG : Hid (Le elB w1 a2 ys.length ys) := hg.toLe; have HB : Hid (Below w.heap.size w w1) := (Below.refl _ _).grown hgr (Nat.le_refl _) (fun k hk => by cases hk); clear hg hgr; rw [hlen] at HG ⊢)
      go_ret
      first
        | exact ⟨⟨_, _, rfl, HG.out⟩, HB.out⟩
        | exact ⟨⟨_, ⟨_, rfl⟩, HG.out⟩, HB.out⟩
theorem copyB9 (a : Option Addr) (len cap : Nat) (ys : List Br) (w : World) (h : Le elB w a len ys) (hn : a = none → len = 0 ∧ cap = 0) (hl : len ≤ 4398046511104) :
    Calls Tryz.prog 9 #[.slice a len cap] w fun e w' => ∃ (a' : Option Addr) (c' : Nat), e = .returned (.slice a' len c') ∧ Le elB w' a' len ys ∧ Below w.heap.size w w' :=
  (copyB a len cap ys w h hn hl).mono (by rintro e w' ⟨⟨a', c', rfl, h⟩, hb⟩; exact ⟨a', c', rfl, h, hb⟩)
end Go.Proofs.YtenmkbofpmbedabGreatDoor
