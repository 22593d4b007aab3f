import Derived.Test.YtngichjgfppnpaaGreatDoorMgAo
import Derived.Test.YtngichjgfppnpaaGreatDoorMgAa
import Derived.Test.YtngichjgfppnpaaGreatDoorRt16
import Derived.Test.YtngichjgfppnpaaGreatDoorMgAh
import Derived.Test.YtngichjgfppnpaaGreatDoorMgAj
import Derived.ProofKit
import Derived.OpenShut
import Derived.ShutString
import Derived.ChangeOld
import Derived.SizedLaws
import Derived.Deep.Slices
namespace Go.Proofs.YtngichjgfppnpaaGreatDoor
open Go.RowKit Go.Shelf
set_option linter.unusedVariables false
set_option maxRecDepth 20000

theorem Va.hop {w w' : World} {b : Nat} {t : TypeId} {cs : Array Value} (h : Va w b t cs) (k : w'.heap[b]? = w.heap[b]?) : Va w' b t cs := by unfold Va at *; rw [k]; exact h
theorem cell_hop {w w' : World} {b i : Nat} {v : Value} (h : w.cell? ⟨b, i, none⟩ = some v) (k : w'.heap[b]? = w.heap[b]?) : w'.cell? ⟨b, i, none⟩ = some v := by
  simp only [World.cell?] at h ⊢
  rw [k]; exact h
theorem At6.hop {w w' : World} {b i : Nat} {p : Pc} (h : At6 w b i p) (k : w'.heap[b]? = w.heap[b]?) : At6 w' b i p := ⟨cell_hop h.c0 k, cell_hop h.c1 k, cell_hop h.c2 k, cell_hop h.c3 k, cell_hop h.c4 k, cell_hop h.c5 k⟩
def OfS (w : World) (B : Nat) (q : Option Addr) (ps : List Pc) (n : Nat) (er : Int) : Prop :=
  (er = 0 ∧ ∃ (g b : Nat) (xs : List Pc) (l : List Pq), q = some ⟨g, 0, none⟩ ∧ Sd w g b 0 n n xs l ∧ Vals ps l n ∧ B ≤ g ∧ B ≤ b) ∨ (er ≠ 0 ∧ q = none ∧ OfE ps n er)
theorem OfS.after {w w' : World} (hb : Below w.heap.size w w') {B : Nat} {q : Option Addr} {ps : List Pc} {n : Nat} {er : Int} (h : OfS w B q ps n er) : OfS w' B q ps n er := by
  rcases h with ⟨h0, g, b, xs, l, h1, h2, h3⟩ | h
  · exact .inl ⟨h0, g, b, xs, l, h1, h2.after hb, h3⟩
  · exact .inr h
set_option maxHeartbeats 4000000 in
theorem of8_any (a : Option Addr) (n c : Nat) (ps : List Pc) (w : World) (hL : Le elP w a n ps) (hR : Rp w ps n) :
    Calls Tryz.prog 17 #[.slice a n c] w fun e w' => ∃ (q : Option Addr) (er : Int), e = .returned (.tuple #[.pointer q, .int .i64 er]) ∧ Hid (OfS w' w.heap.size q ps n er) ∧ Below w.heap.size w w' := by
  have HO := ofPieces_any a n c ps w hL hR
  clear hL hR
  go_enter Tryz.func17, Tryz.ntmps17
  go_wp2_with fail
  refine HO.mono ?_
  rintro e w1 ⟨a', n', c', er, rfl, hs, hb⟩
  clear HO
  by_cases z : er = 0
  · have HS : Hid (Stp w1 w.heap.size a' n' c' ps n) := Or.elim hs.out (fun h => h.2) (fun h => absurd z h.1)
    have z1 : (er != 0) = false := by simp [z]
    clear hs
    go_wp2_with fail
    go_ret2
    obtain ⟨g, xs, l, rfl, rfl, rfl, hB, hxl, hG, hF, hV, hO, hT⟩ := HS.out.ex
    have AL : Below w1.heap.size w1 (w1.alloc (.cells #[.slice (some ⟨g, 0, none⟩) c' c'] 96)) := (Below.refl _ _).alloc (Nat.le_refl _) _
    refine ⟨some ⟨w1.heap.size, 0, none⟩, 0, rfl, .inl ⟨rfl, w1.heap.size, g, xs, l, rfl, ⟨Va.new w1 _ _, ?_, ⟨by rw [hxl, hV.1], fun i hi => ?_⟩, hV.1, hO, hT, Nat.le_refl _⟩, hV, hb.size, hB⟩, step hb AL⟩
    · have := (hG.after AL).le
      rwa [hxl] at this
    · exact (hF.after AL) i (by rw [← hV.1]; exact hi)
  · have HS : Hid (OfE ps n er) := Or.elim hs.out (fun h => absurd h.1 z) (fun h => h.2)
    have z1 : (er != 0) = true := by simp [z]
    have z2 : (er == 0) = false := by simp [z]
    clear hs
    go_wp2_with fail
    go_ret2
    exact ⟨none, er, rfl, .inr ⟨z, rfl, HS.out⟩, hb⟩
set_option maxHeartbeats 8000000 in
theorem levy_any (g : Nat) (r0 p q t : Rc) (x0 x y z : Rat) (w : World) (VS : Va w g 36 #[.bool r0.s, .slice r0.a r0.l r0.c, .slice r0.b r0.m r0.d]) (h0 : Rv w r0 x0) (hp : Rv w p x) (hq : Rv w q y) (ht : Rv w t z) (s1 : Short (z - y)) (s2 : Short (x * (z - y))) (s3 : Short (x0 + x * (z - y))) :
    Calls Tryz.prog 51 #[.agg #[.bool p.s, .slice p.a p.l p.c, .slice p.b p.m p.d], .agg #[.bool q.s, .slice q.a q.l q.c, .slice q.b q.m q.d], .agg #[.bool t.s, .slice t.a t.l t.c, .slice t.b t.m t.d], .pointer (some ⟨g, 0, none⟩)] w fun e w' => (∃ u, e = .returned u) ∧ ∃ r : Rc, Va w' g 36 #[.bool r.s, .slice r.a r.l r.c, .slice r.b r.m r.d] ∧ Rv w' r (x0 + x * (z - y)) ∧ (∀ c, c < w.heap.size → c ≠ g → w'.heap[c]? = w.heap[c]?) ∧ Below g w w' := by
  have S1 : Hid (Short (z - y)) := s1
  have S2 : Hid (Short (x * (z - y))) := s2
  have S3 : Hid (Short (x0 + x * (z - y))) := s3
  have hgw := VS.lt
  clear s1 s2 s3
  have B0 : Below w.heap.size w w := Below.refl _ _
  go_enter Tryz.func51, Tryz.ntmps51
  go_wp2_with fail
  refine ent3 w _ _ _ _ _ _ (Q := fun W => Calls Tryz.prog _ _ W _) ?_
  intro x1 hb hs_x1 V4 V5 V6
  replace VS := VS.a hb
  replace h0 := Rv.after hb h0
  replace hp := Rv.after hb hp
  replace hq := Rv.after hb hq
  replace ht := Rv.after hb ht
  replace B0 := step B0 hb
  clear hb hs_x1
  refine (sub_rc t q z y (z - y) _ ht hq rfl S1.out).mono ?_
  rintro e x2 ⟨r1, rfl, h1, hb⟩
  replace VS := VS.a hb
  replace V4 := V4.a hb
  replace V5 := V5.a hb
  replace V6 := V6.a hb
  replace h0 := Rv.after hb h0
  replace hp := Rv.after hb hp
  replace hq := Rv.after hb hq
  replace ht := Rv.after hb ht
  replace B0 := step B0 hb
  clear hb
  clear V5 V6 ht hq
  have c_V4 := V4.d0
  have f0_V4 := V4.frozen 0
  have d_V4 := V4.d1
  have f1_V4 := V4.frozen 1
  have e_V4 := V4.d2
  have f2_V4 := V4.frozen 2
  have l_V4 := V4.lt
  have m_V4 := Nat.le_of_lt l_V4
  have c_VS := VS.d0
  have f0_VS := VS.frozen 0
  have d_VS := VS.d1
  have f1_VS := VS.frozen 1
  have e_VS := VS.d2
  have f2_VS := VS.frozen 2
  have l_VS := VS.lt
  have m_VS := Nat.le_of_lt l_VS
  go_wp2_with fail
  refine ent1 x2 _ _ (Q := fun W => Calls Tryz.prog _ _ W _) ?_
  intro x3 hb hs_x3 V7
  replace VS := VS.a hb
  replace V4 := V4.a hb
  replace h0 := Rv.after hb h0
  replace hp := Rv.after hb hp
  replace h1 := Rv.after hb h1
  replace B0 := step B0 hb
  clear hb hs_x3
  clear c_V4 f0_V4 d_V4 f1_V4 e_V4 f2_V4 l_V4 m_V4 c_VS f0_VS d_VS f1_VS e_VS f2_VS l_VS m_VS
  refine (mul_rc p r1 x (z - y) (x * (z - y)) _ hp h1 rfl S2.out).mono ?_
  rintro e x4 ⟨r2, rfl, h2, hb⟩
  replace VS := VS.a hb
  replace V4 := V4.a hb
  replace V7 := V7.a hb
  replace h0 := Rv.after hb h0
  replace hp := Rv.after hb hp
  replace h1 := Rv.after hb h1
  replace B0 := step B0 hb
  clear hb
  clear V4 V7 hp h1
  have c_VS := VS.d0
  have f0_VS := VS.frozen 0
  have d_VS := VS.d1
  have f1_VS := VS.frozen 1
  have e_VS := VS.d2
  have f2_VS := VS.frozen 2
  have l_VS := VS.lt
  have m_VS := Nat.le_of_lt l_VS
  go_wp2_with fail
  refine ent1 x4 _ _ (Q := fun W => Calls Tryz.prog _ _ W _) ?_
  intro x5 hb hs_x5 V9
  replace VS := VS.a hb
  replace h0 := Rv.after hb h0
  replace h2 := Rv.after hb h2
  replace B0 := step B0 hb
  clear hb hs_x5
  clear c_VS f0_VS d_VS f1_VS e_VS f2_VS l_VS m_VS
  refine (add_rc r0 r2 x0 (x * (z - y)) (x0 + x * (z - y)) _ h0 h2 rfl S3.out).mono ?_
  rintro e x6 ⟨r3, rfl, h3, hb⟩
  replace VS := VS.a hb
  replace V9 := V9.a hb
  replace h0 := Rv.after hb h0
  replace h2 := Rv.after hb h2
  replace B0 := step B0 hb
  clear hb
  clear V9 h0 h2
  have c_VS := VS.d0
  have f0_VS := VS.frozen 0
  have d_VS := VS.d1
  have f1_VS := VS.frozen 1
  have e_VS := VS.d2
  have f2_VS := VS.frozen 2
  have l_VS := VS.lt
  have m_VS := Nat.le_of_lt l_VS
  go_wp2_with fail
  clear c_VS f0_VS d_VS f1_VS e_VS f2_VS l_VS m_VS
  go_end0
  exact ⟨⟨_, rfl⟩, r3, VS.set3 _ _ _, h3.far VS (noInt3 _ _ _ _ _ _ _) (fa3 _ _ _ _ _), fun c hc hne => (fa3 _ _ _ _ _ c hne).trans (B0.block c hc), belo3 (B0.mono (Nat.le_of_lt hgw)) (Nat.le_refl _) _ _ _⟩
def Bx (w X : World) : Prop := Below X.heap.size X w
theorem Bx.after {w w' X : World} (hb : Below w.heap.size w w') (h : Bx w X) : Bx w' X := step h hb
theorem Bx.drw {w X : World} (h : Bx w X) : Bx w.drew X := Below.drew h
def AtR (w : World) (q : Rc) (er : Int) (l : List Pq) (v : Rat) : Prop :=
  (er = 2 ∧ v < 0 ∧ Rv w q 0) ∨ (er = 3 ∧ 0 ≤ v ∧ ¬ Sz 512 v ∧ Rv w q 0) ∨ (er = 0 ∧ 0 ≤ v ∧ Sz 512 v ∧ ∃ a, Ata l v a ∧ (∀ n, Sz n v → Sz (n + 86) a) ∧ Rv w q a)
theorem AtR.after {w w' : World} (hb : Below w.heap.size w w') {q : Rc} {er : Int} {l : List Pq} {v : Rat} (h : AtR w q er l v) : AtR w' q er l v := by
  rcases h with ⟨h1, h2, h3⟩ | ⟨h1, h2, h3, h4⟩ | ⟨h1, h2, h3, a, h4, h5, h6⟩
  · exact .inl ⟨h1, h2, h3.after hb⟩
  · exact .inr (.inl ⟨h1, h2, h3, h4.after hb⟩)
  · exact .inr (.inr ⟨h1, h2, h3, a, h4, h5, h6.after hb⟩)
end Go.Proofs.YtngichjgfppnpaaGreatDoor
namespace Go.Proofs.YtngichjgfppnpaaGreatDoor
open Go.RowKit Go.Shelf
set_option linter.unusedVariables false
set_option maxRecDepth 20000
set_option maxHeartbeats 16000000 in
theorem at8_any (g b off n c : Nat) (xs : List Pc) (l : List Pq) (r : Rc) (v : Rat) (w : World) (hd : Sd w g b off n c xs l) (hr : Rv w r v) :
    Calls Tryz.prog 18 #[.pointer (some ⟨g, 0, none⟩), .agg #[.bool r.s, .slice r.a r.l r.c, .slice r.b r.m r.d]] w fun e w' => ∃ (q : Rc) (er : Int), e = .returned (.tuple #[.agg #[.bool q.s, .slice q.a q.l q.c, .slice q.b q.m q.d], .int .i64 er]) ∧ Hid (AtR w' q er l v) ∧ Below w.heap.size w w' := by
  have L0 := hd.lts; (obtain ⟨sv, hsv⟩ : ∃ s, Int.sign v.num = s := ⟨_, rfl⟩); (have HSV : Hid (sv < 0 ↔ v < 0) := by have := sgn_lt v; rw [hsv] at this; exact this); have B0 : Below w.heap.size w w := Below.refl _ _
  go_enter Tryz.func18, Tryz.ntmps18
  (go_wp2_with fail); refine ent2 w _ _ _ _ (Q := fun W => Calls Tryz.prog _ _ W _) ?_; intro x1 hb hs_x1 V3 V4; replace hd := Sd.after hb hd; replace hr := Rv.after hb hr; replace B0 := step B0 hb; clear hb hs_x1; have h1 := hd.few.1; refine (isSch_yes g b off n c _ hd.va h1).mono ?_; rintro e wz ⟨rfl, hw⟩; rw [hw]; clear hw wz h1; have c_V3 := V3.d0; have f0_V3 := V3.frozen 0; have d_V3 := V3.d1; have f1_V3 := V3.frozen 1; have e_V3 := V3.d2; have f2_V3 := V3.frozen 2; have l_V3 := V3.lt; have m_V3 := Nat.le_of_lt l_V3; (go_wp2_with fail); refine (sign_rc r v _ hr).mono ?_; rintro e x2 ⟨rfl, hb⟩; replace V3 := V3.a hb; replace V4 := V4.a hb; replace hd := Sd.after hb hd; replace hr := Rv.after hb hr; replace B0 := step B0 hb; clear hb; rw [hsv]
  by_cases g1 : sv < 0
  ·
    have e1 : decide (sv < 0) = true := decide_eq_true g1; clear c_V3 f0_V3 d_V3 f1_V3 e_V3 f2_V3 l_V3 m_V3; have c_V4 := V4.d0; have f0_V4 := V4.frozen 0; have d_V4 := V4.d1; have f1_V4 := V4.frozen 1; have e_V4 := V4.d2; have f2_V4 := V4.frozen 2; have l_V4 := V4.lt; have m_V4 := Nat.le_of_lt l_V4; (go_wp2_with fail); clear c_V4 f0_V4 d_V4 f1_V4 e_V4 f2_V4 l_V4 m_V4; refine bodyPost_ret (results_rt rfl rfl (V4.set3 _ _ _)) rfl ?_; exact ⟨Rc.nil, 2, rfl, .inl ⟨rfl, HSV.out.1 g1, Rv.nil _⟩, belo3 B0 (by omega) _ _ _⟩
  ·
    have e1 : decide (sv < 0) = false := decide_eq_false g1; (have HV0 : Hid (0 ≤ v) := by show 0 ≤ v; have := HSV.out; grind); clear c_V3 f0_V3 d_V3 f1_V3 e_V3 f2_V3 l_V3 m_V3; have c_V3 := V3.d0; have f0_V3 := V3.frozen 0; have d_V3 := V3.d1; have f1_V3 := V3.frozen 1; have e_V3 := V3.d2; have f2_V3 := V3.frozen 2; have l_V3 := V3.lt; have m_V3 := Nat.le_of_lt l_V3; (go_wp2_with fail); refine (long_rc r v _ hr).mono ?_; rintro e x3 ⟨nl, rfl, hnl, hb⟩; replace V3 := V3.a hb; replace V4 := V4.a hb; replace hd := Sd.after hb hd; replace hr := Rv.after hb hr; replace B0 := step B0 hb; clear hb; have HNL : Hid (nl ≤ 512 ↔ Sz 512 v) := hnl 512; clear hnl
    by_cases g2 : 512 < nl
    ·
      have e2 : decide (512 < nl) = true := decide_eq_true g2; clear c_V3 f0_V3 d_V3 f1_V3 e_V3 f2_V3 l_V3 m_V3; have c_V4 := V4.d0; have f0_V4 := V4.frozen 0; have d_V4 := V4.d1; have f1_V4 := V4.frozen 1; have e_V4 := V4.d2; have f2_V4 := V4.frozen 2; have l_V4 := V4.lt; have m_V4 := Nat.le_of_lt l_V4; (go_wp2_with fail); clear c_V4 f0_V4 d_V4 f1_V4 e_V4 f2_V4 l_V4 m_V4; refine bodyPost_ret (results_rt rfl rfl (V4.set3 _ _ _)) rfl ?_; exact ⟨Rc.nil, 3, rfl, .inr (.inl ⟨rfl, HV0.out, fun h => absurd (HNL.out.2 h) (by omega), Rv.nil _⟩), belo3 B0 (by omega) _ _ _⟩
    ·
      have e2 : decide (512 < nl) = false := decide_eq_false g2; have HZ : Hid (Sz 512 v) := HNL.out.1 (by omega); have bx : Bx x3 x3 := Below.refl _ _; have HDX : Hid (Sd x3 g b off n c xs l) := hd; have HRX : Hid (Rv x3 r v) := hr; have HV3 : Hid (Va x3 (w.heap.size) 36 #[.bool r.s, .slice r.a r.l r.c, .slice r.b r.m r.d]) := V3; have HV4 : Hid (Va x3 (w.heap.size + 1) 36 #[.bool false, .slice none 0 0, .slice none 0 0]) := V4; have HBX : Hid (Below w.heap.size w x3) := B0; clear c_V3 f0_V3 d_V3 f1_V3 e_V3 f2_V3 l_V3 m_V3; have c_V3 := V3.d0; have f0_V3 := V3.frozen 0; have d_V3 := V3.d1; have f1_V3 := V3.frozen 1; have e_V3 := V3.d2; have f2_V3 := V3.frozen 2; have l_V3 := V3.lt; have m_V3 := Nat.le_of_lt l_V3; (go_wp2_with fail); refine ent1 x3 _ _ (Q := fun W => Calls Tryz.prog _ _ W _) ?_; intro x4 hb hs_x4 V6; replace V3 := V3.a hb; replace V4 := V4.a hb; replace hd := Sd.after hb hd; replace hr := Rv.after hb hr; replace bx := Bx.after hb bx
      replace B0 := step B0 hb; clear hb hs_x4; clear c_V3 f0_V3 d_V3 f1_V3 e_V3 f2_V3 l_V3 m_V3; refine (begun8_any g b off n c xs l r v _ hd hr).mono ?_; rintro e x5 ⟨k, rfl, hk, hb⟩; replace V3 := V3.a hb; replace V4 := V4.a hb; replace V6 := V6.a hb; replace hd := Sd.after hb hd; replace hr := Rv.after hb hr; replace bx := Bx.after hb bx; replace B0 := step B0 hb; clear hb; have HK : Hid (Bg l v k) := hk.out; (obtain ⟨j, rfl⟩ : ∃ j, k = j + 1 := ⟨k - 1, by have := hk.out.pos hd.ok HV0.out; omega⟩); clear hk; have hln := hd.ln; (have hkn : j < n := by have := HK.out.le; omega); have h8 := hd.few.2; have hlc := hd.lc; have c0 := hd.va.cell; (have e3 : ((j + 1 : Nat) : Int) - 1 = (j : Int) := by omega); (go_wp2_with fail); have HV6 : Hid (Va x5 x3.heap.size 36 #[.bool false, .slice none 0 0, .slice none 0 0]) := V6; have HX5 : Hid (Below x3.heap.size x3 x5) := bx; have LX := HBX.out.size; clear V3 V4 V6 hd hr bx B0 c0 e3
      go_loopw [38] (fun i wr => ∃ (m : Nat) (q : Rc), m ≤ j ∧ i = .int .i64 m ∧ Hid (Va wr x3.heap.size 36 #[.bool q.s, .slice q.a q.l q.c, .slice q.b q.m q.d]) ∧ Hid (Rv wr q (ful l m)) ∧ Hid (Below x3.heap.size x3 wr)) (fun i _ => j - (intOf i).toNat)
      case atStart => exact ⟨0, Rc.nil, Nat.zero_le _, rfl, HV6.out, Rv.nil _, HX5.out⟩
      case round =>
        clear HV6 HX5; obtain ⟨m, q, hm, rfl, HVS, HVQ, HW⟩ := hrel
        by_cases hlt : m < j
        ·
          have B0 := HW.out; have VS := HVS.out; have hq := HVQ.out; have hd := HDX.out.after B0; have lts := HDX.out.lts; have lws := VS.lt; have hc : At6 wr b (off + m * 6) (xs.getD m (Rc.nil, Rc.nil)) := hd.le.six rfl rfl m (by omega); (obtain ⟨m1, hm1⟩ : ∃ m1, m + 1 = m1 := ⟨_, rfl⟩); (have hm2 : m1 < n := by omega); have hc2 : At6 wr b (off + m1 * 6) (xs.getD m1 (Rc.nil, Rc.nil)) := hd.le.six rfl rfl m1 hm2; have hS := hd.ss.2 m (by omega); (obtain ⟨z1, hz1⟩ : ∃ z, aq l m1 = z := ⟨_, rfl⟩); have hS2 := (hd.ss.2 m1 (by omega)).1; rw [hz1] at hS2; (have HZ1 : Hid (aq l (m + 1) = z1) := by show _ = _; rw [hm1]; exact hz1); (have e6 : (m : Int) + 1 = (m1 : Int) := by omega); clear hm1 hz1
          generalize xs.getD m (Rc.nil, Rc.nil) = p at hc hS
          generalize xs.getD m1 (Rc.nil, Rc.nil) = p2 at hc2 hS2
          obtain ⟨hp1, hp2⟩ := hS; have HT := HDX.out.sh; have HP := HT.part (i := m) (by omega); (have HS1 : Hid (Short (z1 - aq l m)) := by rw [HZ1.out] at HP; exact HP.1.short (by omega)); (have HS2 : Hid (Short (rq l m * (z1 - aq l m))) := by rw [HZ1.out] at HP; exact HP.2.short (by omega)); (have HS3 : Hid (Short (ful l m + rq l m * (z1 - aq l m))) := by rw [HZ1.out] at HP; exact ((HT.ful m (by omega)).add HP.2).short (by omega)); (have HFN : Hid (ful l m + rq l m * (z1 - aq l m) = ful l (m + 1)) := by show _ = _; rw [← HZ1.out]; rfl); clear HT HP; obtain ⟨c0, c1, c2, c3, c4, c5⟩ := hc; have lb0 := cell_lt c0; (go_wp2_with fail); refine ent1 wr _ _ (Q := fun W => Code.wp Tryz.prog _ _ _ W) ?_; intro x21 hb hs_x21 V10; replace VS := VS.a hb; replace hd := Sd.after hb hd; replace hq := Rv.after hb hq; replace hc2 := At6.after hb hc2; replace hp1 := Rv.after hb hp1; replace hp2 := Rv.after hb hp2; replace hS2 := Rv.after hb hS2
          replace B0 := step B0 hb; clear hb hs_x21; clear c0 c1 c2 c3 c4 c5 lb0; refine wp_region_noPanic ?_; replace VS : Va x21.drew _ _ _ := VS; replace V10 : Va x21.drew _ _ _ := V10; replace hd := hd.drw; replace hq := hq.drw; replace hc2 := hc2.drw; replace hp1 := hp1.drw; replace hp2 := hp2.drw; replace hS2 := hS2.drw; replace B0 := Below.drew B0; refine wp_region_held_drew (S := (fun W => W.cell? ⟨wr.heap.size, 0, none⟩ = some (.bool p.1.s) ∧ W.cell? ⟨wr.heap.size, 1, none⟩ = some (.slice p.1.a p.1.l p.1.c) ∧ W.cell? ⟨wr.heap.size, 2, none⟩ = some (.slice p.1.b p.1.m p.1.d) ∧ W.cell? ⟨wr.heap.size, 3, none⟩ = some (.bool p.2.s) ∧ W.cell? ⟨wr.heap.size, 4, none⟩ = some (.slice p.2.a p.2.l p.2.c) ∧ W.cell? ⟨wr.heap.size, 5, none⟩ = some (.slice p.2.b p.2.m p.2.d) ∧ W.cell? ⟨g, 0, none⟩ = some (.slice (some ⟨b, off, none⟩) n c) ∧ W.cell? ⟨b, off + m1 * 6, none⟩ = some (.bool p2.1.s) ∧ W.cell? ⟨b, off + m1 * 6 + 1, none⟩ = some (.slice p2.1.a p2.1.l p2.1.c) ∧ W.cell? ⟨b, off + m1 * 6 + 2, none⟩ = some (.slice p2.1.b p2.1.m p2.1.d))) (by kernel_rfl) ⟨V10.e0, V10.e1, V10.e2, V10.e3, V10.e4, V10.e5, hd.va.cell, hc2.c0, hc2.c1, hc2.c2⟩ (fun hHeld => ?_)
          (obtain ⟨x22, hxd⟩ : ∃ xd, xd = x21.drew := ⟨_, rfl⟩); rw [← hxd] at VS V10 hd hq hc2 hp1 hp2 hS2 B0 hHeld ⊢; clear hxd; refine tjz 0 hHeld ?_; refine tjz 1 hHeld ?_; refine tjz 2 hHeld ?_; refine tjz 3 hHeld ?_; refine tjz 4 hHeld ?_; refine tjz 5 hHeld ?_; refine tjz 6 hHeld ?_; refine tjz 7 hHeld ?_; refine tjz 8 hHeld ?_; refine tjz 9 hHeld ?_; refine wpAnyH_take (i := 10) (v := .int .i64 (m1 : Int)) rfl (by kernel_rfl) (by kernel_rfl) (by kernel_rfl) (fun _ _ _ h => h) (Or.inl ⟨by rfl, ?_⟩) hHeld ?_
          · (intro W hSw; (try dsimp only at hSw); go_simp; (simp only [IntKind.wrap_i64]; omega))
          simp only [gA, gB, gC, Act.put, gD, gE, gF]; refine tjz 11 hHeld ?_; refine tjz 12 hHeld ?_; refine tjz 13 hHeld ?_; refine ryz 14 (fun K hK => ?_); simp only [gA, gB, gC]; (go_simp); refine (levy_any x3.heap.size q p.2 p.1 p2.1 (ful l m) (rq l m) (aq l m) z1 _ VS hq hp2 hp1 hS2 HS1.out HS2.out HS3.out).mono ?_; rintro e y ⟨⟨u, rfl⟩, q', VS', hq', hfar, hbl⟩; have hy := B0.size; have hh : y.heap[b]? = _ := hfar b (by omega) (by omega); replace hc2 := hc2.hop hh; replace V10 := V10.hop (hfar _ V10.lt (by omega)); replace hd : Sd y g b off n c xs l := HDX.out.after (B0.trans hbl); (try go_wp2_with fail); refine hK.out _ _ ⟨V10.e0, V10.e1, V10.e2, V10.e3, V10.e4, V10.e5, hd.va.cell, hc2.c0, hc2.c1, hc2.c2⟩ (fun hHeld => ?_)
          clear hK K; refine dnz ?_; clear hHeld; have HVS' : Hid (Va y x3.heap.size 36 #[.bool q'.s, .slice q'.a q'.l q'.c, .slice q'.b q'.m q'.d]) := VS'; clear V10 VS' VS hc2; (go_wp2_with fail)
          go_roundw
          case measure => simp [intOf]; omega
          case rel => exact ⟨m + 1, q', by omega, by go_num, HVS'.out, by rw [← HFN.out]; exact hq', B0.trans hbl⟩
        ·
          (obtain rfl : m = j := by omega); have B0 := HW.out; have VS := HVS.out; have hq := HVQ.out; have hd := HDX.out.after B0; have lts := HDX.out.lts; have lws := VS.lt; have l3 := HV3.out.lt; have l4 := HV4.out.lt; have V3 := Va.after B0 HV3.out; have V4 := Va.after B0 HV4.out; have hr := HRX.out.after B0; have hc : At6 wr b (off + m * 6) (xs.getD m (Rc.nil, Rc.nil)) := hd.le.six rfl rfl m (by omega); have hS := hd.ss.2 m (by omega)
          generalize xs.getD m (Rc.nil, Rc.nil) = p at hc hS
          obtain ⟨hp1, hp2⟩ := hS; have HT := HDX.out.sh; (have HSZ : Hid (∀ i, Sz i v → Sz (i + 86) (atk l (m + 1) v)) := fun i hi => (HT.last (k := m + 1) (by omega) (by omega) (by omega) hi).2.2); have hT := HT.last (k := m + 1) (by omega) (by omega) (by omega) HZ.out; have HS1 : Hid (Short (v - aq l m)) := hT.1.short (by omega); have HS2 : Hid (Short (rq l m * (v - aq l m))) := hT.2.1.short (by omega); have HS3 : Hid (Short (ful l m + rq l m * (v - aq l m))) := hT.2.2.short (by omega); clear HT hT; (go_wp2_with fail); refine wp_region_noPanic ?_; replace VS : Va wr.drew _ _ _ := VS; replace V3 : Va wr.drew _ _ _ := V3; replace V4 : Va wr.drew _ _ _ := V4; replace hd := hd.drw; replace hq := hq.drw; replace hr := hr.drw; replace hc := hc.drw; replace hp1 := hp1.drw; replace hp2 := hp2.drw; replace B0 := Below.drew B0; refine wp_region_held_drew (S := (fun W => W.cell? ⟨w.heap.size, 0, none⟩ = some (.bool r.s) ∧ W.cell? ⟨w.heap.size, 1, none⟩ = some (.slice r.a r.l r.c) ∧ W.cell? ⟨w.heap.size, 2, none⟩ = some (.slice r.b r.m r.d) ∧ W.cell? ⟨g, 0, none⟩ = some (.slice (some ⟨b, off, none⟩) n c) ∧ W.cell? ⟨b, off + m * 6, none⟩ = some (.bool p.1.s) ∧ W.cell? ⟨b, off + m * 6 + 1, none⟩ = some (.slice p.1.a p.1.l p.1.c) ∧ W.cell? ⟨b, off + m * 6 + 2, none⟩ = some (.slice p.1.b p.1.m p.1.d) ∧ W.cell? ⟨b, off + m * 6 + 3, none⟩ = some (.bool p.2.s) ∧ W.cell? ⟨b, off + m * 6 + 4, none⟩ = some (.slice p.2.a p.2.l p.2.c) ∧ W.cell? ⟨b, off + m * 6 + 5, none⟩ = some (.slice p.2.b p.2.m p.2.d))) (by kernel_rfl) ⟨V3.d0, V3.d1, V3.d2, hd.va.cell, hc.c0, hc.c1, hc.c2, hc.c3, hc.c4, hc.c5⟩ (fun hHeld => ?_)
          (obtain ⟨x21, hxd⟩ : ∃ xd, xd = wr.drew := ⟨_, rfl⟩); rw [← hxd] at VS V3 V4 hd hq hr hc hp1 hp2 B0 hHeld ⊢; clear hxd; refine tjz 0 hHeld ?_; refine tjz 1 hHeld ?_; refine tjz 2 hHeld ?_; refine tjz 3 hHeld ?_; refine tjz 4 hHeld ?_; refine tjz 5 hHeld ?_; refine tjz 6 hHeld ?_; refine tjz 7 hHeld ?_; refine tjz 8 hHeld ?_; refine tjz 9 hHeld ?_; refine tjz 10 hHeld ?_; refine tjz 11 hHeld ?_
          refine tjz 12 hHeld ?_; refine tjz 13 hHeld ?_; refine tjz 14 hHeld ?_; refine tjz 15 hHeld ?_; refine tjz 16 hHeld ?_; refine tjz 17 hHeld ?_; refine ryz 18 (fun K hK => ?_); simp only [gA, gB, gC]; (go_simp); refine (levy_any x3.heap.size q p.2 p.1 r (ful l m) (rq l m) (aq l m) v _ VS hq hp2 hp1 hr HS1.out HS2.out HS3.out).mono ?_; rintro e y ⟨⟨u, rfl⟩, q', VS', hq', hfar, hbl⟩; have hy := B0.size; have hh : y.heap[b]? = _ := hfar b (by omega) (by omega); replace hc := hc.hop hh; replace V3 := V3.hop (hfar _ V3.lt (by omega)); replace V4 := V4.hop (hfar _ V4.lt (by omega))
          replace hd : Sd y g b off n c xs l := HDX.out.after (B0.trans hbl); (try go_wp2_with fail); refine hK.out _ _ ⟨V3.d0, V3.d1, V3.d2, hd.va.cell, hc.c0, hc.c1, hc.c2, hc.c3, hc.c4, hc.c5⟩ (fun hHeld => ?_); clear hK K; refine dnz ?_; clear hHeld hc VS; have VS := VS'; clear VS'; have HBY : Hid (Below w.heap.size w y) := HBX.out.trans ((B0.trans hbl).mono LX); have c_VS := VS.d0; have f0_VS := VS.frozen 0; have d_VS := VS.d1; have f1_VS := VS.frozen 1; have e_VS := VS.d2; have f2_VS := VS.frozen 2; have l_VS := VS.lt; have m_VS := Nat.le_of_lt l_VS; have c_V4 := V4.d0; have f0_V4 := V4.frozen 0; have d_V4 := V4.d1; have f1_V4 := V4.frozen 1; have e_V4 := V4.d2; have f2_V4 := V4.frozen 2; have l_V4 := V4.lt; have m_V4 := Nat.le_of_lt l_V4; (go_wp2_with fail); clear c_VS f0_VS d_VS f1_VS e_VS f2_VS l_VS m_VS c_V4 f0_V4 d_V4 f1_V4 e_V4 f2_V4 l_V4 m_V4; refine bodyPost_ret (results_rt rfl rfl (V4.set3 _ _ _)) rfl ?_
          exact ⟨q', 0, rfl, .inr (.inr ⟨rfl, HV0.out, HZ.out, atk l (m + 1) v, ⟨m + 1, HK.out, by omega, rfl⟩, HSZ.out, hq'.far V4 (noInt3 _ _ _ _ _ _ _) (fa3 _ _ _ _ _)⟩), belo3 HBY.out (by omega) _ _ _⟩
end Go.Proofs.YtngichjgfppnpaaGreatDoor
namespace Go.Proofs.YtngichjgfppnpaaGreatDoor
open Go.RowKit Go.Shelf
set_option linter.unusedVariables false
set_option maxRecDepth 20000

theorem cell_hop9 {w w' : World} {b i : Nat} {v : Value} (h : w.cell? ⟨b, i, none⟩ = some v) (k : w'.heap[b]? = w.heap[b]?) : w'.cell? ⟨b, i, none⟩ = some v := by
  simp only [World.cell?] at h ⊢
  rw [k]; exact h
theorem Sl.hop {w w' : World} {a : Option Addr} {l : Nat} {zs : List Int} (h : Sl w a l zs) (k : ∀ b off, a = some ⟨b, off, none⟩ → w'.heap[b]? = w.heap[b]?) : Sl w' a l zs :=
  ⟨h.1, h.2.1, fun h0 => by
    obtain ⟨b, off, e, hc⟩ := h.2.2 h0
    exact ⟨b, off, e, fun i hi => cell_hop9 (hc i hi) (k b off e)⟩⟩
theorem Ge.kindP {w : World} {B g : Nat} {v : Value} {xs : List Pc} (h : Ge elP w B v xs) (hg : v.ownBlock = some g) : ∃ cur, w.heap[g]? = some (.cells cur 75 (0, 0)) := by
  obtain ⟨h1, h2 | ⟨g', cap, cur, e, hB, hh, r⟩⟩ := h
  · rw [h2.1] at hg; cases hg
  · rw [e] at hg
    cases hg
    exact ⟨cur, hh⟩
def Rt9p (w : World) (ps : List Pc) (k : Nat) : Prop := ∀ i, i < k → (Rd2 w (ps.getD i pz).1 ∧ Rd2 w (ps.getD i pz).2) ∧ (Tr w (ps.getD i pz).1 ∧ Tr w (ps.getD i pz).2)
theorem Rt9p.after {w w' : World} (hb : Below w.heap.size w w') {ps : List Pc} {k : Nat} (h : Rt9p w ps k) : Rt9p w' ps k := fun i hi => ⟨⟨(h i hi).1.1.after hb, (h i hi).1.2.after hb⟩, (h i hi).2.1.after hb, (h i hi).2.2.after hb⟩
theorem tq_same {w w' : World} {B : Nat} {v : Value} {xs : List Pc} (hG : Ge elP w B v xs) (hg : w.grownBy w' v.ownBlock) {a : Option Addr} (h : Tq w a) {b off : Nat} {s : Option Nat} (e : a = some ⟨b, off, s⟩) : w'.heap[b]? = w.heap[b]? := by
  obtain ⟨cur, hc⟩ := h b off s e
  refine hg.block b (Array.getElem?_eq_some_iff.1 hc).1 (fun e2 => ?_)
  obtain ⟨cur2, hc2⟩ := hG.kindP e2.symm
  rw [hc] at hc2
  cases hc2
theorem tq_grown {w w' : World} {B : Nat} {v : Value} {xs : List Pc} (hG : Ge elP w B v xs) (hg : w.grownBy w' v.ownBlock) {a : Option Addr} (h : Tq w a) : Tq w' a := fun b off s e => by
  obtain ⟨cur, hc⟩ := h b off s e
  exact ⟨cur, by rw [tq_same hG hg h e]; exact hc⟩
theorem rd_grown {w w' : World} {B : Nat} {v : Value} {xs : List Pc} (hG : Ge elP w B v xs) (hg : w.grownBy w' v.ownBlock) {r : Rc} (h : Rd2 w r) (t : Tr w r) : Rd2 w' r :=
  ⟨h.1.hop (fun b off e => tq_same hG hg t.1 e), h.2.1.hop (fun b off e => tq_same hG hg t.2 e), h.2.2⟩
theorem Rt9p.grown {w w' : World} {B : Nat} {v : Value} {xs : List Pc} (hG : Ge elP w B v xs) (hg : w.grownBy w' v.ownBlock) {ps : List Pc} {k : Nat} (h : Rt9p w ps k) : Rt9p w' ps k := fun i hi => by
  obtain ⟨⟨a, b⟩, c, d⟩ := h i hi
  exact ⟨⟨rd_grown hG hg a c, rd_grown hG hg b d⟩, ⟨tq_grown hG hg c.1, tq_grown hG hg c.2⟩, tq_grown hG hg d.1, tq_grown hG hg d.2⟩
theorem Rt9p.snoc {w : World} {ps : List Pc} {q : Pc} (h : Rt9p w ps ps.length) (h1 : Rd2 w q.1) (h2 : Rd2 w q.2) (t1 : Tr w q.1) (t2 : Tr w q.2) : Rt9p w (ps ++ [q]) (ps.length + 1) := by
  intro i hi
  by_cases e : i = ps.length
  · have : (ps ++ [q]).getD i pz = q := by rw [e, List.getD_eq_getElem?_getD, List.getElem?_append_right (Nat.le_refl _)]; simp
    rw [this]; exact ⟨⟨h1, h2⟩, t1, t2⟩
  · have : (ps ++ [q]).getD i pz = ps.getD i pz := by rw [List.getD_eq_getElem?_getD, List.getElem?_append_left (by omega), ← List.getD_eq_getElem?_getD]
    rw [this]; exact h i (by omega)
def Smp (ps qs : List Pc) (k : Nat) : Prop := ∀ i, i < k → Sm (ps.getD i pz).1 (qs.getD i pz).1 ∧ Sm (ps.getD i pz).2 (qs.getD i pz).2
theorem Smp.snoc {ps qs : List Pc} {q : Pc} (h : Smp ps qs qs.length) (h1 : Sm (ps.getD qs.length pz).1 q.1) (h2 : Sm (ps.getD qs.length pz).2 q.2) : Smp ps (qs ++ [q]) (qs.length + 1) := by
  intro i hi
  by_cases e : i = qs.length
  · have : (qs ++ [q]).getD i pz = q := by rw [e, List.getD_eq_getElem?_getD, List.getElem?_append_right (Nat.le_refl _)]; simp
    rw [this, e]; exact ⟨h1, h2⟩
  · have : (qs ++ [q]).getD i pz = qs.getD i pz := by rw [List.getD_eq_getElem?_getD, List.getElem?_append_left (by omega), ← List.getD_eq_getElem?_getD]
    rw [this]; exact h i (by omega)
theorem Smp.lg {ps qs : List Pc} {n i : Nat} (h : Smp ps qs n) (hi : i < n) : Lg (ps.getD i pz) ↔ Lg (qs.getD i pz) := by
  obtain ⟨⟨-, h2, -, h4, -⟩, -, g2, -, g4, -⟩ := h i hi
  unfold Lg
  rw [h2, h4, g2, g4]
end Go.Proofs.YtngichjgfppnpaaGreatDoor
namespace Go.Proofs.YtngichjgfppnpaaGreatDoor
open Go.RowKit Go.Shelf
set_option linter.unusedVariables false

def RrP (w : World) (X : Rat) (e : Ending) (w' : World) : Prop := ∃ s' a' l' c' zs' b' m' d' ys', e = .returned (.agg #[.bool s', .slice a' l' c', .slice b' m' d']) ∧ Rr w' s' a' l' c' zs' b' m' d' ys' X ∧ Below w.heap.size w w'
theorem Rr.len {w : World} {s : Bool} {a : Option Addr} {l c : Nat} {zs : List Int} {b : Option Addr} {m d : Nat} {ys : List Int} {v : Rat} (h : Rr w s a l c zs b m d ys v) (hs : Short v) : l ≤ 1024 ∧ m ≤ 1024 := by
  have := h.long.2 hs
  omega
end Go.Proofs.YtngichjgfppnpaaGreatDoor
namespace Go.Proofs.YtngichjgfppnpaaGreatDoor
open Go.RowKit Go.Shelf
set_option linter.unusedVariables false

end Go.Proofs.YtngichjgfppnpaaGreatDoor
namespace Go.Proofs.YtngichjgfppnpaaGreatDoor
open Go.RowKit Go.Shelf
set_option linter.unusedVariables false

theorem cmp3_mul9 {x y k : Int} (h : 0 < k) : cmp3 (x * k) (y * k) = cmp3 x y := by
  rcases Int.lt_trichotomy x y with g | g | g
  · rw [cmp3_lt g, cmp3_lt (Int.mul_lt_mul_of_pos_right g h)]
  · rw [g, cmp3_eq rfl, cmp3_eq rfl]
  · rw [cmp3_gt g, cmp3_gt (Int.mul_lt_mul_of_pos_right g h)]
theorem mk_num9 {a : Int} {D : Nat} (hD : 0 < D) : (mkRat a D).num * D = a * (mkRat a D).den := by
  have h : mkRat a D = mkRat (mkRat a D).num (mkRat a D).den := (Rat.mkRat_self _).symm
  exact ((Rat.mkRat_eq_iff (Nat.ne_of_gt hD) (mkRat a D).den_nz).1 h).symm
theorem qcmp_mk9 {a b : Int} {D E : Nat} (hD : 0 < D) (hE : 0 < E) : qcmp (mkRat a D) (mkRat b E) = cmp3 (a * E) (b * D) := by
  have h1 := @mk_num9 a D hD
  have h2 := @mk_num9 b E hE
  have p1 := (mkRat a D).den_pos
  have p2 := (mkRat b E).den_pos
  unfold qcmp
  generalize (mkRat a D).num = n1 at *
  generalize (mkRat b E).num = n2 at *
  generalize (mkRat a D).den = d1 at *
  generalize (mkRat b E).den = d2 at *
  have c1 : n1 * (d2 : Int) * ((D : Int) * (E : Int)) = a * (E : Int) * ((d1 : Int) * (d2 : Int)) := by
    rw [show n1 * (d2 : Int) * ((D : Int) * (E : Int)) = (n1 * (D : Int)) * ((d2 : Int) * (E : Int)) by grind, h1]; grind
  have c2 : n2 * (d1 : Int) * ((D : Int) * (E : Int)) = b * (D : Int) * ((d1 : Int) * (d2 : Int)) := by
    rw [show n2 * (d1 : Int) * ((D : Int) * (E : Int)) = (n2 * (E : Int)) * ((d1 : Int) * (D : Int)) by grind, h2]; grind
  rw [← cmp3_mul9 (show (0 : Int) < (D : Int) * (E : Int) from Int.mul_pos (by omega) (by omega)), c1, c2, cmp3_mul9 (Int.mul_pos (by omega) (by omega))]
theorem ten_mk9 (U : Int) (P : Nat) : Rat.divInt U (10 ^ P) = mkRat U (10 ^ P) := by
  rw [show ((10 : Int) ^ P) = ((10 ^ P : Nat) : Int) by simp, Rat.divInt_ofNat]
def side9 (x : Int) : Int := if x < 0 then -1 else if 0 < x then 1 else 0
def dcw (U : Int) (P : Nat) (V : Int) (Q : Nat) : Int :=
  if side9 U = side9 V then (if U < 0 then -cmp3 ((U.natAbs : Int) * 10 ^ Q) ((V.natAbs : Int) * 10 ^ P) else cmp3 ((U.natAbs : Int) * 10 ^ Q) ((V.natAbs : Int) * 10 ^ P))
  else if side9 U < side9 V then -1 else 1
theorem qcmp_dcw (U V : Int) (P Q : Nat) : qcmp (Rat.divInt U (10 ^ P)) (Rat.divInt V (10 ^ Q)) = dcw U P V Q := by
  have tp : 0 < 10 ^ P := Nat.pow_pos (by decide)
  have tq : 0 < 10 ^ Q := Nat.pow_pos (by decide)
  rw [ten_mk9, ten_mk9, qcmp_mk9 tp tq]
  have ep : ((10 ^ P : Nat) : Int) = 10 ^ P := by simp
  have eq : ((10 ^ Q : Nat) : Int) = 10 ^ Q := by simp
  have ip : (0 : Int) < 10 ^ P := by rw [← ep]; omega
  have iq : (0 : Int) < 10 ^ Q := by rw [← eq]; omega
  rw [ep, eq]
  unfold dcw
  generalize (10 : Int) ^ P = A at *
  generalize (10 : Int) ^ Q = B at *
  clear ep eq tp tq
  rcases Int.lt_trichotomy U 0 with u | u | u <;> rcases Int.lt_trichotomy V 0 with v | v | v
  · have sU : side9 U = -1 := if_pos u
    have sV : side9 V = -1 := if_pos v
    have xU := Int.mul_neg_of_neg_of_pos u iq
    have xV := Int.mul_neg_of_neg_of_pos v ip
    rw [sU, sV]
    rw [if_pos rfl, if_pos u, Int.ofNat_natAbs_of_nonpos (by omega), Int.ofNat_natAbs_of_nonpos (by omega), ← cmp3_turn, Int.neg_mul, Int.neg_mul]
    rcases Int.lt_trichotomy (U * B) (V * A) with x | x | x
    · rw [cmp3_lt x, cmp3_lt (by omega)]
    · rw [cmp3_eq x, cmp3_eq (by omega)]
    · rw [cmp3_gt x, cmp3_gt (by omega)]
  · have sU : side9 U = -1 := if_pos u
    have sV : side9 V = 0 := by subst v; rfl
    have xU := Int.mul_neg_of_neg_of_pos u iq
    have xV : V * A = 0 := by rw [v, Int.zero_mul]
    rw [sU, sV]
    rw [if_neg (by decide), if_pos (by decide), cmp3_lt (by omega)]
  · have sU : side9 U = -1 := if_pos u
    have sV : side9 V = 1 := by unfold side9; rw [if_neg (by omega), if_pos v]
    have xU := Int.mul_neg_of_neg_of_pos u iq
    have xV := Int.mul_pos v ip
    rw [sU, sV]
    rw [if_neg (by decide), if_pos (by decide), cmp3_lt (by omega)]
  · have sU : side9 U = 0 := by subst u; rfl
    have sV : side9 V = -1 := if_pos v
    have xU : U * B = 0 := by rw [u, Int.zero_mul]
    have xV := Int.mul_neg_of_neg_of_pos v ip
    rw [sU, sV]
    rw [if_neg (by decide), if_neg (by decide), cmp3_gt (by omega)]
  · have sU : side9 U = 0 := by subst u; rfl
    have sV : side9 V = 0 := by subst v; rfl
    have xU : U * B = 0 := by rw [u, Int.zero_mul]
    have xV : V * A = 0 := by rw [v, Int.zero_mul]
    rw [sU, sV]
    subst u; subst v
    simp [cmp3]
  · have sU : side9 U = 0 := by subst u; rfl
    have sV : side9 V = 1 := by unfold side9; rw [if_neg (by omega), if_pos v]
    have xU : U * B = 0 := by rw [u, Int.zero_mul]
    have xV := Int.mul_pos v ip
    rw [sU, sV]
    rw [if_neg (by decide), if_pos (by decide), cmp3_lt (by omega)]
  · have sU : side9 U = 1 := by unfold side9; rw [if_neg (by omega), if_pos u]
    have sV : side9 V = -1 := if_pos v
    have xU := Int.mul_pos u iq
    have xV := Int.mul_neg_of_neg_of_pos v ip
    rw [sU, sV]
    rw [if_neg (by decide), if_neg (by decide), cmp3_gt (by omega)]
  · have sU : side9 U = 1 := by unfold side9; rw [if_neg (by omega), if_pos u]
    have sV : side9 V = 0 := by subst v; rfl
    have xU := Int.mul_pos u iq
    have xV : V * A = 0 := by rw [v, Int.zero_mul]
    rw [sU, sV]
    rw [if_neg (by decide), if_neg (by decide), cmp3_gt (by omega)]
  · have sU : side9 U = 1 := by unfold side9; rw [if_neg (by omega), if_pos u]
    have sV : side9 V = 1 := by unfold side9; rw [if_neg (by omega), if_pos v]
    have xU := Int.mul_pos u iq
    have xV := Int.mul_pos v ip
    rw [sU, sV]
    rw [if_pos rfl, if_neg (by omega), Int.natAbs_of_nonneg (by omega), Int.natAbs_of_nonneg (by omega)]
end Go.Proofs.YtngichjgfppnpaaGreatDoor
namespace Go.Proofs.YtngichjgfppnpaaGreatDoor
open Go.ChangeShapes Go.WideShapes Go.ChangeAt Go.RowKit
set_option linter.unusedVariables false

theorem list2p {α : Type} {l : List α} (h : l.length = 2) : ∃ a b, l = [a, b] := by
  match l, h with
  | [a, b], _ => exact ⟨a, b, rfl⟩
instance : Inhabited Rc := ⟨Rc.nil⟩
section
variable {H : Type} {enc : TypeId × Value → H} {W : World}
end
end Go.Proofs.YtngichjgfppnpaaGreatDoor
