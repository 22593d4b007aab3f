import Derived.Test.YtenmkbofpmbedabGreatDoorMgAa
import Derived.Test.YtenmkbofpmbedabGreatDoorMgAn
import Derived.Test.YtenmkbofpmbedabGreatDoorMgAo
import Derived.Test.YtenmkbofpmbedabGreatDoorMgAl
namespace Go.Proofs.YtenmkbofpmbedabGreatDoor
open Go.RowKit Go.Shelf
set_option linter.unusedVariables false
set_option maxRecDepth 20000

def lA : List Pq := [(0, 1 / 10), (100, 1 / 5), (1001 / 2, 0)]
theorem pq_ext : ∀ {l m : List Pq}, l.length = m.length → (∀ i, i < l.length → aq l i = aq m i ∧ rq l i = rq m i) → l = m
  | [], [], _, _ => rfl
  | [], _ :: _, h, _ => by simp at h
  | _ :: _, [], h, _ => by simp at h
  | x :: l, y :: m, h, g => by
    have h0 := g 0 (by simp)
    have e : x = y := Prod.ext h0.1 h0.2
    rw [e, pq_ext (l := l) (m := m) (by simpa using h) (fun i hi => g (i + 1) (by simpa using hi))]
theorem sokA : Sok lA where
  one := by decide
  few := by decide
  nought := rfl
  up := fun i hi => by
    have : i = 0 ∨ i = 1 := by have : lA.length = 3 := rfl; omega
    rcases this with rfl | rfl <;> decide +kernel
  rate := fun i hi => by
    have : i = 0 ∨ i = 1 ∨ i = 2 := by have : lA.length = 3 := rfl; omega
    rcases this with rfl | rfl | rfl <;> decide +kernel
theorem bvA : BVals bsA lA 3 := by
  refine ⟨rfl, fun i hi => ?_⟩
  have : i = 0 ∨ i = 1 ∨ i = 2 := by omega
  rcases this with rfl | rfl | rfl
  · exact ⟨⟨⟨by decide, by decide, fun h => absurd h (by decide)⟩, ⟨by decide, by decide, fun h => absurd h (by decide)⟩⟩, by decide +kernel, by decide +kernel⟩
  · exact ⟨⟨⟨by decide, by decide, fun h => absurd h (by decide)⟩, ⟨by decide, by decide, fun h => absurd h (by decide)⟩⟩, by decide +kernel, by decide +kernel⟩
  · exact ⟨⟨⟨by decide, by decide, fun h => by decide⟩, ⟨by decide, by decide, fun h => absurd h (by decide)⟩⟩, by decide +kernel, by decide +kernel⟩
theorem bv_uniq {bs : List Br} {l m : List Pq} {n : Nat} (h : BVals bs l n) (g : BVals bs m n) : l = m :=
  pq_ext (by rw [h.1, g.1]) (fun i hi => ⟨(h.2 i (by rw [← h.1]; exact hi)).2.1.trans (g.2 i (by rw [← h.1]; exact hi)).2.1.symm, (h.2 i (by rw [← h.1]; exact hi)).2.2.trans (g.2 i (by rw [← h.1]; exact hi)).2.2.symm⟩)
theorem va_uniq {ps : List Pc} {l m : List Pq} {n : Nat} (h : Vals ps l n) (g : Vals ps m n) : l = m :=
  pq_ext (by rw [h.1, g.1]) (fun i hi => h.val g (by rw [← h.1]; exact hi) (by rw [← h.1]; exact hi))
theorem szA : ∀ i, i < 3 → Sz 3 (aq lA i) ∧ Sz 3 (rq lA i) := fun i hi => by
  have : i = 0 ∨ i = 1 ∨ i = 2 := by omega
  rcases this with rfl | rfl | rfl
  · exact ⟨(sz_one (n := 0) (d := 1) _ (by decide +kernel) (by decide +kernel) (by decide) (by decide)).mono (by omega), (sz_one (n := 1) (d := 10) _ (by decide +kernel) (by decide +kernel) (by decide) (by decide)).mono (by omega)⟩
  · exact ⟨(sz_one (n := 100) (d := 1) _ (by decide +kernel) (by decide +kernel) (by decide) (by decide)).mono (by omega), (sz_one (n := 1) (d := 5) _ (by decide +kernel) (by decide +kernel) (by decide) (by decide)).mono (by omega)⟩
  · exact ⟨(sz_one (n := 1001) (d := 2) _ (by decide +kernel) (by decide +kernel) (by decide) (by decide)).mono (by omega), (sz_one (n := 0) (d := 1) _ (by decide +kernel) (by decide +kernel) (by decide) (by decide)).mono (by omega)⟩
theorem bsA_ok : ∀ i, i < 3 → (bsA.getD i bz).ok := fun i hi => by
  have : i = 0 ∨ i = 1 ∨ i = 2 := by omega
  rcases this with rfl | rfl | rfl <;> exact ⟨⟨by decide, by decide⟩, ⟨by decide, by decide⟩, ⟨by decide, by decide⟩, ⟨by decide, by decide⟩⟩
theorem pcA {w : World} {B n' c' : Nat} {a : Option Addr} {er : Int} (h : PcR w B a n' c' er bsA 3 1) : er = 0 ∧ ∃ (g : Nat) (ps : List Pc), a = some ⟨g, 0, none⟩ ∧ n' = 3 ∧ c' = 3 ∧ Bk elP w g ps ∧ ps.length = 3 ∧ Ps w ps lA 3 := by
  rcases h with ⟨-, -, -, h⟩ | ⟨l, -, hl, -, h⟩
  · exact absurd ⟨by omega, lA, bvA, sokA⟩ h
  obtain rfl := bv_uniq hl bvA
  rcases h with ⟨-, -, -, h⟩ | ⟨-, -, -, -, i, hi, h⟩ | ⟨h0, -, -, g, ps, m, h1, h2, h3, h4, h5, h6, h7, h8⟩
  · exact absurd h (by decide +kernel)
  · rw [Rat.mul_one] at h
    exact absurd (szA i hi).1 h
  · have e : m = lA := pq_ext (by rw [h6]; rfl) (fun i hi => by
      have := h7 i (by omega)
      rw [Rat.mul_one] at this
      exact this)
    rw [e] at h8
    exact ⟨h0, g, ps, h1, h2, h3, h4, h5, h8⟩
theorem ps_lg {w : World} {ps : List Pc} {l : List Pq} {n i : Nat} (h : Ps w ps l n) (hi : i < n) (h1 : Sz 3 (aq l i)) (h2 : Sz 3 (rq l i)) : ¬ Lg (ps.getD i pz) := by
  have a : (ps.getD i pz).1.l ≤ 3 ∧ (ps.getD i pz).1.m ≤ 3 := rn_len (h i hi).1 h1
  have b : (ps.getD i pz).2.l ≤ 3 ∧ (ps.getD i pz).2.m ≤ 3 := rn_len (h i hi).2 h2
  unfold Lg
  omega
theorem ps_vals {w : World} {ps : List Pc} {l : List Pq} {n : Nat} (h : Ps w ps l n) (hl : l.length = n) : Vals ps l n := ⟨hl, fun i hi => ⟨rn_nm (h i hi).1, rn_nm (h i hi).2⟩⟩
theorem ps_rp {w : World} {ps : List Pc} {l : List Pq} {n : Nat} (h : Ps w ps l n) : Rp w ps n := fun i hi => ⟨(h i hi).1.rd, (h i hi).2.rd⟩
theorem ofA {w w0 : World} {B : Nat} {q : Option Addr} {ps : List Pc} {er : Int} (hp : Ps w0 ps lA 3) (h : OfS w B q ps 3 er) : er = 0 ∧ ∃ (g b : Nat) (xs : List Pc), q = some ⟨g, 0, none⟩ ∧ Sd w g b 0 3 3 xs lA := by
  have hv := ps_vals hp rfl
  rcases h with ⟨h0, g, b, xs, l, h1, h2, h3, -⟩ | ⟨-, -, h⟩
  · obtain rfl := va_uniq h3 hv
    exact ⟨h0, g, b, xs, h1, h2⟩
  · rcases h with ⟨-, h⟩ | ⟨-, -, i, hi, h⟩ | ⟨-, -, -, h⟩
    · omega
    · exact absurd h (ps_lg hp hi (szA i hi).1 (szA i hi).2)
    · exact absurd ⟨lA, hv, sokA⟩ h
theorem bgA1 : Bg lA 0 1 := ⟨by decide, fun i hi => by obtain rfl : i = 0 := by omega
                                                       decide +kernel, fun _ => by decide +kernel⟩
theorem bgA2 : Bg lA 100 2 := ⟨by decide, fun i hi => by
  have : i = 0 ∨ i = 1 := by omega
  rcases this with rfl | rfl <;> decide +kernel, fun _ => by decide +kernel⟩
theorem bgA3 : Bg lA 150 2 := ⟨by decide, fun i hi => by
  have : i = 0 ∨ i = 1 := by omega
  rcases this with rfl | rfl <;> decide +kernel, fun _ => by decide +kernel⟩
theorem ataA : Ata lA 150 20 := ⟨2, bgA3, by decide, by decide +kernel⟩
theorem atA {w : World} {q : Rc} {er : Int} (h : AtR w q er lA 150) : er = 0 ∧ Rv w q 20 := by
  rcases h with ⟨-, h, -⟩ | ⟨-, -, h, -⟩ | ⟨h0, -, -, a, h1, -, h2⟩
  · exact absurd h (by decide +kernel)
  · exact absurd ((sz_one (n := 150) (d := 1) 150 rfl rfl (by decide) (by decide)).mono (by omega)) h
  · rw [h1.uniq ataA] at h2; exact ⟨h0, h2⟩
theorem ofN {w : World} {B : Nat} {q : Option Addr} {er : Int} (h : OfS w B q [] 0 er) : er = 180 := by
  rcases h with ⟨h0, g, b, xs, l, h1, h2, -⟩ | ⟨-, -, h⟩
  · have := h2.few; omega
  · rcases h with ⟨h, -⟩ | ⟨-, h, -⟩ | ⟨h, -⟩
    · exact h
    · omega
    · exact h
set_option maxHeartbeats 16000000 in
theorem awake18 (w : World) (hT : Tn w) : Calls Tryz.prog 4 #[] w fun e w' => e = .returned (.bool true) ∧ Below w.heap.size w w' := by
 have B0 : Below w.heap.size w w := Below.refl _ _
 go_enter Tryz.func4, Tryz.ntmps4
 (go_wp2_with fail); refine (brackets_rc _).mono ?_; rintro e x1 ⟨gBr, rfl, hL, hb⟩; replace hT := Tn.after hb hT; replace B0 := step B0 hb; clear hb; (go_wp2_with fail); refine (number_rc 1 1 (by omega) (by omega) (by decide +kernel) (sz_one (n := 1) (d := 1) 1 rfl rfl (by decide) (by decide)) _).mono ?_; rintro e x2 ⟨r1, rfl, h1, hb⟩; replace hT := Tn.after hb hT; replace hL := Le.after hb hL; replace B0 := step B0 hb; clear hb; (go_wp2_with fail); refine (pcs_any (some ⟨gBr, 0, none⟩) 3 3 bsA r1 1 _ hL bsA_ok hT h1).mono ?_; rintro e x3 ⟨a1, n1, c1, er1, rfl, hp, hb⟩; replace hT := Tn.after hb hT; replace hL := Le.after hb hL; replace h1 := Rv.after hb h1; replace B0 := step B0 hb; obtain ⟨rfl, g1, ps, rfl, rfl, rfl, hB, hpl, hP⟩ := pcA hp.out; clear hb hp hL h1 hT; (go_wp2_with fail); refine (of8_any (some ⟨g1, 0, none⟩) 3 3 ps _ (by have := hB.le; rwa [hpl] at this) (ps_rp hP)).mono ?_; rintro e x4 ⟨q1, er1, rfl, ho, hb⟩; replace hB := Bk.after hb hB
 replace hP := Ps.after hb hP; replace B0 := step B0 hb; obtain ⟨rfl, g3, b3, xs, rfl, hd⟩ := ofA hP ho.out; clear hb ho hB hP hpl; (go_wp2_with fail); refine (number_rc 150 150 (by omega) (by omega) (by decide +kernel) (sz_one (n := 150) (d := 1) 150 rfl rfl (by decide) (by decide)) _).mono ?_; rintro e x5 ⟨r2, rfl, h2, hb⟩; replace hd := Sd.after hb hd; replace B0 := step B0 hb; clear hb; (go_wp2_with fail); refine (at8_any g3 b3 0 3 3 xs lA r2 150 _ hd h2).mono ?_; rintro e x6 ⟨qx, er1, rfl, ha, hb⟩; replace hd := Sd.after hb hd; replace h2 := Rv.after hb h2; replace B0 := step B0 hb; obtain ⟨rfl, hx⟩ := atA ha.out; clear hb ha h2; (go_wp2_with fail); refine ent1 x6 _ _ (Q := fun W => Calls Tryz.prog _ _ W _) ?_; intro x7 hb hs_x7 V4; replace hd := Sd.after hb hd; replace hx := Rv.after hb hx; replace B0 := step B0 hb; clear hb hs_x7; refine (number_rc 100 100 (by omega) (by omega) (by decide +kernel) (sz_one (n := 100) (d := 1) 100 rfl rfl (by decide) (by decide)) _).mono ?_
 rintro e x8 ⟨r3, rfl, h3, hb⟩; replace V4 := V4.a hb; replace hd := Sd.after hb hd; replace hx := Rv.after hb hx; replace B0 := step B0 hb; clear hb; (go_wp2_with fail); refine (slope8_ok g3 b3 0 3 3 xs lA r3 100 _ hd h3 2 bgA2 (by decide +kernel)).mono ?_; rintro e x9 ⟨qy, rfl, hy, hb⟩; replace V4 := V4.a hb; replace hd := Sd.after hb hd; replace hx := Rv.after hb hx; replace h3 := Rv.after hb h3; replace B0 := step B0 hb; clear hb; clear h3; (go_wp2_with fail); refine ent1 x9 _ _ (Q := fun W => Calls Tryz.prog _ _ W _) ?_; intro x10 hb hs_x10 V5; replace V4 := V4.a hb; replace hd := Sd.after hb hd; replace hx := Rv.after hb hx; replace hy := Rv.after hb hy; replace B0 := step B0 hb; clear hb hs_x10; refine (number_rc 0 0 (by omega) (by omega) (by decide +kernel) (sz_one (n := 0) (d := 1) 0 rfl rfl (by decide) (by decide)) _).mono ?_; rintro e x11 ⟨r4, rfl, h4, hb⟩; replace V4 := V4.a hb; replace V5 := V5.a hb
 replace hd := Sd.after hb hd; replace hx := Rv.after hb hx; replace hy := Rv.after hb hy; replace B0 := step B0 hb; clear hb; (go_wp2_with fail); refine (next8_any g3 b3 0 3 3 xs lA r4 0 _ hd h4 1 bgA1).mono ?_; rintro e x12 ⟨qz, t, rfl, hn, hb⟩; replace V4 := V4.a hb; replace V5 := V5.a hb; replace hd := Sd.after hb hd; replace hx := Rv.after hb hx; replace hy := Rv.after hb hy; replace h4 := Rv.after hb h4; replace B0 := step B0 hb; obtain ⟨rfl, hz⟩ : t = true ∧ Rv x12 qz 100 := Or.elim hn.out (fun h => ⟨h.1, h.2.2⟩) (fun h => by have := h.2.1; omega); clear hb hn h4; clear hd; (go_wp2_with fail); refine ent1 x12 _ _ (Q := fun W => Calls Tryz.prog _ _ W _) ?_; intro x13 hb hs_x13 V7; replace V4 := V4.a hb; replace V5 := V5.a hb; replace hx := Rv.after hb hx; replace hy := Rv.after hb hy; replace hz := Rv.after hb hz; replace B0 := step B0 hb; clear hb hs_x13; refine (of8_any none 0 0 [] _ (Le.nil _ _) (fun i hi => absurd hi (by omega))).mono ?_
 rintro e x14 ⟨q9, er1, rfl, ho, hb⟩; replace V4 := V4.a hb; replace V5 := V5.a hb; replace V7 := V7.a hb; replace hx := Rv.after hb hx; replace hy := Rv.after hb hy; replace hz := Rv.after hb hz; replace B0 := step B0 hb; obtain rfl := ofN ho.out; clear hb ho; (go_wp2_with fail); refine wp_region_noPanic ?_; replace V4 : Va x14.drew _ _ _ := V4; replace V5 : Va x14.drew _ _ _ := V5; replace V7 : Va x14.drew _ _ _ := V7; replace hx := hx.drw; replace hy := hy.drw; replace hz := hz.drw; replace B0 := Below.drew B0; refine wp_region_held_drew (S := (fun W => W.cell? ⟨x6.heap.size, 0, none⟩ = some (.bool qx.s) ∧ W.cell? ⟨x6.heap.size, 1, none⟩ = some (.slice qx.a qx.l qx.c) ∧ W.cell? ⟨x6.heap.size, 2, none⟩ = some (.slice qx.b qx.m qx.d) ∧ W.cell? ⟨x9.heap.size, 0, none⟩ = some (.bool qy.s) ∧ W.cell? ⟨x9.heap.size, 1, none⟩ = some (.slice qy.a qy.l qy.c) ∧ W.cell? ⟨x9.heap.size, 2, none⟩ = some (.slice qy.b qy.m qy.d) ∧ W.cell? ⟨x12.heap.size, 0, none⟩ = some (.bool qz.s) ∧ W.cell? ⟨x12.heap.size, 1, none⟩ = some (.slice qz.a qz.l qz.c) ∧ W.cell? ⟨x12.heap.size, 2, none⟩ = some (.slice qz.b qz.m qz.d))) (by kernel_rfl) ⟨V4.d0, V4.d1, V4.d2, V5.d0, V5.d1, V5.d2, V7.d0, V7.d1, V7.d2⟩ (fun hHeld => ?_)
 (obtain ⟨x15, hxd⟩ : ∃ xd, xd = x14.drew := ⟨_, rfl⟩); rw [← hxd] at V4 V5 V7 hx hy hz B0 hHeld ⊢; clear hxd; refine tjz 0 hHeld ?_; refine tjz 1 hHeld ?_; refine tjz 2 hHeld ?_; refine tjz 3 hHeld ?_; refine tjz 4 hHeld ?_; refine tjz 5 hHeld ?_; refine tjz 6 hHeld ?_; refine tjz 7 hHeld ?_; refine tjz 8 hHeld ?_; refine tjz 9 hHeld ?_; refine tjz 10 hHeld ?_; refine ryz 11 (fun K hK => ?_)
 simp only [gA, gB, gC]; (go_simp); refine (number_rc 20 20 (by omega) (by omega) (by decide +kernel) (sz_one (n := 20) (d := 1) 20 rfl rfl (by decide) (by decide)) _).mono ?_; rintro e x16 ⟨r5, rfl, h5, hb⟩; replace V4 := V4.a hb; replace V5 := V5.a hb; replace V7 := V7.a hb; replace hx := Rv.after hb hx; replace hy := Rv.after hb hy; replace hz := Rv.after hb hz; replace B0 := step B0 hb; clear hb; (try go_wp2_with fail); refine hK.out _ _ ⟨V4.d0, V4.d1, V4.d2, V5.d0, V5.d1, V5.d2, V7.d0, V7.d1, V7.d2⟩ (fun hHeld => ?_); clear hK K; refine ryz 12 (fun K hK => ?_); simp only [gA, gB, gC]; (go_simp); refine (cmp_rc qx r5 20 20 _ hx h5).mono ?_; rintro e x17 ⟨rfl, hb⟩; replace V4 := V4.a hb; replace V5 := V5.a hb; replace V7 := V7.a hb; replace hx := Rv.after hb hx; replace hy := Rv.after hb hy; replace hz := Rv.after hb hz
 replace h5 := Rv.after hb h5; replace B0 := step B0 hb; clear hb; rw [(cmp_eq 20 20).2 rfl]; (try go_wp2_with fail); refine hK.out _ _ ⟨V4.d0, V4.d1, V4.d2, V5.d0, V5.d1, V5.d2, V7.d0, V7.d1, V7.d2⟩ (fun hHeld => ?_); clear hK K; refine tjz 13 hHeld ?_; refine tjz 14 hHeld ?_; refine tjz 15 hHeld ?_; refine tjz 16 hHeld ?_; refine ryz 17 (fun K hK => ?_); simp only [gA, gB, gC]; (go_simp); refine (ratioOf8 1 5 (by decide) (by decide) (by decide) (by decide) (by decide) _).mono ?_; rintro e x18 ⟨s6, a6, l6, c6, z6, b6, m6, d6, y6, rfl, h6, -, hb⟩; replace V4 := V4.a hb; replace V5 := V5.a hb; replace V7 := V7.a hb; replace hx := Rv.after hb hx
 replace hy := Rv.after hb hy; replace hz := Rv.after hb hz; replace h5 := Rv.after hb h5; replace B0 := step B0 hb; clear hb
 have hq6 : Rn x18 ⟨s6, a6, l6, c6, z6, b6, m6, d6, y6⟩ (1 / 5) := by
  (have e : Rat.divInt 1 5 = 1 / 5 := by decide +kernel); rw [e] at h6; exact h6
 clear h6; (try go_wp2_with fail); refine hK.out _ _ ⟨V4.d0, V4.d1, V4.d2, V5.d0, V5.d1, V5.d2, V7.d0, V7.d1, V7.d2⟩ (fun hHeld => ?_); clear hK K; refine ryz 18 (fun K hK => ?_); simp only [gA, gB, gC]; (go_simp); refine (is_rc qy ⟨s6, a6, l6, c6, z6, b6, m6, d6, y6⟩ (1 / 5) _ hy hq6 ((szA 1 (by omega)).2.mono (by omega))).mono ?_; rintro e x19 ⟨rfl, hb⟩; replace V4 := V4.a hb; replace V5 := V5.a hb; replace V7 := V7.a hb; replace hx := Rv.after hb hx; replace hy := Rv.after hb hy; replace hz := Rv.after hb hz; replace h5 := Rv.after hb h5; replace hq6 := Rn.after hb hq6; replace B0 := step B0 hb; clear hb; (try go_wp2_with fail); refine hK.out _ _ ⟨V4.d0, V4.d1, V4.d2, V5.d0, V5.d1, V5.d2, V7.d0, V7.d1, V7.d2⟩ (fun hHeld => ?_); clear hK K; refine tjz 19 hHeld ?_; refine tk 20 rfl hHeld ?_
 simp only [gA, gB, gC, Act.put, gD, gE, gF]; refine tjz 21 hHeld ?_; refine ryz 22 (fun K hK => ?_); simp only [gA, gB, gC]; (go_simp); refine (number_rc 100 100 (by omega) (by omega) (by decide +kernel) (sz_one (n := 100) (d := 1) 100 rfl rfl (by decide) (by decide)) _).mono ?_; rintro e x20 ⟨r7, rfl, h7, hb⟩; replace V4 := V4.a hb; replace V5 := V5.a hb; replace V7 := V7.a hb; replace hx := Rv.after hb hx; replace hy := Rv.after hb hy; replace hz := Rv.after hb hz; replace h5 := Rv.after hb h5; replace hq6 := Rn.after hb hq6; replace B0 := step B0 hb; clear hb; (try go_wp2_with fail); refine hK.out _ _ ⟨V4.d0, V4.d1, V4.d2, V5.d0, V5.d1, V5.d2, V7.d0, V7.d1, V7.d2⟩ (fun hHeld => ?_); clear hK K; refine ryz 23 (fun K hK => ?_)
 simp only [gA, gB, gC]; (go_simp); refine (cmp_rc qz r7 100 100 _ hz h7).mono ?_; rintro e x21 ⟨rfl, hb⟩; replace V4 := V4.a hb; replace V5 := V5.a hb; replace V7 := V7.a hb; replace hx := Rv.after hb hx; replace hy := Rv.after hb hy; replace hz := Rv.after hb hz; replace h5 := Rv.after hb h5; replace hq6 := Rn.after hb hq6; replace h7 := Rv.after hb h7; replace B0 := step B0 hb; clear hb; rw [(cmp_eq 100 100).2 rfl]; (try go_wp2_with fail); refine hK.out _ _ ⟨V4.d0, V4.d1, V4.d2, V5.d0, V5.d1, V5.d2, V7.d0, V7.d1, V7.d2⟩ (fun hHeld => ?_); clear hK K; refine tjz 24 hHeld ?_; refine tjz 25 hHeld ?_; refine tjz 26 hHeld ?_; refine tjz 27 hHeld ?_; refine tjz 28 hHeld ?_; refine tk 29 rfl hHeld ?_
 simp only [gA, gB, gC, Act.put, gD, gE, gF]; refine tjz 30 hHeld ?_; refine dnz ?_; clear hHeld; (go_wp2_with fail)
 go_ret
 exact ⟨rfl, B0⟩
end Go.Proofs.YtenmkbofpmbedabGreatDoor
namespace Go.Proofs.YtenmkbofpmbedabGreatDoor
open Go.RowKit Go.Shelf
set_option linter.unusedVariables false
set_option maxRecDepth 20000

theorem at_ok {w : World} {q : Rc} {er : Int} {l : List Pq} {v a : Rat} {n : Nat} (h : AtR w q er l v) (hz : Sz n v) (hn : n ≤ 512) (h0 : 0 ≤ v) (ha : Ata l v a) : er = 0 ∧ Rv w q a ∧ Sz (n + 86) a := by
  rcases h with ⟨-, h, -⟩ | ⟨-, -, h, -⟩ | ⟨e0, -, -, a', h1, h2, h3⟩
  · exact absurd h (Rat.not_lt.2 h0)
  · exact absurd (hz.mono hn) h
  · have e := h1.uniq ha
    subst e
    exact ⟨e0, h3, h2 n hz⟩
def FwR (w : World) (q : Option Addr) (ra rb : Rc) (t : Bool) : Prop := t = false ∨ (t = true ∧ ∃ (g b n : Nat) (xs : List Pc) (l : List Pq) (va vb : Rat), q = some ⟨g, 0, none⟩ ∧ Sd w g b 0 n n xs l ∧ 0 ≤ va ∧ va ≤ vb ∧ Sz 64 va ∧ Sz 64 vb ∧ Rv w ra va ∧ Rv w rb vb)
theorem FwR.after {w w' : World} (hb : Below w.heap.size w w') {q : Option Addr} {ra rb : Rc} {t : Bool} (h : FwR w q ra rb t) : FwR w' q ra rb t := by
  rcases h with h | ⟨h0, g, b, n, xs, l, va, vb, h1, h2, h3, h4, h5, h6, h7, h8⟩
  · exact .inl h
  · exact .inr ⟨h0, g, b, n, xs, l, va, vb, h1, h2.after hb, h3, h4, h5, h6, h7.after hb, h8.after hb⟩
end Go.Proofs.YtenmkbofpmbedabGreatDoor
