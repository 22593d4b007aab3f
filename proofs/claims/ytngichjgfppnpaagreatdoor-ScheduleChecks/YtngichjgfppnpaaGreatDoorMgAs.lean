import Derived.Test.YtngichjgfppnpaaGreatDoorMgAa
import Derived.Test.YtngichjgfppnpaaGreatDoorMgAq
import Derived.Test.YtngichjgfppnpaaGreatDoorMgAr
import Derived.Test.YtngichjgfppnpaaGreatDoorMgAp
import Derived.Test.YtngichjgfppnpaaGreatDoorMgAk
namespace Go.Proofs.YtngichjgfppnpaaGreatDoor
open Go.RowKit Go.Shelf
set_option linter.unusedVariables false
set_option maxRecDepth 20000

def lA : List Pq := [(0, 1 / 10), (100, 1 / 5), (1001 / 2, 0)]
theorem pq_ext : ∀ {l m : List Pq}, l.length = m.length → (∀ i, i < l.length → aq l i = aq m i ∧ rq l i = rq m i) → l = m
  | [], [], _, _ => rfl
  | [], _ :: _, h, _ => by simp at h
  | _ :: _, [], h, _ => by simp at h
  | x :: l, y :: m, h, g => by
    have h0 := g 0 (by simp)
    have e : x = y := Prod.ext h0.1 h0.2
    rw [e, pq_ext (l := l) (m := m) (by simpa using h) (fun i hi => g (i + 1) (by simpa using hi))]
theorem sokA : Sok lA where
  one := by decide
  few := by decide
  nought := rfl
  up := fun i hi => by
    have : i = 0 ∨ i = 1 := by have : lA.length = 3 := rfl; omega
    rcases this with rfl | rfl <;> decide +kernel
  rate := fun i hi => by
    have : i = 0 ∨ i = 1 ∨ i = 2 := by have : lA.length = 3 := rfl; omega
    rcases this with rfl | rfl | rfl <;> decide +kernel
theorem bvA : BVals bsA lA 3 := by
  refine ⟨rfl, fun i hi => ?_⟩
  have : i = 0 ∨ i = 1 ∨ i = 2 := by omega
  rcases this with rfl | rfl | rfl
  · exact ⟨⟨⟨by decide, by decide, fun h => absurd h (by decide)⟩, ⟨by decide, by decide, fun h => absurd h (by decide)⟩⟩, by decide +kernel, by decide +kernel⟩
  · exact ⟨⟨⟨by decide, by decide, fun h => absurd h (by decide)⟩, ⟨by decide, by decide, fun h => absurd h (by decide)⟩⟩, by decide +kernel, by decide +kernel⟩
  · exact ⟨⟨⟨by decide, by decide, fun h => by decide⟩, ⟨by decide, by decide, fun h => absurd h (by decide)⟩⟩, by decide +kernel, by decide +kernel⟩
theorem bv_uniq {bs : List Br} {l m : List Pq} {n : Nat} (h : BVals bs l n) (g : BVals bs m n) : l = m :=
  pq_ext (by rw [h.1, g.1]) (fun i hi => ⟨(h.2 i (by rw [← h.1]; exact hi)).2.1.trans (g.2 i (by rw [← h.1]; exact hi)).2.1.symm, (h.2 i (by rw [← h.1]; exact hi)).2.2.trans (g.2 i (by rw [← h.1]; exact hi)).2.2.symm⟩)
theorem va_uniq {ps : List Pc} {l m : List Pq} {n : Nat} (h : Vals ps l n) (g : Vals ps m n) : l = m :=
  pq_ext (by rw [h.1, g.1]) (fun i hi => h.val g (by rw [← h.1]; exact hi) (by rw [← h.1]; exact hi))
theorem szA : ∀ i, i < 3 → Sz 3 (aq lA i) ∧ Sz 3 (rq lA i) := fun i hi => by
  have : i = 0 ∨ i = 1 ∨ i = 2 := by omega
  rcases this with rfl | rfl | rfl
  · exact ⟨(sz_one (n := 0) (d := 1) _ (by decide +kernel) (by decide +kernel) (by decide) (by decide)).mono (by omega), (sz_one (n := 1) (d := 10) _ (by decide +kernel) (by decide +kernel) (by decide) (by decide)).mono (by omega)⟩
  · exact ⟨(sz_one (n := 100) (d := 1) _ (by decide +kernel) (by decide +kernel) (by decide) (by decide)).mono (by omega), (sz_one (n := 1) (d := 5) _ (by decide +kernel) (by decide +kernel) (by decide) (by decide)).mono (by omega)⟩
  · exact ⟨(sz_one (n := 1001) (d := 2) _ (by decide +kernel) (by decide +kernel) (by decide) (by decide)).mono (by omega), (sz_one (n := 0) (d := 1) _ (by decide +kernel) (by decide +kernel) (by decide) (by decide)).mono (by omega)⟩
theorem bsA_ok : ∀ i, i < 3 → (bsA.getD i bz).ok := fun i hi => by
  have : i = 0 ∨ i = 1 ∨ i = 2 := by omega
  rcases this with rfl | rfl | rfl <;> exact ⟨⟨by decide, by decide⟩, ⟨by decide, by decide⟩, ⟨by decide, by decide⟩, ⟨by decide, by decide⟩⟩
theorem pcA {w : World} {B n' c' : Nat} {a : Option Addr} {er : Int} (h : PcR w B a n' c' er bsA 3 1) : er = 0 ∧ ∃ (g : Nat) (ps : List Pc), a = some ⟨g, 0, none⟩ ∧ n' = 3 ∧ c' = 3 ∧ Bk elP w g ps ∧ ps.length = 3 ∧ Ps w ps lA 3 := by
  rcases h with ⟨-, -, -, h⟩ | ⟨l, -, hl, -, h⟩
  · exact absurd ⟨by omega, lA, bvA, sokA⟩ h
  obtain rfl := bv_uniq hl bvA
  rcases h with ⟨-, -, -, h⟩ | ⟨-, -, -, -, i, hi, h⟩ | ⟨h0, -, -, g, ps, m, h1, h2, h3, h4, h5, h6, h7, h8⟩
  · exact absurd h (by decide +kernel)
  · rw [Rat.mul_one] at h
    exact absurd (szA i hi).1 h
  · have e : m = lA := pq_ext (by rw [h6]; rfl) (fun i hi => by
      have := h7 i (by omega)
      rw [Rat.mul_one] at this
      exact this)
    rw [e] at h8
    exact ⟨h0, g, ps, h1, h2, h3, h4, h5, h8⟩
theorem ps_lg {w : World} {ps : List Pc} {l : List Pq} {n i : Nat} (h : Ps w ps l n) (hi : i < n) (h1 : Sz 3 (aq l i)) (h2 : Sz 3 (rq l i)) : ¬ Lg (ps.getD i pz) := by
  have a : (ps.getD i pz).1.l ≤ 3 ∧ (ps.getD i pz).1.m ≤ 3 := rn_len (h i hi).1 h1
  have b : (ps.getD i pz).2.l ≤ 3 ∧ (ps.getD i pz).2.m ≤ 3 := rn_len (h i hi).2 h2
  unfold Lg
  omega
theorem ps_vals {w : World} {ps : List Pc} {l : List Pq} {n : Nat} (h : Ps w ps l n) (hl : l.length = n) : Vals ps l n := ⟨hl, fun i hi => ⟨rn_nm (h i hi).1, rn_nm (h i hi).2⟩⟩
theorem ps_rp {w : World} {ps : List Pc} {l : List Pq} {n : Nat} (h : Ps w ps l n) : Rp w ps n := fun i hi => ⟨(h i hi).1.rd, (h i hi).2.rd⟩
theorem ofA {w w0 : World} {B : Nat} {q : Option Addr} {ps : List Pc} {er : Int} (hp : Ps w0 ps lA 3) (h : OfS w B q ps 3 er) : er = 0 ∧ ∃ (g b : Nat) (xs : List Pc), q = some ⟨g, 0, none⟩ ∧ Sd w g b 0 3 3 xs lA := by
  have hv := ps_vals hp rfl
  rcases h with ⟨h0, g, b, xs, l, h1, h2, h3, -⟩ | ⟨-, -, h⟩
  · obtain rfl := va_uniq h3 hv
    exact ⟨h0, g, b, xs, h1, h2⟩
  · rcases h with ⟨-, h⟩ | ⟨-, -, i, hi, h⟩ | ⟨-, -, -, h⟩
    · omega
    · exact absurd h (ps_lg hp hi (szA i hi).1 (szA i hi).2)
    · exact absurd ⟨lA, hv, sokA⟩ h
theorem bgA1 : Bg lA 0 1 := ⟨by decide, fun i hi => by obtain rfl : i = 0 := by omega
                                                       decide +kernel, fun _ => by decide +kernel⟩
theorem bgA2 : Bg lA 100 2 := ⟨by decide, fun i hi => by
  have : i = 0 ∨ i = 1 := by omega
  rcases this with rfl | rfl <;> decide +kernel, fun _ => by decide +kernel⟩
theorem bgA3 : Bg lA 150 2 := ⟨by decide, fun i hi => by
  have : i = 0 ∨ i = 1 := by omega
  rcases this with rfl | rfl <;> decide +kernel, fun _ => by decide +kernel⟩
theorem ataA : Ata lA 150 20 := ⟨2, bgA3, by decide, by decide +kernel⟩
theorem atA {w : World} {q : Rc} {er : Int} (h : AtR w q er lA 150) : er = 0 ∧ Rv w q 20 := by
  rcases h with ⟨-, h, -⟩ | ⟨-, -, h, -⟩ | ⟨h0, -, -, a, h1, -, h2⟩
  · exact absurd h (by decide +kernel)
  · exact absurd ((sz_one (n := 150) (d := 1) 150 rfl rfl (by decide) (by decide)).mono (by omega)) h
  · rw [h1.uniq ataA] at h2; exact ⟨h0, h2⟩
theorem ofN {w : World} {B : Nat} {q : Option Addr} {er : Int} (h : OfS w B q [] 0 er) : er = 180 := by
  rcases h with ⟨h0, g, b, xs, l, h1, h2, -⟩ | ⟨-, -, h⟩
  · have := h2.few; omega
  · rcases h with ⟨h, -⟩ | ⟨-, h, -⟩ | ⟨h, -⟩
    · exact h
    · omega
    · exact h
set_option maxHeartbeats 16000000 in
theorem awake18 (w : World) (hT : Tn w) : Calls Tryz.prog 7 #[] w fun e w' => e = .returned (.bool true) ∧ Below w.heap.size w w' := by
 have B0 : Below w.heap.size w w := Below.refl _ _
 go_enter Tryz.func7, Tryz.ntmps7
 (go_wp2_with fail); refine (brackets_rc _).mono ?_; rintro e x1 ⟨gBr, rfl, hL, hb⟩; replace hT := Tn.after hb hT; replace B0 := step B0 hb; clear hb; (go_wp2_with fail); refine (number_rc 1 1 (by omega) (by omega) (by decide +kernel) (sz_one (n := 1) (d := 1) 1 rfl rfl (by decide) (by decide)) _).mono ?_; rintro e x2 ⟨r1, rfl, h1, hb⟩; replace hT := Tn.after hb hT; replace hL := Le.after hb hL; replace B0 := step B0 hb; clear hb; (go_wp2_with fail); refine (pcs_any (some ⟨gBr, 0, none⟩) 3 3 bsA r1 1 _ hL bsA_ok hT h1).mono ?_; rintro e x3 ⟨a1, n1, c1, er1, rfl, hp, hb⟩; replace hT := Tn.after hb hT; replace hL := Le.after hb hL; replace h1 := Rv.after hb h1; replace B0 := step B0 hb; obtain ⟨rfl, g1, ps, rfl, rfl, rfl, hB, hpl, hP⟩ := pcA hp.out; clear hb hp hL h1 hT; (go_wp2_with fail); refine (of8_any (some ⟨g1, 0, none⟩) 3 3 ps _ (by have := hB.le; rwa [hpl] at this) (ps_rp hP)).mono ?_; rintro e x4 ⟨q1, er1, rfl, ho, hb⟩; replace hB := Bk.after hb hB
 replace hP := Ps.after hb hP; replace B0 := step B0 hb; obtain ⟨rfl, g3, b3, xs, rfl, hd⟩ := ofA hP ho.out; clear hb ho hB hP hpl; (go_wp2_with fail); refine (number_rc 150 150 (by omega) (by omega) (by decide +kernel) (sz_one (n := 150) (d := 1) 150 rfl rfl (by decide) (by decide)) _).mono ?_; rintro e x5 ⟨r2, rfl, h2, hb⟩; replace hd := Sd.after hb hd; replace B0 := step B0 hb; clear hb; (go_wp2_with fail); refine (at8_any g3 b3 0 3 3 xs lA r2 150 _ hd h2).mono ?_; rintro e x6 ⟨qx, er1, rfl, ha, hb⟩; replace hd := Sd.after hb hd; replace h2 := Rv.after hb h2; replace B0 := step B0 hb; obtain ⟨rfl, hx⟩ := atA ha.out; clear hb ha h2; (go_wp2_with fail); refine ent1 x6 _ _ (Q := fun W => Calls Tryz.prog _ _ W _) ?_; intro x7 hb hs_x7 V4; replace hd := Sd.after hb hd; replace hx := Rv.after hb hx; replace B0 := step B0 hb; clear hb hs_x7; refine (number_rc 100 100 (by omega) (by omega) (by decide +kernel) (sz_one (n := 100) (d := 1) 100 rfl rfl (by decide) (by decide)) _).mono ?_
 rintro e x8 ⟨r3, rfl, h3, hb⟩; replace V4 := V4.a hb; replace hd := Sd.after hb hd; replace hx := Rv.after hb hx; replace B0 := step B0 hb; clear hb; (go_wp2_with fail); refine (slope8_ok g3 b3 0 3 3 xs lA r3 100 _ hd h3 2 bgA2 (by decide +kernel)).mono ?_; rintro e x9 ⟨qy, rfl, hy, hb⟩; replace V4 := V4.a hb; replace hd := Sd.after hb hd; replace hx := Rv.after hb hx; replace h3 := Rv.after hb h3; replace B0 := step B0 hb; clear hb; clear h3; (go_wp2_with fail); refine ent1 x9 _ _ (Q := fun W => Calls Tryz.prog _ _ W _) ?_; intro x10 hb hs_x10 V5; replace V4 := V4.a hb; replace hd := Sd.after hb hd; replace hx := Rv.after hb hx; replace hy := Rv.after hb hy; replace B0 := step B0 hb; clear hb hs_x10; refine (number_rc 0 0 (by omega) (by omega) (by decide +kernel) (sz_one (n := 0) (d := 1) 0 rfl rfl (by decide) (by decide)) _).mono ?_; rintro e x11 ⟨r4, rfl, h4, hb⟩; replace V4 := V4.a hb; replace V5 := V5.a hb
 replace hd := Sd.after hb hd; replace hx := Rv.after hb hx; replace hy := Rv.after hb hy; replace B0 := step B0 hb; clear hb; (go_wp2_with fail); refine (next8_any g3 b3 0 3 3 xs lA r4 0 _ hd h4 1 bgA1).mono ?_; rintro e x12 ⟨qz, t, rfl, hn, hb⟩; replace V4 := V4.a hb; replace V5 := V5.a hb; replace hd := Sd.after hb hd; replace hx := Rv.after hb hx; replace hy := Rv.after hb hy; replace h4 := Rv.after hb h4; replace B0 := step B0 hb; obtain ⟨rfl, hz⟩ : t = true ∧ Rv x12 qz 100 := Or.elim hn.out (fun h => ⟨h.1, h.2.2⟩) (fun h => by have := h.2.1; omega); clear hb hn h4; clear hd; (go_wp2_with fail); refine ent1 x12 _ _ (Q := fun W => Calls Tryz.prog _ _ W _) ?_; intro x13 hb hs_x13 V7; replace V4 := V4.a hb; replace V5 := V5.a hb; replace hx := Rv.after hb hx; replace hy := Rv.after hb hy; replace hz := Rv.after hb hz; replace B0 := step B0 hb; clear hb hs_x13; refine (of8_any none 0 0 [] _ (Le.nil _ _) (fun i hi => absurd hi (by omega))).mono ?_
 rintro e x14 ⟨q9, er1, rfl, ho, hb⟩; replace V4 := V4.a hb; replace V5 := V5.a hb; replace V7 := V7.a hb; replace hx := Rv.after hb hx; replace hy := Rv.after hb hy; replace hz := Rv.after hb hz; replace B0 := step B0 hb; obtain rfl := ofN ho.out; clear hb ho; (go_wp2_with fail); refine wp_region_noPanic ?_; replace V4 : Va x14.drew _ _ _ := V4; replace V5 : Va x14.drew _ _ _ := V5; replace V7 : Va x14.drew _ _ _ := V7; replace hx := hx.drw; replace hy := hy.drw; replace hz := hz.drw; replace B0 := Below.drew B0; refine wp_region_held_drew (S := (fun W => W.cell? ⟨x6.heap.size, 0, none⟩ = some (.bool qx.s) ∧ W.cell? ⟨x6.heap.size, 1, none⟩ = some (.slice qx.a qx.l qx.c) ∧ W.cell? ⟨x6.heap.size, 2, none⟩ = some (.slice qx.b qx.m qx.d) ∧ W.cell? ⟨x9.heap.size, 0, none⟩ = some (.bool qy.s) ∧ W.cell? ⟨x9.heap.size, 1, none⟩ = some (.slice qy.a qy.l qy.c) ∧ W.cell? ⟨x9.heap.size, 2, none⟩ = some (.slice qy.b qy.m qy.d) ∧ W.cell? ⟨x12.heap.size, 0, none⟩ = some (.bool qz.s) ∧ W.cell? ⟨x12.heap.size, 1, none⟩ = some (.slice qz.a qz.l qz.c) ∧ W.cell? ⟨x12.heap.size, 2, none⟩ = some (.slice qz.b qz.m qz.d))) (by kernel_rfl) ⟨V4.d0, V4.d1, V4.d2, V5.d0, V5.d1, V5.d2, V7.d0, V7.d1, V7.d2⟩ (fun hHeld => ?_)
 (obtain ⟨x15, hxd⟩ : ∃ xd, xd = x14.drew := ⟨_, rfl⟩); rw [← hxd] at V4 V5 V7 hx hy hz B0 hHeld ⊢; clear hxd; refine tjz 0 hHeld ?_; refine tjz 1 hHeld ?_; refine tjz 2 hHeld ?_; refine tjz 3 hHeld ?_; refine tjz 4 hHeld ?_; refine tjz 5 hHeld ?_; refine tjz 6 hHeld ?_; refine tjz 7 hHeld ?_; refine tjz 8 hHeld ?_; refine tjz 9 hHeld ?_; refine tjz 10 hHeld ?_; refine ryz 11 (fun K hK => ?_)
 simp only [gA, gB, gC]; (go_simp); refine (number_rc 20 20 (by omega) (by omega) (by decide +kernel) (sz_one (n := 20) (d := 1) 20 rfl rfl (by decide) (by decide)) _).mono ?_; rintro e x16 ⟨r5, rfl, h5, hb⟩; replace V4 := V4.a hb; replace V5 := V5.a hb; replace V7 := V7.a hb; replace hx := Rv.after hb hx; replace hy := Rv.after hb hy; replace hz := Rv.after hb hz; replace B0 := step B0 hb; clear hb; (try go_wp2_with fail); refine hK.out _ _ ⟨V4.d0, V4.d1, V4.d2, V5.d0, V5.d1, V5.d2, V7.d0, V7.d1, V7.d2⟩ (fun hHeld => ?_); clear hK K; refine ryz 12 (fun K hK => ?_); simp only [gA, gB, gC]; (go_simp); refine (cmp_rc qx r5 20 20 _ hx h5).mono ?_; rintro e x17 ⟨rfl, hb⟩; replace V4 := V4.a hb; replace V5 := V5.a hb; replace V7 := V7.a hb; replace hx := Rv.after hb hx; replace hy := Rv.after hb hy; replace hz := Rv.after hb hz
 replace h5 := Rv.after hb h5; replace B0 := step B0 hb; clear hb; rw [(cmp_eq 20 20).2 rfl]; (try go_wp2_with fail); refine hK.out _ _ ⟨V4.d0, V4.d1, V4.d2, V5.d0, V5.d1, V5.d2, V7.d0, V7.d1, V7.d2⟩ (fun hHeld => ?_); clear hK K; refine tjz 13 hHeld ?_; refine tjz 14 hHeld ?_; refine tjz 15 hHeld ?_; refine tjz 16 hHeld ?_; refine ryz 17 (fun K hK => ?_); simp only [gA, gB, gC]; (go_simp); refine (ratioOf8 1 5 (by decide) (by decide) (by decide) (by decide) (by decide) _).mono ?_; rintro e x18 ⟨s6, a6, l6, c6, z6, b6, m6, d6, y6, rfl, h6, -, hb⟩; replace V4 := V4.a hb; replace V5 := V5.a hb; replace V7 := V7.a hb; replace hx := Rv.after hb hx
 replace hy := Rv.after hb hy; replace hz := Rv.after hb hz; replace h5 := Rv.after hb h5; replace B0 := step B0 hb; clear hb
 have hq6 : Rn x18 ⟨s6, a6, l6, c6, z6, b6, m6, d6, y6⟩ (1 / 5) := by
  (have e : Rat.divInt 1 5 = 1 / 5 := by decide +kernel); rw [e] at h6; exact h6
 clear h6; (try go_wp2_with fail); refine hK.out _ _ ⟨V4.d0, V4.d1, V4.d2, V5.d0, V5.d1, V5.d2, V7.d0, V7.d1, V7.d2⟩ (fun hHeld => ?_); clear hK K; refine ryz 18 (fun K hK => ?_); simp only [gA, gB, gC]; (go_simp); refine (is_rc qy ⟨s6, a6, l6, c6, z6, b6, m6, d6, y6⟩ (1 / 5) _ hy hq6 ((szA 1 (by omega)).2.mono (by omega))).mono ?_; rintro e x19 ⟨rfl, hb⟩; replace V4 := V4.a hb; replace V5 := V5.a hb; replace V7 := V7.a hb; replace hx := Rv.after hb hx; replace hy := Rv.after hb hy; replace hz := Rv.after hb hz; replace h5 := Rv.after hb h5; replace hq6 := Rn.after hb hq6; replace B0 := step B0 hb; clear hb; (try go_wp2_with fail); refine hK.out _ _ ⟨V4.d0, V4.d1, V4.d2, V5.d0, V5.d1, V5.d2, V7.d0, V7.d1, V7.d2⟩ (fun hHeld => ?_); clear hK K; refine tjz 19 hHeld ?_; refine tk 20 rfl hHeld ?_
 simp only [gA, gB, gC, Act.put, gD, gE, gF]; refine tjz 21 hHeld ?_; refine ryz 22 (fun K hK => ?_); simp only [gA, gB, gC]; (go_simp); refine (number_rc 100 100 (by omega) (by omega) (by decide +kernel) (sz_one (n := 100) (d := 1) 100 rfl rfl (by decide) (by decide)) _).mono ?_; rintro e x20 ⟨r7, rfl, h7, hb⟩; replace V4 := V4.a hb; replace V5 := V5.a hb; replace V7 := V7.a hb; replace hx := Rv.after hb hx; replace hy := Rv.after hb hy; replace hz := Rv.after hb hz; replace h5 := Rv.after hb h5; replace hq6 := Rn.after hb hq6; replace B0 := step B0 hb; clear hb; (try go_wp2_with fail); refine hK.out _ _ ⟨V4.d0, V4.d1, V4.d2, V5.d0, V5.d1, V5.d2, V7.d0, V7.d1, V7.d2⟩ (fun hHeld => ?_); clear hK K; refine ryz 23 (fun K hK => ?_)
 simp only [gA, gB, gC]; (go_simp); refine (cmp_rc qz r7 100 100 _ hz h7).mono ?_; rintro e x21 ⟨rfl, hb⟩; replace V4 := V4.a hb; replace V5 := V5.a hb; replace V7 := V7.a hb; replace hx := Rv.after hb hx; replace hy := Rv.after hb hy; replace hz := Rv.after hb hz; replace h5 := Rv.after hb h5; replace hq6 := Rn.after hb hq6; replace h7 := Rv.after hb h7; replace B0 := step B0 hb; clear hb; rw [(cmp_eq 100 100).2 rfl]; (try go_wp2_with fail); refine hK.out _ _ ⟨V4.d0, V4.d1, V4.d2, V5.d0, V5.d1, V5.d2, V7.d0, V7.d1, V7.d2⟩ (fun hHeld => ?_); clear hK K; refine tjz 24 hHeld ?_; refine tjz 25 hHeld ?_; refine tjz 26 hHeld ?_; refine tjz 27 hHeld ?_; refine tjz 28 hHeld ?_; refine tk 29 rfl hHeld ?_
 simp only [gA, gB, gC, Act.put, gD, gE, gF]; refine tjz 30 hHeld ?_; refine dnz ?_; clear hHeld; (go_wp2_with fail)
 go_ret
 exact ⟨rfl, B0⟩
end Go.Proofs.YtngichjgfppnpaaGreatDoor
namespace Go.Proofs.YtngichjgfppnpaaGreatDoor
open Go.RowKit Go.Shelf
set_option linter.unusedVariables false
set_option maxRecDepth 20000

def FwR (w : World) (q : Option Addr) (ra rb : Rc) (t : Bool) : Prop := t = false ∨ (t = true ∧ ∃ (g b n : Nat) (xs : List Pc) (l : List Pq) (va vb : Rat), q = some ⟨g, 0, none⟩ ∧ Sd w g b 0 n n xs l ∧ 0 ≤ va ∧ va ≤ vb ∧ Sz 64 va ∧ Sz 64 vb ∧ Rv w ra va ∧ Rv w rb vb)
theorem FwR.after {w w' : World} (hb : Below w.heap.size w w') {q : Option Addr} {ra rb : Rc} {t : Bool} (h : FwR w q ra rb t) : FwR w' q ra rb t := by
  rcases h with h | ⟨h0, g, b, n, xs, l, va, vb, h1, h2, h3, h4, h5, h6, h7, h8⟩
  · exact .inl h
  · exact .inr ⟨h0, g, b, n, xs, l, va, vb, h1, h2.after hb, h3, h4, h5, h6, h7.after hb, h8.after hb⟩
end Go.Proofs.YtngichjgfppnpaaGreatDoor
namespace Go.Proofs.YtngichjgfppnpaaGreatDoor
open Go.RowKit Go.Shelf
set_option linter.unusedVariables false

end Go.Proofs.YtngichjgfppnpaaGreatDoor
namespace Go.Proofs.YtngichjgfppnpaaGreatDoor
open Go.RowKit Go.Shelf
set_option linter.unusedVariables false
set_option maxRecDepth 20000

theorem rd_rn {w : World} {r : Rc} {v : Rat} (h : Rd2 w r) (hN : Nm r v) : Rn w r v := by
  obtain ⟨⟨n1, n2, n3, n4, n5⟩, e1, e2⟩ := hN
  refine ⟨h.1, h.2.1, by rw [n1, h.1.1], by rw [n2, h.2.1.1], h.2.2, e1, e2, fun hs hz => n4 ⟨hs, ?_⟩⟩
  have := (num_eq_zero h.1.2.1).1 hz
  omega
theorem rint_rc (n : Int) (v : Rat) (h1 : -9223372036854775808 ≤ n) (h2 : n ≤ 9223372036854775807) (he : Rat.divInt n 1 = v) (w : World) :
    Calls Tryz.prog 31 #[.int .i64 n] w fun e w' => ∃ r : Rc, e = .returned (.agg #[.bool r.s, .slice r.a r.l r.c, .slice r.b r.m r.d]) ∧ Rn w' r v ∧ Below w.heap.size w w' := by
  refine (rint5 n h1 h2 w).mono ?_
  rintro e w' ⟨s, a, l, c, z, b, m, d, y, rfl, h, -, -, hb⟩
  rw [he] at h
  exact ⟨⟨s, a, l, c, z, b, m, d, y⟩, rfl, h, hb⟩
theorem rsign_rc (p : Rc) (v : Rat) (w : World) (h : Rn w p v) :
    Calls Tryz.prog 27 #[.agg #[.bool p.s, .slice p.a p.l p.c, .slice p.b p.m p.d]] w fun e w' => e = .returned (.int .i64 (Int.sign v.num)) ∧ Below w.heap.size w w' := rsign5 p.s p.a p.l p.c p.z p.b p.m p.d p.y v w h
theorem same_sm (p q : Rc) (w : World) (h1 : Rd2 w p) (h2 : Rd2 w q) (hs : Sm p q) (hl : p.l ≤ 3 ∧ p.m ≤ 3) :
    Calls Tryz.prog 58 #[.agg #[.bool p.s, .slice p.a p.l p.c, .slice p.b p.m p.d], .agg #[.bool q.s, .slice q.a q.l q.c, .slice q.b q.m q.d]] w fun e w' => e = .returned (.bool true) ∧ Below w.heap.size w w' := by
  obtain ⟨e1, e2, e3, e4, e5⟩ := hs
  rw [← e1, ← e2, ← e4]
  exact rsame5 p.s p.a q.a p.b q.b p.l p.m p.c q.c p.d q.d p.z p.y w h1.1 (by have := h2.1; rw [← e2, ← e3] at this; exact this) h1.2.1 (by have := h2.2.1; rw [← e4, ← e5] at this; exact this) (by omega) (by omega)
set_option maxHeartbeats 4000000 in
theorem sameP (p q : Pc) (w : World) (h1 : Rd2 w p.1) (h2 : Rd2 w p.2) (g1 : Rd2 w q.1) (g2 : Rd2 w q.2) (s1 : Sm p.1 q.1) (s2 : Sm p.2 q.2) (hl : (p.1.l ≤ 3 ∧ p.1.m ≤ 3) ∧ (p.2.l ≤ 3 ∧ p.2.m ≤ 3)) :
    Calls Tryz.prog 37 #[.agg #[.bool p.1.s, .slice p.1.a p.1.l p.1.c, .slice p.1.b p.1.m p.1.d, .bool p.2.s, .slice p.2.a p.2.l p.2.c, .slice p.2.b p.2.m p.2.d], .agg #[.bool q.1.s, .slice q.1.a q.1.l q.1.c, .slice q.1.b q.1.m q.1.d, .bool q.2.s, .slice q.2.a q.2.l q.2.c, .slice q.2.b q.2.m q.2.d]] w fun e w' => e = .returned (.bool true) ∧ Below w.heap.size w w' := by
  have B0 : Below w.heap.size w w := Below.refl _ _
  go_enter Tryz.func37, Tryz.ntmps37
  go_wp2_with fail
  refine ent2 w _ _ _ _ (Q := fun W => Calls Tryz.prog _ _ W _) ?_
  intro x1 hb hs_x1 V2 V3
  replace h1 := Rd2.after hb h1
  replace h2 := Rd2.after hb h2
  replace g1 := Rd2.after hb g1
  replace g2 := Rd2.after hb g2
  replace B0 := step B0 hb
  clear hb hs_x1
  refine (same_sm p.1 q.1 _ h1 g1 s1 hl.1).mono ?_
  rintro e x2 ⟨rfl, hb⟩
  replace V2 := V2.a hb
  replace V3 := V3.a hb
  replace h1 := Rd2.after hb h1
  replace h2 := Rd2.after hb h2
  replace g1 := Rd2.after hb g1
  replace g2 := Rd2.after hb g2
  replace B0 := step B0 hb
  clear hb
  have c_V2 := V2.e0
  have f0_V2 := V2.frozen 0
  have d_V2 := V2.e1
  have f1_V2 := V2.frozen 1
  have e_V2 := V2.e2
  have f2_V2 := V2.frozen 2
  have j_V2 := V2.e3
  have f3_V2 := V2.frozen 3
  have k_V2 := V2.e4
  have f4_V2 := V2.frozen 4
  have z_V2 := V2.e5
  have f5_V2 := V2.frozen 5
  have l_V2 := V2.lt
  have m_V2 := Nat.le_of_lt l_V2
  have c_V3 := V3.e0
  have f0_V3 := V3.frozen 0
  have d_V3 := V3.e1
  have f1_V3 := V3.frozen 1
  have e_V3 := V3.e2
  have f2_V3 := V3.frozen 2
  have j_V3 := V3.e3
  have f3_V3 := V3.frozen 3
  have k_V3 := V3.e4
  have f4_V3 := V3.frozen 4
  have z_V3 := V3.e5
  have f5_V3 := V3.frozen 5
  have l_V3 := V3.lt
  have m_V3 := Nat.le_of_lt l_V3
  go_wp2_with fail
  clear c_V2 f0_V2 d_V2 f1_V2 e_V2 f2_V2 j_V2 f3_V2 k_V2 f4_V2 z_V2 f5_V2 l_V2 m_V2 c_V3 f0_V3 d_V3 f1_V3 e_V3 f2_V3 j_V3 f3_V3 k_V3 f4_V3 z_V3 f5_V3 l_V3 m_V3
  refine (same_sm p.2 q.2 _ h2 g2 s2 hl.2).mono ?_
  rintro e x3 ⟨rfl, hb⟩
  replace V2 := V2.a hb
  replace V3 := V3.a hb
  replace h1 := Rd2.after hb h1
  replace h2 := Rd2.after hb h2
  replace g1 := Rd2.after hb g1
  replace g2 := Rd2.after hb g2
  replace B0 := step B0 hb
  clear hb
  go_wp2_with fail
  go_ret
  exact ⟨rfl, B0⟩
set_option maxHeartbeats 8000000 in
theorem samePs (b1 o1 b2 o2 n c1 c2 : Nat) (ps qs : List Pc) (w : World) (hL : Le elP w (some ⟨b1, o1, none⟩) n ps) (gL : Le elP w (some ⟨b2, o2, none⟩) n qs) (hR : Rp w ps n) (gR : Rp w qs n) (hS : Smp ps qs n) (hl : ∀ i, i < n → ((ps.getD i pz).1.l ≤ 3 ∧ (ps.getD i pz).1.m ≤ 3) ∧ ((ps.getD i pz).2.l ≤ 3 ∧ (ps.getD i pz).2.m ≤ 3)) (h8 : n ≤ 8) :
  Calls Tryz.prog 11 #[.slice (some ⟨b1, o1, none⟩) n c1, .slice (some ⟨b2, o2, none⟩) n c2] w fun e w' => e = .returned (.bool true) ∧ Below w.heap.size w w' := by
 have HL : Hid (Le elP w (some ⟨b1, o1, none⟩) n ps) := hL; have GL : Hid (Le elP w (some ⟨b2, o2, none⟩) n qs) := gL; have HR : Hid (Rp w ps n) := hR; have GR : Hid (Rp w qs n) := gR; have HS : Hid (Smp ps qs n) := hS; have HN : Hid (∀ i, i < n → ((ps.getD i pz).1.l ≤ 3 ∧ (ps.getD i pz).1.m ≤ 3) ∧ ((ps.getD i pz).2.l ≤ 3 ∧ (ps.getD i pz).2.m ≤ 3)) := hl; clear hL gL hR gR hS hl
 go_enter Tryz.func11, Tryz.ntmps11
 (go_wp2_with fail)
 go_loopw [5] (fun i wr => ∃ k : Nat, k ≤ n ∧ i = .int .i64 k ∧ Hid (Below w.heap.size w wr)) (fun i _ => n - (intOf i).toNat)
 case atStart => exact ⟨0, Nat.zero_le _, rfl, Below.refl _ _⟩
 case round =>
  obtain ⟨k, hk, rfl, HW⟩ := hrel
  by_cases hlt : k < n
  ·
   have B0 := HW.out; have hc : At6 wr b1 (o1 + k * 6) (ps.getD k pz) := (HL.out.after B0).six rfl rfl k hlt; have hd : At6 wr b2 (o2 + k * 6) (qs.getD k pz) := (GL.out.after B0).six rfl rfl k hlt; have hr := (HR.out.after B0) k hlt; have gr := (GR.out.after B0) k hlt; have hs := HS.out k hlt; have hn := HN.out k hlt
   generalize ps.getD k pz = p at hc hr hs hn
   generalize qs.getD k pz = q at hd gr hs
   (go_wp2_with fail); obtain ⟨h1, h2⟩ := hr; obtain ⟨g1, g2⟩ := gr; refine wp_region_noPanic ?_; replace hc := hc.drw; replace hd := hd.drw; replace h1 := h1.drw; replace h2 := h2.drw; replace g1 := g1.drw; replace g2 := g2.drw; replace B0 := Below.drew B0; refine wp_region_held_drew (S := (fun W => W.cell? ⟨b1, o1 + k * 6, none⟩ = some (.bool p.1.s) ∧ W.cell? ⟨b1, o1 + k * 6 + 1, none⟩ = some (.slice p.1.a p.1.l p.1.c) ∧ W.cell? ⟨b1, o1 + k * 6 + 2, none⟩ = some (.slice p.1.b p.1.m p.1.d) ∧ W.cell? ⟨b1, o1 + k * 6 + 3, none⟩ = some (.bool p.2.s) ∧ W.cell? ⟨b1, o1 + k * 6 + 4, none⟩ = some (.slice p.2.a p.2.l p.2.c) ∧ W.cell? ⟨b1, o1 + k * 6 + 5, none⟩ = some (.slice p.2.b p.2.m p.2.d) ∧ W.cell? ⟨b2, o2 + k * 6, none⟩ = some (.bool q.1.s) ∧ W.cell? ⟨b2, o2 + k * 6 + 1, none⟩ = some (.slice q.1.a q.1.l q.1.c) ∧ W.cell? ⟨b2, o2 + k * 6 + 2, none⟩ = some (.slice q.1.b q.1.m q.1.d) ∧ W.cell? ⟨b2, o2 + k * 6 + 3, none⟩ = some (.bool q.2.s) ∧ W.cell? ⟨b2, o2 + k * 6 + 4, none⟩ = some (.slice q.2.a q.2.l q.2.c) ∧ W.cell? ⟨b2, o2 + k * 6 + 5, none⟩ = some (.slice q.2.b q.2.m q.2.d))) (by kernel_rfl) ⟨hc.c0, hc.c1, hc.c2, hc.c3, hc.c4, hc.c5, hd.c0, hd.c1, hd.c2, hd.c3, hd.c4, hd.c5⟩ (fun hHeld => ?_)
   (obtain ⟨x6, hxd⟩ : ∃ xd, xd = wr.drew := ⟨_, rfl⟩); rw [← hxd] at hc hd h1 h2 g1 g2 B0 hHeld ⊢; clear hxd; refine tjz 0 hHeld ?_; refine tjz 1 hHeld ?_; refine tjz 2 hHeld ?_; refine tjz 3 hHeld ?_; refine tjz 4 hHeld ?_; refine tjz 5 hHeld ?_; refine tjz 6 hHeld ?_; refine tjz 7 hHeld ?_; refine ryz 8 (fun K hK => ?_); simp only [gA, gB, gC]; (go_simp); refine (sameP p q _ h1 h2 g1 g2 hs.1 hs.2 hn).mono ?_; rintro e x7 ⟨rfl, hb⟩; replace hc := At6.after hb hc; replace hd := At6.after hb hd
   replace h1 := Rd2.after hb h1; replace h2 := Rd2.after hb h2; replace g1 := Rd2.after hb g1; replace g2 := Rd2.after hb g2; replace B0 := step B0 hb; clear hb; (try go_wp2_with fail); refine hK.out _ _ ⟨hc.c0, hc.c1, hc.c2, hc.c3, hc.c4, hc.c5, hd.c0, hd.c1, hd.c2, hd.c3, hd.c4, hd.c5⟩ (fun hHeld => ?_); clear hK K; refine tjz 9 hHeld ?_; refine dnz ?_; clear hHeld hc hd; (go_wp2_with fail)
   go_roundw
   case measure => simp [intOf]; omega
   case rel => exact ⟨k + 1, by omega, by go_num, B0⟩
  ·
   (obtain rfl : k = n := by omega); (go_wp2_with fail)
   go_ret
   exact ⟨rfl, HW.out⟩
end Go.Proofs.YtngichjgfppnpaaGreatDoor
namespace Go.Proofs.YtngichjgfppnpaaGreatDoor
open Go.RowKit Go.Shelf
set_option linter.unusedVariables false
set_option maxRecDepth 20000

end Go.Proofs.YtngichjgfppnpaaGreatDoor
namespace Go.Proofs.YtngichjgfppnpaaGreatDoor
open Go.RowKit Go.Shelf
set_option linter.unusedVariables false

def Fit3 (u v : Rat) : Prop := ∀ n, n = 4000 → (u.num.natAbs : Int) * (v.den : Int) < pw n ∧ (v.num.natAbs : Int) * (u.den : Int) < pw n ∧ (u.den : Int) * (v.den : Int) < pw n
theorem Fit3.neg {u v : Rat} (h : Fit3 u v) : Fit3 u (-v) := fun n e => by rw [Rat.neg_num, Rat.neg_den, Int.natAbs_neg]; exact h n e
theorem Rr.len9 {w : World} {s : Bool} {a : Option Addr} {l c : Nat} {zs : List Int} {b : Option Addr} {m d : Nat} {ys : List Int} {v : Rat} (h : Rr w s a l c zs b m d ys v) (hS : Sz 4000 v) : l ≤ 4000 ∧ m ≤ 4000 := by
  obtain ⟨h1, h2, h3, h4, -, h5, h6, -⟩ := h
  have p1 := num_nonneg h1.2.1
  refine ⟨?_, ?_⟩
  · have := used_of_lt (n := 4000) h1.2.1 (by
      have h7 := hS.1
      rw [← h5] at h7
      cases s
      · rw [iv_f] at h7; omega
      · rw [iv_t] at h7; omega)
    omega
  · have := used_of_lt (n := 4000) h2.2.1 (by rw [h6]; exact hS.2)
    omega
theorem natAbs_iv {s : Bool} {zs : List Int} {x : Int} (h : iv s zs = x) (p : 0 ≤ num zs) : num zs = (x.natAbs : Int) := by
  cases s
  · rw [iv_f] at h; omega
  · rw [iv_t] at h; omega
theorem Fit3.symm {u v : Rat} (h : Fit3 u v) : Fit3 v u := fun n e => ⟨(h n e).2.1, (h n e).1, by rw [Int.mul_comm]; exact (h n e).2.2⟩
end Go.Proofs.YtngichjgfppnpaaGreatDoor
namespace Go.Proofs.YtngichjgfppnpaaGreatDoor
open Go.RowKit Go.Shelf
set_option linter.unusedVariables false

theorem mul_val9 {s1 s2 : Bool} {z1 z2 zA : List Int} {u v : Rat} {D : Int} (e1 : iv s1 z1 = u.num) (e2 : iv s2 z2 = v.num) (eA : num zA = num z1 * num z2) (hD : D = (u.den : Int) * (v.den : Int)) : Rat.divInt (iv (!(s1 == s2)) zA) D = u * v := by
  have e : iv (!(s1 == s2)) zA = u.num * v.num := by
    rw [← e1, ← e2]
    cases s1 <;> cases s2 <;> simp only [iv_t, iv_f, eA, beq_self_eq_true, Bool.not_true, Bool.not_false, show (false == true) = false from rfl, show (true == false) = false from rfl] <;> grind
  rw [e, hD, Rat.mul_def, Rat.normalize_eq_mkRat, ← Rat.divInt_ofNat, Int.natCast_mul]
set_option maxHeartbeats 4000000 in
theorem rmul9 (s1 : Bool) (a1 : Option Addr) (l1 c1 : Nat) (z1 : List Int) (b1 : Option Addr) (m1 d1 : Nat) (y1 : List Int) (u : Rat) (s2 : Bool) (a2 : Option Addr) (l2 c2 : Nat) (z2 : List Int) (b2 : Option Addr) (m2 d2 : Nat) (y2 : List Int) (v : Rat) (w : World) (h1 : Rr w s1 a1 l1 c1 z1 b1 m1 d1 y1 u) (h2 : Rr w s2 a2 l2 c2 z2 b2 m2 d2 y2 v) (t1 : Sz 4000 u) (t2 : Sz 4000 v) (t3 : ∀ n, n = 4000 → (u.num.natAbs : Int) * (v.num.natAbs : Int) < pw n ∧ (u.den : Int) * (v.den : Int) < pw n) :
  Calls Tryz.prog 28 #[.agg #[.bool s1, .slice a1 l1 c1, .slice b1 m1 d1], .agg #[.bool s2, .slice a2 l2 c2, .slice b2 m2 d2]] w fun e w' => RrP w (u * v) e w' := by
 obtain ⟨u1, u2⟩ := h1.len9 t1; obtain ⟨u3, u4⟩ := h2.len9 t2; have HL : Hid (l1 ≤ 4000 ∧ m1 ≤ 4000 ∧ l2 ≤ 4000 ∧ m2 ≤ 4000) := ⟨u1, u2, u3, u4⟩; have n1 := num_nonneg h1.1.2.1; have n2 := num_nonneg h2.1.2.1; have HV : Hid (iv s1 z1 = u.num ∧ iv s2 z2 = v.num ∧ num y1 = u.den ∧ num y2 = v.den) := ⟨h1.2.2.2.2.2.1, h2.2.2.2.2.2.1, h1.2.2.2.2.2.2.1, h2.2.2.2.2.2.2.1⟩
 have HF : Hid (∀ n, n = 4000 → num z1 * num z2 < pw n ∧ num y1 * num y2 < pw n ∧ num y1 * num y2 ≠ 0) := fun n e => by
  rw [natAbs_iv HV.out.1 n1, natAbs_iv HV.out.2.1 n2, HV.out.2.2.1, HV.out.2.2.2]; have p1 := u.den_pos; have p2 := v.den_pos; exact ⟨(t3 n e).1, (t3 n e).2, Int.mul_ne_zero (by omega) (by omega)⟩
 clear t1 t2 t3 u1 u2 u3 u4 n1 n2; have B0 : Below w.heap.size w w := Below.refl _ _
 go_enter Tryz.func28, Tryz.ntmps28
 (go_wp2_with fail); refine ent3 w _ _ _ _ _ _ (Q := fun W => Code.wp Tryz.prog _ _ _ W) ?_; intro x1 hb hs_x1 V0 V1 V2; replace h1 := Rr.after hb h1; replace h2 := Rr.after hb h2; replace B0 := step B0 hb; clear hb hs_x1; refine wp_region_noPanic ?_; replace V0 : Va x1.drew _ _ _ := V0; replace V1 : Va x1.drew _ _ _ := V1; replace V2 : Va x1.drew _ _ _ := V2; replace h1 := h1.drw; replace h2 := h2.drw; replace B0 := Below.drew B0; refine wp_region_held_drew (S := (fun W => W.cell? ⟨w.heap.size, 0, none⟩ = some (.bool s1) ∧ W.cell? ⟨w.heap.size, 1, none⟩ = some (.slice a1 l1 c1) ∧ W.cell? ⟨w.heap.size, 2, none⟩ = some (.slice b1 m1 d1) ∧ W.cell? ⟨w.heap.size + 1, 0, none⟩ = some (.bool s2) ∧ W.cell? ⟨w.heap.size + 1, 1, none⟩ = some (.slice a2 l2 c2) ∧ W.cell? ⟨w.heap.size + 1, 2, none⟩ = some (.slice b2 m2 d2))) (by kernel_rfl) ⟨V0.d0, V0.d1, V0.d2, V1.d0, V1.d1, V1.d2⟩ (fun hHeld => ?_); (obtain ⟨x2, hxd⟩ : ∃ xd, xd = x1.drew := ⟨_, rfl⟩)
 rw [← hxd] at V0 V1 V2 h1 h2 B0 hHeld ⊢; clear hxd; refine tjz 0 hHeld ?_; refine tjz 1 hHeld ?_; refine tjz 2 hHeld ?_; refine tjz 3 hHeld ?_; refine tjz 4 hHeld ?_; refine tjz 5 hHeld ?_; refine tjz 6 hHeld ?_; refine tjz 7 hHeld ?_; refine tjz 8 hHeld ?_; refine tjz 10 hHeld ?_; refine tjz 11 hHeld ?_; refine tjz 12 hHeld ?_; refine tjz 13 hHeld ?_
 refine ryz 9 (fun K hK => ?_); simp only [gA, gB, gC]; (go_simp); refine (rmul_any a1 a2 l1 c1 l2 c2 z1 z2 _ h1.1 h2.1 (by have := HL.out; omega) (by have := HL.out; omega)).mono ?_; rintro e x3 ⟨a5, l5, c5, z5, rfl, k5, t5, h5, u5, e5, hb⟩; replace V0 := V0.a hb; replace V1 := V1.a hb; replace V2 := V2.a hb; replace h1 := Rr.after hb h1; replace h2 := Rr.after hb h2; replace B0 := step B0 hb; clear hb; (try go_wp2_with fail); refine hK.out _ _ ⟨V0.d0, V0.d1, V0.d2, V1.d0, V1.d1, V1.d2⟩ (fun hHeld => ?_); clear hK K; refine ryz 14 (fun K hK => ?_); simp only [gA, gB, gC]; (go_simp); refine (rmul_any b1 b2 m1 d1 m2 d2 y1 y2 _ h1.2.1 h2.2.1 (by have := HL.out; omega) (by have := HL.out; omega)).mono ?_; rintro e x4 ⟨a6, l6, c6, z6, rfl, k6, t6, h6, u6, e6, hb⟩
 replace V0 := V0.a hb; replace V1 := V1.a hb; replace V2 := V2.a hb; replace h1 := Rr.after hb h1; replace h2 := Rr.after hb h2; replace h5 := Sl.after hb h5; replace B0 := step B0 hb; clear hb; (try go_wp2_with fail); refine hK.out _ _ ⟨V0.d0, V0.d1, V0.d2, V1.d0, V1.d1, V1.d2⟩ (fun hHeld => ?_); clear hK K; refine ryz 15 (fun K hK => ?_); simp only [gA, gB, gC]; (go_simp); refine (rmake5 _ a5 a6 l5 c5 l6 c6 z5 z6 _ h5 h6 k5 k6 (by have := HL.out; omega) (by have := HL.out; omega) (used_of_lt h5.2.1 (by rw [e5]; exact Int.lt_of_lt_of_le (HF.out 4000 rfl).1 (pw_mono (by omega)))) (used_of_lt h6.2.1 (by rw [e6]; exact Int.lt_of_lt_of_le (HF.out 4000 rfl).2.1 (pw_mono (by omega)))) (by rw [e6]; exact (HF.out 4000 rfl).2.2)).mono ?_; rintro e x5 ⟨s7, a7, l7, c7, z7, b7, m7, d7, y7, rfl, h7, -, -, hb⟩; replace V0 := V0.a hb
 replace V1 := V1.a hb; replace V2 := V2.a hb; replace h1 := Rr.after hb h1; replace h2 := Rr.after hb h2; replace h5 := Sl.after hb h5; replace h6 := Sl.after hb h6; replace B0 := step B0 hb; clear hb; rw [mul_val9 HV.out.1 HV.out.2.1 e5 (by rw [e6, HV.out.2.2.1, HV.out.2.2.2])] at h7; (try go_wp2_with fail); refine hK.out _ _ ⟨V0.d0, V0.d1, V0.d2, V1.d0, V1.d1, V1.d2⟩ (fun hHeld => ?_); clear hK K; have c_V2 := V2.d0; have f0_V2 := V2.frozen 0; have d_V2 := V2.d1; have f1_V2 := V2.frozen 1; have e_V2 := V2.d2; have f2_V2 := V2.frozen 2; have l_V2 := V2.lt; have m_V2 := Nat.le_of_lt l_V2; refine ryz 16 (fun K hK => ?_); simp only [gA, gB, gC]; (go_simp); clear c_V2 f0_V2 d_V2 f1_V2 e_V2 f2_V2 l_V2 m_V2; refine sto3 V2 (.bool s7) (.slice a7 l7 c7) (.slice b7 m7 d7) (Q := fun W => K _ W) ?_; intro x6 V' oth far; replace V0 := apz (oth _ _ _) V0
 replace V1 := apz (oth _ _ _) V1; replace h1 := h1.far V2 (noInt3 _ _ _ _ _ _ _) far.1; replace h2 := h2.far V2 (noInt3 _ _ _ _ _ _ _) far.1; replace h5 := h5.far V2 (noInt3 _ _ _ _ _ _ _) far.1; replace h6 := h6.far V2 (noInt3 _ _ _ _ _ _ _) far.1; replace h7 := h7.far V2 (noInt3 _ _ _ _ _ _ _) far.1; replace B0 := apz (far.2 _ _) B0; replace V2 := V'; clear oth far; refine hK.out _ _ ⟨V0.d0, V0.d1, V0.d2, V1.d0, V1.d1, V1.d2⟩ (fun hHeld => ?_); clear hK K; refine dnz ?_; clear hHeld; (go_wp2_with fail); refine bodyPost_ret (results_ra rfl rfl V2) rfl ?_; exact ⟨s7, a7, l7, c7, z7, b7, m7, d7, y7, rfl, h7, B0⟩
end Go.Proofs.YtngichjgfppnpaaGreatDoor
