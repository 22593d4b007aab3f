/-
  money.amountOf, Text.
-/
import Derived.Test.YtebbblhafjaaiaaGreatDoorMgAa
import Derived.Test.YtebbblhafjaaiaaGreatDoorMgAz
import Derived.Test.YtebbblhafjaaiaaGreatDoorMgAx
import Derived.Test.YtebbblhafjaaiaaGreatDoorBsM
import Derived.Test.YtebbblhafjaaiaaGreatDoorMgAg
import Derived.Test.YtebbblhafjaaiaaGreatDoorMgAy
namespace Go.Proofs.YtebbblhafjaaiaaGreatDoor
open Go.RowKit Go.Shelf
set_option linter.unusedVariables false

theorem results_am {fn : Func} {i b : Nat} {x y z : Value} {tmps : Array Value} {w : World} (h : fn.results = #[.cell i 179]) (hi : tmps.getD i undef = .pointer (some ⟨b, 0, none⟩)) (hv : Va w b 179 #[x, y, z]) :
    (results fn tmps).run Tryz.prog w = .ok (.agg #[x, y, z]) w := by
  have c := hv.d0; have d := hv.d1; have e := hv.d2
  rw [Array.getD_eq_getD_getElem?] at hi
  simp [results, h, hi, c, d, e, go_sem]
theorem Va.neT9 {w : World} {b b' : Nat} {t t' : TypeId} {cs cs' : Array Value} (h : Va w b t cs) (k : Va w b' t' cs') (ht : t ≠ t') : b ≠ b' := by
  rintro rfl
  unfold Va at h k
  rw [h] at k
  injection k with k
  injection k with k1 k2 k3
  exact ht k2
theorem tx_len19 {t : List UInt8} {u : Int} (ht : Tx 10 t u.natAbs) (h1 : -9223372036854775808 ≤ u) (h2 : u ≤ 9223372036854775807) : t.length ≤ 19 := by
  have h3 : u.natAbs ≤ 9223372036854775808 := by omega
  exact ht.le (by omega) (k := 19) (Nat.lt_of_le_of_lt h3 (by decide)) (by omega)
set_option maxHeartbeats 4000000 in
theorem amountOf9 (nm : List UInt8) (D : Nat) (u : Int) (w : World) (hD : D ≤ 4) (h1 : -9223372036854775808 ≤ u) (h2 : u ≤ 9223372036854775807) (hP : Pt w) :
  Calls Tryz.prog 137 #[.agg #[.string ⟨nm.toArray⟩, .int .i64 D], .int .i64 u] w fun e w' => ∃ t, Tx 10 t u.natAbs ∧ e = .returned (.agg #[.string ⟨(if u < 0 then [45] else []).toArray⟩, .string ⟨((padL D t).take ((padL D t).length - D)).toArray⟩, .string ⟨((padL D t).drop ((padL D t).length - D)).toArray⟩]) ∧ Below w.heap.size w w' := by
 have HP : Hid (Pt w) := hP; clear hP; have B0 : Below w.heap.size w w := Below.refl _ _
 go_enter Tryz.func137, Tryz.ntmps137
 (go_wp2_with fail); refine ent2 w _ _ _ _ (Q := fun W => Calls Tryz.prog _ _ W _) ?_; intro x1 hb hs_x1 V0 V1; replace B0 := step B0 hb; clear hb hs_x1; refine (wsmall_any u h1 h2 _).mono ?_; rintro e x2 ⟨s, a, l, c, zs, rfl, hI, hu, hb⟩; replace V0 := Va.after hb V0; replace V1 := Va.after hb V1; replace B0 := step B0 hb; clear hb; have c_V0 := V0.c0; have f0_V0 := V0.frozen 0; have d_V0 := V0.c1; have f1_V0 := V0.frozen 1; have l_V0 := V0.lt; have m_V0 := Nat.le_of_lt l_V0; (go_wp2_with fail); refine (wabs_any s a l c _).mono ?_; rintro e x3 ⟨rfl, hb⟩; replace V0 := Va.after hb V0; replace V1 := Va.after hb V1; replace hI := It.after hb hI; replace B0 := step B0 hb; clear hb
 have HN : Hid ((num zs).toNat = u.natAbs) := by
  have h3 := hI.abs; rw [hu] at h3
  show _ = _
  rw [h3]; simp
 have hlt : num zs < 10000000000000000000 := by
  have h3 := hI.abs; rw [hu] at h3; rw [h3]; omega
 clear c_V0 f0_V0 d_V0 f1_V0 l_V0 m_V0; have c_V0 := V0.c0; have f0_V0 := V0.frozen 0; have d_V0 := V0.c1; have f1_V0 := V0.frozen 1; have l_V0 := V0.lt; have m_V0 := Nat.le_of_lt l_V0; (go_wp2_with fail); refine (text_small a l c zs _ hI.1 hlt (HP.out.to B0)).mono ?_; rintro e x4 ⟨t, rfl, ht, hb⟩; replace V0 := Va.after hb V0; replace V1 := Va.after hb V1; replace hI := It.after hb hI; replace B0 := step B0 hb; clear hb; rw [HN.out] at ht; have HTX : Hid (Tx 10 t u.natAbs) := ht; have htl : t.length ≤ 19 := tx_len19 ht h1 h2; have htp := ht.pos; clear ht hlt hu HN; clear c_V0 f0_V0 d_V0 f1_V0 l_V0 m_V0; have c_V0 := V0.c0; have f0_V0 := V0.frozen 0; have d_V0 := V0.c1; have f1_V0 := V0.frozen 1; have l_V0 := V0.lt; have m_V0 := Nat.le_of_lt l_V0; (go_wp2_with fail); (obtain ⟨Z, hZ⟩ : ∃ Z : Nat, D + 1 - t.length = Z := ⟨_, rfl⟩); (have hZ2 : max 0 ((D : Int) + 1 - t.length) = (Z : Int) := by omega); rw [hZ2]; (obtain ⟨P, hP⟩ : ∃ P, padL D t = P := ⟨_, rfl⟩)
 have HPD : Hid (padL D t = P) := hP; (obtain ⟨zz, hzz⟩ : ∃ zz, List.replicate Z (48 : UInt8) = zz := ⟨_, rfl⟩); have c0 := cat zz t; rw [show zz ++ t = P by rw [← hP, ← hzz, ← hZ]; rfl] at c0; (have hzl : zz.length ≤ 5 := by rw [← hzz]; simp; omega); (have hPl : P.length ≤ 30 := by rw [← hP, padL_len]; omega); (have hPD : D < P.length := by rw [← hP, padL_len]; omega); (have hZ5 : Z ≤ 5 := by omega); clear hZ hZ2 hP; (obtain ⟨E, hE⟩ : ∃ E : Nat, P.length - D = E := ⟨_, rfl⟩); (have hEi : (P.length : Int) - D = (E : Int) := by omega); have s1 := slice_hi P (E : Int) E rfl (by omega); have s2 := slice_lo P (E : Int) E rfl (by omega); have HE : Hid (P.length - D = E) := hE; clear hE; clear hI; (have hzr := fun W => zrep Z (by omega) W); rw [hzz] at hzr; clear hzz; refine (hzr _).mono ?_; rintro e x5 ⟨rfl, hb⟩; replace V0 := Va.after hb V0; replace V1 := Va.after hb V1; replace B0 := step B0 hb; clear hb; clear c_V0 f0_V0 d_V0 f1_V0 l_V0 m_V0
 have c_V0 := V0.c0; have f0_V0 := V0.frozen 0; have d_V0 := V0.c1; have f1_V0 := V0.frozen 1; have l_V0 := V0.lt; have m_V0 := Nat.le_of_lt l_V0; (go_wp2_with fail); clear c_V0 f0_V0 d_V0 f1_V0 l_V0 m_V0; refine wp_region_noPanic ?_; replace V0 : Va x5.drew _ _ _ := V0; replace V1 : Va x5.drew _ _ _ := V1; replace B0 := Below.drew B0; refine wp_region_held_drew (S := (fun W => True)) (by kernel_rfl) trivial (fun hHeld => ?_); (obtain ⟨x6, hxd⟩ : ∃ xd, xd = x5.drew := ⟨_, rfl⟩); rw [← hxd] at V0 V1 B0 ⊢; clear hxd; refine tk 0 rfl hHeld ?_; simp only [gA, gB, Act.put, gD, gE, gF]; refine tk 1 rfl hHeld ?_; simp only [gA, gB, gC, Act.put, gD, gE, gF]; refine tk 2 rfl hHeld ?_; simp only [gA, gB, gC, Act.put, gD, gE, gF]; refine tk 3 rfl hHeld ?_; simp only [gA, gB, gC, Act.put, gD, gE, gF]; refine tk 4 rfl hHeld ?_; simp only [gA, gB, gC, Act.put, gD, gE, gF]; refine tk 5 rfl hHeld ?_; simp only [gA, gB, gC, Act.put, gD, gE, gF]; refine tk 6 rfl hHeld ?_
 simp only [gA, gB, gC, Act.put, gD, gE, gF]; refine wpAnyH_ready (rs := [7]) (by kernel_rfl) (by simp) ?_; refine AllReadyH.cons rfl (fun K hK => ?_) AllReadyH.nil; simp only [gA, gB, gC]; (go_simp); have lt_Va2_V0 := V0.lt; have lt_Va2_V1 := V1.lt; have sz_Va2 := B0.size; refine ent1 _ _ _ (Q := fun V => K _ V) ?_; intro x7 hb hs_ Va2; replace V0 := Va.after hb V0; replace V1 := Va.after hb V1; replace B0 := step B0 hb; clear hb hs_; refine hK.out _ _ trivial (fun hHeld => ?_); clear hK K; have c_Va2 := Va2.d0; have f0_Va2 := Va2.frozen 0; have d_Va2 := Va2.d1; have f1_Va2 := Va2.frozen 1; have e_Va2 := Va2.d2; have f2_Va2 := Va2.frozen 2; have l_Va2 := Va2.lt; have m_Va2 := Nat.le_of_lt l_Va2; refine wpAnyH_ready (rs := [8]) (by kernel_rfl) (by simp) ?_; refine AllReadyH.cons rfl (fun K hK => ?_) AllReadyH.nil; simp only [gA, gB, gC]; (go_simp); clear c_Va2 f0_Va2 d_Va2 f1_Va2 e_Va2 f2_Va2 l_Va2 m_Va2; refine sto3 Va2 (.string ⟨#[]⟩) (.string ⟨(P.take E).toArray⟩) (.string ⟨(P.drop E).toArray⟩) (Q := fun W => K _ W) ?_
 intro x8 V' oth far; replace V0 := oth _ _ _ (by first | omega | assumption | (simp; omega)) V0; replace V1 := oth _ _ _ (by first | omega | assumption | (simp; omega)) V1; replace B0 := far.2 _ _ (by first | omega | (simp; omega)) B0; replace Va2 := V'; clear oth far; refine hK.out _ _ trivial (fun hHeld => ?_); clear hK K; refine wpAnyH_done (by kernel_rfl) ?_ _; refine NoPanic.normal ?_; clear hHeld; (have hne : x6.heap.size ≠ w.heap.size + 1 := by omega); (have hne2 : w.heap.size + 1 ≠ x6.heap.size := by omega)
 by_cases hu0 : u < 0
 ·
  have c_Va2 := Va2.d0; have f0_Va2 := Va2.frozen 0; have d_Va2 := Va2.d1; have f1_Va2 := Va2.frozen 1; have e_Va2 := Va2.d2; have f2_Va2 := Va2.frozen 2; have l_Va2 := Va2.lt; have m_Va2 := Nat.le_of_lt l_Va2; have n_Va2 := Nat.ne_of_lt l_Va2; have o_Va2 := Nat.ne_of_lt (Nat.lt_succ_of_lt l_Va2); have c_V1 := V1.d0; have f0_V1 := V1.frozen 0; have d_V1 := V1.d1; have f1_V1 := V1.frozen 1; have e_V1 := V1.d2; have f2_V1 := V1.frozen 2; have l_V1 := V1.lt; have m_V1 := Nat.le_of_lt l_V1; have n_V1 := Nat.ne_of_lt l_V1; have o_V1 := Nat.ne_of_lt (Nat.lt_succ_of_lt l_V1); (go_wp2_with fail); refine bodyPost_ret (results_am rfl rfl ((V1.other (p := ⟨x6.heap.size, 0, none⟩) hne2 _).set3 _ _ _)) rfl ?_; exact ⟨t, HTX.out, by rw [HPD.out, HE.out], belo3 (B0.setCell (p := ⟨x6.heap.size, 0, none⟩) (by show w.heap.size ≤ x6.heap.size; omega) _) (by omega) _ _ _⟩
 ·
  have c_Va2 := Va2.d0; have f0_Va2 := Va2.frozen 0; have d_Va2 := Va2.d1; have f1_Va2 := Va2.frozen 1; have e_Va2 := Va2.d2; have f2_Va2 := Va2.frozen 2; have l_Va2 := Va2.lt; have m_Va2 := Nat.le_of_lt l_Va2; have n_Va2 := Nat.ne_of_lt l_Va2; have o_Va2 := Nat.ne_of_lt (Nat.lt_succ_of_lt l_Va2); have c_V1 := V1.d0; have f0_V1 := V1.frozen 0; have d_V1 := V1.d1; have f1_V1 := V1.frozen 1; have e_V1 := V1.d2; have f2_V1 := V1.frozen 2; have l_V1 := V1.lt; have m_V1 := Nat.le_of_lt l_V1; have n_V1 := Nat.ne_of_lt l_V1; have o_V1 := Nat.ne_of_lt (Nat.lt_succ_of_lt l_V1); (go_wp2_with fail); refine bodyPost_ret (results_am rfl rfl (V1.set3 _ _ _)) rfl ?_; exact ⟨t, HTX.out, by rw [HPD.out, HE.out], belo3 B0 (by omega) _ _ _⟩
theorem tell0 (A0 A1 A2 : List UInt8) (w : World) : Calls Tryz.prog 184 #[.agg #[.string ⟨A0.toArray⟩, .string ⟨A1.toArray⟩, .string ⟨A2.toArray⟩]] w fun e w' => e = .returned (.string ⟨A0.toArray⟩) ∧ Below w.heap.size w w' := by
  go_enter Tryz.func184, Tryz.ntmps184
  go_wp2_with fail
  go_ret
  exact ⟨rfl, (Below.refl _ _).alloc (Nat.le_refl _) _⟩
theorem tell1 (A0 A1 A2 : List UInt8) (w : World) : Calls Tryz.prog 186 #[.agg #[.string ⟨A0.toArray⟩, .string ⟨A1.toArray⟩, .string ⟨A2.toArray⟩]] w fun e w' => e = .returned (.string ⟨A1.toArray⟩) ∧ Below w.heap.size w w' := by
  go_enter Tryz.func186, Tryz.ntmps186
  go_wp2_with fail
  go_ret
  exact ⟨rfl, (Below.refl _ _).alloc (Nat.le_refl _) _⟩
theorem tell2 (A0 A1 A2 : List UInt8) (w : World) : Calls Tryz.prog 188 #[.agg #[.string ⟨A0.toArray⟩, .string ⟨A1.toArray⟩, .string ⟨A2.toArray⟩]] w fun e w' => e = .returned (.string ⟨A2.toArray⟩) ∧ Below w.heap.size w w' := by
  go_enter Tryz.func188, Tryz.ntmps188
  go_wp2_with fail
  go_ret
  exact ⟨rfl, (Below.refl _ _).alloc (Nat.le_refl _) _⟩
theorem tellF (A0 A1 A2 : List UInt8) (g : Nat) (t : List UInt8) (w : World) (hg : Bx w g t) : Calls Tryz.prog 181 #[.agg #[.string ⟨A0.toArray⟩, .string ⟨A1.toArray⟩, .string ⟨A2.toArray⟩], .pointer (some ⟨g, 0, none⟩)] w fun e w' => e = .returned (.string ⟨t.toArray⟩) ∧ Below w.heap.size w w' := by
  have c0 := Va.cell hg
  have hl : g < w.heap.size := Va.lt hg
  have c1 := Va.cell (Bx.after (((Below.refl _ _).alloc (Nat.le_refl _) (.cells #[.string ⟨A0.toArray⟩, .string ⟨A1.toArray⟩, .string ⟨A2.toArray⟩] 179))) hg)
  clear hg
  go_enter Tryz.func181, Tryz.ntmps181
  go_wp2_with fail
  go_ret
  exact ⟨rfl, by first | exact Below.refl _ _ | exact (Below.refl _ _).alloc (Nat.le_refl _) _⟩
theorem amountOf10 (nm : List UInt8) (D : Nat) (u : Int) (w : World) (hD : D ≤ 4) (hnl : nm.length = 3) (h1 : -9223372036854775808 ≤ u) (h2 : u ≤ 9223372036854775807) (hP : Pt w) :
    Calls Tryz.prog 137 #[.agg #[.string ⟨nm.toArray⟩, .int .i64 D], .int .i64 u] w fun e w' => ∃ (A0 A1 A2 t : List UInt8), e = .returned (.agg #[.string ⟨A0.toArray⟩, .string ⟨A1.toArray⟩, .string ⟨A2.toArray⟩]) ∧ Hid (Tx 10 t u.natAbs ∧ amt D nm t u = A0 ++ A1 ++ ptD D ++ A2 ++ [32] ++ nm ∧ A0.length + A1.length + A2.length ≤ 40) ∧ Below w.heap.size w w' := by
  refine (amountOf9 nm D u w hD h1 h2 hP).mono ?_
  rintro e w' ⟨t, ht, rfl, hb⟩
  refine ⟨_, _, _, t, rfl, ⟨ht, ?_, ?_⟩, hb⟩
  · have hpl := padL_len D t
    unfold amt textL ptL ptD sgL
    generalize padL D t = p at *
    by_cases hu : u < 0 <;> by_cases h0 : D = 0
    · subst h0; simp [hu]
    · simp [hu, h0]
    · subst h0; simp [hu]
    · simp [hu, h0]
  · have hpl := padL_len D t
    have := tx_len19 ht h1 h2
    split <;> simp <;> omega
theorem Va.kept9 {w w' : World} {k b : Nat} {t e : TypeId} {cs : Array Value} (h : Va w k t cs) (o : Go.Lib.OthersKept e (some b) w w') (hk : k ≠ b) (ht : t ≠ e) : Va w' k t cs :=
  o k _ h (fun e => hk (Option.some.inj e)) (fun c fz e => by injection e with e1 e2; exact ht e2)
theorem wstr9 (B b : Nat) (l : List UInt8) (t : List UInt8) (w : World) (h : Go.Lib.IsBuilderF 183 5 B b (Go.Lib.byteCells l) w) (hlen : l.length + t.length ≤ 140737488355328) (hBw : B ≤ w.heap.size) :
    Calls Tryz.prog 139 #[.pointer (some ⟨b, 0, none⟩), .string ⟨t.toArray⟩] w fun e w' => (∃ v, e = .returned v) ∧ Go.Lib.IsBuilderF 183 5 B b (Go.Lib.byteCells (l ++ t)) w' ∧ Below B w w' ∧ Go.Lib.OthersKept 5 (some b) w w' := by
  refine (Any.Builder_WriteString_k { Tryz.lays105 with } Tryz.Builder_Extra_105 B b (Go.Lib.byteCells l) ⟨t.toArray⟩ w h (by simp [Go.Lib.byteCells]; exact hlen) hBw).mono ?_
  rintro e w' ⟨rfl, h1, h2, h3⟩
  refine ⟨⟨_, rfl⟩, ?_, h2, h3⟩
  rw [Go.Lib.byteCells_append]
  exact .inr h1
set_option maxHeartbeats 4000000 in
theorem text9 (nm : List UInt8) (D : Nat) (u : Int) (w : World) (hC : Cur nm D) (h1 : -9223372036854775808 ≤ u) (h2 : u ≤ 9223372036854775807) (hP : Pt w) :
    Calls Tryz.prog 95 #[.agg #[.string ⟨nm.toArray⟩, .int .i64 D], .int .i64 u] w fun e w' => ∃ t, e = .returned (.tuple #[.string ⟨(amt D nm t u).toArray⟩, .int .i64 0]) ∧ Tx 10 t u.natAbs ∧ Below w.heap.size w w' := by
  have hD : D ≤ 4 := by have := hC.2.2.2; omega
  have hnl : nm.length = 3 := hC.1
  have HP : Hid (Pt w) := hP
  clear hP
  have B0 : Below w.heap.size w w := Below.refl _ _
  go_enter Tryz.func95, Tryz.ntmps95
  go_wp2_with fail
  refine ent1 w _ _ (Q := fun W => Calls Tryz.prog _ _ W _) ?_
  intro x1 hb hs_x1 V0
  replace B0 := step B0 hb
  clear hb hs_x1
  refine (check9_ok nm D hC _).mono ?_
  rintro e x2 ⟨rfl, hb⟩
  replace V0 := Va.after hb V0
  replace B0 := step B0 hb
  clear hb
  have c_V0 := V0.c0
  have f0_V0 := V0.frozen 0
  have d_V0 := V0.c1
  have f1_V0 := V0.frozen 1
  have l_V0 := V0.lt
  have m_V0 := Nat.le_of_lt l_V0
  go_wp2_with fail
  refine (amountOf10 nm D u _ hD hnl h1 h2 (HP.out.to B0)).mono ?_
  rintro e x3 ⟨A0, A1, A2, t, rfl, HA, hb⟩
  replace V0 := Va.after hb V0
  replace B0 := step B0 hb
  clear hb
  clear c_V0 f0_V0 d_V0 f1_V0 l_V0 m_V0
  have c_V0 := V0.c0
  have f0_V0 := V0.frozen 0
  have d_V0 := V0.c1
  have f1_V0 := V0.frozen 1
  have l_V0 := V0.lt
  have m_V0 := Nat.le_of_lt l_V0
  go_wp2_with fail
  refine ent2 x3 _ _ _ _ (Q := fun W => Calls Tryz.prog _ _ W _) ?_
  intro x4 hb hs_x4 Vm Vb
  replace V0 := Va.after hb V0
  replace B0 := step B0 hb
  clear hb hs_x4
  obtain ⟨bb, hbb⟩ : ∃ bb, x3.heap.size + 1 = bb := ⟨_, rfl⟩
  have hbw : w.heap.size ≤ bb := by rw [← hbb]; omega
  have hne : x3.heap.size ≠ bb := by omega
  rw [hbb] at Vb ⊢
  have hB0 : Go.Lib.IsBuilderF 183 5 bb bb (Go.Lib.byteCells []) x4 := Go.Lib.IsBuilderF.of (Or.inl ⟨Nat.le_refl _, .slice none 0 0, Vb, World.ownsRow_nil _ _ _ _, by simp [Value.ownBlock]⟩)
  have hlt := Vb.lt
  have HL : Hid (bb ≤ x4.heap.size) := Nat.le_of_lt hlt
  clear hlt
  clear c_V0 f0_V0 d_V0 f1_V0 l_V0 m_V0
  clear V0
  refine (pieces9 nm D _).mono ?_
  rintro e y0 ⟨g, g1, g2, g3, rfl, Vg, b1, b2, b3, hb⟩
  replace Vm := Va.after hb Vm
  replace Vb := Va.after hb Vb
  replace hB0 := bld_after hb hB0
  replace HL : Hid (bb ≤ y0.heap.size) := Nat.le_trans HL.out hb.size
  replace B0 := step B0 hb
  clear hb hbb
  have ng : g ≠ bb := Vg.neT9 Vb (by decide)
  have ng1 : g1 ≠ bb := Va.neT9 b1 Vb (by decide)
  have ng2 : g2 ≠ bb := Va.neT9 b2 Vb (by decide)
  have ng3 : g3 ≠ bb := Va.neT9 b3 Vb (by decide)
  clear Vb
  have HBd : Hid (Go.Lib.IsBuilderF 183 5 bb bb (Go.Lib.byteCells []) y0) := hB0
  clear hB0
  have HLA : Hid (A0.length + A1.length + A2.length ≤ 40) := HA.out.2.2
  have hpd : (ptD D).length ≤ 1 := by unfold ptD; split <;> simp
  go_wp2_with fail
  refine wp_loop_rounds 7 ?_
  rw [rounds_succ]
  have q0 : y0.cell? ⟨g, 0, none⟩ = some (.func (.func 184) #[] #[]) := Vg.cellAt 0
  have q1 : y0.cell? ⟨g, 1, none⟩ = some (.func (.func 185) #[] #[]) := Vg.cellAt 1
  have m0 := Vm.d0
  have m1 := Vm.d1
  have m2 := Vm.d2
  have ml := Vm.lt
  have k0 := (Vm.old (.cells #[.func (.func 184) #[] #[], .func (.func 185) #[] #[]] 189)).d0
  have k1 := (Vm.old (.cells #[.func (.func 184) #[] #[], .func (.func 185) #[] #[]] 189)).d1
  have k2 := (Vm.old (.cells #[.func (.func 184) #[] #[], .func (.func 185) #[] #[]] 189)).d2
  go_wp2_with fail
  clear q0 q1 m0 m1 m2 ml k0 k1 k2
  refine ent1 y0 _ _ (Q := fun W => Calls Tryz.prog _ _ W _) ?_
  intro y1a hb hs_ Vp
  clear hs_ Vp
  replace Vm := Va.after hb Vm
  replace Vg := Va.after hb Vg
  replace b1 := Bx.after hb b1
  replace b2 := Bx.after hb b2
  replace b3 := Bx.after hb b3
  replace HBd : Hid (Go.Lib.IsBuilderF 183 5 bb bb (Go.Lib.byteCells ([])) y1a) := bld_after hb HBd.out
  replace HL : Hid (bb ≤ y1a.heap.size) := Nat.le_trans HL.out hb.size
  replace B0 := step B0 hb
  clear hb
  refine (tell0 A0 A1 A2 y1a).mono ?_
  rintro e y1b ⟨rfl, hb⟩
  replace Vm := Va.after hb Vm
  replace Vg := Va.after hb Vg
  replace b1 := Bx.after hb b1
  replace b2 := Bx.after hb b2
  replace b3 := Bx.after hb b3
  replace HBd : Hid (Go.Lib.IsBuilderF 183 5 bb bb (Go.Lib.byteCells ([])) y1b) := bld_after hb HBd.out
  replace HL : Hid (bb ≤ y1b.heap.size) := Nat.le_trans HL.out hb.size
  replace B0 := step B0 hb
  clear hb
  go_wp2_with fail
  refine (wstr9 bb bb ([]) A0 y1b HBd.out (by have := HLA.out; simp; omega) HL.out).mono ?_
  rintro e y1 ⟨⟨v0, rfl⟩, hB1, hb, ho⟩
  replace Vm := Vm.kept9 ho hne (by decide)
  replace Vg := Vg.kept9 ho ng (by decide)
  replace b1 : Bx y1 g1 (ptD D) := Va.kept9 b1 ho ng1 (by decide)
  replace b2 : Bx y1 g2 [32] := Va.kept9 b2 ho ng2 (by decide)
  replace b3 : Bx y1 g3 nm := Va.kept9 b3 ho ng3 (by decide)
  replace HBd : Hid (Go.Lib.IsBuilderF 183 5 bb bb (Go.Lib.byteCells (A0)) y1) := hB1
  replace HL : Hid (bb ≤ y1.heap.size) := Nat.le_trans HL.out hb.size
  replace B0 := B0.trans (hb.mono hbw)
  clear hb ho hB1
  go_wp2_with fail
  rw [rounds_succ]
  have q0 : y1.cell? ⟨g, 2, none⟩ = some (.func (.func 186) #[] #[]) := Vg.cellAt 2
  have q1 : y1.cell? ⟨g, 3, none⟩ = some (.func (.func 187) #[] #[]) := Vg.cellAt 3
  have m0 := Vm.d0
  have m1 := Vm.d1
  have m2 := Vm.d2
  have ml := Vm.lt
  have k0 := (Vm.old (.cells #[.func (.func 186) #[] #[], .func (.func 187) #[] #[]] 189)).d0
  have k1 := (Vm.old (.cells #[.func (.func 186) #[] #[], .func (.func 187) #[] #[]] 189)).d1
  have k2 := (Vm.old (.cells #[.func (.func 186) #[] #[], .func (.func 187) #[] #[]] 189)).d2
  go_wp2_with fail
  clear q0 q1 m0 m1 m2 ml k0 k1 k2
  refine ent1 y1 _ _ (Q := fun W => Calls Tryz.prog _ _ W _) ?_
  intro y2a hb hs_ Vp
  clear hs_ Vp
  replace Vm := Va.after hb Vm
  replace Vg := Va.after hb Vg
  replace b1 := Bx.after hb b1
  replace b2 := Bx.after hb b2
  replace b3 := Bx.after hb b3
  replace HBd : Hid (Go.Lib.IsBuilderF 183 5 bb bb (Go.Lib.byteCells (A0)) y2a) := bld_after hb HBd.out
  replace HL : Hid (bb ≤ y2a.heap.size) := Nat.le_trans HL.out hb.size
  replace B0 := step B0 hb
  clear hb
  refine (tell1 A0 A1 A2 y2a).mono ?_
  rintro e y2b ⟨rfl, hb⟩
  replace Vm := Va.after hb Vm
  replace Vg := Va.after hb Vg
  replace b1 := Bx.after hb b1
  replace b2 := Bx.after hb b2
  replace b3 := Bx.after hb b3
  replace HBd : Hid (Go.Lib.IsBuilderF 183 5 bb bb (Go.Lib.byteCells (A0)) y2b) := bld_after hb HBd.out
  replace HL : Hid (bb ≤ y2b.heap.size) := Nat.le_trans HL.out hb.size
  replace B0 := step B0 hb
  clear hb
  go_wp2_with fail
  refine (wstr9 bb bb (A0) A1 y2b HBd.out (by have := HLA.out; simp; omega) HL.out).mono ?_
  rintro e y2 ⟨⟨v1, rfl⟩, hB1, hb, ho⟩
  replace Vm := Vm.kept9 ho hne (by decide)
  replace Vg := Vg.kept9 ho ng (by decide)
  replace b1 : Bx y2 g1 (ptD D) := Va.kept9 b1 ho ng1 (by decide)
  replace b2 : Bx y2 g2 [32] := Va.kept9 b2 ho ng2 (by decide)
  replace b3 : Bx y2 g3 nm := Va.kept9 b3 ho ng3 (by decide)
  replace HBd : Hid (Go.Lib.IsBuilderF 183 5 bb bb (Go.Lib.byteCells (A0 ++ A1)) y2) := hB1
  replace HL : Hid (bb ≤ y2.heap.size) := Nat.le_trans HL.out hb.size
  replace B0 := B0.trans (hb.mono hbw)
  clear hb ho hB1
  go_wp2_with fail
  rw [rounds_succ]
  have q0 : y2.cell? ⟨g, 4, none⟩ = some (.func (.func 181) #[] #[.pointer (some ⟨g1, 0, none⟩)]) := Vg.cellAt 4
  have q1 : y2.cell? ⟨g, 5, none⟩ = some (.func (.func 182) #[] #[.pointer (some ⟨g1, 0, none⟩)]) := Vg.cellAt 5
  have m0 := Vm.d0
  have m1 := Vm.d1
  have m2 := Vm.d2
  have ml := Vm.lt
  have k0 := (Vm.old (.cells #[.func (.func 181) #[] #[.pointer (some ⟨g1, 0, none⟩)], .func (.func 182) #[] #[.pointer (some ⟨g1, 0, none⟩)]] 189)).d0
  have k1 := (Vm.old (.cells #[.func (.func 181) #[] #[.pointer (some ⟨g1, 0, none⟩)], .func (.func 182) #[] #[.pointer (some ⟨g1, 0, none⟩)]] 189)).d1
  have k2 := (Vm.old (.cells #[.func (.func 181) #[] #[.pointer (some ⟨g1, 0, none⟩)], .func (.func 182) #[] #[.pointer (some ⟨g1, 0, none⟩)]] 189)).d2
  go_wp2_with fail
  clear q0 q1 m0 m1 m2 ml k0 k1 k2
  refine ent1 y2 _ _ (Q := fun W => Calls Tryz.prog _ _ W _) ?_
  intro y3a hb hs_ Vp
  clear hs_ Vp
  replace Vm := Va.after hb Vm
  replace Vg := Va.after hb Vg
  replace b1 := Bx.after hb b1
  replace b2 := Bx.after hb b2
  replace b3 := Bx.after hb b3
  replace HBd : Hid (Go.Lib.IsBuilderF 183 5 bb bb (Go.Lib.byteCells (A0 ++ A1)) y3a) := bld_after hb HBd.out
  replace HL : Hid (bb ≤ y3a.heap.size) := Nat.le_trans HL.out hb.size
  replace B0 := step B0 hb
  clear hb
  refine (tellF A0 A1 A2 g1 (ptD D) y3a b1).mono ?_
  rintro e y3b ⟨rfl, hb⟩
  replace Vm := Va.after hb Vm
  replace Vg := Va.after hb Vg
  replace b1 := Bx.after hb b1
  replace b2 := Bx.after hb b2
  replace b3 := Bx.after hb b3
  replace HBd : Hid (Go.Lib.IsBuilderF 183 5 bb bb (Go.Lib.byteCells (A0 ++ A1)) y3b) := bld_after hb HBd.out
  replace HL : Hid (bb ≤ y3b.heap.size) := Nat.le_trans HL.out hb.size
  replace B0 := step B0 hb
  clear hb
  go_wp2_with fail
  refine (wstr9 bb bb (A0 ++ A1) (ptD D) y3b HBd.out (by have := HLA.out; simp; omega) HL.out).mono ?_
  rintro e y3 ⟨⟨v2, rfl⟩, hB1, hb, ho⟩
  replace Vm := Vm.kept9 ho hne (by decide)
  replace Vg := Vg.kept9 ho ng (by decide)
  replace b1 : Bx y3 g1 (ptD D) := Va.kept9 b1 ho ng1 (by decide)
  replace b2 : Bx y3 g2 [32] := Va.kept9 b2 ho ng2 (by decide)
  replace b3 : Bx y3 g3 nm := Va.kept9 b3 ho ng3 (by decide)
  replace HBd : Hid (Go.Lib.IsBuilderF 183 5 bb bb (Go.Lib.byteCells (A0 ++ A1 ++ (ptD D))) y3) := hB1
  replace HL : Hid (bb ≤ y3.heap.size) := Nat.le_trans HL.out hb.size
  replace B0 := B0.trans (hb.mono hbw)
  clear hb ho hB1
  go_wp2_with fail
  rw [rounds_succ]
  have q0 : y3.cell? ⟨g, 6, none⟩ = some (.func (.func 188) #[] #[]) := Vg.cellAt 6
  have q1 : y3.cell? ⟨g, 7, none⟩ = some (.func (.func 189) #[] #[]) := Vg.cellAt 7
  have m0 := Vm.d0
  have m1 := Vm.d1
  have m2 := Vm.d2
  have ml := Vm.lt
  have k0 := (Vm.old (.cells #[.func (.func 188) #[] #[], .func (.func 189) #[] #[]] 189)).d0
  have k1 := (Vm.old (.cells #[.func (.func 188) #[] #[], .func (.func 189) #[] #[]] 189)).d1
  have k2 := (Vm.old (.cells #[.func (.func 188) #[] #[], .func (.func 189) #[] #[]] 189)).d2
  go_wp2_with fail
  clear q0 q1 m0 m1 m2 ml k0 k1 k2
  refine ent1 y3 _ _ (Q := fun W => Calls Tryz.prog _ _ W _) ?_
  intro y4a hb hs_ Vp
  clear hs_ Vp
  replace Vm := Va.after hb Vm
  replace Vg := Va.after hb Vg
  replace b1 := Bx.after hb b1
  replace b2 := Bx.after hb b2
  replace b3 := Bx.after hb b3
  replace HBd : Hid (Go.Lib.IsBuilderF 183 5 bb bb (Go.Lib.byteCells (A0 ++ A1 ++ (ptD D))) y4a) := bld_after hb HBd.out
  replace HL : Hid (bb ≤ y4a.heap.size) := Nat.le_trans HL.out hb.size
  replace B0 := step B0 hb
  clear hb
  refine (tell2 A0 A1 A2 y4a).mono ?_
  rintro e y4b ⟨rfl, hb⟩
  replace Vm := Va.after hb Vm
  replace Vg := Va.after hb Vg
  replace b1 := Bx.after hb b1
  replace b2 := Bx.after hb b2
  replace b3 := Bx.after hb b3
  replace HBd : Hid (Go.Lib.IsBuilderF 183 5 bb bb (Go.Lib.byteCells (A0 ++ A1 ++ (ptD D))) y4b) := bld_after hb HBd.out
  replace HL : Hid (bb ≤ y4b.heap.size) := Nat.le_trans HL.out hb.size
  replace B0 := step B0 hb
  clear hb
  go_wp2_with fail
  refine (wstr9 bb bb (A0 ++ A1 ++ (ptD D)) A2 y4b HBd.out (by have := HLA.out; simp; omega) HL.out).mono ?_
  rintro e y4 ⟨⟨v3, rfl⟩, hB1, hb, ho⟩
  replace Vm := Vm.kept9 ho hne (by decide)
  replace Vg := Vg.kept9 ho ng (by decide)
  replace b1 : Bx y4 g1 (ptD D) := Va.kept9 b1 ho ng1 (by decide)
  replace b2 : Bx y4 g2 [32] := Va.kept9 b2 ho ng2 (by decide)
  replace b3 : Bx y4 g3 nm := Va.kept9 b3 ho ng3 (by decide)
  replace HBd : Hid (Go.Lib.IsBuilderF 183 5 bb bb (Go.Lib.byteCells (A0 ++ A1 ++ (ptD D) ++ A2)) y4) := hB1
  replace HL : Hid (bb ≤ y4.heap.size) := Nat.le_trans HL.out hb.size
  replace B0 := B0.trans (hb.mono hbw)
  clear hb ho hB1
  go_wp2_with fail
  rw [rounds_succ]
  have q0 : y4.cell? ⟨g, 8, none⟩ = some (.func (.func 181) #[] #[.pointer (some ⟨g2, 0, none⟩)]) := Vg.cellAt 8
  have q1 : y4.cell? ⟨g, 9, none⟩ = some (.func (.func 182) #[] #[.pointer (some ⟨g2, 0, none⟩)]) := Vg.cellAt 9
  have m0 := Vm.d0
  have m1 := Vm.d1
  have m2 := Vm.d2
  have ml := Vm.lt
  have k0 := (Vm.old (.cells #[.func (.func 181) #[] #[.pointer (some ⟨g2, 0, none⟩)], .func (.func 182) #[] #[.pointer (some ⟨g2, 0, none⟩)]] 189)).d0
  have k1 := (Vm.old (.cells #[.func (.func 181) #[] #[.pointer (some ⟨g2, 0, none⟩)], .func (.func 182) #[] #[.pointer (some ⟨g2, 0, none⟩)]] 189)).d1
  have k2 := (Vm.old (.cells #[.func (.func 181) #[] #[.pointer (some ⟨g2, 0, none⟩)], .func (.func 182) #[] #[.pointer (some ⟨g2, 0, none⟩)]] 189)).d2
  go_wp2_with fail
  clear q0 q1 m0 m1 m2 ml k0 k1 k2
  refine ent1 y4 _ _ (Q := fun W => Calls Tryz.prog _ _ W _) ?_
  intro y5a hb hs_ Vp
  clear hs_ Vp
  replace Vm := Va.after hb Vm
  replace Vg := Va.after hb Vg
  replace b1 := Bx.after hb b1
  replace b2 := Bx.after hb b2
  replace b3 := Bx.after hb b3
  replace HBd : Hid (Go.Lib.IsBuilderF 183 5 bb bb (Go.Lib.byteCells (A0 ++ A1 ++ (ptD D) ++ A2)) y5a) := bld_after hb HBd.out
  replace HL : Hid (bb ≤ y5a.heap.size) := Nat.le_trans HL.out hb.size
  replace B0 := step B0 hb
  clear hb
  refine (tellF A0 A1 A2 g2 [32] y5a b2).mono ?_
  rintro e y5b ⟨rfl, hb⟩
  replace Vm := Va.after hb Vm
  replace Vg := Va.after hb Vg
  replace b1 := Bx.after hb b1
  replace b2 := Bx.after hb b2
  replace b3 := Bx.after hb b3
  replace HBd : Hid (Go.Lib.IsBuilderF 183 5 bb bb (Go.Lib.byteCells (A0 ++ A1 ++ (ptD D) ++ A2)) y5b) := bld_after hb HBd.out
  replace HL : Hid (bb ≤ y5b.heap.size) := Nat.le_trans HL.out hb.size
  replace B0 := step B0 hb
  clear hb
  go_wp2_with fail
  refine (wstr9 bb bb (A0 ++ A1 ++ (ptD D) ++ A2) [32] y5b HBd.out (by have := HLA.out; simp; omega) HL.out).mono ?_
  rintro e y5 ⟨⟨v4, rfl⟩, hB1, hb, ho⟩
  replace Vm := Vm.kept9 ho hne (by decide)
  replace Vg := Vg.kept9 ho ng (by decide)
  replace b1 : Bx y5 g1 (ptD D) := Va.kept9 b1 ho ng1 (by decide)
  replace b2 : Bx y5 g2 [32] := Va.kept9 b2 ho ng2 (by decide)
  replace b3 : Bx y5 g3 nm := Va.kept9 b3 ho ng3 (by decide)
  replace HBd : Hid (Go.Lib.IsBuilderF 183 5 bb bb (Go.Lib.byteCells (A0 ++ A1 ++ (ptD D) ++ A2 ++ [32])) y5) := hB1
  replace HL : Hid (bb ≤ y5.heap.size) := Nat.le_trans HL.out hb.size
  replace B0 := B0.trans (hb.mono hbw)
  clear hb ho hB1
  go_wp2_with fail
  rw [rounds_succ]
  have q0 : y5.cell? ⟨g, 10, none⟩ = some (.func (.func 181) #[] #[.pointer (some ⟨g3, 0, none⟩)]) := Vg.cellAt 10
  have q1 : y5.cell? ⟨g, 11, none⟩ = some (.func (.func 182) #[] #[.pointer (some ⟨g3, 0, none⟩)]) := Vg.cellAt 11
  have m0 := Vm.d0
  have m1 := Vm.d1
  have m2 := Vm.d2
  have ml := Vm.lt
  have k0 := (Vm.old (.cells #[.func (.func 181) #[] #[.pointer (some ⟨g3, 0, none⟩)], .func (.func 182) #[] #[.pointer (some ⟨g3, 0, none⟩)]] 189)).d0
  have k1 := (Vm.old (.cells #[.func (.func 181) #[] #[.pointer (some ⟨g3, 0, none⟩)], .func (.func 182) #[] #[.pointer (some ⟨g3, 0, none⟩)]] 189)).d1
  have k2 := (Vm.old (.cells #[.func (.func 181) #[] #[.pointer (some ⟨g3, 0, none⟩)], .func (.func 182) #[] #[.pointer (some ⟨g3, 0, none⟩)]] 189)).d2
  go_wp2_with fail
  clear q0 q1 m0 m1 m2 ml k0 k1 k2
  refine ent1 y5 _ _ (Q := fun W => Calls Tryz.prog _ _ W _) ?_
  intro y6a hb hs_ Vp
  clear hs_ Vp
  replace Vm := Va.after hb Vm
  replace Vg := Va.after hb Vg
  replace b1 := Bx.after hb b1
  replace b2 := Bx.after hb b2
  replace b3 := Bx.after hb b3
  replace HBd : Hid (Go.Lib.IsBuilderF 183 5 bb bb (Go.Lib.byteCells (A0 ++ A1 ++ (ptD D) ++ A2 ++ [32])) y6a) := bld_after hb HBd.out
  replace HL : Hid (bb ≤ y6a.heap.size) := Nat.le_trans HL.out hb.size
  replace B0 := step B0 hb
  clear hb
  refine (tellF A0 A1 A2 g3 nm y6a b3).mono ?_
  rintro e y6b ⟨rfl, hb⟩
  replace Vm := Va.after hb Vm
  replace Vg := Va.after hb Vg
  replace b1 := Bx.after hb b1
  replace b2 := Bx.after hb b2
  replace b3 := Bx.after hb b3
  replace HBd : Hid (Go.Lib.IsBuilderF 183 5 bb bb (Go.Lib.byteCells (A0 ++ A1 ++ (ptD D) ++ A2 ++ [32])) y6b) := bld_after hb HBd.out
  replace HL : Hid (bb ≤ y6b.heap.size) := Nat.le_trans HL.out hb.size
  replace B0 := step B0 hb
  clear hb
  go_wp2_with fail
  refine (wstr9 bb bb (A0 ++ A1 ++ (ptD D) ++ A2 ++ [32]) nm y6b HBd.out (by have := HLA.out; simp; omega) HL.out).mono ?_
  rintro e y6 ⟨⟨v5, rfl⟩, hB1, hb, ho⟩
  replace Vm := Vm.kept9 ho hne (by decide)
  replace Vg := Vg.kept9 ho ng (by decide)
  replace b1 : Bx y6 g1 (ptD D) := Va.kept9 b1 ho ng1 (by decide)
  replace b2 : Bx y6 g2 [32] := Va.kept9 b2 ho ng2 (by decide)
  replace b3 : Bx y6 g3 nm := Va.kept9 b3 ho ng3 (by decide)
  replace HBd : Hid (Go.Lib.IsBuilderF 183 5 bb bb (Go.Lib.byteCells (A0 ++ A1 ++ (ptD D) ++ A2 ++ [32] ++ nm)) y6) := hB1
  replace HL : Hid (bb ≤ y6.heap.size) := Nat.le_trans HL.out hb.size
  replace B0 := B0.trans (hb.mono hbw)
  clear hb ho hB1
  go_wp2_with fail
  rw [rounds_succ]
  go_wp2_with fail
  refine (Tryz.Builder_String_any_k bb bb (A0 ++ A1 ++ (ptD D) ++ A2 ++ [32] ++ nm) y6 HBd.out HL.out).mono ?_
  rintro e y7 ⟨rfl, -, hb, -⟩
  go_wp2_with fail
  have ea : amt D nm t u = A0 ++ (A1 ++ (ptD D ++ (A2 ++ 32 :: nm))) := by rw [HA.out.2.1]; simp
  go_ret2
  exact ⟨t, by rw [ea]; rfl, HA.out.1, B0.trans (hb.mono hbw)⟩
end Go.Proofs.YtebbblhafjaaiaaGreatDoor
namespace Go.Proofs.YtebbblhafjaaiaaGreatDoor
open Go.RowKit Go.Shelf
set_option linter.unusedVariables false

/-- A list of int64s as it lies. -/
def Li (w : World) (a : Option Addr) (len : Nat) (zs : List Int) : Prop :=
  zs.length = len ∧ (∀ z ∈ zs, b64 z) ∧ (0 < len → ∃ b off, a = some ⟨b, off, none⟩ ∧ ∀ i, i < len → w.cell? ⟨b, off + i, none⟩ = some (.int .i64 (zs.getD i 0)))
theorem Li.get {w : World} {a : Option Addr} {len : Nat} {zs : List Int} (h : Li w a len zs) {k : Nat} (hk : k < len) : b64 (zs.getD k 0) := by
  have hl : k < zs.length := by rw [h.1]; exact hk
  rw [List.getD_eq_getElem?_getD, List.getElem?_eq_getElem hl]
  exact h.2.1 _ (List.getElem_mem hl)
set_option maxHeartbeats 1000000 in
theorem sum9 (a : Option Addr) (len cap : Nat) (zs : List Int) (w : World) (h : Li w a len zs) (hl : len ≤ 20000000000000) :
    Calls Tryz.prog 98 #[.slice a len cap] w fun e w' => e = .returned (.tuple #[.int .i64 (fit9 (lsum zs)).1, .int .i64 (fit9 (lsum zs)).2]) ∧ w' = w := by
  have HL : Hid (Li w a len zs) := h
  clear h
  go_enter Tryz.func98, Tryz.ntmps98
  go_wp2_with fail
  go_loopw [4, 5, 12] (fun lo hi i wr => ∃ (k : Nat) (low high : Int), lo = .int .u64 low ∧ hi = .int .i64 high ∧ i = .int .i64 k ∧ k ≤ len ∧ Hid (SI zs k low high) ∧ wr = w) (fun lo hi i _ => ((len : Int) - intOf i).toNat)
  case atStart => exact ⟨0, 0, 0, rfl, rfl, rfl, by omega, si_nil _, rfl⟩
  case round =>
    obtain ⟨k, low, high, rfl, rfl, rfl, hk, HI, rfl⟩ := hrel
    by_cases hkl : k < len
    · have hki : (k : Int) < len := by omega
      obtain ⟨b, off, rfl, hcell⟩ := HL.out.2.2 (by omega)
      have ck := hcell k hkl
      have hz := HL.out.get hkl
      have HS : Hid _ := si_step HI.out (by rw [HL.out.1]; exact hkl) hz
      obtain ⟨z, hzz⟩ : ∃ z, zs.getD k 0 = z := ⟨_, rfl⟩
      rw [hzz] at ck hz HS
      obtain ⟨b1, b2⟩ := hz
      obtain ⟨i1, i2, i3, i4, i5⟩ := HI.out
      obtain ⟨y, hy⟩ : ∃ y, z % 18446744073709551616 = y := ⟨_, rfl⟩
      rw [hy] at HS
      have hyw : IntKind.u64.wrap z = y := hy
      have hy0 : 0 ≤ y := by omega
      have hyl : y < 18446744073709551616 := by omega
      clear hcell hzz i1
      go_wp2_with (simp only [add64_0 low y i2 hy0])
      go_roundw
      case rel => exact ⟨k + 1, _, _, rfl, rfl, by simp, by omega, HS.out, trivial⟩
      case measure => simp [intOf]; omega
    · have hki : ¬ (k : Int) < len := by omega
      obtain rfl : k = len := by omega
      obtain ⟨sg, hsg⟩ : ∃ sg, sg = if low < 9223372036854775808 then low else low - 18446744073709551616 := ⟨_, rfl⟩
      have hw : wrap64 low = sg := by
        obtain ⟨i1, i2, i3, i4, i5⟩ := HI.out
        unfold wrap64
        rw [hsg]; split <;> omega
      have hI : SI zs zs.length low high := by have := HI.out; rwa [← HL.out.1] at this
      obtain ⟨e1, e2⟩ := si_end hI sg hsg
      obtain ⟨hi2, hh2⟩ : ∃ q, sg / 9223372036854775808 = q := ⟨_, rfl⟩
      rw [hh2] at e1 e2
      have b1 : -9223372036854775808 ≤ sg ∧ sg ≤ 9223372036854775807 := by
        obtain ⟨i1, i2, i3, i4, i5⟩ := HI.out
        rw [hsg]; split <;> omega
      clear hsg hI
      by_cases hq : high = hi2
      · have HE : Hid (fit9 (lsum zs) = (sg, 0)) := e1 hq
        have hqb : (high == hi2) = true := by simpa using hq
        clear e1 e2
        subst hq
        go_wp2_with fail
        go_ret2
        exact ⟨by rw [HE.out]; rfl, rfl⟩
      · have HE : Hid (fit9 (lsum zs) = (0, 5)) := e2 hq
        have hqb : (high == hi2) = false := by simpa using hq
        clear e1 e2
        go_wp2_with fail
        go_ret2
        exact ⟨by rw [HE.out]; rfl, rfl⟩
end Go.Proofs.YtebbblhafjaaiaaGreatDoor
namespace Go.Proofs.YtebbblhafjaaiaaGreatDoor
open Go.RowKit Go.Shelf
set_option linter.unusedVariables false

theorem gTmT : (Tryz.prog.globals[1]?).map (·.type) = some 143 := by kernel_rfl
theorem cTm : Tryz.prog.cellsOf 143 = 5 := by kernel_rfl
theorem cI64m : Tryz.prog.cellsOf 2 = 1 := by kernel_rfl
theorem tmOf {W : World} {rest : List (String × DataW Unit)} (h : laidMet Tryz.prog (("tollbook/money.tens", Rows.laid_tollbook_money_tens) :: rest) W) : Tm W :=
  Go.Lib.tabIs_of_head (zs := [1, 10, 100, 1000, 10000]) gTm gTmT Tryz.underlying143 Tryz.underlying2 cI64m cTm h
theorem ba_eta (s : ByteArray) : (⟨s.data.toList.toArray⟩ : ByteArray) = s := by simp
theorem b64_of_wf {x : Int} (h : (Lit.int .i64 x).wf = true) : -9223372036854775808 ≤ x ∧ x ≤ 9223372036854775807 := by
  simp [Lit.wf, IntKind.min, IntKind.max, IntKind.signed, IntKind.bits] at h
  exact ⟨by omega, by omega⟩
end Go.Proofs.YtebbblhafjaaiaaGreatDoor
