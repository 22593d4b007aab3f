/-
  traits: isSo, and what a node holds, told what its kids hold.
-/
import Derived.Test.YtblafbbnplfpjaaGreatDoorTr5
namespace Go.Proofs.YtblafbbnplfpjaaGreatDoor
open Go.RowKit Go.Shelf
set_option linter.unusedVariables false

set_option maxHeartbeats 4000000 in
theorem isSo_any (op U : Int) (P : Nat) (h1 : -9223372036854775808 ≤ U) (h2 : U ≤ 9223372036854775807) (hc : Can U P) (s : Bool) (a : Option Addr) (l c : Nat) (zs : List Int) (b : Option Addr) (m d : Nat) (ds : List Int) (q : Rat) (w : World) (hT : Tn w) (hq : Rt w s a l c zs b m d ds q) :
    Calls Tryz.prog 38 #[.agg #[.bool s, .slice a l c, .slice b m d], .int .i64 op, .agg #[.int .i64 U, .int .i64 P]] w fun e w' => e = .returned (.bool (bySo op (qcmp q (Rat.divInt U (10 ^ P))))) ∧ Below w.heap.size w w' := by
  have HT : Hid (Tn w) := hT
  have HCn : Hid (Can U P) := hc
  obtain ⟨C, hC⟩ : ∃ C, qcmp q (Rat.divInt U (10 ^ P)) = C := ⟨_, rfl⟩
  have HQ : Hid (qcmp q (Rat.divInt U (10 ^ P)) = C) := hC
  rw [hC]
  obtain ⟨R, hR⟩ : ∃ R, bySo op C = R := ⟨_, rfl⟩
  have HR : Hid (bySo op C = R) := hR
  rw [hR]
  clear hT hc hC hR
  have B0 : Below w.heap.size w w := Below.refl _ _
  go_enter Tryz.func38, Tryz.ntmps38
  go_wp2_with fail
  refine ent2 w _ _ _ _ (Q := fun W => Calls Tryz.prog _ _ W _) ?_
  intro x1 hb hs V0 V1
  replace B0 := step B0 hb
  replace hq := Rt.after hb hq
  clear hb hs V1
  refine (rat_ok U P h1 h2 HCn.out _ (HT.out.to B0)).mono ?_
  rintro e x2 ⟨s2, a2, l2, c2, z2, b2, m2, d2, y2, rfl, hx, hb⟩
  replace V0 := Va.after hb V0
  replace hq := Rt.after hb hq
  replace B0 := step B0 hb
  clear hb
  go_upto_region 2 with fail
  refine ent1 x2 _ _ (Q := fun W => Code.wp _ _ _ _ W) ?_
  intro x3 hb hs V1
  replace V0 := Va.after hb V0
  replace hq := Rt.after hb hq
  replace hx := Rt.after hb hx
  replace B0 := step B0 hb
  have c0 := V0.d0
  have c1 := V0.d1
  have c2' := V0.d2
  have e0 := V1.d0
  have e1 := V1.d1
  have e2 := V1.d2
  clear hb hs
  go_wp2_with fail
  have C9 := qcompare_any s a l c zs b m d ds _ s2 a2 l2 c2 z2 b2 m2 d2 y2 _ _ hq hx
  rw [HQ.out] at C9
  refine C9.mono ?_
  rintro e x4 ⟨rfl, hb⟩
  replace B0 := step B0 hb
  clear hb c0 c1 c2' e0 e1 e2 V0 V1 hq hx C9 HQ
  by_cases o1 : op = 1
  · subst o1
    go_wp2_with fail
    go_ret
    exact ⟨by rw [← HR.out]; rfl, B0⟩
  · by_cases o2 : op = 2
    · subst o2
      go_wp2_with fail
      go_ret
      exact ⟨by rw [← HR.out]; rfl, B0⟩
    · by_cases o3 : op = 3
      · subst o3
        go_wp2_with fail
        go_ret
        exact ⟨by rw [← HR.out]; rfl, B0⟩
      · have HR2 : Hid (R = decide (0 ≤ C)) := by show _ = _; rw [← HR.out]; simp [bySo, o1, o2, o3]
        clear HR
        go_wp2_with fail
        go_ret
        exact ⟨by rw [HR2.out]; rfl, B0⟩
/-- What a test holds for facts: the buyer's and the line's traits, the amount and the quantity as numbers. -/
def vfa (by1 ln1 : List (List UInt8)) (A Q : Rat) (n : Nd) : Bool :=
  if n.kd = 4 then by1.contains n.nm else if n.kd = 5 then ln1.contains n.nm else if n.kd = 6 then bySo n.op (qcmp A (vq n)) else bySo n.op (qcmp Q (vq n))
theorem vfa_turns (by1 ln1 : List (List UInt8)) (A Q : Rat) : Turns (vfa by1 ln1 A Q) := by
  intro n hk h1 h4
  unfold vfa
  rcases hk with hk | hk
  · simp only [hk]; simp; exact bySo_turn h1 h4 _
  · simp only [hk]; simp; exact bySo_turn h1 h4 _
theorem any_contains (l : List Bool) : l.any id = l.contains true := by
  induction l with
  | nil => rfl
  | cons b l ih => cases b <;> simp [ih]
theorem all_contains (l : List Bool) : l.all id = !l.contains false := by
  induction l with
  | nil => rfl
  | cons b l ih => cases b <;> simp [ih]
/-- Facts in a variable. -/
def cf (a1 : Option Addr) (l1 c1 : Nat) (a2 : Option Addr) (l2 c2 : Nat) (am dg qt : Int) : Array Value := #[.slice a1 l1 c1, .slice a2 l2 c2, .int .i64 am, .int .i64 dg, .int .i64 qt]
theorem Va.f0 {w : World} {b : Nat} {t : TypeId} {x0 x1 x2 x3 x4 : Value} (h : Va w b t #[x0, x1, x2, x3, x4]) : w.cell? ⟨b, 0, none⟩ = some x0 := by rw [h.cellAt 0]; rfl
theorem Va.f1 {w : World} {b : Nat} {t : TypeId} {x0 x1 x2 x3 x4 : Value} (h : Va w b t #[x0, x1, x2, x3, x4]) : w.cell? ⟨b, 1, none⟩ = some x1 := by rw [h.cellAt 1]; rfl
theorem Va.f2 {w : World} {b : Nat} {t : TypeId} {x0 x1 x2 x3 x4 : Value} (h : Va w b t #[x0, x1, x2, x3, x4]) : w.cell? ⟨b, 2, none⟩ = some x2 := by rw [h.cellAt 2]; rfl
theorem Va.f3 {w : World} {b : Nat} {t : TypeId} {x0 x1 x2 x3 x4 : Value} (h : Va w b t #[x0, x1, x2, x3, x4]) : w.cell? ⟨b, 3, none⟩ = some x3 := by rw [h.cellAt 3]; rfl
theorem Va.f4 {w : World} {b : Nat} {t : TypeId} {x0 x1 x2 x3 x4 : Value} (h : Va w b t #[x0, x1, x2, x3, x4]) : w.cell? ⟨b, 4, none⟩ = some x4 := by rw [h.cellAt 4]; rfl
/-- What stands in the variables that Holds' function reads. -/
structure Fa (w : World) (bf ba bq : Nat) (by1 ln1 : List (List UInt8)) (A Q : Rat) : Prop where
  tn : Tn w
  fac : ∃ a1 c1 a2 c2 am dg qt, Va w bf 25 (cf a1 by1.length c1 a2 ln1.length c2 am dg qt) ∧ Le elS w a1 by1.length by1 ∧ Le elS w a2 ln1.length ln1
  amt : ∃ s a l c zs b m d ds, Va w ba 66 #[.bool s, .slice a l c, .slice b m d] ∧ Rt w s a l c zs b m d ds A
  qty : ∃ s a l c zs b m d ds, Va w bq 66 #[.bool s, .slice a l c, .slice b m d] ∧ Rt w s a l c zs b m d ds Q
  s1 : by1.length ≤ 100
  s2 : ln1.length ≤ 100
theorem Fa.after {w w' : World} {bf ba bq : Nat} {by1 ln1 : List (List UInt8)} {A Q : Rat} (h : Fa w bf ba bq by1 ln1 A Q) (hb : Below w.heap.size w w') : Fa w' bf ba bq by1 ln1 A Q := by
  obtain ⟨a1, c1, a2, c2, am, dg, qt, v, l1, l2⟩ := h.fac
  obtain ⟨s, a, l, c, zs, b, m, d, ds, va, ra⟩ := h.amt
  obtain ⟨s', a', l', c', zs', b', m', d', ds', vq', rq⟩ := h.qty
  exact ⟨h.tn.to hb, ⟨a1, c1, a2, c2, am, dg, qt, v.after hb, l1.after hb, l2.after hb⟩, ⟨s, a, l, c, zs, b, m, d, ds, va.after hb, ra.after hb⟩, ⟨s', a', l', c', zs', b', m', d', ds', vq'.after hb, rq.after hb⟩, h.s1, h.s2⟩
set_option maxHeartbeats 8000000 in
theorem join_any (w0 : World) (bf ba bq : Nat) (by1 ln1 : List (List UInt8)) (A Q : Rat) (hF : Fa w0 bf ba bq by1 ln1 A Q) (n : Nd) (hn6 : N64 n) (k : Fo) (hok : ∃ o d, (Fo.cons n k .nil).Ok wdB o d) (W : World) (B : Nat) (kv : Value) (hb : Below w0.heap.size w0 W) (hk : Ge elB W B kv (k.ev (vfa by1 ln1 A Q))) (hk64 : k.len ≤ 64) :
    Calls Tryz.prog 35 #[nv n, kv, pt1 bf, pt1 ba, pt1 bq] W fun e W' => e = .returned (.bool (val (vfa by1 ln1 A Q) n (k.ev (vfa by1 ln1 A Q)))) ∧ Below W.heap.size W W' := by
  have F := hF.after hb
  obtain ⟨o, d, ⟨⟨hn, -, -, hks, -⟩, -⟩⟩ := hok
  have hel : (k.ev (vfa by1 ln1 A Q)).length ≤ 100 := by rw [ev_len]; omega
  have hel1 : (k.ev (vfa by1 ln1 A Q)).length = k.len := ev_len _ _
  obtain ⟨kd, ks, nm, op, un, pl⟩ := n
  dsimp only [nv] at *
  have HV : Hid (∀ x, val (vfa by1 ln1 A Q) ⟨kd, ks, nm, op, un, pl⟩ (k.ev (vfa by1 ln1 A Q)) = x → x = val (vfa by1 ln1 A Q) ⟨kd, ks, nm, op, un, pl⟩ (k.ev (vfa by1 ln1 A Q))) := fun x h => h.symm
  obtain ⟨R, hR⟩ : ∃ R, val (vfa by1 ln1 A Q) ⟨kd, ks, nm, op, un, pl⟩ (k.ev (vfa by1 ln1 A Q)) = R := ⟨_, rfl⟩
  rw [hR]
  obtain ⟨L, hL⟩ : ∃ L, k.ev (vfa by1 ln1 A Q) = L := ⟨_, rfl⟩
  rw [hL] at hR hel hel1 hk
  clear HV hL
  obtain ⟨ak, ck, rfl, -, -, -⟩ := hk.shape
  have hkL := hk.toLe
  clear hk
  by_cases k1 : kd = 1
  · subst k1
    have HE : Hid (L.contains true = R) := by show _ = _; rw [← hR, ← any_contains]; simp [val]
    have C9 := fun W h => contains_b L ak ck true W h hel
    have HK : Hid (Le elB W ak L.length L) := hkL
    clear hR hkL F hn hel1 hks hk64
    go_enter Tryz.func35, Tryz.ntmps35
    go_upto_region 1 with fail
    refine ent1 W _ _ (Q := fun W => Code.wp _ _ _ _ W) ?_
    intro W1 hb1 hs1 V1
    have m0 := V1.n0
    have D9 := C9 W1 (HK.out.after hb1)
    rw [HE.out] at D9
    clear C9
    go_wp2_with fail
    refine D9.mono ?_
    rintro e w' ⟨rfl, rfl⟩
    go_wp2_with fail
    go_ret
    exact ⟨rfl, hb1⟩
  by_cases k2 : kd = 2
  · subst k2
    have HE : Hid ((!(L.contains false)) = R) := by show _ = _; rw [← hR, ← all_contains]; simp [val]
    have C9 := fun W h => contains_b L ak ck false W h hel
    have HK : Hid (Le elB W ak L.length L) := hkL
    clear hR hkL F hn hel1 hks hk64
    go_enter Tryz.func35, Tryz.ntmps35
    go_upto_region 1 with fail
    refine ent1 W _ _ (Q := fun W => Code.wp _ _ _ _ W) ?_
    intro W1 hb1 hs1 V1
    have m0 := V1.n0
    have D9 := C9 W1 (HK.out.after hb1)
    generalize L.contains false = X at *
    clear C9
    go_wp2_with fail
    refine D9.mono ?_
    rintro e w' ⟨rfl, rfl⟩
    go_wp2_with fail
    go_ret
    exact ⟨by rw [← HE.out]; rfl, hb1⟩
  by_cases k3 : kd = 3
  · subst k3
    have h1 : L.length = 1 := by
      have : ks = 1 := by rcases hn with ⟨h, -⟩ | ⟨-, h, -⟩ | ⟨h, -⟩ | ⟨h, -⟩ <;> dsimp only at h <;> omega
      omega
    obtain ⟨x, rfl⟩ : ∃ x, L = [x] := by
      match L, h1 with
      | [x], _ => exact ⟨x, rfl⟩
    obtain ⟨b, off, rfl⟩ := hkL.ex (by simp)
    have hW := hkL.after ((Below.refl _ _).alloc (Nat.le_refl _) (.cells #[.int .i64 3, .int .i64 ks, sv nm, .int .i64 op, .int .i64 un, .int .i64 pl] 48))
    have c0 : (W.alloc (.cells #[.int .i64 3, .int .i64 ks, sv nm, .int .i64 op, .int .i64 un, .int .i64 pl] 48)).cell? ⟨b, off, none⟩ = some (.bool x) := by have := hW.at 0 (by simp) 0 (.bool x) rfl; simpa [elB] using this
    have HE : Hid (R = !x) := by show _ = _; rw [← hR]; simp [val]
    clear hR hkL F hn hW hel hel1 h1 hks hk64
    go_enter Tryz.func35, Tryz.ntmps35
    go_upto_region 1 with fail
    skip
    go_wp2_with fail
    go_ret
    exact ⟨by rw [HE.out]; rfl, (Below.refl _ _).alloc (Nat.le_refl _) _⟩
  by_cases k4 : kd = 4
  · subst k4
    obtain ⟨a1, c1, a2, c2, am, dg, qt, vf, l1, l2⟩ := F.fac
    have hs9 := F.s1
    have HE : Hid (by1.contains nm = R) := by show _ = _; rw [← hR]; simp [val, vfa]
    have HL9 : Hid (Le elS W a1 by1.length by1) := l1
    have HVF : Hid (Va W bf 25 (cf a1 by1.length c1 a2 ln1.length c2 am dg qt)) := vf
    clear hR hkL F hn l1 l2 vf
    go_enter Tryz.func35, Tryz.ntmps35
    go_upto_region 1 with fail
    refine ent1 W _ _ (Q := fun W => Code.wp _ _ _ _ W) ?_
    intro W1 hb1 hs1 V1
    have v9 := HVF.out.after hb1
    have c9 := v9.f0
    have m0 := V1.n0
    have m2 := V1.n2
    have L9 := HL9.out.after hb1
    clear v9
    go_wp2_with fail
    refine (contains_s by1 a1 c1 nm W1 L9 hs9).mono ?_
    rw [HE.out]
    rintro e w' ⟨rfl, rfl⟩
    go_wp2_with fail
    go_ret
    exact ⟨rfl, hb1⟩
  by_cases k5 : kd = 5
  · subst k5
    obtain ⟨a1, c1, a2, c2, am, dg, qt, vf, l1, l2⟩ := F.fac
    have hs9 := F.s2
    have HE : Hid (ln1.contains nm = R) := by show _ = _; rw [← hR]; simp [val, vfa]
    have HL9 : Hid (Le elS W a2 ln1.length ln1) := l2
    have HVF : Hid (Va W bf 25 (cf a1 by1.length c1 a2 ln1.length c2 am dg qt)) := vf
    clear hR hkL F hn l1 l2 vf
    go_enter Tryz.func35, Tryz.ntmps35
    go_upto_region 1 with fail
    refine ent1 W _ _ (Q := fun W => Code.wp _ _ _ _ W) ?_
    intro W1 hb1 hs1 V1
    have v9 := HVF.out.after hb1
    have c9 := v9.f1
    have m0 := V1.n0
    have m2 := V1.n2
    have L9 := HL9.out.after hb1
    clear v9
    go_wp2_with fail
    refine (contains_s ln1 a2 c2 nm W1 L9 hs9).mono ?_
    rw [HE.out]
    rintro e w' ⟨rfl, rfl⟩
    go_wp2_with fail
    go_ret
    exact ⟨rfl, hb1⟩
  by_cases k6 : kd = 6
  · subst k6
    obtain ⟨s, a, l, c, zs, b, m, d, ds, vr, rr⟩ := F.amt
    have hcan : CanI un pl ∧ 0 ≤ un := by
      rcases hn with ⟨h, -⟩ | ⟨h, -⟩ | ⟨h, -⟩ | ⟨-, -, -, -, -, h1, h2⟩
      · dsimp only at h; omega
      · dsimp only at h; omega
      · dsimp only at h; omega
      · exact ⟨h2, h1⟩
    obtain ⟨P, rfl⟩ : ∃ P : Nat, pl = P := ⟨pl.toNat, by have := hcan.1.1; omega⟩
    have HCN : Hid (Can un P) := (canI_iff un P).1 hcan.1
    have hu := hn6 un (by simp)
    have HE : Hid (bySo op (qcmp A (Rat.divInt un (10 ^ P))) = R) := by show _ = _; rw [← hR]; simp [val, vfa, vq, vq]
    have HT : Hid (Tn W) := F.tn
    have HVR : Hid (Va W ba 66 #[.bool s, .slice a l c, .slice b m d]) := vr
    have HRR : Hid (Rt W s a l c zs b m d ds A) := rr
    clear hR hkL F hn vr rr hcan hn6
    go_enter Tryz.func35, Tryz.ntmps35
    go_upto_region 1 with fail
    refine ent1 W _ _ (Q := fun W => Code.wp _ _ _ _ W) ?_
    intro W1 hb1 hs1 V1
    have v9 := HVR.out.after hb1
    have c9 := v9.d0
    have c8 := v9.d1
    have c7 := v9.d2
    have m0 := V1.n0
    have m3 := V1.n3
    have m4 := V1.n4
    have m5 := V1.n5
    have R9 := HRR.out.after hb1
    have T9 := HT.out.to hb1
    clear v9
    go_wp2_with fail
    refine (isSo_any op un P hu.1 hu.2 HCN.out s a l c zs b m d ds _ W1 T9 R9).mono ?_
    rw [HE.out]
    rintro e w' ⟨rfl, hb2⟩
    go_wp2_with fail
    go_ret
    exact ⟨rfl, step hb1 hb2⟩
  obtain ⟨s, a, l, c, zs, b, m, d, ds, vr, rr⟩ := F.qty
  have hcan : CanI un pl ∧ 0 ≤ un := by
    rcases hn with ⟨h, -⟩ | ⟨h, -⟩ | ⟨h, -⟩ | ⟨-, -, -, -, -, h1, h2⟩
    · dsimp only at h; omega
    · dsimp only at h; omega
    · dsimp only at h; omega
    · exact ⟨h2, h1⟩
  obtain ⟨P, rfl⟩ : ∃ P : Nat, pl = P := ⟨pl.toNat, by have := hcan.1.1; omega⟩
  have HCN : Hid (Can un P) := (canI_iff un P).1 hcan.1
  have hu := hn6 un (by simp)
  have HE : Hid (bySo op (qcmp Q (Rat.divInt un (10 ^ P))) = R) := by show _ = _; rw [← hR]; simp [val, vfa, vq, k1, k2, k3, k4, k5, k6]
  have HT : Hid (Tn W) := F.tn
  have HVR : Hid (Va W bq 66 #[.bool s, .slice a l c, .slice b m d]) := vr
  have HRR : Hid (Rt W s a l c zs b m d ds Q) := rr
  clear hR hkL F hn vr rr hcan hn6
  go_enter Tryz.func35, Tryz.ntmps35
  go_upto_region 1 with fail
  refine ent1 W _ _ (Q := fun W => Code.wp _ _ _ _ W) ?_
  intro W1 hb1 hs1 V1
  have v9 := HVR.out.after hb1
  have c9 := v9.d0
  have c8 := v9.d1
  have c7 := v9.d2
  have m0 := V1.n0
  have m3 := V1.n3
  have m4 := V1.n4
  have m5 := V1.n5
  have R9 := HRR.out.after hb1
  have T9 := HT.out.to hb1
  clear v9
  go_wp2_with fail
  refine (isSo_any op un P hu.1 hu.2 HCN.out s a l c zs b m d ds _ W1 T9 R9).mono ?_
  rw [HE.out]
  rintro e w' ⟨rfl, hb2⟩
  go_wp2_with fail
  go_ret
  exact ⟨rfl, step hb1 hb2⟩
end Go.Proofs.YtblafbbnplfpjaaGreatDoor
