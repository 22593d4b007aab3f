/-
  traits: isSo, and what a node holds, told what its kids hold.
-/
import Derived.Test.YtblafbbnplfpjaaGreatDoorMgAl
import Derived.Test.YtblafbbnplfpjaaGreatDoorMgAj
namespace Go.Proofs.YtblafbbnplfpjaaGreatDoor
open Go.RowKit Go.Shelf
set_option linter.unusedVariables false

set_option maxHeartbeats 4000000 in
theorem isSo_any (op U : Int) (P : Nat) (h1 : -9223372036854775808 ≤ U) (h2 : U ≤ 9223372036854775807) (hc : Can U P) (s : Bool) (a : Option Addr) (l c : Nat) (zs : List Int) (b : Option Addr) (m d : Nat) (ds : List Int) (q : Rat) (w : World) (hT : Tn w) (hq : Rt w s a l c zs b m d ds q) :
    Calls Tryz.prog 38 #[.agg #[.bool s, .slice a l c, .slice b m d], .int .i64 op, .agg #[.int .i64 U, .int .i64 P]] w fun e w' => e = .returned (.bool (bySo op (qcmp q (Rat.divInt U (10 ^ P))))) ∧ Below w.heap.size w w' := by
  have HT : Hid (Tn w) := hT
  have HCn : Hid (Can U P) := hc
  obtain ⟨C, hC⟩ : ∃ C, qcmp q (Rat.divInt U (10 ^ P)) = C := ⟨_, rfl⟩
  have HQ : Hid (qcmp q (Rat.divInt U (10 ^ P)) = C) := hC
  rw [hC]
  obtain ⟨R, hR⟩ : ∃ R, bySo op C = R := ⟨_, rfl⟩
  have HR : Hid (bySo op C = R) := hR
  rw [hR]
  clear hT hc hC hR
  have B0 : Below w.heap.size w w := Below.refl _ _
  go_enter Tryz.func38, Tryz.ntmps38
  go_wp2_with fail
  refine ent2 w _ _ _ _ (Q := fun W => Calls Tryz.prog _ _ W _) ?_
  intro x1 hb hs V0 V1
  replace B0 := step B0 hb
  replace hq := Rt.after hb hq
  clear hb hs V1
  refine (rat_ok U P h1 h2 HCn.out _ (HT.out.to B0)).mono ?_
  rintro e x2 ⟨s2, a2, l2, c2, z2, b2, m2, d2, y2, rfl, hx, hb⟩
  replace V0 := Va.after hb V0
  replace hq := Rt.after hb hq
  replace B0 := step B0 hb
  clear hb
  go_upto_region 2 with fail
  refine ent1 x2 _ _ (Q := fun W => Code.wp _ _ _ _ W) ?_
  intro x3 hb hs V1
  replace V0 := Va.after hb V0
  replace hq := Rt.after hb hq
  replace hx := Rt.after hb hx
  replace B0 := step B0 hb
  have c0 := V0.d0
  have c1 := V0.d1
  have c2' := V0.d2
  have e0 := V1.d0
  have e1 := V1.d1
  have e2 := V1.d2
  clear hb hs
  go_wp2_with fail
  have C9 := qcompare_any s a l c zs b m d ds _ s2 a2 l2 c2 z2 b2 m2 d2 y2 _ _ hq hx
  rw [HQ.out] at C9
  refine C9.mono ?_
  rintro e x4 ⟨rfl, hb⟩
  replace B0 := step B0 hb
  clear hb c0 c1 c2' e0 e1 e2 V0 V1 hq hx C9 HQ
  by_cases o1 : op = 1
  · subst o1
    go_wp2_with fail
    go_ret
    exact ⟨by rw [← HR.out]; rfl, B0⟩
  · by_cases o2 : op = 2
    · subst o2
      go_wp2_with fail
      go_ret
      exact ⟨by rw [← HR.out]; rfl, B0⟩
    · by_cases o3 : op = 3
      · subst o3
        go_wp2_with fail
        go_ret
        exact ⟨by rw [← HR.out]; rfl, B0⟩
      · have HR2 : Hid (R = decide (0 ≤ C)) := by show _ = _; rw [← HR.out]; simp [bySo, o1, o2, o3]
        clear HR
        go_wp2_with fail
        go_ret
        exact ⟨by rw [HR2.out]; rfl, B0⟩
/-- What a test holds for facts: the buyer's and the line's traits, the amount and the quantity as numbers. -/
def vfa (by1 ln1 : List (List UInt8)) (A Q : Rat) (n : Nd) : Bool :=
  if n.kd = 4 then by1.contains n.nm else if n.kd = 5 then ln1.contains n.nm else if n.kd = 6 then bySo n.op (qcmp A (vq n)) else bySo n.op (qcmp Q (vq n))
theorem any_contains (l : List Bool) : l.any id = l.contains true := by
  induction l with
  | nil => rfl
  | cons b l ih => cases b <;> simp [ih]
theorem all_contains (l : List Bool) : l.all id = !l.contains false := by
  induction l with
  | nil => rfl
  | cons b l ih => cases b <;> simp [ih]
/-- Facts in a variable. -/
def cf (a1 : Option Addr) (l1 c1 : Nat) (a2 : Option Addr) (l2 c2 : Nat) (am dg qt : Int) : Array Value := #[.slice a1 l1 c1, .slice a2 l2 c2, .int .i64 am, .int .i64 dg, .int .i64 qt]
theorem Va.f0 {w : World} {b : Nat} {t : TypeId} {x0 x1 x2 x3 x4 : Value} (h : Va w b t #[x0, x1, x2, x3, x4]) : w.cell? ⟨b, 0, none⟩ = some x0 := by rw [h.cellAt 0]; rfl
theorem Va.f1 {w : World} {b : Nat} {t : TypeId} {x0 x1 x2 x3 x4 : Value} (h : Va w b t #[x0, x1, x2, x3, x4]) : w.cell? ⟨b, 1, none⟩ = some x1 := by rw [h.cellAt 1]; rfl
theorem Va.f2 {w : World} {b : Nat} {t : TypeId} {x0 x1 x2 x3 x4 : Value} (h : Va w b t #[x0, x1, x2, x3, x4]) : w.cell? ⟨b, 2, none⟩ = some x2 := by rw [h.cellAt 2]; rfl
theorem Va.f3 {w : World} {b : Nat} {t : TypeId} {x0 x1 x2 x3 x4 : Value} (h : Va w b t #[x0, x1, x2, x3, x4]) : w.cell? ⟨b, 3, none⟩ = some x3 := by rw [h.cellAt 3]; rfl
theorem Va.f4 {w : World} {b : Nat} {t : TypeId} {x0 x1 x2 x3 x4 : Value} (h : Va w b t #[x0, x1, x2, x3, x4]) : w.cell? ⟨b, 4, none⟩ = some x4 := by rw [h.cellAt 4]; rfl
/-- What stands in the variables that Holds' function reads. -/
structure Fa (w : World) (bf ba bq : Nat) (by1 ln1 : List (List UInt8)) (A Q : Rat) : Prop where
  tn : Tn w
  fac : ∃ a1 c1 a2 c2 am dg qt, Va w bf 25 (cf a1 by1.length c1 a2 ln1.length c2 am dg qt) ∧ Le elS w a1 by1.length by1 ∧ Le elS w a2 ln1.length ln1
  amt : ∃ s a l c zs b m d ds, Va w ba 66 #[.bool s, .slice a l c, .slice b m d] ∧ Rt w s a l c zs b m d ds A
  qty : ∃ s a l c zs b m d ds, Va w bq 66 #[.bool s, .slice a l c, .slice b m d] ∧ Rt w s a l c zs b m d ds Q
  s1 : by1.length ≤ 100
  s2 : ln1.length ≤ 100
theorem Fa.after {w w' : World} {bf ba bq : Nat} {by1 ln1 : List (List UInt8)} {A Q : Rat} (h : Fa w bf ba bq by1 ln1 A Q) (hb : Below w.heap.size w w') : Fa w' bf ba bq by1 ln1 A Q := by
  obtain ⟨a1, c1, a2, c2, am, dg, qt, v, l1, l2⟩ := h.fac
  obtain ⟨s, a, l, c, zs, b, m, d, ds, va, ra⟩ := h.amt
  obtain ⟨s', a', l', c', zs', b', m', d', ds', vq', rq⟩ := h.qty
  exact ⟨h.tn.to hb, ⟨a1, c1, a2, c2, am, dg, qt, v.after hb, l1.after hb, l2.after hb⟩, ⟨s, a, l, c, zs, b, m, d, ds, va.after hb, ra.after hb⟩, ⟨s', a', l', c', zs', b', m', d', ds', vq'.after hb, rq.after hb⟩, h.s1, h.s2⟩
set_option maxHeartbeats 8000000 in
theorem join_any (w0 : World) (bf ba bq : Nat) (by1 ln1 : List (List UInt8)) (A Q : Rat) (hF : Fa w0 bf ba bq by1 ln1 A Q) (n : Nd) (hn6 : N64 n) (k : Fo) (hok : ∃ o d, (Fo.cons n k .nil).Ok wdB o d) (W : World) (B : Nat) (kv : Value) (hb : Below w0.heap.size w0 W) (hk : Ge elB W B kv (k.ev (vfa by1 ln1 A Q))) (hk64 : k.len ≤ 64) :
    Calls Tryz.prog 35 #[nv n, kv, pt1 bf, pt1 ba, pt1 bq] W fun e W' => e = .returned (.bool (val (vfa by1 ln1 A Q) n (k.ev (vfa by1 ln1 A Q)))) ∧ Below W.heap.size W W' := by
  have F := hF.after hb
  obtain ⟨o, d, ⟨⟨hn, -, -, hks, -⟩, -⟩⟩ := hok
  have hel : (k.ev (vfa by1 ln1 A Q)).length ≤ 100 := by rw [ev_len]; omega
  have hel1 : (k.ev (vfa by1 ln1 A Q)).length = k.len := ev_len _ _
  obtain ⟨kd, ks, nm, op, un, pl⟩ := n
  dsimp only [nv] at *
  have HV : Hid (∀ x, val (vfa by1 ln1 A Q) ⟨kd, ks, nm, op, un, pl⟩ (k.ev (vfa by1 ln1 A Q)) = x → x = val (vfa by1 ln1 A Q) ⟨kd, ks, nm, op, un, pl⟩ (k.ev (vfa by1 ln1 A Q))) := fun x h => h.symm
  obtain ⟨R, hR⟩ : ∃ R, val (vfa by1 ln1 A Q) ⟨kd, ks, nm, op, un, pl⟩ (k.ev (vfa by1 ln1 A Q)) = R := ⟨_, rfl⟩
  rw [hR]
  obtain ⟨L, hL⟩ : ∃ L, k.ev (vfa by1 ln1 A Q) = L := ⟨_, rfl⟩
  rw [hL] at hR hel hel1 hk
  clear HV hL
  obtain ⟨ak, ck, rfl, -, -, -⟩ := hk.shape
  have hkL := hk.toLe
  clear hk
  by_cases k1 : kd = 1
  · subst k1
    have HE : Hid (L.contains true = R) := by show _ = _; rw [← hR, ← any_contains]; simp [val]
    have C9 := fun W h => contains_b L ak ck true W h hel
    have HK : Hid (Le elB W ak L.length L) := hkL
    clear hR hkL F hn hel1 hks hk64
    go_enter Tryz.func35, Tryz.ntmps35
    go_upto_region 1 with fail
    refine ent1 W _ _ (Q := fun W => Code.wp _ _ _ _ W) ?_
    intro W1 hb1 hs1 V1
    have m0 := V1.n0
    have D9 := C9 W1 (HK.out.after hb1)
    rw [HE.out] at D9
    clear C9
    go_wp2_with fail
    refine D9.mono ?_
    rintro e w' ⟨rfl, rfl⟩
    go_wp2_with fail
    go_ret
    exact ⟨rfl, hb1⟩
  by_cases k2 : kd = 2
  · subst k2
    have HE : Hid ((!(L.contains false)) = R) := by show _ = _; rw [← hR, ← all_contains]; simp [val]
    have C9 := fun W h => contains_b L ak ck false W h hel
    have HK : Hid (Le elB W ak L.length L) := hkL
    clear hR hkL F hn hel1 hks hk64
    go_enter Tryz.func35, Tryz.ntmps35
    go_upto_region 1 with fail
    refine ent1 W _ _ (Q := fun W => Code.wp _ _ _ _ W) ?_
    intro W1 hb1 hs1 V1
    have m0 := V1.n0
    have D9 := C9 W1 (HK.out.after hb1)
    generalize L.contains false = X at *
    clear C9
    go_wp2_with fail
    refine D9.mono ?_
    rintro e w' ⟨rfl, rfl⟩
    go_wp2_with fail
    go_ret
    exact ⟨by rw [← HE.out]; rfl, hb1⟩
  by_cases k3 : kd = 3
  · subst k3
    have h1 : L.length = 1 := by
      have : ks = 1 := by rcases hn with ⟨h, -⟩ | ⟨-, h, -⟩ | ⟨h, -⟩ | ⟨h, -⟩ <;> dsimp only at h <;> omega
      omega
    obtain ⟨x, rfl⟩ : ∃ x, L = [x] := by
      match L, h1 with
      | [x], _ => exact ⟨x, rfl⟩
    obtain ⟨b, off, rfl⟩ := hkL.ex (by simp)
    have hW := hkL.after ((Below.refl _ _).alloc (Nat.le_refl _) (.cells #[.int .i64 3, .int .i64 ks, sv nm, .int .i64 op, .int .i64 un, .int .i64 pl] 48))
    have c0 : (W.alloc (.cells #[.int .i64 3, .int .i64 ks, sv nm, .int .i64 op, .int .i64 un, .int .i64 pl] 48)).cell? ⟨b, off, none⟩ = some (.bool x) := by have := hW.at 0 (by simp) 0 (.bool x) rfl; simpa [elB] using this
    have HE : Hid (R = !x) := by show _ = _; rw [← hR]; simp [val]
    clear hR hkL F hn hW hel hel1 h1 hks hk64
    go_enter Tryz.func35, Tryz.ntmps35
    go_upto_region 1 with fail
    skip
    go_wp2_with fail
    go_ret
    exact ⟨by rw [HE.out]; rfl, (Below.refl _ _).alloc (Nat.le_refl _) _⟩
  by_cases k4 : kd = 4
  · subst k4
    obtain ⟨a1, c1, a2, c2, am, dg, qt, vf, l1, l2⟩ := F.fac
    have hs9 := F.s1
    have HE : Hid (by1.contains nm = R) := by show _ = _; rw [← hR]; simp [val, vfa]
    have HL9 : Hid (Le elS W a1 by1.length by1) := l1
    have HVF : Hid (Va W bf 25 (cf a1 by1.length c1 a2 ln1.length c2 am dg qt)) := vf
    clear hR hkL F hn l1 l2 vf
    go_enter Tryz.func35, Tryz.ntmps35
    go_upto_region 1 with fail
    refine ent1 W _ _ (Q := fun W => Code.wp _ _ _ _ W) ?_
    intro W1 hb1 hs1 V1
    have v9 := HVF.out.after hb1
    have c9 := v9.f0
    have m0 := V1.n0
    have m2 := V1.n2
    have L9 := HL9.out.after hb1
    clear v9
    go_wp2_with fail
    refine (contains_s by1 a1 c1 nm W1 L9 hs9).mono ?_
    rw [HE.out]
    rintro e w' ⟨rfl, rfl⟩
    go_wp2_with fail
    go_ret
    exact ⟨rfl, hb1⟩
  by_cases k5 : kd = 5
  · subst k5
    obtain ⟨a1, c1, a2, c2, am, dg, qt, vf, l1, l2⟩ := F.fac
    have hs9 := F.s2
    have HE : Hid (ln1.contains nm = R) := by show _ = _; rw [← hR]; simp [val, vfa]
    have HL9 : Hid (Le elS W a2 ln1.length ln1) := l2
    have HVF : Hid (Va W bf 25 (cf a1 by1.length c1 a2 ln1.length c2 am dg qt)) := vf
    clear hR hkL F hn l1 l2 vf
    go_enter Tryz.func35, Tryz.ntmps35
    go_upto_region 1 with fail
    refine ent1 W _ _ (Q := fun W => Code.wp _ _ _ _ W) ?_
    intro W1 hb1 hs1 V1
    have v9 := HVF.out.after hb1
    have c9 := v9.f1
    have m0 := V1.n0
    have m2 := V1.n2
    have L9 := HL9.out.after hb1
    clear v9
    go_wp2_with fail
    refine (contains_s ln1 a2 c2 nm W1 L9 hs9).mono ?_
    rw [HE.out]
    rintro e w' ⟨rfl, rfl⟩
    go_wp2_with fail
    go_ret
    exact ⟨rfl, hb1⟩
  by_cases k6 : kd = 6
  · subst k6
    obtain ⟨s, a, l, c, zs, b, m, d, ds, vr, rr⟩ := F.amt
    have hcan : CanI un pl ∧ 0 ≤ un := by
      rcases hn with ⟨h, -⟩ | ⟨h, -⟩ | ⟨h, -⟩ | ⟨-, -, -, -, -, h1, h2⟩
      · dsimp only at h; omega
      · dsimp only at h; omega
      · dsimp only at h; omega
      · exact ⟨h2, h1⟩
    obtain ⟨P, rfl⟩ : ∃ P : Nat, pl = P := ⟨pl.toNat, by have := hcan.1.1; omega⟩
    have HCN : Hid (Can un P) := (canI_iff un P).1 hcan.1
    have hu := hn6 un (by simp)
    have HE : Hid (bySo op (qcmp A (Rat.divInt un (10 ^ P))) = R) := by show _ = _; rw [← hR]; simp [val, vfa, vq, vq]
    have HT : Hid (Tn W) := F.tn
    have HVR : Hid (Va W ba 66 #[.bool s, .slice a l c, .slice b m d]) := vr
    have HRR : Hid (Rt W s a l c zs b m d ds A) := rr
    clear hR hkL F hn vr rr hcan hn6
    go_enter Tryz.func35, Tryz.ntmps35
    go_upto_region 1 with fail
    refine ent1 W _ _ (Q := fun W => Code.wp _ _ _ _ W) ?_
    intro W1 hb1 hs1 V1
    have v9 := HVR.out.after hb1
    have c9 := v9.d0
    have c8 := v9.d1
    have c7 := v9.d2
    have m0 := V1.n0
    have m3 := V1.n3
    have m4 := V1.n4
    have m5 := V1.n5
    have R9 := HRR.out.after hb1
    have T9 := HT.out.to hb1
    clear v9
    go_wp2_with fail
    refine (isSo_any op un P hu.1 hu.2 HCN.out s a l c zs b m d ds _ W1 T9 R9).mono ?_
    rw [HE.out]
    rintro e w' ⟨rfl, hb2⟩
    go_wp2_with fail
    go_ret
    exact ⟨rfl, step hb1 hb2⟩
  obtain ⟨s, a, l, c, zs, b, m, d, ds, vr, rr⟩ := F.qty
  have hcan : CanI un pl ∧ 0 ≤ un := by
    rcases hn with ⟨h, -⟩ | ⟨h, -⟩ | ⟨h, -⟩ | ⟨-, -, -, -, -, h1, h2⟩
    · dsimp only at h; omega
    · dsimp only at h; omega
    · dsimp only at h; omega
    · exact ⟨h2, h1⟩
  obtain ⟨P, rfl⟩ : ∃ P : Nat, pl = P := ⟨pl.toNat, by have := hcan.1.1; omega⟩
  have HCN : Hid (Can un P) := (canI_iff un P).1 hcan.1
  have hu := hn6 un (by simp)
  have HE : Hid (bySo op (qcmp Q (Rat.divInt un (10 ^ P))) = R) := by show _ = _; rw [← hR]; simp [val, vfa, vq, k1, k2, k3, k4, k5, k6]
  have HT : Hid (Tn W) := F.tn
  have HVR : Hid (Va W bq 66 #[.bool s, .slice a l c, .slice b m d]) := vr
  have HRR : Hid (Rt W s a l c zs b m d ds Q) := rr
  clear hR hkL F hn vr rr hcan hn6
  go_enter Tryz.func35, Tryz.ntmps35
  go_upto_region 1 with fail
  refine ent1 W _ _ (Q := fun W => Code.wp _ _ _ _ W) ?_
  intro W1 hb1 hs1 V1
  have v9 := HVR.out.after hb1
  have c9 := v9.d0
  have c8 := v9.d1
  have c7 := v9.d2
  have m0 := V1.n0
  have m3 := V1.n3
  have m4 := V1.n4
  have m5 := V1.n5
  have R9 := HRR.out.after hb1
  have T9 := HT.out.to hb1
  clear v9
  go_wp2_with fail
  refine (isSo_any op un P hu.1 hu.2 HCN.out s a l c zs b m d ds _ W1 T9 R9).mono ?_
  rw [HE.out]
  rintro e w' ⟨rfl, hb2⟩
  go_wp2_with fail
  go_ret
  exact ⟨rfl, step hb1 hb2⟩
end Go.Proofs.YtblafbbnplfpjaaGreatDoor
namespace Go.Proofs.YtblafbbnplfpjaaGreatDoor
open Go.RowKit Go.Shelf
set_option linter.unusedVariables false

set_option maxHeartbeats 4000000 in
theorem foldB (ns : List Nd) (a : Option Addr) (cap : Nat) (w : World) (hL : Le elN w a ns.length ns) (h64 : ∀ n ∈ ns, N64 n) (h1 : ns.length ≤ 64) (n : Nd) (k : Fo) (hns : ns = (Fo.cons n k .nil).flat) (hok : (Fo.cons n k .nil).Ok wdB 0 1)
    (bf ba bq : Nat) (by1 ln1 : List (List UInt8)) (A Q : Rat) (hF : Fa w bf ba bq by1 ln1 A Q) :
    Calls Tryz.prog 34 #[.slice a ns.length cap, .func (.func 35) #[] #[pt1 bf, pt1 ba, pt1 bq]] w fun e w' => e = .returned (.bool (val (vfa by1 ln1 A Q) n (k.ev (vfa by1 ln1 A Q)))) ∧ Below w.heap.size w w' := by
  have h0 : 0 < ns.length := by rw [hns]; simp [Fo.flat]
  have HL : Hid (Le elN w a ns.length ns) := hL
  have H6 : Hid (∀ n ∈ ns, N64 n) := h64
  have HN : Hid (ns = (Fo.cons n k .nil).flat) := hns
  have HOK : Hid ((Fo.cons n k .nil).Ok wdB 0 1) := hok
  have HF : Hid (Fa w bf ba bq by1 ln1 A Q) := hF
  have HJ : Hid (JnB w.heap.size w bf ba bq (vfa by1 ln1 A Q)) := fun n k o d ok n6 kl W B kv hb hg => join_any w bf ba bq by1 ln1 A Q HF.out n n6 k ⟨o, d, ok⟩ W B kv hb hg kl
  obtain ⟨R, hR⟩ : ∃ R, val (vfa by1 ln1 A Q) n (k.ev (vfa by1 ln1 A Q)) = R := ⟨_, rfl⟩
  have HR : Hid (val (vfa by1 ln1 A Q) n (k.ev (vfa by1 ln1 A Q)) = R) := hR
  rw [hR]
  clear hL h64 hns hok hF hR
  have B0 : Below w.heap.size w w := Below.refl _ _
  go_enter Tryz.func34, Tryz.ntmps34
  go_upto_region 2 with fail
  refine ent3 w _ _ _ _ _ _ (Q := fun W => Code.wp _ _ _ _ W) ?_
  intro W1 hb hs V0 V1 V2
  replace B0 := step B0 hb
  have L1 := HL.out.after hb
  have hlt := fun b off (h : a = some ⟨b, off, none⟩) => (by subst h; exact HL.out.lt h0 : b < w.heap.size)
  clear hb
  go_upto_region 3 with fail
  refine ent1 W1 _ _ (Q := fun W => Code.wp _ _ _ _ W) ?_
  intro W2 hb hs2 V3
  rw [hs] at V3 hs2
  replace V0 := V0.after hb
  replace V1 := V1.after hb
  replace V2 := V2.after hb
  replace L1 := L1.after hb
  replace B0 := step B0 hb
  clear hb
  have c3 := V3.cell
  have f3 := V3.frozen 0
  go_upto_region 4 with fail
  refine st1 V3 _ (Q := fun W => Code.wp _ _ _ _ W) ?_
  intro W3 hv hg hs3
  have C3 : DsB ns a cap w.heap.size (w.heap.size + 1 + 1) (w.heap.size + 3) (w.heap.size + 1) (.func (.func 35) #[] #[pt1 bf, pt1 ba, pt1 bq]) W3 0 :=
    ⟨V0.gr hg (by omega), V2.gr hg (by omega), hv, V1.gr hg (by omega), L1.grown hg (fun _ b off h => by have := hlt b off h; omega), by omega, by omega, fun b off h => by have := hlt b off h; omega, by omega, h1, Nat.zero_le _⟩
  have B3 : Below w.heap.size w W3 := B0.trans (gr_to hg (by omega) (by omega))
  have HB3 : Hid (Below w.heap.size w W3) := B3
  have d3 := hv.cell
  have hs4 : w.heap.size + 4 ≤ W3.heap.size := by omega
  clear V0 V1 V2 V3 c3 f3 L1 hv hg hs hs2 hs3 B0 hlt
  have C9 : Calls Tryz.prog 58 #[pt1 w.heap.size, pt1 (w.heap.size + 1 + 1), pt1 (w.heap.size + 3), pt1 (w.heap.size + 1)] W3 (DnE ns (w.heap.size + 1 + 1) R (0 + (Fo.cons n k .nil).flat.length) W3) := by
    have := (allD_of (downB w.heap.size w ns a cap w.heap.size (w.heap.size + 1 + 1) (w.heap.size + 3) (w.heap.size + 1) bf ba bq (vfa by1 ln1 A Q) (by omega) H6.out HJ) (.cons n k .nil)).1 0 1 HOK.out 0 W3 [] C3 B3 (by omega) (by rw [List.drop_zero, List.append_nil]; exact HN.out)
    rw [HR.out] at this
    exact this
  clear C3 B3
  go_wp2_with fail
  refine C9.mono ?_
  rintro e W4 ⟨rfl, -, -, hg⟩
  have B4 : Below w.heap.size w W4 := HB3.out.trans (gr_to hg (by omega) (by omega))
  clear hg C9 HB3
  go_wp2_with fail
  go_ret
  exact ⟨rfl, B4⟩
end Go.Proofs.YtblafbbnplfpjaaGreatDoor
namespace Go.Proofs.YtblafbbnplfpjaaGreatDoor
open Go.RowKit Go.Shelf
set_option linter.unusedVariables false

theorem drop_s {l : List (List UInt8)} {j : Nat} (h : j < l.length) : l.drop j = l.getD j [] :: l.drop (j + 1) := by
  rw [List.drop_eq_getElem_cons h, List.getD_eq_getElem?_getD, List.getElem?_eq_getElem h]; rfl
set_option maxHeartbeats 2000000 in
theorem areWords_any (l : List (List UInt8)) (a : Option Addr) (cap : Nat) (w : World) (hL : Le elS w a l.length l) (hl : l.length ≤ 100) :
    Calls Tryz.prog 51 #[.slice a l.length cap] w fun e w' => e = .returned (.bool (l.all wdB)) ∧ Below w.heap.size w w' := by
  obtain ⟨R, hR⟩ : ∃ R, l.all wdB = R := ⟨_, rfl⟩
  have HR : Hid (l.all wdB = R) := hR
  have HL : Hid (Le elS w a l.length l) := hL
  rw [hR]
  clear hR hL
  go_enter Tryz.func51, Tryz.ntmps51
  go_wp2_with fail
  go_loopw [4, 7] (fun _ j wr => ∃ i : Nat, j = .int .i64 i ∧ i ≤ l.length ∧ Hid ((l.drop i).all wdB = R) ∧ Hid (Below w.heap.size w wr)) (fun _ j _ => (l.length - (intOf j).toNat : Nat))
  case atStart => exact ⟨0, rfl, Nat.zero_le _, HR.out, Below.refl _ _⟩
  case round =>
    clear HR
    obtain ⟨i, rfl, hi, HR, HB⟩ := hrel
    rcases Nat.lt_or_ge i l.length with hlt | hge
    · have hii : (i : Int) < l.length := by omega
      obtain ⟨b, off, rfl⟩ := HL.out.ex (by omega)
      have c0 : wr.cell? ⟨b, off + i, none⟩ = some (sv (l.getD i [])) := by have := (HL.out.after HB.out).at i hlt 0 (sv (l.getD i [])) rfl; simpa [elS] using this
      have hd := drop_s hlt
      have HD : Hid ((wdB (l.getD i []) && (l.drop (i + 1)).all wdB) = R) := by have := HR.out; rw [hd] at this; exact this
      clear hd HR
      generalize l.getD i [] = x at *
      have C9 := word_B x wr
      cases hx : wdB x with
      | false =>
        have HD2 : Hid (false = R) := by have := HD.out; rw [hx] at this; exact this
        rw [hx] at C9
        clear HD hx
        go_wp2_with fail
        refine C9.mono ?_
        rintro e w2 ⟨rfl, hb⟩
        have HB2 : Hid (Below w.heap.size w w2) := step HB.out hb
        clear hb C9 HB c0
        go_wp2_with fail
        go_ret
        exact ⟨by rw [← HD2.out]; rfl, HB2.out⟩
      | true =>
        have HD2 : Hid ((l.drop (i + 1)).all wdB = R) := by have := HD.out; rw [hx] at this; exact this
        rw [hx] at C9
        clear HD hx
        go_wp2_with fail
        refine C9.mono ?_
        rintro e w2 ⟨rfl, hb⟩
        have HB2 : Hid (Below w.heap.size w w2) := step HB.out hb
        clear hb C9 HB c0
        go_wp2_with fail
        go_roundw
        case rel => exact ⟨i + 1, rfl, by omega, HD2.out, HB2.out⟩
        case measure => simp [intOf]; omega
    · obtain rfl : i = l.length := by omega
      have HR2 : Hid (true = R) := by have := HR.out; rw [List.drop_length] at this; exact this
      clear hge HR
      go_wp2_with fail
      go_ret
      exact ⟨by rw [← HR2.out]; rfl, HB.out⟩
/-- Texts that rise. -/
def Ris (l : List (List UInt8)) (n : Nat) : Prop := ∀ j, j + 1 < n → Op.bytesLess (l.getD j []) (l.getD (j + 1) []) = true
def Trs (l : List (List UInt8)) : Prop := l.length ≤ 16 ∧ l.all wdB = true ∧ Ris l l.length
/-- What areTraits answers. -/
noncomputable def trB (l : List (List UInt8)) : Bool := open Classical in decide (Trs l)
theorem trB_yes {l : List (List UInt8)} (h : Trs l) : trB l = true := by simp [trB, h]
theorem trB_no {l : List (List UInt8)} (h : ¬ Trs l) : trB l = false := by simp [trB, h]
theorem trB_iff {l : List (List UInt8)} : trB l = true ↔ Trs l := by simp [trB]
theorem string_geq (t : TypeId) (a b : ByteArray) : binOp .geq t (.string a) (.string b) = pure (.bool !(Op.bytesLess a.toList b.toList)) := by simp [binOp, Op.stringOp]
theorem nameR (w : World) (n : Nat) {Q : World → Prop} (h : ∀ W, (∀ a, W.cell? a = w.cell? a) → Below w.heap.size w W → W.heap.size = w.heap.size → Q W) : Q (w.drewN n) :=
  h _ (fun _ => rfl) (below_drewN (Below.refl _ _) n) rfl
set_option maxHeartbeats 4000000 in
theorem areTraits_any (l : List (List UInt8)) (a : Option Addr) (cap : Nat) (w : World) (hL : Le elS w a l.length l) :
    Calls Tryz.prog 27 #[.slice a l.length cap] w fun e w' => e = .returned (.bool (trB l)) ∧ Below w.heap.size w w' := by
  obtain ⟨R, hR⟩ : ∃ R, trB l = R := ⟨_, rfl⟩
  have HR : Hid (trB l = R) := hR
  have HL : Hid (Le elS w a l.length l) := hL
  rw [hR]
  clear hR hL
  rcases Nat.lt_or_ge 16 l.length with h16 | h16
  · have h16' : (16 : Int) < l.length := by omega
    have HR2 : Hid (false = R) := by show _ = _; rw [← HR.out, trB_no (fun h => by have := h.1; omega)]
    go_enter Tryz.func27, Tryz.ntmps27
    go_wp2_with fail
    go_ret
    exact ⟨by rw [← HR2.out]; rfl, Below.refl _ _⟩
  · have h16' : ¬ (16 : Int) < l.length := by omega
    have C9 := areWords_any l a cap w HL.out (by omega)
    cases hw : l.all wdB with
    | false =>
      rw [hw] at C9
      have HR2 : Hid (false = R) := by show _ = _; rw [← HR.out, trB_no (fun h => by have := h.2.1; rw [hw] at this; cases this)]
      clear hw
      go_enter Tryz.func27, Tryz.ntmps27
      go_wp2_with fail
      refine C9.mono ?_
      rintro e w2 ⟨rfl, hb⟩
      clear C9
      go_wp2_with fail
      go_ret
      exact ⟨by rw [← HR2.out]; rfl, hb⟩
    | true =>
      rw [hw] at C9
      have HW : Hid (l.all wdB = true) := hw
      clear hw
      go_enter Tryz.func27, Tryz.ntmps27
      go_wp2_with fail
      refine C9.mono ?_
      rintro e w1 ⟨rfl, hb⟩
      have HB1 : Hid (Below w.heap.size w w1) := hb
      clear C9 hb
      go_wp2_with fail
      go_loopw [3, 14] (fun _ j wr => ∃ i : Nat, j = .int .i64 i ∧ i ≤ l.length ∧ Hid (Ris l i) ∧ Hid (Below w.heap.size w wr)) (fun _ j _ => (l.length - (intOf j).toNat : Nat))
      case atStart => exact ⟨0, rfl, Nat.zero_le _, (fun j hj => by omega), HB1.out⟩
      case round =>
        clear HB1
        obtain ⟨i, rfl, hi, HI, HB⟩ := hrel
        rcases Nat.lt_or_ge i l.length with hlt | hge
        · have hii : (i : Int) < l.length := by omega
          obtain ⟨b, off, rfl⟩ := HL.out.ex (by omega)
          have hcc : ∀ j, j < l.length → wr.cell? ⟨b, off + j, none⟩ = some (sv (l.getD j [])) := fun j hj => by have := (HL.out.after HB.out).at j hj 0 (sv (l.getD j [])) rfl; simpa [elS] using this
          rcases Nat.eq_zero_or_pos i with h0 | h0
          · subst h0
            clear hcc
            go_wp2_with fail
            go_quiet (fail)
            refine nameR wr _ (Q := fun W => Exit.then _ _ _ _ W) (fun wq hcell hBw hsq => ?_)
            have HBq : Hid (Below w.heap.size w wq) := step HB.out hBw
            clear hcell hBw hsq HB
            go_wp2_with fail
            go_roundw
            case rel => exact ⟨1, rfl, by omega, (fun j hj => by omega), HBq.out⟩
            case measure => simp [intOf]; omega
          · obtain ⟨j, rfl⟩ : ∃ j, i = j + 1 := ⟨i - 1, by omega⟩
            have c0 := hcc j (by omega)
            have c1 := hcc (j + 1) hlt
            have sg := string_geq
            have x1 : IntKind.i64.wrap (j : Int) = j := by rw [IntKind.wrap_i64]; omega
            have hj0 : (0 : Int) ≤ j := by omega
            have hjl : (j : Int) < l.length := by omega
            have hp : (0 : Int) < (j : Int) + 1 := by omega
            have HX : Hid (∀ x y, l.getD j [] = x → l.getD (j + 1) [] = y → (l.getD j [] = x ∧ l.getD (j + 1) [] = y)) := fun x y h1 h2 => ⟨h1, h2⟩
            obtain ⟨x, hx⟩ : ∃ x, l.getD j [] = x := ⟨_, rfl⟩
            obtain ⟨y, hy⟩ : ∃ y, l.getD (j + 1) [] = y := ⟨_, rfl⟩
            have HX : Hid (l.getD j [] = x ∧ l.getD (j + 1) [] = y) := ⟨hx, hy⟩
            rw [hx] at c0
            rw [hy] at c1
            clear hx hy hcc
            cases hL2 : Op.bytesLess x y with
            | true =>
              go_wp2_with fail
              go_quiet (fail)
              refine nameR wr _ (Q := fun W => Exit.then _ _ _ _ W) (fun wq hcell hBw hsq => ?_)
              have HBq : Hid (Below w.heap.size w wq) := step HB.out hBw
              have HI2 : Hid (Ris l (j + 1 + 1)) := fun q hq => by
                rcases Nat.lt_or_ge (q + 1) (j + 1) with h | h
                · exact HI.out q h
                · obtain rfl : q = j := by omega
                  rw [HX.out.1, HX.out.2]; exact hL2
              clear hcell hBw hsq HB hL2
              go_wp2_with fail
              go_roundw
              case rel => exact ⟨j + 1 + 1, rfl, by omega, HI2.out, HBq.out⟩
              case measure => simp [intOf]; omega
            | false =>
              go_wp2_with fail
              go_quiet (fail)
              refine nameR wr _ (Q := fun W => Exit.then _ _ _ _ W) (fun wq hcell hBw hsq => ?_)
              have HBq : Hid (Below w.heap.size w wq) := step HB.out hBw
              have HR2 : Hid (false = R) := by
                show _ = _
                rw [← HR.out, trB_no]
                intro h
                have := h.2.2 j hlt
                rw [HX.out.1, HX.out.2, hL2] at this
                cases this
              clear hcell hBw hsq HB hL2
              go_wp2_with fail
              go_ret
              exact ⟨by rw [← HR2.out]; rfl, HBq.out⟩
        · obtain rfl : i = l.length := by omega
          have HR2 : Hid (true = R) := by show _ = _; rw [← HR.out, trB_yes ⟨h16, HW.out, HI.out⟩]
          clear hge HR HI
          go_wp2_with fail
          go_ret
          exact ⟨by rw [← HR2.out]; rfl, HB.out⟩
/-- Facts that may be. -/
def FtOk (by1 ln1 : List (List UInt8)) (am dg qt : Int) : Prop := Trs by1 ∧ Trs ln1 ∧ 0 ≤ dg ∧ dg ≤ 4 ∧ 0 ≤ am ∧ 0 ≤ qt
noncomputable def ftE (by1 ln1 : List (List UInt8)) (am dg qt : Int) : Int := open Classical in if FtOk by1 ln1 am dg qt then 0 else 141
theorem ftE_ok {by1 ln1 : List (List UInt8)} {am dg qt : Int} (h : FtOk by1 ln1 am dg qt) : ftE by1 ln1 am dg qt = 0 := if_pos h
theorem ftE_no {by1 ln1 : List (List UInt8)} {am dg qt : Int} (h : ¬ FtOk by1 ln1 am dg qt) : ftE by1 ln1 am dg qt = 141 := if_neg h
set_option maxHeartbeats 4000000 in
theorem fit_any (by1 ln1 : List (List UInt8)) (a1 : Option Addr) (c1 : Nat) (a2 : Option Addr) (c2 : Nat) (am dg qt : Int) (w : World) (h1 : Le elS w a1 by1.length by1) (h2 : Le elS w a2 ln1.length ln1) :
    Calls Tryz.prog 9 #[.agg #[.slice a1 by1.length c1, .slice a2 ln1.length c2, .int .i64 am, .int .i64 dg, .int .i64 qt]] w fun e w' => e = .returned (.int .i64 (ftE by1 ln1 am dg qt)) ∧ Below w.heap.size w w' := by
  obtain ⟨R, hR⟩ : ∃ R, ftE by1 ln1 am dg qt = R := ⟨_, rfl⟩
  have HR : Hid (ftE by1 ln1 am dg qt = R) := hR
  rw [hR]
  have H1 : Hid (Le elS w a1 by1.length by1) := h1
  have H2 : Hid (Le elS w a2 ln1.length ln1) := h2
  clear hR h1 h2
  have C1 := fun W h => areTraits_any by1 a1 c1 W h
  have C2 := fun W h => areTraits_any ln1 a2 c2 W h
  cases hb : trB by1 with
  | false =>
    have HE : Hid (R = 141) := by show _ = _; rw [← HR.out, ftE_no (fun h => by rw [trB_yes h.1] at hb; cases hb)]
    rw [hb] at C1
    go_enter Tryz.func9, Tryz.ntmps9
    go_upto_region 1 with fail
    refine ent1 w _ _ (Q := fun W => Code.wp _ _ _ _ W) ?_
    intro W1 hb1 hs1 V1
    have v0 := V1.f0
    have D1 := C1 W1 (H1.out.after hb1)
    go_wp2_with fail
    refine D1.mono ?_
    rintro e W2 ⟨rfl, hb2⟩
    go_wp2_with fail
    go_ret
    exact ⟨by rw [HE.out]; rfl, step hb1 hb2⟩
  | true =>
    have HT1 : Hid (Trs by1) := trB_iff.1 hb
    rw [hb] at C1
    clear hb
    cases hb : trB ln1 with
    | false =>
      have HE : Hid (R = 141) := by show _ = _; rw [← HR.out, ftE_no (fun h => by rw [trB_yes h.2.1] at hb; cases hb)]
      rw [hb] at C2
      go_enter Tryz.func9, Tryz.ntmps9
      go_upto_region 1 with fail
      refine ent1 w _ _ (Q := fun W => Code.wp _ _ _ _ W) ?_
      intro W1 hb1 hs1 V1
      have v0 := V1.f0
      have D1 := C1 W1 (H1.out.after hb1)
      go_wp2_with fail
      refine D1.mono ?_
      rintro e W2 ⟨rfl, hb2⟩
      have v1 := (V1.after hb2).f1
      have D2 := C2 W2 (H2.out.after (step hb1 hb2))
      clear D1 v0
      go_wp2_with fail
      refine D2.mono ?_
      rintro e W3 ⟨rfl, hb3⟩
      go_wp2_with fail
      go_ret
      exact ⟨by rw [HE.out]; rfl, step (step hb1 hb2) hb3⟩
    | true =>
      have HT2 : Hid (Trs ln1) := trB_iff.1 hb
      rw [hb] at C2
      clear hb
      go_enter Tryz.func9, Tryz.ntmps9
      go_upto_region 1 with fail
      refine ent1 w _ _ (Q := fun W => Code.wp _ _ _ _ W) ?_
      intro W1 hb1 hs1 V1
      have v0 := V1.f0
      have D1 := C1 W1 (H1.out.after hb1)
      go_wp2_with fail
      refine D1.mono ?_
      rintro e W2 ⟨rfl, hb2⟩
      have v1 := (V1.after hb2).f1
      have D2 := C2 W2 (H2.out.after (step hb1 hb2))
      clear D1 v0
      go_wp2_with fail
      refine D2.mono ?_
      rintro e W3 ⟨rfl, hb3⟩
      have V3 := (V1.after hb2).after hb3
      have HB3 : Hid (Below w.heap.size w W3) := step (step hb1 hb2) hb3
      have u2 := V3.f2
      have u3 := V3.f3
      have u4 := V3.f4
      clear D2 v1 hb1 hb2 hb3 V1 V3
      have HE1 : Hid (0 ≤ dg → dg ≤ 4 → 0 ≤ am → 0 ≤ qt → R = 0) := fun i1 i2 i3 i4 => by rw [← HR.out, ftE_ok ⟨HT1.out, HT2.out, i1, i2, i3, i4⟩]
      have HE2 : Hid (¬ (0 ≤ dg ∧ dg ≤ 4 ∧ 0 ≤ am ∧ 0 ≤ qt) → R = 141) := fun i => by rw [← HR.out, ftE_no (fun h => i h.2.2)]
      clear HR
      by_cases i1 : 0 ≤ dg
      · by_cases i2 : dg ≤ 4
        · by_cases i3 : 0 ≤ am
          · by_cases i4 : 0 ≤ qt
            · have HE : Hid (R = 0) := HE1.out i1 i2 i3 i4
              have j4 : decide (0 ≤ qt) = true := decide_eq_true i4
              go_wp2_with fail
              go_ret
              exact ⟨by rw [HE.out]; rfl, HB3.out⟩
            · have HE : Hid (R = 141) := HE2.out (fun h => i4 h.2.2.2)
              have j4 : decide (0 ≤ qt) = false := decide_eq_false i4
              go_wp2_with fail
              go_ret
              exact ⟨by rw [HE.out]; rfl, HB3.out⟩
          · have HE : Hid (R = 141) := HE2.out (fun h => i3 h.2.2.1)
            have j3 : decide (0 ≤ am) = false := decide_eq_false i3
            go_wp2_with fail
            go_ret
            exact ⟨by rw [HE.out]; rfl, HB3.out⟩
        · have HE : Hid (R = 141) := HE2.out (fun h => i2 h.2.1)
          have j2 : decide (dg ≤ 4) = false := decide_eq_false i2
          go_wp2_with fail
          go_ret
          exact ⟨by rw [HE.out]; rfl, HB3.out⟩
      · have HE : Hid (R = 141) := HE2.out (fun h => i1 h.1)
        have j1 : decide (0 ≤ dg) = false := decide_eq_false i1
        go_wp2_with fail
        go_ret
        exact ⟨by rw [HE.out]; rfl, HB3.out⟩
end Go.Proofs.YtblafbbnplfpjaaGreatDoor
namespace Go.Proofs.YtblafbbnplfpjaaGreatDoor
open Go.RowKit Go.Shelf
set_option linter.unusedVariables false
set_option linter.unusedSimpArgs false

/-- The marks. -/
def mkE {α : Type} (f : Nat → α) : Nat → List α
  | 0 => []
  | k + 1 => mkE f k ++ [f k]
theorem mkE_length {α : Type} (f : Nat → α) : ∀ k, (mkE f k).length = k
  | 0 => rfl
  | k + 1 => by simp [mkE, mkE_length f k]
theorem mkE_getD {α : Type} (f : Nat → α) (x : α) : ∀ (n k : Nat), k < n → (mkE f n).getD k x = f k
  | 0, k, h => absurd h (by omega)
  | n + 1, k, h => by
    rw [mkE, List.getD_eq_getElem?_getD]
    by_cases hk : k < n
    · rw [List.getElem?_append_left (by rw [mkE_length]; exact hk), ← List.getD_eq_getElem?_getD]; exact mkE_getD f x n k hk
    · obtain rfl : k = n := by omega
      rw [List.getElem?_append_right (by rw [mkE_length]; exact Nat.le_refl _), mkE_length, Nat.sub_self]; rfl
variable {α : Type} {E : El α}
/-- A list's cells, one behind the other. -/
theorem le_row {w : World} {a : Option Addr} {len : Nat} {ps : List α} (h : Le E w a len ps) : ∀ ad, a = some ad → ∀ (j : Nat) (u : Value), (rowE E ps)[j]? = some u → w.cell? (ad.add j) = some u := by
  intro ad had j u hj
  subst had
  have h0 : 0 < len := by
    rw [← h.1]
    rcases ps with _ | ⟨y, ys⟩
    · simp [rowE] at hj
    · simp
  obtain ⟨b, off, e⟩ := h.ex h0
  cases e
  exact h.news j u hj
/-- A row, full. -/
theorem full_rowE {w : World} {B g cap : Nat} {qs : List α} (h : w.ownsRow B E.te E.s (.slice (some ⟨g, 0, none⟩) cap cap) cap (rowE E qs)) : Va w g E.te (rowE E qs).toArray := by
  obtain ⟨h1, h2 | ⟨g', cap', cur, e, hB, hh, hc, hm, hs, ht⟩⟩ := h
  · cases h2.1
  · cases e
    rw [List.take_of_length_le (by rw [Array.length_toList]; omega)] at ht
    unfold Va
    rw [hh, ← ht]
theorem le_preE {w : World} {g : Nat} {ps qs : List α} (h : Va w g E.te (rowE E (ps ++ qs)).toArray) : Le E w (some ⟨g, 0, none⟩) ps.length ps := by
  refine ⟨rfl, fun h0 => ⟨g, 0, rfl, fun i u hu => ?_⟩⟩
  have hi : i < (rowE E ps).length := (List.getElem?_eq_some_iff.1 hu).1
  rw [h.cellAt, Nat.zero_add, List.getElem?_toArray, rowE_append, List.getElem?_append_left hi]
  exact hu
theorem le_allE {w : World} {g : Nat} {qs : List α} (h : Va w g E.te (rowE E qs).toArray) : Le E w (some ⟨g, 0, none⟩) qs.length qs :=
  le_preE (qs := []) (by rw [List.append_nil]; exact h)
theorem below_drw (X : World) : Below X.heap.size X X.drew := ⟨rfl, rfl, rfl, Nat.le_refl _, fun _ _ => rfl⟩
theorem ge_of_own {w : World} {B n : Nat} {v : Value} {qs : List α} (h : w.ownsRow B E.te E.s v n (rowE E qs)) (hn : qs.length = n) : Ge E w B v qs := by
  unfold Ge; rw [hn]; exact h
theorem own_of_ge {w : World} {B n : Nat} {v : Value} {qs : List α} (h : Ge E w B v qs) (hn : qs.length = n) : w.ownsRow B E.te E.s v n (rowE E qs) := by
  unfold Ge at h; rw [hn] at h; exact h
end Go.Proofs.YtblafbbnplfpjaaGreatDoor
