import Derived.Test.YtblafbbnplfpjaaGreatDoorMgAj
import Derived.Lib.SlicesS
namespace Go.Proofs.YtblafbbnplfpjaaGreatDoor
open Go.RowKit Go.Shelf
set_option linter.unusedVariables false

theorem infoStr : (Tryz.prog.info? 9).map (fun i => (i.zero, i.size, i.bytes)) = some (some (.string ⟨#[]⟩), 1, 16) := by kernel_rfl
def elS : El (List UInt8) where
  enc := fun l => [sv l]
  dft := []
  te := 9
  tl := 23
  z := .string ⟨#[]⟩
  s := 1
  by8 := 16
  len := fun _ => rfl
  one := fun x v hv => by simp at hv; subst hv; rfl
  pos := by decide
  und := Tryz.underlying23
  inf := infoStr
  zs := rfl
  bt := by decide
theorem drop_b {l : List Bool} {j : Nat} (h : j < l.length) : l.drop j = l.getD j false :: l.drop (j + 1) := by
  rw [List.drop_eq_getElem_cons h, List.getD_eq_getElem?_getD, List.getElem?_eq_getElem h]; rfl
def idB (v : Bool) : List Bool → Nat → Int
  | [], _ => -1
  | x :: l, j => if v = x then j else idB v l (j + 1)
theorem idB_has (v : Bool) : ∀ (l : List Bool) (j : Nat), decide (0 ≤ idB v l j) = l.contains v
  | [], j => by simp [idB]
  | x :: l, j => by
    unfold idB
    by_cases h : v = x
    · simp [h]
    · rw [if_neg h, idB_has v l (j + 1)]; simp [h]
set_option maxHeartbeats 1000000 in
theorem index_b (l : List Bool) (a : Option Addr) (cap : Nat) (v : Bool) (w : World) (hL : Le elB w a l.length l) (hl : l.length ≤ 100) :
    Calls Tryz.prog 59 #[.slice a l.length cap, .bool v] w fun e w' => e = .returned (.int .i64 (idB v l 0)) ∧ w' = w := by
  obtain ⟨R, hR⟩ : ∃ R, idB v l 0 = R := ⟨_, rfl⟩
  have HR : Hid (idB v l 0 = R) := hR
  have HL : Hid (Le elB w a l.length l) := hL
  rw [hR]
  clear hR hL
  go_enter Tryz.func59, Tryz.ntmps59
  go_wp2_with fail
  go_loopw [5, 8] (fun _ j wr => ∃ i : Nat, j = .int .i64 i ∧ i ≤ l.length ∧ Hid (idB v (l.drop i) i = R) ∧ wr = w) (fun _ j _ => (l.length - (intOf j).toNat : Nat))
  case atStart => exact ⟨0, rfl, Nat.zero_le _, HR.out, rfl⟩
  case round =>
    clear HR
    obtain ⟨i, rfl, hi, HR, hw⟩ := hrel
    subst hw
    rcases Nat.lt_or_ge i l.length with hlt | hge
    · have hii : (i : Int) < l.length := by omega
      obtain ⟨b, off, rfl⟩ := HL.out.ex (by omega)
      have c0 : wr.cell? ⟨b, off + i, none⟩ = some (.bool (l.getD i false)) := by have := HL.out.at i hlt 0 (.bool (l.getD i false)) rfl; simpa [elB] using this
      have hd := drop_b hlt
      have HD : Hid ((if v = l.getD i false then (i : Int) else idB v (l.drop (i + 1)) (i + 1)) = R) := by
        have := HR.out; rw [hd] at this; exact this
      clear hd HR
      generalize l.getD i false = x at *
      by_cases h : v = x
      · have HD2 : Hid ((i : Int) = R) := by have := HD.out; rw [if_pos h] at this; exact this
        have hb : (v == x) = true := by simpa using h
        clear HD h
        go_wp2_with fail
        go_ret
        exact ⟨by rw [← HD2.out]; rfl, rfl⟩
      · have HD2 : Hid (idB v (l.drop (i + 1)) (i + 1) = R) := by have := HD.out; rw [if_neg h] at this; exact this
        have hb : (v == x) = false := by simpa using h
        clear HD h
        go_wp2_with fail
        go_roundw
        case rel => exact ⟨i + 1, rfl, by omega, HD2.out, trivial⟩
        case measure => simp [intOf]; omega
    · obtain rfl : i = l.length := by omega
      have HR2 : Hid ((-1 : Int) = R) := by have := HR.out; rw [List.drop_length] at this; exact this
      clear hge HR
      go_wp2_with fail
      go_ret
      exact ⟨by rw [← HR2.out]; rfl, rfl⟩
theorem contains_b (l : List Bool) (a : Option Addr) (cap : Nat) (v : Bool) (w : World) (hL : Le elB w a l.length l) (hl : l.length ≤ 100) :
    Calls Tryz.prog 36 #[.slice a l.length cap, .bool v] w fun e w' => e = .returned (.bool (l.contains v)) ∧ w' = w := by
  have C9 := index_b l a cap v w hL hl
  obtain ⟨R, hR⟩ : ∃ R, idB v l 0 = R := ⟨_, rfl⟩
  have HE : Hid (l.contains v = decide (0 ≤ R)) := by show _ = _; rw [← hR, idB_has]
  rw [hR] at C9
  clear hR hL
  generalize l.contains v = E at *
  go_enter Tryz.func36, Tryz.ntmps36
  go_wp2_with fail
  refine C9.mono ?_
  rintro e w' ⟨rfl, rfl⟩
  clear C9
  go_wp2_with fail
  go_ret
  exact ⟨by rw [HE.out]; rfl, rfl⟩
theorem ba_inj {l m : List UInt8} : (⟨l.toArray⟩ : ByteArray) = ⟨m.toArray⟩ ↔ l = m := by
  constructor
  · intro h; have := congrArg (fun b : ByteArray => b.data.toList) h; simpa using this
  · intro h; rw [h]
theorem contains_s (l : List (List UInt8)) (a : Option Addr) (cap : Nat) (x : List UInt8) (w : World) (hL : Le elS w a l.length l) (hl : l.length ≤ 100) :
    Calls Tryz.prog 37 #[.slice a l.length cap, sv x] w fun e w' => e = .returned (.bool (l.contains x)) ∧ w' = w := by
  rcases Nat.eq_zero_or_pos l.length with h0 | h0
  · obtain rfl := List.length_eq_zero_iff.1 h0
    exact Tryz.slices_Contains_string_empty a cap ⟨x.toArray⟩ w
  · obtain ⟨b, off, rfl⟩ := hL.ex h0
    have := Tryz.slices_Contains_string b off l.length cap (l.map (fun s => (⟨s.toArray⟩ : ByteArray))) ⟨x.toArray⟩ w (by simp) (by omega) (by
      intro j hj
      have hj' : j < l.length := by simpa using hj
      have h1 := hL.at j hj' 0 (sv (l.getD j [])) rfl
      have h2 : (l.map (fun s => (⟨s.toArray⟩ : ByteArray))).getD j ByteArray.empty = ⟨(l.getD j []).toArray⟩ := by
        rw [List.getD_eq_getElem?_getD, List.getElem?_map, List.getD_eq_getElem?_getD, List.getElem?_eq_getElem hj']; rfl
      rw [h2]
      simpa [elS] using h1)
    refine this.mono ?_
    rintro e w' ⟨rfl, rfl⟩
    refine ⟨?_, rfl⟩
    congr 2
    rw [Bool.eq_iff_iff, Go.Lib.containsS_iff, List.take_of_length_le (by simp), List.mem_map, List.contains_iff_mem]
    constructor
    · rintro ⟨y, hy, e⟩; rw [ba_inj] at e; rw [← e]; exact hy
    · intro h; exact ⟨x, h, rfl⟩
def bySo (op c : Int) : Bool := if op = 1 then decide (c < 0) else if op = 2 then decide (c ≤ 0) else if op = 3 then decide (0 < c) else decide (0 ≤ c)
def vq (n : Nd) : Rat := Rat.divInt n.un (10 ^ n.pl.toNat)
set_option maxHeartbeats 4000000 in
theorem worth_any (U : Int) (P : Nat) (hP : P ≤ 9) (h1 : -9223372036854775808 ≤ U) (h2 : U ≤ 9223372036854775807) (w : World) (hT : Tn w) :
    Calls Tryz.prog 33 #[.int .i64 U, .int .i64 P] w fun e W' => ∃ s a l c zs b m d ds, e = .returned (.agg #[.bool s, .slice a l c, .slice b m d]) ∧ Rt W' s a l c zs b m d ds (Rat.divInt U (10 ^ P)) ∧ Below w.heap.size w W' := by
  have HT : Hid (Tn w) := hT
  have HV : Hid (Rat.divInt (mkd U P).1 (10 ^ (mkd U P).2) = Rat.divInt U (10 ^ P)) := mkd_val P U
  have HCn : Hid (Can (mkd U P).1 (mkd U P).2) := mkd_can P U hP
  have HBd : Hid (-9223372036854775808 ≤ (mkd U P).1 ∧ (mkd U P).1 ≤ 9223372036854775807) := mkd_bound P U h1 h2
  have C9 := fun W => make_ok U P hP h1 h2 W
  obtain ⟨V, Q, hm⟩ : ∃ V Q, mkd U P = (V, Q) := ⟨_, _, rfl⟩
  rw [hm] at HV HCn HBd C9
  dsimp only at HV HCn HBd C9
  clear hT hm
  have B0 : Below w.heap.size w w := Below.refl _ _
  go_enter Tryz.func33, Tryz.ntmps33
  go_wp2_with fail
  refine ent1 w _ _ (Q := fun W => Calls Tryz.prog _ _ W _) ?_
  intro x1 hb hs V0
  replace B0 := step B0 hb
  clear hb hs
  refine (C9 x1).mono ?_
  rintro e x2 ⟨rfl, hb⟩
  replace V0 := V0.a hb
  replace B0 := step B0 hb
  clear hb C9
  go_upto_region 2 with fail
  refine ent1 x2 _ _ (Q := fun W => Code.wp _ _ _ _ W) ?_
  intro x3 hb hs V1
  replace V0 := V0.a hb
  replace B0 := step B0 hb
  have c0 := V1.c0
  have c1 := V1.c1
  clear hb hs
  go_wp2_with fail
  refine (rat_ok V Q HBd.out.1 HBd.out.2 HCn.out _ (HT.out.to B0)).mono ?_
  rintro e x4 ⟨s, a, l, c, z, b, m, d, y, rfl, hx, hb⟩
  rw [HV.out] at hx
  replace V0 := V0.a hb
  replace B0 := step B0 hb
  clear hb c0 c1 V1
  have hl0 := V0.lt
  go_upto_region 3 with fail
  refine ent1 x4 _ _ (Q := fun W => Code.wp _ _ _ _ W) ?_
  intro x5 hb hs V2
  replace V0 := V0.a hb
  replace hx := Rt.after hb hx
  replace B0 := step B0 hb
  have d0 := V2.d0
  have d1 := V2.d1
  have d2 := V2.d2
  have e0 := V0.d0
  have e1 := V0.d1
  have e2 := V0.d2
  have f0 := V0.frozen 0
  have f1 := V0.frozen 1
  have f2 := V0.frozen 2
  clear hb hs
  go_wp2_with fail
  refine bodyPost_ret (results_r rfl rfl (V0.set3 _ _ _)) rfl ?_
  exact ⟨s, a, l, c, z, b, m, d, y, rfl, hx.far V0 (noInt3 _ _ _ _ _ _ _) (fa3 _ _ _ _ _), belo3 B0 (Nat.le_refl _) _ _ _⟩
end Go.Proofs.YtblafbbnplfpjaaGreatDoor
namespace Go.Proofs.YtblafbbnplfpjaaGreatDoor
open Go.RowKit Go.Shelf
set_option linter.unusedVariables false

set_option maxHeartbeats 4000000 in
theorem isSo_any (op U : Int) (P : Nat) (h1 : -9223372036854775808 ≤ U) (h2 : U ≤ 9223372036854775807) (hc : Can U P) (s : Bool) (a : Option Addr) (l c : Nat) (zs : List Int) (b : Option Addr) (m d : Nat) (ds : List Int) (q : Rat) (w : World) (hT : Tn w) (hq : Rt w s a l c zs b m d ds q) :
    Calls Tryz.prog 38 #[.agg #[.bool s, .slice a l c, .slice b m d], .int .i64 op, .agg #[.int .i64 U, .int .i64 P]] w fun e w' => e = .returned (.bool (bySo op (qcmp q (Rat.divInt U (10 ^ P))))) ∧ Below w.heap.size w w' := by
  have HT : Hid (Tn w) := hT
  have HCn : Hid (Can U P) := hc
  obtain ⟨C, hC⟩ : ∃ C, qcmp q (Rat.divInt U (10 ^ P)) = C := ⟨_, rfl⟩
  have HQ : Hid (qcmp q (Rat.divInt U (10 ^ P)) = C) := hC
  rw [hC]
  obtain ⟨R, hR⟩ : ∃ R, bySo op C = R := ⟨_, rfl⟩
  have HR : Hid (bySo op C = R) := hR
  rw [hR]
  clear hT hc hC hR
  have B0 : Below w.heap.size w w := Below.refl _ _
  go_enter Tryz.func38, Tryz.ntmps38
  go_wp2_with fail
  refine ent2 w _ _ _ _ (Q := fun W => Calls Tryz.prog _ _ W _) ?_
  intro x1 hb hs V0 V1
  replace B0 := step B0 hb
  replace hq := Rt.after hb hq
  clear hb hs V1
  refine (rat_ok U P h1 h2 HCn.out _ (HT.out.to B0)).mono ?_
  rintro e x2 ⟨s2, a2, l2, c2, z2, b2, m2, d2, y2, rfl, hx, hb⟩
  replace V0 := V0.a hb
  replace hq := Rt.after hb hq
  replace B0 := step B0 hb
  clear hb
  go_upto_region 2 with fail
  refine ent1 x2 _ _ (Q := fun W => Code.wp _ _ _ _ W) ?_
  intro x3 hb hs V1
  replace V0 := V0.a hb
  replace hq := Rt.after hb hq
  replace hx := Rt.after hb hx
  replace B0 := step B0 hb
  have c0 := V0.d0
  have c1 := V0.d1
  have c2' := V0.d2
  have e0 := V1.d0
  have e1 := V1.d1
  have e2 := V1.d2
  clear hb hs
  go_wp2_with fail
  have C9 := qcompare_any s a l c zs b m d ds _ s2 a2 l2 c2 z2 b2 m2 d2 y2 _ _ hq hx
  rw [HQ.out] at C9
  refine C9.mono ?_
  rintro e x4 ⟨rfl, hb⟩
  replace B0 := step B0 hb
  clear hb c0 c1 c2' e0 e1 e2 V0 V1 hq hx C9 HQ
  by_cases o1 : op = 1
  · subst o1
    go_wp2_with fail
    go_ret
    exact ⟨by rw [← HR.out]; rfl, B0⟩
  · by_cases o2 : op = 2
    · subst o2
      go_wp2_with fail
      go_ret
      exact ⟨by rw [← HR.out]; rfl, B0⟩
    · by_cases o3 : op = 3
      · subst o3
        go_wp2_with fail
        go_ret
        exact ⟨by rw [← HR.out]; rfl, B0⟩
      · have HR2 : Hid (R = decide (0 ≤ C)) := by show _ = _; rw [← HR.out]; simp [bySo, o1, o2, o3]
        clear HR
        go_wp2_with fail
        go_ret
        exact ⟨by rw [HR2.out]; rfl, B0⟩
def vfa (by1 ln1 : List (List UInt8)) (A Q : Rat) (n : Nd) : Bool :=
  if n.kd = 4 then by1.contains n.nm else if n.kd = 5 then ln1.contains n.nm else if n.kd = 6 then bySo n.op (qcmp A (vq n)) else bySo n.op (qcmp Q (vq n))
theorem any_contains (l : List Bool) : l.any id = l.contains true := by
  induction l with
  | nil => rfl
  | cons b l ih => cases b <;> simp [ih]
theorem all_contains (l : List Bool) : l.all id = !l.contains false := by
  induction l with
  | nil => rfl
  | cons b l ih => cases b <;> simp [ih]
def cf (a1 : Option Addr) (l1 c1 : Nat) (a2 : Option Addr) (l2 c2 : Nat) (am dg qt : Int) : Array Value := #[.slice a1 l1 c1, .slice a2 l2 c2, .int .i64 am, .int .i64 dg, .int .i64 qt]
theorem Va.f0 {w : World} {b : Nat} {t : TypeId} {x0 x1 x2 x3 x4 : Value} (h : Va w b t #[x0, x1, x2, x3, x4]) : w.cell? ⟨b, 0, none⟩ = some x0 := by rw [h.cellAt 0]; rfl
theorem Va.f1 {w : World} {b : Nat} {t : TypeId} {x0 x1 x2 x3 x4 : Value} (h : Va w b t #[x0, x1, x2, x3, x4]) : w.cell? ⟨b, 1, none⟩ = some x1 := by rw [h.cellAt 1]; rfl
theorem Va.f2 {w : World} {b : Nat} {t : TypeId} {x0 x1 x2 x3 x4 : Value} (h : Va w b t #[x0, x1, x2, x3, x4]) : w.cell? ⟨b, 2, none⟩ = some x2 := by rw [h.cellAt 2]; rfl
theorem Va.f3 {w : World} {b : Nat} {t : TypeId} {x0 x1 x2 x3 x4 : Value} (h : Va w b t #[x0, x1, x2, x3, x4]) : w.cell? ⟨b, 3, none⟩ = some x3 := by rw [h.cellAt 3]; rfl
theorem Va.f4 {w : World} {b : Nat} {t : TypeId} {x0 x1 x2 x3 x4 : Value} (h : Va w b t #[x0, x1, x2, x3, x4]) : w.cell? ⟨b, 4, none⟩ = some x4 := by rw [h.cellAt 4]; rfl
structure Fa (w : World) (bf ba bq : Nat) (by1 ln1 : List (List UInt8)) (A Q : Rat) : Prop where
  tn : Tn w
  fac : ∃ a1 c1 a2 c2 am dg qt, Va w bf 25 (cf a1 by1.length c1 a2 ln1.length c2 am dg qt) ∧ Le elS w a1 by1.length by1 ∧ Le elS w a2 ln1.length ln1
  amt : ∃ s a l c zs b m d ds, Va w ba 66 #[.bool s, .slice a l c, .slice b m d] ∧ Rt w s a l c zs b m d ds A
  qty : ∃ s a l c zs b m d ds, Va w bq 66 #[.bool s, .slice a l c, .slice b m d] ∧ Rt w s a l c zs b m d ds Q
  s1 : by1.length ≤ 100
  s2 : ln1.length ≤ 100
theorem Fa.after {w w' : World} {bf ba bq : Nat} {by1 ln1 : List (List UInt8)} {A Q : Rat} (h : Fa w bf ba bq by1 ln1 A Q) (hb : Below w.heap.size w w') : Fa w' bf ba bq by1 ln1 A Q := by
  obtain ⟨a1, c1, a2, c2, am, dg, qt, v, l1, l2⟩ := h.fac
  obtain ⟨s, a, l, c, zs, b, m, d, ds, va, ra⟩ := h.amt
  obtain ⟨s', a', l', c', zs', b', m', d', ds', vq', rq⟩ := h.qty
  exact ⟨h.tn.to hb, ⟨a1, c1, a2, c2, am, dg, qt, v.after hb, l1.after hb, l2.after hb⟩, ⟨s, a, l, c, zs, b, m, d, ds, va.after hb, ra.after hb⟩, ⟨s', a', l', c', zs', b', m', d', ds', vq'.after hb, rq.after hb⟩, h.s1, h.s2⟩
set_option maxHeartbeats 8000000 in
theorem join_any (w0 : World) (bf ba bq : Nat) (by1 ln1 : List (List UInt8)) (A Q : Rat) (hF : Fa w0 bf ba bq by1 ln1 A Q) (n : Nd) (hn6 : N64 n) (k : Fo) (hok : ∃ o d, (Fo.cons n k .nil).Ok wdB o d) (W : World) (B : Nat) (kv : Value) (hb : Below w0.heap.size w0 W) (hk : Ge elB W B kv (k.ev (vfa by1 ln1 A Q))) (hk64 : k.len ≤ 64) :
    Calls Tryz.prog 35 #[nv n, kv, pt1 bf, pt1 ba, pt1 bq] W fun e W' => e = .returned (.bool (val (vfa by1 ln1 A Q) n (k.ev (vfa by1 ln1 A Q)))) ∧ Below W.heap.size W W' := by
  have F := hF.after hb
  obtain ⟨o, d, ⟨⟨hn, -, -, hks, -⟩, -⟩⟩ := hok
  have hel : (k.ev (vfa by1 ln1 A Q)).length ≤ 100 := by rw [ev_len]; omega
  have hel1 : (k.ev (vfa by1 ln1 A Q)).length = k.len := ev_len _ _
  obtain ⟨kd, ks, nm, op, un, pl⟩ := n
  dsimp only [nv] at *
  have HV : Hid (∀ x, val (vfa by1 ln1 A Q) ⟨kd, ks, nm, op, un, pl⟩ (k.ev (vfa by1 ln1 A Q)) = x → x = val (vfa by1 ln1 A Q) ⟨kd, ks, nm, op, un, pl⟩ (k.ev (vfa by1 ln1 A Q))) := fun x h => h.symm
  obtain ⟨R, hR⟩ : ∃ R, val (vfa by1 ln1 A Q) ⟨kd, ks, nm, op, un, pl⟩ (k.ev (vfa by1 ln1 A Q)) = R := ⟨_, rfl⟩
  rw [hR]
  obtain ⟨L, hL⟩ : ∃ L, k.ev (vfa by1 ln1 A Q) = L := ⟨_, rfl⟩
  rw [hL] at hR hel hel1 hk
  clear HV hL
  obtain ⟨ak, ck, rfl, -, -, -⟩ := hk.shape
  have hkL := hk.toLe
  clear hk
  by_cases k1 : kd = 1
  · subst k1
    have HE : Hid (L.contains true = R) := by show _ = _; rw [← hR, ← any_contains]; simp [val]
    have C9 := fun W h => contains_b L ak ck true W h hel
    have HK : Hid (Le elB W ak L.length L) := hkL
    clear hR hkL F hn hel1 hks hk64
    go_enter Tryz.func35, Tryz.ntmps35
    go_upto_region 1 with fail
    refine ent1 W _ _ (Q := fun W => Code.wp _ _ _ _ W) ?_
    intro W1 hb1 hs1 V1
    have m0 := V1.n0
    have D9 := C9 W1 (HK.out.after hb1)
    rw [HE.out] at D9
    clear C9
    go_wp2_with fail
    refine D9.mono ?_
    rintro e w' ⟨rfl, rfl⟩
    go_wp2_with fail
    go_ret
    exact ⟨rfl, hb1⟩
  by_cases k2 : kd = 2
  · subst k2
    have HE : Hid ((!(L.contains false)) = R) := by show _ = _; rw [← hR, ← all_contains]; simp [val]
    have C9 := fun W h => contains_b L ak ck false W h hel
    have HK : Hid (Le elB W ak L.length L) := hkL
    clear hR hkL F hn hel1 hks hk64
    go_enter Tryz.func35, Tryz.ntmps35
    go_upto_region 1 with fail
    refine ent1 W _ _ (Q := fun W => Code.wp _ _ _ _ W) ?_
    intro W1 hb1 hs1 V1
    have m0 := V1.n0
    have D9 := C9 W1 (HK.out.after hb1)
    generalize L.contains false = X at *
    clear C9
    go_wp2_with fail
    refine D9.mono ?_
    rintro e w' ⟨rfl, rfl⟩
    go_wp2_with fail
    go_ret
    exact ⟨by rw [← HE.out]; rfl, hb1⟩
  by_cases k3 : kd = 3
  · subst k3
    have h1 : L.length = 1 := by
      have : ks = 1 := by rcases hn with ⟨h, -⟩ | ⟨-, h, -⟩ | ⟨h, -⟩ | ⟨h, -⟩ <;> dsimp only at h <;> omega
      omega
    obtain ⟨x, rfl⟩ : ∃ x, L = [x] := by
      match L, h1 with
      | [x], _ => exact ⟨x, rfl⟩
    obtain ⟨b, off, rfl⟩ := hkL.ex (by simp)
    have hW := hkL.after ((Below.refl _ _).alloc (Nat.le_refl _) (.cells #[.int .i64 3, .int .i64 ks, sv nm, .int .i64 op, .int .i64 un, .int .i64 pl] 48))
    have c0 : (W.alloc (.cells #[.int .i64 3, .int .i64 ks, sv nm, .int .i64 op, .int .i64 un, .int .i64 pl] 48)).cell? ⟨b, off, none⟩ = some (.bool x) := by have := hW.at 0 (by simp) 0 (.bool x) rfl; simpa [elB] using this
    have HE : Hid (R = !x) := by show _ = _; rw [← hR]; simp [val]
    clear hR hkL F hn hW hel hel1 h1 hks hk64
    go_enter Tryz.func35, Tryz.ntmps35
    go_upto_region 1 with fail
    skip
    go_wp2_with fail
    go_ret
    exact ⟨by rw [HE.out]; rfl, (Below.refl _ _).alloc (Nat.le_refl _) _⟩
  by_cases k4 : kd = 4
  · subst k4
    obtain ⟨a1, c1, a2, c2, am, dg, qt, vf, l1, l2⟩ := F.fac
    have hs9 := F.s1
    have HE : Hid (by1.contains nm = R) := by show _ = _; rw [← hR]; simp [val, vfa]
    have HL9 : Hid (Le elS W a1 by1.length by1) := l1
    have HVF : Hid (Va W bf 25 (cf a1 by1.length c1 a2 ln1.length c2 am dg qt)) := vf
    clear hR hkL F hn l1 l2 vf
    go_enter Tryz.func35, Tryz.ntmps35
    go_upto_region 1 with fail
    refine ent1 W _ _ (Q := fun W => Code.wp _ _ _ _ W) ?_
    intro W1 hb1 hs1 V1
    have v9 := HVF.out.after hb1
    have c9 := v9.f0
    have m0 := V1.n0
    have m2 := V1.n2
    have L9 := HL9.out.after hb1
    clear v9
    go_wp2_with fail
    refine (contains_s by1 a1 c1 nm W1 L9 hs9).mono ?_
    rw [HE.out]
    rintro e w' ⟨rfl, rfl⟩
    go_wp2_with fail
    go_ret
    exact ⟨rfl, hb1⟩
  by_cases k5 : kd = 5
  · subst k5
    obtain ⟨a1, c1, a2, c2, am, dg, qt, vf, l1, l2⟩ := F.fac
    have hs9 := F.s2
    have HE : Hid (ln1.contains nm = R) := by show _ = _; rw [← hR]; simp [val, vfa]
    have HL9 : Hid (Le elS W a2 ln1.length ln1) := l2
    have HVF : Hid (Va W bf 25 (cf a1 by1.length c1 a2 ln1.length c2 am dg qt)) := vf
    clear hR hkL F hn l1 l2 vf
    go_enter Tryz.func35, Tryz.ntmps35
    go_upto_region 1 with fail
    refine ent1 W _ _ (Q := fun W => Code.wp _ _ _ _ W) ?_
    intro W1 hb1 hs1 V1
    have v9 := HVF.out.after hb1
    have c9 := v9.f1
    have m0 := V1.n0
    have m2 := V1.n2
    have L9 := HL9.out.after hb1
    clear v9
    go_wp2_with fail
    refine (contains_s ln1 a2 c2 nm W1 L9 hs9).mono ?_
    rw [HE.out]
    rintro e w' ⟨rfl, rfl⟩
    go_wp2_with fail
    go_ret
    exact ⟨rfl, hb1⟩
  by_cases k6 : kd = 6
  · subst k6
    obtain ⟨s, a, l, c, zs, b, m, d, ds, vr, rr⟩ := F.amt
    have hcan : CanI un pl ∧ 0 ≤ un := by
      rcases hn with ⟨h, -⟩ | ⟨h, -⟩ | ⟨h, -⟩ | ⟨-, -, -, -, -, h1, h2⟩
      · dsimp only at h; omega
      · dsimp only at h; omega
      · dsimp only at h; omega
      · exact ⟨h2, h1⟩
    obtain ⟨P, rfl⟩ : ∃ P : Nat, pl = P := ⟨pl.toNat, by have := hcan.1.1; omega⟩
    have HCN : Hid (Can un P) := (canI_iff un P).1 hcan.1
    have hu := hn6 un (by simp)
    have HE : Hid (bySo op (qcmp A (Rat.divInt un (10 ^ P))) = R) := by show _ = _; rw [← hR]; simp [val, vfa, vq, vq]
    have HT : Hid (Tn W) := F.tn
    have HVR : Hid (Va W ba 66 #[.bool s, .slice a l c, .slice b m d]) := vr
    have HRR : Hid (Rt W s a l c zs b m d ds A) := rr
    clear hR hkL F hn vr rr hcan hn6
    go_enter Tryz.func35, Tryz.ntmps35
    go_upto_region 1 with fail
    refine ent1 W _ _ (Q := fun W => Code.wp _ _ _ _ W) ?_
    intro W1 hb1 hs1 V1
    have v9 := HVR.out.after hb1
    have c9 := v9.d0
    have c8 := v9.d1
    have c7 := v9.d2
    have m0 := V1.n0
    have m3 := V1.n3
    have m4 := V1.n4
    have m5 := V1.n5
    have R9 := HRR.out.after hb1
    have T9 := HT.out.to hb1
    clear v9
    go_wp2_with fail
    refine (isSo_any op un P hu.1 hu.2 HCN.out s a l c zs b m d ds _ W1 T9 R9).mono ?_
    rw [HE.out]
    rintro e w' ⟨rfl, hb2⟩
    go_wp2_with fail
    go_ret
    exact ⟨rfl, step hb1 hb2⟩
  obtain ⟨s, a, l, c, zs, b, m, d, ds, vr, rr⟩ := F.qty
  have hcan : CanI un pl ∧ 0 ≤ un := by
    rcases hn with ⟨h, -⟩ | ⟨h, -⟩ | ⟨h, -⟩ | ⟨-, -, -, -, -, h1, h2⟩
    · dsimp only at h; omega
    · dsimp only at h; omega
    · dsimp only at h; omega
    · exact ⟨h2, h1⟩
  obtain ⟨P, rfl⟩ : ∃ P : Nat, pl = P := ⟨pl.toNat, by have := hcan.1.1; omega⟩
  have HCN : Hid (Can un P) := (canI_iff un P).1 hcan.1
  have hu := hn6 un (by simp)
  have HE : Hid (bySo op (qcmp Q (Rat.divInt un (10 ^ P))) = R) := by show _ = _; rw [← hR]; simp [val, vfa, vq, k1, k2, k3, k4, k5, k6]
  have HT : Hid (Tn W) := F.tn
  have HVR : Hid (Va W bq 66 #[.bool s, .slice a l c, .slice b m d]) := vr
  have HRR : Hid (Rt W s a l c zs b m d ds Q) := rr
  clear hR hkL F hn vr rr hcan hn6
  go_enter Tryz.func35, Tryz.ntmps35
  go_upto_region 1 with fail
  refine ent1 W _ _ (Q := fun W => Code.wp _ _ _ _ W) ?_
  intro W1 hb1 hs1 V1
  have v9 := HVR.out.after hb1
  have c9 := v9.d0
  have c8 := v9.d1
  have c7 := v9.d2
  have m0 := V1.n0
  have m3 := V1.n3
  have m4 := V1.n4
  have m5 := V1.n5
  have R9 := HRR.out.after hb1
  have T9 := HT.out.to hb1
  clear v9
  go_wp2_with fail
  refine (isSo_any op un P hu.1 hu.2 HCN.out s a l c zs b m d ds _ W1 T9 R9).mono ?_
  rw [HE.out]
  rintro e w' ⟨rfl, hb2⟩
  go_wp2_with fail
  go_ret
  exact ⟨rfl, step hb1 hb2⟩
end Go.Proofs.YtblafbbnplfpjaaGreatDoor
namespace Go.Proofs.YtblafbbnplfpjaaGreatDoor
open Go.RowKit Go.Shelf
set_option linter.unusedVariables false

set_option maxHeartbeats 4000000 in
theorem foldB (ns : List Nd) (a : Option Addr) (cap : Nat) (w : World) (hL : Le elN w a ns.length ns) (h64 : ∀ n ∈ ns, N64 n) (h1 : ns.length ≤ 64) (n : Nd) (k : Fo) (hns : ns = (Fo.cons n k .nil).flat) (hok : (Fo.cons n k .nil).Ok wdB 0 1)
    (bf ba bq : Nat) (by1 ln1 : List (List UInt8)) (A Q : Rat) (hF : Fa w bf ba bq by1 ln1 A Q) :
    Calls Tryz.prog 34 #[.slice a ns.length cap, .func (.func 35) #[] #[pt1 bf, pt1 ba, pt1 bq]] w fun e w' => e = .returned (.bool (val (vfa by1 ln1 A Q) n (k.ev (vfa by1 ln1 A Q)))) ∧ Below w.heap.size w w' := by
  have h0 : 0 < ns.length := by rw [hns]; simp [Fo.flat]
  have HL : Hid (Le elN w a ns.length ns) := hL
  have H6 : Hid (∀ n ∈ ns, N64 n) := h64
  have HN : Hid (ns = (Fo.cons n k .nil).flat) := hns
  have HOK : Hid ((Fo.cons n k .nil).Ok wdB 0 1) := hok
  have HF : Hid (Fa w bf ba bq by1 ln1 A Q) := hF
  have HJ : Hid (JnB w.heap.size w bf ba bq (vfa by1 ln1 A Q)) := fun n k o d ok n6 kl W B kv hb hg => join_any w bf ba bq by1 ln1 A Q HF.out n n6 k ⟨o, d, ok⟩ W B kv hb hg kl
  obtain ⟨R, hR⟩ : ∃ R, val (vfa by1 ln1 A Q) n (k.ev (vfa by1 ln1 A Q)) = R := ⟨_, rfl⟩
  have HR : Hid (val (vfa by1 ln1 A Q) n (k.ev (vfa by1 ln1 A Q)) = R) := hR
  rw [hR]
  clear hL h64 hns hok hF hR
  have B0 : Below w.heap.size w w := Below.refl _ _
  go_enter Tryz.func34, Tryz.ntmps34
  go_upto_region 2 with fail
  refine ent3 w _ _ _ _ _ _ (Q := fun W => Code.wp _ _ _ _ W) ?_
  intro W1 hb hs V0 V1 V2
  replace B0 := step B0 hb
  have L1 := HL.out.after hb
  have hlt := fun b off (h : a = some ⟨b, off, none⟩) => (by subst h; exact HL.out.lt h0 : b < w.heap.size)
  clear hb
  go_upto_region 3 with fail
  refine ent1 W1 _ _ (Q := fun W => Code.wp _ _ _ _ W) ?_
  intro W2 hb hs2 V3
  rw [hs] at V3 hs2
  replace V0 := V0.after hb
  replace V1 := V1.after hb
  replace V2 := V2.after hb
  replace L1 := L1.after hb
  replace B0 := step B0 hb
  clear hb
  have c3 := V3.cell
  have f3 := V3.frozen 0
  go_upto_region 4 with fail
  refine st1 V3 _ (Q := fun W => Code.wp _ _ _ _ W) ?_
  intro W3 hv hg hs3
  have C3 : DsB ns a cap w.heap.size (w.heap.size + 1 + 1) (w.heap.size + 3) (w.heap.size + 1) (.func (.func 35) #[] #[pt1 bf, pt1 ba, pt1 bq]) W3 0 :=
    ⟨V0.gr hg (by omega), V2.gr hg (by omega), hv, V1.gr hg (by omega), L1.grown hg (fun _ b off h => by have := hlt b off h; omega), by omega, by omega, fun b off h => by have := hlt b off h; omega, by omega, h1, Nat.zero_le _⟩
  have B3 : Below w.heap.size w W3 := B0.trans (gr_to hg (by omega) (by omega))
  have HB3 : Hid (Below w.heap.size w W3) := B3
  have d3 := hv.cell
  have hs4 : w.heap.size + 4 ≤ W3.heap.size := by omega
  clear V0 V1 V2 V3 c3 f3 L1 hv hg hs hs2 hs3 B0 hlt
  have C9 : Calls Tryz.prog 58 #[pt1 w.heap.size, pt1 (w.heap.size + 1 + 1), pt1 (w.heap.size + 3), pt1 (w.heap.size + 1)] W3 (DnE ns (w.heap.size + 1 + 1) R (0 + (Fo.cons n k .nil).flat.length) W3) := by
    have := (allD_of (downB w.heap.size w ns a cap w.heap.size (w.heap.size + 1 + 1) (w.heap.size + 3) (w.heap.size + 1) bf ba bq (vfa by1 ln1 A Q) (by omega) H6.out HJ) (.cons n k .nil)).1 0 1 HOK.out 0 W3 [] C3 B3 (by omega) (by rw [List.drop_zero, List.append_nil]; exact HN.out)
    rw [HR.out] at this
    exact this
  clear C3 B3
  go_wp2_with fail
  refine C9.mono ?_
  rintro e W4 ⟨rfl, -, -, hg⟩
  have B4 : Below w.heap.size w W4 := HB3.out.trans (gr_to hg (by omega) (by omega))
  clear hg C9 HB3
  go_wp2_with fail
  go_ret
  exact ⟨rfl, B4⟩
end Go.Proofs.YtblafbbnplfpjaaGreatDoor
namespace Go.Proofs.YtblafbbnplfpjaaGreatDoor
open Go.RowKit Go.Shelf
set_option linter.unusedVariables false
set_option linter.unusedSimpArgs false

def mkE {α : Type} (f : Nat → α) : Nat → List α
  | 0 => []
  | k + 1 => mkE f k ++ [f k]
theorem mkE_length {α : Type} (f : Nat → α) : ∀ k, (mkE f k).length = k
  | 0 => rfl
  | k + 1 => by simp [mkE, mkE_length f k]
theorem mkE_getD {α : Type} (f : Nat → α) (x : α) : ∀ (n k : Nat), k < n → (mkE f n).getD k x = f k
  | 0, k, h => absurd h (by omega)
  | n + 1, k, h => by
    rw [mkE, List.getD_eq_getElem?_getD]
    by_cases hk : k < n
    · rw [List.getElem?_append_left (by rw [mkE_length]; exact hk), ← List.getD_eq_getElem?_getD]; exact mkE_getD f x n k hk
    · obtain rfl : k = n := by omega
      rw [List.getElem?_append_right (by rw [mkE_length]; exact Nat.le_refl _), mkE_length, Nat.sub_self]; rfl
variable {α : Type} {E : El α}
theorem le_row {w : World} {a : Option Addr} {len : Nat} {ps : List α} (h : Le E w a len ps) : ∀ ad, a = some ad → ∀ (j : Nat) (u : Value), (rowE E ps)[j]? = some u → w.cell? (ad.add j) = some u := by
  intro ad had j u hj
  subst had
  have h0 : 0 < len := by
    rw [← h.1]
    rcases ps with _ | ⟨y, ys⟩
    · simp [rowE] at hj
    · simp
  obtain ⟨b, off, e⟩ := h.ex h0
  cases e
  exact h.news j u hj
theorem full_rowE {w : World} {B g cap : Nat} {qs : List α} (h : w.ownsRow B E.te E.s (.slice (some ⟨g, 0, none⟩) cap cap) cap (rowE E qs)) : Va w g E.te (rowE E qs).toArray := by
  obtain ⟨h1, h2 | ⟨g', cap', cur, e, hB, hh, hc, hm, hs, ht⟩⟩ := h
  · cases h2.1
  · cases e
    rw [List.take_of_length_le (by rw [Array.length_toList]; omega)] at ht
    unfold Va
    rw [hh, ← ht]
theorem le_preE {w : World} {g : Nat} {ps qs : List α} (h : Va w g E.te (rowE E (ps ++ qs)).toArray) : Le E w (some ⟨g, 0, none⟩) ps.length ps := by
  refine ⟨rfl, fun h0 => ⟨g, 0, rfl, fun i u hu => ?_⟩⟩
  have hi : i < (rowE E ps).length := (List.getElem?_eq_some_iff.1 hu).1
  rw [h.cellAt, Nat.zero_add, List.getElem?_toArray, rowE_append, List.getElem?_append_left hi]
  exact hu
theorem le_allE {w : World} {g : Nat} {qs : List α} (h : Va w g E.te (rowE E qs).toArray) : Le E w (some ⟨g, 0, none⟩) qs.length qs :=
  le_preE (qs := []) (by rw [List.append_nil]; exact h)
theorem below_drw (X : World) : Below X.heap.size X X.drew := ⟨rfl, rfl, rfl, Nat.le_refl _, fun _ _ => rfl⟩
theorem ge_of_own {w : World} {B n : Nat} {v : Value} {qs : List α} (h : w.ownsRow B E.te E.s v n (rowE E qs)) (hn : qs.length = n) : Ge E w B v qs := by
  unfold Ge; rw [hn]; exact h
theorem own_of_ge {w : World} {B n : Nat} {v : Value} {qs : List α} (h : Ge E w B v qs) (hn : qs.length = n) : w.ownsRow B E.te E.s v n (rowE E qs) := by
  unfold Ge at h; rw [hn] at h; exact h
end Go.Proofs.YtblafbbnplfpjaaGreatDoor
