/-
  Ratios that are lent and written over; rat.Of of a normal ratio; of.
-/
import Derived.Test.YtadfccbjadopgaaGreatRt9a
import Derived.Test.YtadfccbjadopgaaGreatLent5
namespace Go.Proofs.YtadfccbjadopgaaGreat
open Go.RowKit Go.Shelf
set_option linter.unusedVariables false

theorem Va.set31 {w : World} {b : Nat} {t : TypeId} {x y z : Value} (h : Va w b t #[x, y, z]) (y' : Value) : Va (w.setCell ⟨b, 1, none⟩ y') b t #[x, y', z] := by
  unfold Va at *
  simp only [World.setCell]
  rw [Array.getElem?_modify, if_pos rfl, h]
  simp
theorem Va.set32 {w : World} {b : Nat} {t : TypeId} {x y z : Value} (h : Va w b t #[x, y, z]) (z' : Value) : Va (w.setCell ⟨b, 2, none⟩ z') b t #[x, y, z'] := by
  unfold Va at *
  simp only [World.setCell]
  rw [Array.getElem?_modify, if_pos rfl, h]
  simp
theorem faN (w : World) (b i : Nat) (x : Value) : ∀ c, c ≠ b → (w.setCell ⟨b, i, none⟩ x).heap[c]? = w.heap[c]? := fun c hc => Below.heap_setCell _ ⟨b, i, none⟩ _ _ hc
theorem sto31 {W : World} {b : Nat} {t : TypeId} {x y z : Value} (h : Va W b t #[x, y, z]) (y' : Value) {Q : World → Prop}
    (k : ∀ V, Va V b t #[x, y', z] → (∀ c t cs, c ≠ b → Va W c t cs → Va V c t cs) → ((∀ c, c ≠ b → V.heap[c]? = W.heap[c]?) ∧ (∀ B v, B ≤ b → Below B v W → Below B v V)) → Q V) : Q (W.setCell ⟨b, 1, none⟩ y') :=
  k _ (h.set31 y') (fun c t cs hc hv => hv.stay (faN W b 1 y') hc) ⟨faN W b 1 y', fun B v hB hb => hb.setCell (p := ⟨b, 1, none⟩) hB y'⟩

set_option maxHeartbeats 4000000 in
theorem lentr5 (s : Bool) (a : Option Addr) (l c : Nat) (zs : List Int) (b : Option Addr) (m d : Nat) (ys : List Int) (w : World) (h1 : Sl w a l zs) (h2 : Sl w b m ys) (n1 : a = none → l = 0 ∧ c = 0) (n2 : b = none → m = 0 ∧ d = 0) (hl : l ≤ 20000000000000) (hm : m ≤ 20000000000000) :
    Calls Tryz.prog 9 #[.agg #[.bool s, .slice a l c, .slice b m d]] w fun e w' => ∃ g h : Nat, e = .returned (.agg #[.bool s, .slice (some ⟨g, 0, none⟩) l (l + 12), .slice (some ⟨h, 0, none⟩) m (m + 12)]) ∧ Ow w' g (zs ++ marks 12) ∧ Ow w' h (ys ++ marks 12) ∧ Hid (w.heap.size ≤ g ∧ w.heap.size ≤ h ∧ g ≠ h) ∧ Below w.heap.size w w' := by
  have B0 : Below w.heap.size w w := Below.refl _ _
  go_enter Tryz.func9, Tryz.ntmps9
  go_wp2_with fail
  refine ent2 w _ _ _ _ (Q := fun W => Calls Tryz.prog _ _ W _) ?_
  intro x1 hb hs_x1 V0 V1
  replace h1 := Sl.after hb h1
  replace h2 := Sl.after hb h2
  replace B0 := step B0 hb
  clear hb hs_x1
  have sz0 := B0.size
  refine (lent_any a l c zs x1 h1 n1 hl).mono ?_
  rintro e x2 ⟨g, rfl, hg, ho, hb⟩
  replace V0 := Va.after hb V0
  replace V1 := Va.after hb V1
  replace h1 := Sl.after hb h1
  replace h2 := Sl.after hb h2
  replace B0 := step B0 hb
  clear hb
  replace ho : Ow _ g _ := ho
  have c_V0 := V0.d0
  have f0_V0 := V0.frozen 0
  have d_V0 := V0.d1
  have f1_V0 := V0.frozen 1
  have e_V0 := V0.d2
  have f2_V0 := V0.frozen 2
  have l_V0 := V0.lt
  have m_V0 := Nat.le_of_lt l_V0
  go_wp2_with fail
  clear c_V0 f0_V0 d_V0 f1_V0 e_V0 f2_V0 l_V0 m_V0
  refine sto31 V0 _ (Q := fun W => Calls Tryz.prog _ _ W _) ?_
  intro x3 V' oth far
  replace V1 := oth _ _ _ (by omega) V1
  replace h1 := h1.far V0 (noInt3 _ _ _ _ _ _ _) far.1
  replace h2 := h2.far V0 (noInt3 _ _ _ _ _ _ _) far.1
  replace ho := ho.far V0 (noInt3 _ _ _ _ _ _ _) far.1
  replace B0 := far.2 _ _ (Nat.le_refl _) B0
  replace V0 := V'
  clear oth far
  have sz1 := ho.lt
  have sz2 := B0.size
  refine (lent_any b m d ys x3 h2 n2 hm).mono ?_
  rintro e x4 ⟨h, rfl, hh, ho2, hb⟩
  replace V0 := Va.after hb V0
  replace V1 := Va.after hb V1
  replace h1 := Sl.after hb h1
  replace h2 := Sl.after hb h2
  replace ho := Ow.after hb ho
  replace B0 := step B0 hb
  clear hb
  replace ho2 : Ow _ h _ := ho2
  have HI : Hid (w.heap.size ≤ g ∧ w.heap.size ≤ h ∧ g ≠ h) := ⟨by omega, by omega, by omega⟩
  clear hg hh sz0 sz1 sz2
  have V1' := V1.stay (faN x4 w.heap.size 2 (.slice (some ⟨h, 0, none⟩) m (m + 12))) (by omega)
  have c_V0 := V0.d0
  have f0_V0 := V0.frozen 0
  have d_V0 := V0.d1
  have f1_V0 := V0.frozen 1
  have e_V0 := V0.d2
  have f2_V0 := V0.frozen 2
  have l_V0 := V0.lt
  have m_V0 := Nat.le_of_lt l_V0
  have c_V1 := V1.d0
  have f0_V1 := V1.frozen 0
  have d_V1 := V1.d1
  have f1_V1 := V1.frozen 1
  have e_V1 := V1.d2
  have f2_V1 := V1.frozen 2
  have l_V1 := V1.lt
  have m_V1 := Nat.le_of_lt l_V1
  have r0 := V1'.d0
  have r1 := V1'.d1
  have r2 := V1'.d2
  have t0 := V1'.frozen 0
  have t1 := V1'.frozen 1
  have t2 := V1'.frozen 2
  have V0' := V0.set32 (.slice (some ⟨h, 0, none⟩) m (m + 12))
  have u0 := V0'.d0
  have u1 := V0'.d1
  have u2 := V0'.d2
  go_wp2_with fail
  refine bodyPost_ret (results_ra rfl rfl (V1'.set3 _ _ _)) rfl ?_
  exact ⟨g, h, rfl, (ho.far V0 (noInt3 _ _ _ _ _ _ _) (faN _ _ _ _)).far V1' (noInt3 _ _ _ _ _ _ _) (fa3 _ _ _ _ _), (ho2.far V0 (noInt3 _ _ _ _ _ _ _) (faN _ _ _ _)).far V1' (noInt3 _ _ _ _ _ _ _) (fa3 _ _ _ _ _), HI, belo3 (B0.setCell (p := ⟨w.heap.size, 2, none⟩) (Nat.le_refl _) _) (by omega) _ _ _⟩

theorem mark2 (i : Int) (h0 : 0 ≤ i) (h1 : i ≤ 40000000000000) (w : World) : Calls Tryz.prog 92 #[.int .i64 2, .int .i64 i] w fun e w' => e = .returned (.int .i64 (9000027 + i)) ∧ w' = w := by
  have e1 : IntKind.i64.wrap (9000027 + i) = 9000027 + i := by rw [IntKind.wrap_i64]; omega
  go_enter Tryz.func92, Tryz.ntmps92
  go_wp2_with fail
  go_ret
  exact ⟨rfl, rfl⟩
set_option maxHeartbeats 1000000 in
theorem overl5 (g n : Nat) (zs : List Int) (w : World) (ho : Ow w g zs) (hz : zs.length = n + 12) (hn : n ≤ 20000000000000) :
    Calls Tryz.prog 64 #[.slice (some ⟨g, 0, none⟩) n (n + 12)] w fun e w' => e = .returned (.tuple #[]) ∧ Only g w w' := by
  have HO : Hid (Own w g zs) := ho
  clear ho
  obtain ⟨N, hN⟩ : ∃ N, n + 12 = N := ⟨_, rfl⟩
  have e1 : IntKind.i64.wrap ((n : Int) + 12) = (N : Int) := by rw [IntKind.wrap_i64]; omega
  have e2 : (n : Int) + 12 = (N : Int) := by omega
  rw [hN] at hz ⊢
  have hnN : n ≤ N := by omega
  have hN2 : N ≤ 30000000000000 := by omega
  clear hN
  go_enter Tryz.func64, Tryz.ntmps64
  go_wp2_with fail
  go_loopw [3] (fun ii wr => ∃ (k : Nat) (cs : List Int), k ≤ N ∧ ii = .int .i64 k ∧ Hid (cs.length = N) ∧ Hid (Own wr g cs) ∧ Hid (Only g w wr)) (fun ii _ => N - (intOf ii).toNat)
  case atStart => exact ⟨0, zs, Nat.zero_le _, rfl, hz, HO, Only.refl _ _⟩
  case round =>
    obtain ⟨k, cs, hk, rfl, hlen, hO, hON⟩ := hrel
    by_cases hlt : k < N
    · have hcx := hO.out.cell k (by rw [hlen.out]; exact hlt)
      have hfx := hO.out.frozen k
      have e3 : IntKind.u64.wrap (9000027 + (k : Int)) = 9000027 + (k : Int) := by rw [IntKind.wrap_u64]; omega
      go_wp2_with fail
      refine (mark2 (k : Int) (by omega) (by omega) _).mono ?_
      rintro e w3 ⟨rfl, hw3⟩
      rw [hw3]
      go_wp2_with fail
      go_roundw
      case rel => exact ⟨k + 1, _, by omega, by go_num, by show _ = _; rw [List.length_set]; exact hlen, Own.set hO.out k _, Only.set hON.out k _⟩
      case measure => simp [intOf]; omega
    · go_wp2_with fail
      go_end0
      exact ⟨rfl, hON.out⟩

theorem overr5 (s : Bool) (g h l m : Nat) (zs ys : List Int) (w : World) (h1 : Ow w g zs) (h2 : Ow w h ys) (z1 : zs.length = l + 12) (z2 : ys.length = m + 12) (hl : l ≤ 20000000000000) (hm : m ≤ 20000000000000) (hne : g ≠ h) (B : Nat) (hB1 : B ≤ g) (hB2 : B ≤ h) :
    Calls Tryz.prog 13 #[.agg #[.bool s, .slice (some ⟨g, 0, none⟩) l (l + 12), .slice (some ⟨h, 0, none⟩) m (m + 12)]] w fun e w' => e = .returned (.tuple #[]) ∧ Hid (∀ k, k < w.heap.size → k ≠ g → k ≠ h → w'.heap[k]? = w.heap[k]?) ∧ Below B w w' := by
  have hg := h1.lt
  have hh := h2.lt
  have B0 : Below w.heap.size w w := Below.refl _ _
  go_enter Tryz.func13, Tryz.ntmps13
  go_wp2_with fail
  refine ent1 w _ _ (Q := fun W => Calls Tryz.prog _ _ W _) ?_
  intro x1 hb hs_x1 V0
  replace h1 := Ow.after hb h1
  replace h2 := Ow.after hb h2
  replace B0 := step B0 hb
  clear hb hs_x1
  refine (overl5 g l zs x1 h1 z1 hl).mono ?_
  rintro e x2 ⟨rfl, hO⟩
  replace V0 := V0.only hO (by omega)
  replace h2 : Ow x2 h ys := Own.only h2 hO (fun e => hne e.symm)
  have HO1 : Hid (Only g x1 x2) := hO
  have HB0 : Hid (Below w.heap.size w x1) := B0
  clear hO h1 B0
  have c_V0 := V0.d0
  have f0_V0 := V0.frozen 0
  have d_V0 := V0.d1
  have f1_V0 := V0.frozen 1
  have e_V0 := V0.d2
  have f2_V0 := V0.frozen 2
  have l_V0 := V0.lt
  have m_V0 := Nat.le_of_lt l_V0
  go_wp2_with fail
  refine (overl5 h m ys x2 h2 z2 hm).mono ?_
  rintro e x3 ⟨rfl, hO⟩
  clear c_V0 f0_V0 d_V0 f1_V0 e_V0 f2_V0 l_V0 m_V0
  go_wp2_with fail
  go_end0
  refine ⟨rfl, fun k hk k1 k2 => ?_, ?_⟩
  · rw [hO.oth k k2, HO1.out.oth k k1]; exact HB0.out.block k hk
  · exact (HB0.out.mono (by omega)).trans ((HO1.out.below hB1).trans (hO.below hB2))

theorem Sl.keep {w w' : World} {a : Option Addr} {l : Nat} {zs : List Int} (h : Sl w a l zs) {g g' : Nat} (hk : ∀ k, k < w.heap.size → k ≠ g → k ≠ g' → w'.heap[k]? = w.heap[k]?) (hne : ∀ p, a = some p → p.block ≠ g ∧ p.block ≠ g') : Sl w' a l zs := by
  obtain ⟨h1, h2, h3⟩ := h
  refine ⟨h1, h2, fun h0 => ?_⟩
  obtain ⟨b, off, rfl, hc⟩ := h3 h0
  have hlt : b < w.heap.size := Sl.lt ⟨h1, h2, h3⟩ h0 rfl
  refine ⟨b, off, rfl, fun i hi => ?_⟩
  rw [← hc i hi]
  exact World.cell?_of_block (w := w) (hk b hlt (hne _ rfl).1 (hne _ rfl).2)
theorem Rt.keep {w w' : World} {s : Bool} {a : Option Addr} {l c : Nat} {zs : List Int} {b : Option Addr} {m d : Nat} {ds : List Int} {v : Rat} (h : Rt w s a l c zs b m d ds v) {g g' : Nat} (hk : ∀ k, k < w.heap.size → k ≠ g → k ≠ g' → w'.heap[k]? = w.heap[k]?) (h1 : ∀ p, a = some p → p.block ≠ g ∧ p.block ≠ g') (h2 : ∀ p, b = some p → p.block ≠ g ∧ p.block ≠ g') : Rt w' s a l c zs b m d ds v :=
  ⟨⟨⟨h.1.1.1.keep hk h1, h.1.1.2⟩, h.1.2⟩, ⟨h.2.1.1.keep hk h2, h.2.1.2⟩, h.2.2⟩

set_option maxHeartbeats 4000000 in
theorem rmade_ok (s : Bool) (a : Option Addr) (l c : Nat) (zs : List Int) (b : Option Addr) (m d : Nat) (ds : List Int) (v : Rat) (w : World) (hz : It w s a l c zs) (hd : Nt w b m d ds) (h1 : iv s zs = v.num) (h2 : dn ds = v.den) (hS : Short v) :
    Calls Tryz.prog 56 #[.agg #[.bool s, .slice a l c], .agg #[.slice b m d]] w fun e w' => e = .returned (.tuple #[.agg #[.bool s, .slice a l c, .slice b m d], .int .i64 0]) ∧ Rt w' s a l c zs b m d ds v ∧ Below w.heap.size w w' := by
  have HL : Hid (∀ W (b' : Option Addr) (m' d' : Nat) (ds' : List Int), Nt W b' m' d' ds' → num ds' = dn ds → max (l : Int) (m' : Int) ≤ 1024) := by
    intro W b' m' d' ds' h' e'
    have p1 := hz.1.short 1024
    have p2 := h'.short 1024
    have e1 : num zs = (v.num.natAbs : Int) := by rw [← h1]; exact hz.abs
    rw [e1] at p1
    rw [e', h2] at p2
    have q1 := p1.2 hS.1
    have q2 := p2.2 hS.2
    omega
  have H1 : Hid (iv s zs = v.num ∧ dn ds = v.den ∧ Short v) := ⟨h1, h2, hS⟩
  clear h1 h2 hS
  have B0 : Below w.heap.size w w := Below.refl _ _
  go_enter Tryz.func56, Tryz.ntmps56
  go_wp2_with fail
  refine ent4 w _ _ _ _ _ _ _ _ (Q := fun W => Calls Tryz.prog _ _ W _) ?_
  intro x1 hb hs_x1 V0 V1 V2 V3
  replace hz := It.after hb hz
  replace hd := Nt.after hb hd
  replace B0 := step B0 hb
  clear hb hs_x1
  refine (rlongr_any s a l c zs b m d ds x1 hz hd).mono ?_
  rintro e x2 ⟨b', m', d', ds', rfl, h', e', hb⟩
  replace V0 := Va.after hb V0
  replace V1 := Va.after hb V1
  replace V2 := Va.after hb V2
  replace V3 := Va.after hb V3
  replace hz := It.after hb hz
  replace hd := Nt.after hb hd
  replace B0 := step B0 hb
  clear hb
  have hlm := HL.out _ _ _ _ _ h' e'
  obtain ⟨n, hn⟩ : ∃ n : Int, max (l : Int) (m' : Int) = n := ⟨_, rfl⟩
  rw [hn] at hlm ⊢
  clear hn HL e'
  clear h'
  have c_V2 := V2.d0
  have f0_V2 := V2.frozen 0
  have d_V2 := V2.d1
  have f1_V2 := V2.frozen 1
  have e_V2 := V2.d2
  have f2_V2 := V2.frozen 2
  have l_V2 := V2.lt
  have m_V2 := Nat.le_of_lt l_V2
  have c_V3 := V3.d0
  have f0_V3 := V3.frozen 0
  have d_V3 := V3.d1
  have f1_V3 := V3.frozen 1
  have e_V3 := V3.d2
  have f2_V3 := V3.frozen 2
  have l_V3 := V3.lt
  have m_V3 := Nat.le_of_lt l_V3
  go_wp2_with fail
  refine bodyPost_ret (results_rt rfl rfl (V2.set3 _ _ _)) rfl ?_
  exact ⟨rfl, ⟨hz.far V2 (noInt3 _ _ _ _ _ _ _) (fa3 _ _ _ _ _), hd.far V2 (noInt3 _ _ _ _ _ _ _) (fa3 _ _ _ _ _), H1.out⟩, belo3 B0 (by omega) _ _ _⟩
end Go.Proofs.YtadfccbjadopgaaGreat
