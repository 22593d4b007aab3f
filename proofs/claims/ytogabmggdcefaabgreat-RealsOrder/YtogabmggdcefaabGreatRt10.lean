/-
  Ratios that are lent and written over; rat.Of of a normal ratio; of.
-/
import Derived.Test.YtogabmggdcefaabGreatRt9a
import Derived.Test.YtogabmggdcefaabGreatLent5
namespace Go.Proofs.YtogabmggdcefaabGreat
open Go.RowKit Go.Shelf
set_option linter.unusedVariables false

theorem Sl.keep {w w' : World} {a : Option Addr} {l : Nat} {zs : List Int} (h : Sl w a l zs) {g g' : Nat} (hk : ∀ k, k < w.heap.size → k ≠ g → k ≠ g' → w'.heap[k]? = w.heap[k]?) (hne : ∀ p, a = some p → p.block ≠ g ∧ p.block ≠ g') : Sl w' a l zs := by
  obtain ⟨h1, h2, h3⟩ := h
  refine ⟨h1, h2, fun h0 => ?_⟩
  obtain ⟨b, off, rfl, hc⟩ := h3 h0
  have hlt : b < w.heap.size := Sl.lt ⟨h1, h2, h3⟩ h0 rfl
  refine ⟨b, off, rfl, fun i hi => ?_⟩
  rw [← hc i hi]
  exact World.cell?_of_block (w := w) (hk b hlt (hne _ rfl).1 (hne _ rfl).2)
theorem Rt.keep {w w' : World} {s : Bool} {a : Option Addr} {l c : Nat} {zs : List Int} {b : Option Addr} {m d : Nat} {ds : List Int} {v : Rat} (h : Rt w s a l c zs b m d ds v) {g g' : Nat} (hk : ∀ k, k < w.heap.size → k ≠ g → k ≠ g' → w'.heap[k]? = w.heap[k]?) (h1 : ∀ p, a = some p → p.block ≠ g ∧ p.block ≠ g') (h2 : ∀ p, b = some p → p.block ≠ g ∧ p.block ≠ g') : Rt w' s a l c zs b m d ds v :=
  ⟨⟨⟨h.1.1.1.keep hk h1, h.1.1.2⟩, h.1.2⟩, ⟨h.2.1.1.keep hk h2, h.2.1.2⟩, h.2.2⟩

set_option maxHeartbeats 4000000 in
theorem rmade_ok (s : Bool) (a : Option Addr) (l c : Nat) (zs : List Int) (b : Option Addr) (m d : Nat) (ds : List Int) (v : Rat) (w : World) (hz : It w s a l c zs) (hd : Nt w b m d ds) (h1 : iv s zs = v.num) (h2 : dn ds = v.den) (hS : Short v) :
    Calls Tryz.prog 44 #[.agg #[.bool s, .slice a l c], .agg #[.slice b m d]] w fun e w' => e = .returned (.tuple #[.agg #[.bool s, .slice a l c, .slice b m d], .int .i64 0]) ∧ Rt w' s a l c zs b m d ds v ∧ Below w.heap.size w w' := by
  have HL : Hid (∀ W (b' : Option Addr) (m' d' : Nat) (ds' : List Int), Nt W b' m' d' ds' → num ds' = dn ds → max (l : Int) (m' : Int) ≤ 1024) := by
    intro W b' m' d' ds' h' e'
    have p1 := hz.1.short 1024
    have p2 := h'.short 1024
    have e1 : num zs = (v.num.natAbs : Int) := by rw [← h1]; exact hz.abs
    rw [e1] at p1
    rw [e', h2] at p2
    have q1 := p1.2 hS.1
    have q2 := p2.2 hS.2
    omega
  have H1 : Hid (iv s zs = v.num ∧ dn ds = v.den ∧ Short v) := ⟨h1, h2, hS⟩
  clear h1 h2 hS
  have B0 : Below w.heap.size w w := Below.refl _ _
  go_enter Tryz.func44, Tryz.ntmps44
  go_wp2_with fail
  refine ent4 w _ _ _ _ _ _ _ _ (Q := fun W => Calls Tryz.prog _ _ W _) ?_
  intro x1 hb hs_x1 V0 V1 V2 V3
  replace hz := It.after hb hz
  replace hd := Nt.after hb hd
  replace B0 := step B0 hb
  clear hb hs_x1
  refine (rlongr_any s a l c zs b m d ds x1 hz hd).mono ?_
  rintro e x2 ⟨b', m', d', ds', rfl, h', e', hb⟩
  replace V0 := Va.after hb V0
  replace V1 := Va.after hb V1
  replace V2 := Va.after hb V2
  replace V3 := Va.after hb V3
  replace hz := It.after hb hz
  replace hd := Nt.after hb hd
  replace B0 := step B0 hb
  clear hb
  have hlm := HL.out _ _ _ _ _ h' e'
  obtain ⟨n, hn⟩ : ∃ n : Int, max (l : Int) (m' : Int) = n := ⟨_, rfl⟩
  rw [hn] at hlm ⊢
  clear hn HL e'
  clear h'
  have c_V2 := V2.d0
  have f0_V2 := V2.frozen 0
  have d_V2 := V2.d1
  have f1_V2 := V2.frozen 1
  have e_V2 := V2.d2
  have f2_V2 := V2.frozen 2
  have l_V2 := V2.lt
  have m_V2 := Nat.le_of_lt l_V2
  have c_V3 := V3.d0
  have f0_V3 := V3.frozen 0
  have d_V3 := V3.d1
  have f1_V3 := V3.frozen 1
  have e_V3 := V3.d2
  have f2_V3 := V3.frozen 2
  have l_V3 := V3.lt
  have m_V3 := Nat.le_of_lt l_V3
  go_wp2_with fail
  refine bodyPost_ret (results_rt rfl rfl (V2.set3 _ _ _)) rfl ?_
  exact ⟨rfl, ⟨hz.far V2 (noInt3 _ _ _ _ _ _ _) (fa3 _ _ _ _ _), hd.far V2 (noInt3 _ _ _ _ _ _ _) (fa3 _ _ _ _ _), H1.out⟩, belo3 B0 (by omega) _ _ _⟩
end Go.Proofs.YtogabmggdcefaabGreat
