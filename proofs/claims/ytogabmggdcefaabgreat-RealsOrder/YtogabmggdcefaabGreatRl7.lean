/-
  short, plain, of, mode of the statements of layer 7; CopyRatio, Pick.
-/
import Derived.Test.YtogabmggdcefaabGreatRt7
import Derived.Test.YtogabmggdcefaabGreatRt11
import Derived.Test.YtogabmggdcefaabGreatBsI
import Derived.Test.YtogabmggdcefaabGreatAl
namespace Go.Proofs.YtogabmggdcefaabGreat
open Go.RowKit Go.Shelf
set_option linter.unusedVariables false

theorem copyl7 (a : Option Addr) (la ca : Nat) (zs : List Int) (w : World) (h : Sl w a la zs) (hl : la ≤ 17592186044416) :
    Calls Tryz.prog 80 #[.slice a la ca] w fun e w' => ∃ a' c', e = .returned (.slice a' la c') ∧ Sl w' a' la zs ∧ la ≤ c' ∧ Below w.heap.size w w' := by
  have hL := h.2.1
  have hz := h.1
  cases a with
  | none =>
    obtain rfl : la = 0 := by
      rcases Nat.eq_zero_or_pos la with h0 | h0
      · exact h0
      · obtain ⟨bb, off, e, -⟩ := h.2.2 h0; cases e
    have hz : zs = [] := List.eq_nil_of_length_eq_zero h.1
    subst hz
    go_enter Tryz.func80, Tryz.ntmps80
    go_wp2_with fail
    go_ret
    exact ⟨_, _, rfl, h, Nat.zero_le _, Below.refl _ _⟩
  | some ad =>
    have HSL : Hid (Sl w (some ad) la zs) := h
    have HLL : Hid (Limbs zs ∧ zs.length = la) := ⟨hL, hz⟩
    clear h hL hz
    go_enter Tryz.func80, Tryz.ntmps80
    go_wp2_with (at_builtin; refine wpList_app_some rfl (.tmp 4) (.tmp 5) rfl w.heap.size _ [] rfl (Gr.nil _ _) ad la ca zs rfl HSL.out (by simpa using hl) (Nat.le_refl _) ?_; intro v1 w1 hG hb)
    go_ret
    obtain ⟨a1, c1, gm, e1, h1, h2, -, h3, -⟩ := Gr.parts (by simpa using hG.out) HLL.out.1
    rw [HLL.out.2] at e1 h1 h2 h3
    subst e1
    exact ⟨a1, c1, rfl, h2, h1, hb⟩
theorem Va.set317 {w : World} {b : Nat} {t : TypeId} {x y z : Value} (h : Va w b t #[x, y, z]) (y' : Value) : Va (w.setCell ⟨b, 1, none⟩ y') b t #[x, y', z] := by
  unfold Va at *
  simp only [World.setCell]
  rw [Array.getElem?_modify, if_pos rfl, h]
  simp
theorem Va.set327 {w : World} {b : Nat} {t : TypeId} {x y z : Value} (h : Va w b t #[x, y, z]) (z' : Value) : Va (w.setCell ⟨b, 2, none⟩ z') b t #[x, y, z'] := by
  unfold Va at *
  simp only [World.setCell]
  rw [Array.getElem?_modify, if_pos rfl, h]
  simp
theorem fak (w : World) (b i : Nat) (x : Value) : ∀ c, c ≠ b → (w.setCell ⟨b, i, none⟩ x).heap[c]? = w.heap[c]? := fun c hc => Below.heap_setCell _ ⟨b, i, none⟩ _ _ hc
theorem sto317 {W : World} {b : Nat} {t : TypeId} {x y z : Value} (h : Va W b t #[x, y, z]) (y' : Value) {Q : World → Prop}
    (k : ∀ V, Va V b t #[x, y', z] → (∀ c t cs, c ≠ b → Va W c t cs → Va V c t cs) → ((∀ c, c ≠ b → V.heap[c]? = W.heap[c]?) ∧ (∀ B v, B ≤ b → Below B v W → Below B v V)) → Q V) : Q (W.setCell ⟨b, 1, none⟩ y') :=
  k _ (h.set317 y') (fun c t cs hc hv => hv.stay (fak W b 1 y') hc) ⟨fak W b 1 y', fun B v hB hb => hb.setCell (p := ⟨b, 1, none⟩) hB y'⟩
/-- A trimmed list of at most k limbs. -/
def Sh (w : World) (a : Option Addr) (l c k : Nat) (zs : List Int) : Prop := Sl w a l zs ∧ usedN zs = l ∧ l ≤ c ∧ l ≤ k
theorem Sh.after {w w' : World} (hb : Below w.heap.size w w') {a : Option Addr} {l c k : Nat} {zs : List Int} (h : Sh w a l c k zs) : Sh w' a l c k zs := ⟨Sl.after hb h.1, h.2⟩
theorem Sh.drw {w : World} {a : Option Addr} {l c k : Nat} {zs : List Int} (h : Sh w a l c k zs) : Sh w.drew a l c k zs := h
theorem Sh.far {w : World} {a : Option Addr} {l c k : Nat} {zs : List Int} (h : Sh w a l c k zs) {b : Nat} {t : TypeId} {cs : Array Value} (V : Va w b t cs) (hn : NoInt cs) {w' : World} (q : ∀ c, c ≠ b → w'.heap[c]? = w.heap[c]?) : Sh w' a l c k zs := ⟨h.1.far V hn q, h.2⟩
set_option maxHeartbeats 2000000 in
theorem copyr7 (s : Bool) (a : Option Addr) (l c : Nat) (zs : List Int) (b : Option Addr) (m d : Nat) (ys : List Int) (v : Rat) (w : World) (hr : Rr w s a l c zs b m d ys v) (hl : l ≤ 10000) (hm : m ≤ 10000) :
    Calls Tryz.prog 47 #[.agg #[.bool s, .slice a l c, .slice b m d]] w fun e w' => ∃ a' c' b' d', e = .returned (.agg #[.bool s, .slice a' l c', .slice b' m d']) ∧ Rr w' s a' l c' zs b' m d' ys v ∧ Below w.heap.size w w' := by
  have B0 : Below w.heap.size w w := Below.refl _ _
  go_enter Tryz.func47, Tryz.ntmps47
  go_wp2_with fail
  refine ent2 w _ _ _ _ (Q := fun W => Calls Tryz.prog _ _ W _) ?_
  intro x1 hb hs_x1 V0 V1
  replace hr := Rr.after hb hr
  replace B0 := step B0 hb
  clear hb hs_x1
  refine (copyl7 a l c zs x1 hr.1 (by omega)).mono ?_
  rintro e x2 ⟨a2, c2, rfl, h2, hc2, hb⟩
  replace V0 := Va.after hb V0
  replace V1 := Va.after hb V1
  replace hr := Rr.after hb hr
  replace B0 := step B0 hb
  clear hb
  have c_V0 := V0.d0
  have f0_V0 := V0.frozen 0
  have d_V0 := V0.d1
  have f1_V0 := V0.frozen 1
  have e_V0 := V0.d2
  have f2_V0 := V0.frozen 2
  have l_V0 := V0.lt
  have m_V0 := Nat.le_of_lt l_V0
  go_wp2_with fail
  clear c_V0 f0_V0 d_V0 f1_V0 e_V0 f2_V0 l_V0 m_V0
  refine sto317 V0 (.slice a2 l c2) (Q := fun W => Calls Tryz.prog _ _ W _) ?_
  intro x3 V' oth far
  replace V1 := oth _ _ _ (by first | omega | (simp; omega)) V1
  replace hr := hr.far V0 (noInt3 _ _ _ _ _ _ _) far.1
  replace h2 := h2.far V0 (noInt3 _ _ _ _ _ _ _) far.1
  replace B0 := far.2 _ _ (by first | omega | (simp; omega)) B0
  replace V0 := V'
  clear oth far
  refine (copyl7 b m d ys x3 hr.2.1 (by omega)).mono ?_
  rintro e x4 ⟨b2, d2, rfl, g2, hd2, hb⟩
  replace V0 := Va.after hb V0
  replace V1 := Va.after hb V1
  replace hr := Rr.after hb hr
  replace h2 := Sl.after hb h2
  replace B0 := step B0 hb
  clear hb
  have U0 := V0.set327 (.slice b2 m d2)
  have U1 := V1.stay (fak _ _ 2 (.slice b2 m d2)) (show w.heap.size + 1 ≠ w.heap.size by omega)
  have c_V0 := V0.d0
  have f0_V0 := V0.frozen 0
  have d_V0 := V0.d1
  have f1_V0 := V0.frozen 1
  have e_V0 := V0.d2
  have f2_V0 := V0.frozen 2
  have l_V0 := V0.lt
  have m_V0 := Nat.le_of_lt l_V0
  have c_V1 := V1.d0
  have f0_V1 := V1.frozen 0
  have d_V1 := V1.d1
  have f1_V1 := V1.frozen 1
  have e_V1 := V1.d2
  have f2_V1 := V1.frozen 2
  have l_V1 := V1.lt
  have m_V1 := Nat.le_of_lt l_V1
  have dx0 := U0.d0
  have dx1 := U0.d1
  have dx2 := U0.d2
  have ex0 := U0.frozen 0
  have ex1 := U0.frozen 1
  have ex2 := U0.frozen 2
  have gx0 := U1.d0
  have gx1 := U1.d1
  have gx2 := U1.d2
  have hx0 := U1.frozen 0
  have hx1 := U1.frozen 1
  have hx2 := U1.frozen 2
  go_wp2_with fail
  refine bodyPost_ret (results_ra rfl rfl (U1.set3 _ _ _)) rfl ?_
  refine ⟨a2, c2, b2, d2, rfl, ?_, belo3 (B0.setCell (p := ⟨w.heap.size, 2, none⟩) (Nat.le_refl _) _) (by omega) _ _ _⟩
  refine Rr.far (V := U1) (hn := noInt3 _ _ _ _ _ _ _) (k := fa3 _ _ _ _ _) ?_
  refine Rr.far (V := V0) (hn := noInt3 _ _ _ _ _ _ _) (k := fak _ _ _ _) ?_
  exact ⟨h2, g2, hr.2.2.1, hr.2.2.2.1, ⟨hc2, hd2⟩, hr.2.2.2.2.2⟩

end Go.Proofs.YtogabmggdcefaabGreat
