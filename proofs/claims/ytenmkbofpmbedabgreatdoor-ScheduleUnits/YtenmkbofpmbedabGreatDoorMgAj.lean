import Derived.Test.YtenmkbofpmbedabGreatDoorMgAi
import Derived.Test.YtenmkbofpmbedabGreatDoorMgAh
import Derived.Test.YtenmkbofpmbedabGreatDoorRt16
import Derived.Test.YtenmkbofpmbedabGreatDoorMgAg
import Derived.Test.YtenmkbofpmbedabGreatDoorBsI
import Derived.Test.YtenmkbofpmbedabGreatDoorMgAa
namespace Go.Proofs.YtenmkbofpmbedabGreatDoor
open Go.RowKit Go.Shelf
set_option linter.unusedVariables false
set_option maxRecDepth 20000

theorem Rv.far {w : World} {r : Rc} {v : Rat} (h : Rv w r v) {b' : Nat} {t : TypeId} {cs : Array Value} (V : Va w b' t cs) (hn : NoInt cs) {w' : World} (k : ∀ c, c ≠ b' → w'.heap[c]? = w.heap[c]?) : Rv w' r v := Rt.far h V hn k

theorem sub_rc (p q : Rc) (x y v : Rat) (w : World) (h1 : Rv w p x) (h2 : Rv w q y) (he : x - y = v) (hs : Short v) :
    Calls Tryz.prog 38 #[.agg #[.bool p.s, .slice p.a p.l p.c, .slice p.b p.m p.d], .agg #[.bool q.s, .slice q.a q.l q.c, .slice q.b q.m q.d]] w fun e w' => ∃ r : Rc, e = .returned (.tuple #[.agg #[.bool r.s, .slice r.a r.l r.c, .slice r.b r.m r.d], .int .i64 0]) ∧ Rv w' r v ∧ Below w.heap.size w w' :=
  (qsub_to p.s p.a p.l p.c p.z p.b p.m p.d p.y x q.s q.a q.l q.c q.z q.b q.m q.d q.y y v w h1 h2 he hs).mono (by rintro e w' ⟨s, a, l, c, z, b, m, d, y, rfl, h, hb⟩; exact ⟨⟨s, a, l, c, z, b, m, d, y⟩, rfl, h, hb⟩)
theorem mul_rc (p q : Rc) (x y v : Rat) (w : World) (h1 : Rv w p x) (h2 : Rv w q y) (he : x * y = v) (hs : Short v) :
    Calls Tryz.prog 12 #[.agg #[.bool p.s, .slice p.a p.l p.c, .slice p.b p.m p.d], .agg #[.bool q.s, .slice q.a q.l q.c, .slice q.b q.m q.d]] w fun e w' => ∃ r : Rc, e = .returned (.tuple #[.agg #[.bool r.s, .slice r.a r.l r.c, .slice r.b r.m r.d], .int .i64 0]) ∧ Rv w' r v ∧ Below w.heap.size w w' :=
  (qmul_to p.s p.a p.l p.c p.z p.b p.m p.d p.y x q.s q.a q.l q.c q.z q.b q.m q.d q.y y v w h1 h2 he hs).mono (by rintro e w' ⟨s, a, l, c, z, b, m, d, y, rfl, h, hb⟩; exact ⟨⟨s, a, l, c, z, b, m, d, y⟩, rfl, h, hb⟩)
theorem add_rc (p q : Rc) (x y v : Rat) (w : World) (h1 : Rv w p x) (h2 : Rv w q y) (he : x + y = v) (hs : Short v) :
    Calls Tryz.prog 39 #[.agg #[.bool p.s, .slice p.a p.l p.c, .slice p.b p.m p.d], .agg #[.bool q.s, .slice q.a q.l q.c, .slice q.b q.m q.d]] w fun e w' => ∃ r : Rc, e = .returned (.tuple #[.agg #[.bool r.s, .slice r.a r.l r.c, .slice r.b r.m r.d], .int .i64 0]) ∧ Rv w' r v ∧ Below w.heap.size w w' :=
  (qadd_to p.s p.a p.l p.c p.z p.b p.m p.d p.y x q.s q.a q.l q.c q.z q.b q.m q.d q.y y v w h1 h2 he hs).mono (by rintro e w' ⟨s, a, l, c, z, b, m, d, y, rfl, h, hb⟩; exact ⟨⟨s, a, l, c, z, b, m, d, y⟩, rfl, h, hb⟩)
theorem quo_rc (p q : Rc) (x y v : Rat) (w : World) (h1 : Rv w p x) (h2 : Rv w q y) (he : x / y = v) (hs : Short v) (h0 : y ≠ 0) :
    Calls Tryz.prog 81 #[.agg #[.bool p.s, .slice p.a p.l p.c, .slice p.b p.m p.d], .agg #[.bool q.s, .slice q.a q.l q.c, .slice q.b q.m q.d]] w fun e w' => ∃ r : Rc, e = .returned (.tuple #[.agg #[.bool r.s, .slice r.a r.l r.c, .slice r.b r.m r.d], .int .i64 0]) ∧ Rv w' r v ∧ Below w.heap.size w w' :=
  (qquo_to p.s p.a p.l p.c p.z p.b p.m p.d p.y x q.s q.a q.l q.c q.z q.b q.m q.d q.y y v w h1 h2 he hs h0).mono (by rintro e w' ⟨s, a, l, c, z, b, m, d, y, rfl, h, hb⟩; exact ⟨⟨s, a, l, c, z, b, m, d, y⟩, rfl, h, hb⟩)
theorem small_rc (x y : Int) (h1 : -9223372036854775808 ≤ x) (h2 : x ≤ 9223372036854775807) (h3 : -9223372036854775808 ≤ y) (h4 : y ≤ 9223372036854775807) (h0 : y ≠ 0) (v : Rat) (w : World) (he : Rat.divInt x y = v) (hs : Short v) :
    Calls Tryz.prog 29 #[.int .i64 x, .int .i64 y] w fun e w' => ∃ r : Rc, e = .returned (.tuple #[.agg #[.bool r.s, .slice r.a r.l r.c, .slice r.b r.m r.d], .int .i64 0]) ∧ Rv w' r v ∧ Below w.heap.size w w' :=
  (qsmall_to x y h1 h2 h3 h4 h0 v w he hs).mono (by rintro e w' ⟨s, a, l, c, z, b, m, d, y, rfl, h, hb⟩; exact ⟨⟨s, a, l, c, z, b, m, d, y⟩, rfl, h, hb⟩)
theorem sign_rc (p : Rc) (x : Rat) (w : World) (h1 : Rv w p x) :
    Calls Tryz.prog 7 #[.agg #[.bool p.s, .slice p.a p.l p.c, .slice p.b p.m p.d]] w fun e w' => e = .returned (.int .i64 (Int.sign x.num)) ∧ Below w.heap.size w w' := qsign_any p.s p.a p.l p.c p.z p.b p.m p.d p.y x w h1
theorem cmp_rc (p q : Rc) (x y : Rat) (w : World) (h1 : Rv w p x) (h2 : Rv w q y) :
    Calls Tryz.prog 14 #[.agg #[.bool p.s, .slice p.a p.l p.c, .slice p.b p.m p.d], .agg #[.bool q.s, .slice q.a q.l q.c, .slice q.b q.m q.d]] w fun e w' => e = .returned (.int .i64 (qcmp x y)) ∧ Below w.heap.size w w' := qcompare_any p.s p.a p.l p.c p.z p.b p.m p.d p.y x q.s q.a q.l q.c q.z q.b q.m q.d q.y y w h1 h2
def Nm (r : Rc) (v : Rat) : Prop := Norm r.s r.z r.y ∧ iv r.s r.z = v.num ∧ num r.y = v.den
theorem of_rc (p : Rc) (v : Rat) (w : World) (h : Rd2 w p) (hl : p.l ≤ 1024) (hm : p.m ≤ 1024) (hN : Nm p v) :
    Calls Tryz.prog 21 #[.agg #[.bool p.s, .slice p.a p.l p.c, .slice p.b p.m p.d]] w fun e w' => ∃ r : Rc, e = .returned (.tuple #[.agg #[.bool r.s, .slice r.a r.l r.c, .slice r.b r.m r.d], .int .i64 0]) ∧ Rv w' r v ∧ Below w.heap.size w w' :=
  (qof_ok p.s p.a p.l p.c p.z p.b p.m p.d p.y v w h hl hm hN.1 hN.2.1 hN.2.2).mono (by rintro e w' ⟨s, a, l, c, z, b, m, d, y, rfl, h, -, hb⟩; exact ⟨⟨s, a, l, c, z, b, m, d, y⟩, rfl, h, hb⟩)
theorem of_bad_rc (p : Rc) (w : World) (h : Rd2 w p) (hl : p.l ≤ 1024) (hm : p.m ≤ 1024) (hN : ¬ Norm p.s p.z p.y) :
    Calls Tryz.prog 21 #[.agg #[.bool p.s, .slice p.a p.l p.c, .slice p.b p.m p.d]] w fun e w' => e = .returned (.tuple #[.agg #[.bool false, .slice none 0 0, .slice none 0 0], .int .i64 50]) ∧ Below w.heap.size w w' := qof_bad p.s p.a p.l p.c p.z p.b p.m p.d p.y w h hl hm hN
theorem sz_used {zs : List Int} {l k : Nat} (h : Limbs zs) (hu : usedN zs = l) : l ≤ k ↔ num zs < pw k :=
  ⟨fun q => lt_of_used h (by rw [hu]; exact q), fun q => by have := used_of_lt h q; rw [hu] at this; exact this⟩
theorem long_rc (p : Rc) (x : Rat) (w : World) (h : Rv w p x) :
    Calls Tryz.prog 6 #[.agg #[.bool p.s, .slice p.a p.l p.c, .slice p.b p.m p.d]] w fun e w' => ∃ n : Int, e = .returned (.int .i64 n) ∧ (∀ k : Nat, n ≤ k ↔ Sz k x) ∧ Below w.heap.size w w' := by
  have H := h
  refine (rlongr_any p.s p.a p.l p.c p.z p.b p.m p.d p.y w h.1 h.2.1).mono ?_
  rintro e w' ⟨b', m', d', ds', rfl, hd, he, hb⟩
  refine ⟨_, rfl, fun k => ?_, hb⟩
  have z0 := num_nonneg h.1.1.1.2.1
  have e1 : (x.num.natAbs : Int) = num p.z := by rw [← h.2.2.1]; generalize p.s = s; cases s <;> simp only [iv_t, iv_f] <;> omega
  have p1 : p.l ≤ k ↔ num p.z < pw k := sz_used h.1.1.1.2.1 h.1.1.2.1
  have p2 : m' ≤ k ↔ num ds' < pw k := sz_used hd.1.2.1 hd.2.1
  have e3 : dn p.y = x.den := h.2.2.2.1
  rw [he, e3] at p2
  unfold Sz
  rw [e1, ← p1, ← p2]
  omega
theorem rn_of {w w' : World} {p : Rc} {x : Rat} {g g' : Nat} {ys : List Int} (h : Rv w p x) (h1 : Ow w' g p.z) (h2 : Ow w' g' ys) (h4 : Limbs ys ∧ usedN ys = ys.length ∧ num ys = x.den) : Rn w' ⟨p.s, some ⟨g, 0, none⟩, p.l, p.l, p.z, some ⟨g', 0, none⟩, ys.length, ys.length, ys⟩ x := by
  refine ⟨?_, ?_, h.1.1.2.1, h4.2.1, ⟨Nat.le_refl _, Nat.le_refl _⟩, h.2.2.1, h4.2.2, h.1.2⟩
  · have := Own.sl h1 h.1.1.1.2.1
    rw [h.1.1.1.1] at this
    exact this
  · exact Own.sl h2 h4.1
theorem plain_rc (p : Rc) (x : Rat) (w : World) (h : Rv w p x) :
    Calls Tryz.prog 44 #[.agg #[.bool p.s, .slice p.a p.l p.c, .slice p.b p.m p.d]] w fun e w' => ∃ r : Rc, e = .returned (.agg #[.bool r.s, .slice r.a r.l r.c, .slice r.b r.m r.d]) ∧ Rn w' r x ∧ Below w.heap.size w w' := by
  have H := h
  refine (qplain_any p.s p.a p.l p.c p.z p.b p.m p.d p.y x w h).mono ?_
  rintro e w' ⟨g, g', ys, rfl, h1, h2, h3, h4, hb⟩
  exact ⟨⟨p.s, some ⟨g, 0, none⟩, p.l, p.l, p.z, some ⟨g', 0, none⟩, ys.length, ys.length, ys⟩, rfl, rn_of h h1 h2 h4.out, hb⟩
theorem sgn_lt (v : Rat) : (Int.sign v.num < 0) ↔ v < 0 := by
  rw [Int.sign_neg_iff, Rat.lt_iff]; simp
theorem sgn_eq (v : Rat) : (Int.sign v.num = 0) ↔ v = 0 := by
  rw [Int.sign_eq_zero_iff_zero]
  exact Rat.num_eq_zero
theorem cmp_gt (x y : Rat) : 0 < qcmp x y ↔ y < x := by
  rcases Rat.le_total (a := x) (b := y) with h | h
  · rcases Rat.le_iff_lt_or_eq.1 h with h | h
    · rw [qcmp_lt h]; exact ⟨fun h' => absurd h' (by decide), fun h' => by grind⟩
    · subst h; rw [qcmp_eq]; exact ⟨fun h' => absurd h' (by decide), fun h' => by grind⟩
  · rcases Rat.le_iff_lt_or_eq.1 h with h | h
    · rw [qcmp_gt h]; exact ⟨fun _ => h, fun _ => by decide⟩
    · subst h; rw [qcmp_eq]; exact ⟨fun h' => absurd h' (by decide), fun h' => by grind⟩
theorem cmp_lt' (x y : Rat) : qcmp x y < 0 ↔ x < y := by
  rcases Rat.le_total (a := x) (b := y) with h | h
  · rcases Rat.le_iff_lt_or_eq.1 h with h | h
    · rw [qcmp_lt h]; exact ⟨fun _ => h, fun _ => by decide⟩
    · subst h; rw [qcmp_eq]; exact ⟨fun h' => absurd h' (by decide), fun h' => by grind⟩
  · rcases Rat.le_iff_lt_or_eq.1 h with h | h
    · rw [qcmp_gt h]; exact ⟨fun h' => absurd h' (by decide), fun h' => by grind⟩
    · subst h; rw [qcmp_eq]; exact ⟨fun h' => absurd h' (by decide), fun h' => by grind⟩
theorem cmp_eq (x y : Rat) : qcmp x y = 0 ↔ x = y := by
  have h1 := cmp_gt x y
  have h2 := cmp_lt' x y
  constructor
  · intro h; have : ¬ (y < x) := fun h' => by have := h1.2 h'; omega
    have : ¬ (x < y) := fun h' => by have := h2.2 h'; omega
    grind
  · intro h; subst h; exact qcmp_eq x
end Go.Proofs.YtenmkbofpmbedabGreatDoor
namespace Go.Proofs.YtenmkbofpmbedabGreatDoor
open Go.RowKit Go.Shelf
set_option linter.unusedVariables false

theorem Va.set317 {w : World} {b : Nat} {t : TypeId} {x y z : Value} (h : Va w b t #[x, y, z]) (y' : Value) : Va (w.setCell ⟨b, 1, none⟩ y') b t #[x, y', z] := by
  unfold Va at *
  simp only [World.setCell]
  rw [Array.getElem?_modify, if_pos rfl, h]
  simp
theorem Va.set327 {w : World} {b : Nat} {t : TypeId} {x y z : Value} (h : Va w b t #[x, y, z]) (z' : Value) : Va (w.setCell ⟨b, 2, none⟩ z') b t #[x, y, z'] := by
  unfold Va at *
  simp only [World.setCell]
  rw [Array.getElem?_modify, if_pos rfl, h]
  simp
theorem fak (w : World) (b i : Nat) (x : Value) : ∀ c, c ≠ b → (w.setCell ⟨b, i, none⟩ x).heap[c]? = w.heap[c]? := fun c hc => Below.heap_setCell _ ⟨b, i, none⟩ _ _ hc
theorem sto317 {W : World} {b : Nat} {t : TypeId} {x y z : Value} (h : Va W b t #[x, y, z]) (y' : Value) {Q : World → Prop}
    (k : ∀ V, Va V b t #[x, y', z] → (∀ c t cs, c ≠ b → Va W c t cs → Va V c t cs) → ((∀ c, c ≠ b → V.heap[c]? = W.heap[c]?) ∧ (∀ B v, B ≤ b → Below B v W → Below B v V)) → Q V) : Q (W.setCell ⟨b, 1, none⟩ y') :=
  k _ (h.set317 y') (fun c t cs hc hv => hv.stay (fak W b 1 y') hc) ⟨fak W b 1 y', fun B v hB hb => hb.setCell (p := ⟨b, 1, none⟩) hB y'⟩
def Sh (w : World) (a : Option Addr) (l c k : Nat) (zs : List Int) : Prop := Sl w a l zs ∧ usedN zs = l ∧ l ≤ c ∧ l ≤ k
theorem Sh.after {w w' : World} (hb : Below w.heap.size w w') {a : Option Addr} {l c k : Nat} {zs : List Int} (h : Sh w a l c k zs) : Sh w' a l c k zs := ⟨Sl.after hb h.1, h.2⟩
theorem Sh.drw {w : World} {a : Option Addr} {l c k : Nat} {zs : List Int} (h : Sh w a l c k zs) : Sh w.drew a l c k zs := h
theorem Sh.far {w : World} {a : Option Addr} {l c k : Nat} {zs : List Int} (h : Sh w a l c k zs) {b : Nat} {t : TypeId} {cs : Array Value} (V : Va w b t cs) (hn : NoInt cs) {w' : World} (q : ∀ c, c ≠ b → w'.heap[c]? = w.heap[c]?) : Sh w' a l c k zs := ⟨h.1.far V hn q, h.2⟩
end Go.Proofs.YtenmkbofpmbedabGreatDoor
namespace Go.Proofs.YtenmkbofpmbedabGreatDoor
open Go.RowKit Go.Shelf
set_option linter.unusedVariables false
set_option maxRecDepth 20000

theorem Rd2.far {w : World} {r : Rc} (h : Rd2 w r) {b' : Nat} {t : TypeId} {cs : Array Value} (V : Va w b' t cs) (hn : NoInt cs) {w' : World} (k : ∀ c, c ≠ b' → w'.heap[c]? = w.heap[c]?) : Rd2 w' r := Ri.far h V hn k
def Tq (w : World) (a : Option Addr) : Prop := ∀ b off s, a = some ⟨b, off, s⟩ → ∃ cur, w.heap[b]? = some (.cells cur 86 (0, 0))
theorem Tq.after {w w' : World} (hb : Below w.heap.size w w') {a : Option Addr} (h : Tq w a) : Tq w' a := fun b off s e => by
  obtain ⟨cur, hc⟩ := h b off s e
  exact ⟨cur, by rw [hb.block b (Array.getElem?_eq_some_iff.1 hc).1]; exact hc⟩
theorem Tq.drw {w : World} {a : Option Addr} (h : Tq w a) : Tq w.drew a := h
theorem Tq.ne {w : World} {a : Option Addr} (h : Tq w a) {b' : Nat} {t : TypeId} {cs : Array Value} (V : Va w b' t cs) (ht : t ≠ 86) {b off : Nat} {s : Option Nat} (e : a = some ⟨b, off, none⟩) : b ≠ b' := by
  intro e2
  obtain ⟨cur, hc⟩ := h b off _ e
  unfold Va at V
  rw [e2, V] at hc
  cases hc
  exact ht rfl
theorem Tq.far {w : World} {a : Option Addr} (h : Tq w a) {b' : Nat} {t : TypeId} {cs : Array Value} (V : Va w b' t cs) (hn : NoInt cs) {w' : World} (k : ∀ c, c ≠ b' → w'.heap[c]? = w.heap[c]?) (ht : t ≠ 86 := by decide) : Tq w' a := fun b off s e => by
  obtain ⟨cur, hc⟩ := h b off s e
  refine ⟨cur, ?_⟩
  rw [k b (fun e2 => ?_)]
  · exact hc
  · unfold Va at V
    rw [e2, V] at hc
    cases hc
    exact ht rfl
theorem copyl9 (a : Option Addr) (la ca : Nat) (zs : List Int) (w : World) (h : Sl w a la zs) (hl : la ≤ 17592186044416) :
    Calls Tryz.prog 56 #[.slice a la ca] w fun e w' => ∃ a' c', e = .returned (.slice a' la c') ∧ Sl w' a' la zs ∧ la ≤ c' ∧ Tq w' a' ∧ Below w.heap.size w w' := by
  have hL := h.2.1
  have hz := h.1
  cases a with
  | none =>
    obtain rfl : la = 0 := by
      rcases Nat.eq_zero_or_pos la with h0 | h0
      · exact h0
      · obtain ⟨bb, off, e, -⟩ := h.2.2 h0; cases e
    have hz : zs = [] := List.eq_nil_of_length_eq_zero h.1
    subst hz
    go_enter Tryz.func56, Tryz.ntmps56
    go_wp2_with fail
    go_ret
    have hT : Tq w none := fun b off s e => nomatch e
    exact ⟨_, _, rfl, h, Nat.zero_le _, hT, Below.refl _ _⟩
  | some ad =>
    have HSL : Hid (Sl w (some ad) la zs) := h
    have HLL : Hid (Limbs zs ∧ zs.length = la) := ⟨hL, hz⟩
    clear h hL hz
    go_enter Tryz.func56, Tryz.ntmps56
    go_wp2_with (at_builtin; refine wpList_app_some rfl (.tmp 4) (.tmp 5) rfl w.heap.size _ [] rfl (Gr.nil _ _) ad la ca zs rfl HSL.out (by simpa using hl) (Nat.le_refl _) ?_; intro v1 w1 hG hb)
    go_ret
    have hG0 := hG.out
    obtain ⟨a1, c1, gm, e1, h1, h2, -, h3, -⟩ := Gr.parts (by simpa using hG.out) HLL.out.1
    rw [HLL.out.2] at e1 h1 h2 h3
    subst e1
    refine ⟨a1, c1, rfl, h2, h1, fun b off s e => ?_, hb⟩
    obtain ⟨-, g2 | ⟨g, cap, cur, e2, -, hh, -⟩⟩ := hG0
    · have := g2.1; rw [e] at this; cases this
    · rw [e] at e2; cases e2; exact ⟨cur, hh⟩
def Tr (w : World) (r : Rc) : Prop := Tq w r.a ∧ Tq w r.b
theorem Tr.after {w w' : World} (hb : Below w.heap.size w w') {r : Rc} (h : Tr w r) : Tr w' r := ⟨h.1.after hb, h.2.after hb⟩
theorem Tr.drw {w : World} {r : Rc} (h : Tr w r) : Tr w.drew r := h
theorem Tr.far {w : World} {r : Rc} (h : Tr w r) {b' : Nat} {t : TypeId} {cs : Array Value} (V : Va w b' t cs) (hn : NoInt cs) {w' : World} (k : ∀ c, c ≠ b' → w'.heap[c]? = w.heap[c]?) (ht : t ≠ 86 := by decide) : Tr w' r := ⟨h.1.far V hn k ht, h.2.far V hn k ht⟩
def Sm (p q : Rc) : Prop := p.s = q.s ∧ p.l = q.l ∧ p.z = q.z ∧ p.m = q.m ∧ p.y = q.y
def Lng (r : Rc) : Prop := r.l ≤ 17592186043904 ∧ r.m ≤ 17592186043904
set_option maxHeartbeats 2000000 in
theorem copyR (p : Rc) (w : World) (hr : Rd2 w p) (hn : Lng p) :
    Calls Tryz.prog 22 #[.agg #[.bool p.s, .slice p.a p.l p.c, .slice p.b p.m p.d]] w fun e w' => ∃ q : Rc, e = .returned (.agg #[.bool q.s, .slice q.a q.l q.c, .slice q.b q.m q.d]) ∧ Rd2 w' q ∧ Sm p q ∧ Tr w' q ∧ Below w.heap.size w w' := by
  have B0 : Below w.heap.size w w := Below.refl _ _
  go_enter Tryz.func22, Tryz.ntmps22
  go_wp2_with fail
  refine ent2 w _ _ _ _ (Q := fun W => Calls Tryz.prog _ _ W _) ?_
  intro x1 hb hs_x1 V0 V1
  replace hr := Rd2.after hb hr
  replace B0 := step B0 hb
  clear hb hs_x1
  refine (copyl9 p.a p.l p.c p.z x1 hr.1 (by have := hn.1; omega)).mono ?_
  rintro e x2 ⟨a2, c2, rfl, h2, hc2, t2, hb⟩
  replace V0 := V0.a hb
  replace V1 := V1.a hb
  replace hr := Rd2.after hb hr
  replace B0 := step B0 hb
  clear hb
  have c_V0 := V0.d0
  have f0_V0 := V0.frozen 0
  have d_V0 := V0.d1
  have f1_V0 := V0.frozen 1
  have e_V0 := V0.d2
  have f2_V0 := V0.frozen 2
  have l_V0 := V0.lt
  have m_V0 := Nat.le_of_lt l_V0
  go_wp2_with fail
  clear c_V0 f0_V0 d_V0 f1_V0 e_V0 f2_V0 l_V0 m_V0
  refine sto317 V0 (.slice a2 p.l c2) (Q := fun W => Calls Tryz.prog _ _ W _) ?_
  intro x3 V' oth far
  replace V1 := oth _ _ _ (by first | omega | (simp; omega)) V1
  replace hr := hr.far V0 (noInt3 _ _ _ _ _ _ _) far.1
  replace h2 := h2.far V0 (noInt3 _ _ _ _ _ _ _) far.1
  replace t2 := t2.far V0 (noInt3 _ _ _ _ _ _ _) far.1
  replace B0 := apz (far.2 _ _) B0
  replace V0 := V'
  clear oth far
  refine (copyl9 p.b p.m p.d p.y x3 hr.2.1 (by have := hn.2; omega)).mono ?_
  rintro e x4 ⟨b2, d2, rfl, g2, hd2, t3, hb⟩
  replace V0 := V0.a hb
  replace V1 := V1.a hb
  replace hr := Rd2.after hb hr
  replace h2 := Sl.after hb h2
  replace t2 := Tq.after hb t2
  replace B0 := step B0 hb
  clear hb
  have U0 := V0.set327 (.slice b2 p.m d2)
  have U1 := V1.stay (fak _ _ 2 (.slice b2 p.m d2)) (show w.heap.size + 1 ≠ w.heap.size by omega)
  have c_V0 := V0.d0
  have f0_V0 := V0.frozen 0
  have d_V0 := V0.d1
  have f1_V0 := V0.frozen 1
  have e_V0 := V0.d2
  have f2_V0 := V0.frozen 2
  have l_V0 := V0.lt
  have m_V0 := Nat.le_of_lt l_V0
  have c_V1 := V1.d0
  have f0_V1 := V1.frozen 0
  have d_V1 := V1.d1
  have f1_V1 := V1.frozen 1
  have e_V1 := V1.d2
  have f2_V1 := V1.frozen 2
  have l_V1 := V1.lt
  have m_V1 := Nat.le_of_lt l_V1
  have dx0 := U0.d0
  have dx1 := U0.d1
  have dx2 := U0.d2
  have ex0 := U0.frozen 0
  have ex1 := U0.frozen 1
  have ex2 := U0.frozen 2
  have gx0 := U1.d0
  have gx1 := U1.d1
  have gx2 := U1.d2
  have hx0 := U1.frozen 0
  have hx1 := U1.frozen 1
  have hx2 := U1.frozen 2
  go_wp2_with fail
  refine bodyPost_ret (results_ra rfl rfl (U1.set3 _ _ _)) rfl ?_
  refine ⟨⟨p.s, a2, p.l, c2, p.z, b2, p.m, d2, p.y⟩, rfl, ?_, ⟨rfl, rfl, rfl, rfl, rfl⟩, ⟨(t2.far V0 (noInt3 _ _ _ _ _ _ _) (fak _ _ _ _)).far U1 (noInt3 _ _ _ _ _ _ _) (fa3 _ _ _ _ _), (t3.far V0 (noInt3 _ _ _ _ _ _ _) (fak _ _ _ _)).far U1 (noInt3 _ _ _ _ _ _ _) (fa3 _ _ _ _ _)⟩, belo3 (B0.setCell (p := ⟨w.heap.size, 2, none⟩) (Nat.le_refl _) _) (by omega) _ _ _⟩
  refine Ri.far (V := U1) (hn := noInt3 _ _ _ _ _ _ _) (k := fa3 _ _ _ _ _) ?_
  refine Ri.far (V := V0) (hn := noInt3 _ _ _ _ _ _ _) (k := fak _ _ _ _) ?_
  exact ⟨h2, g2, hc2, hd2⟩
end Go.Proofs.YtenmkbofpmbedabGreatDoor
