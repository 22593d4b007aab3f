/-
  addedUp: the number of few digits to a base, from the highest on.
-/
import Derived.Test.YtpfbcicjfnfpgaaBackw
import Derived.Test.YtpfbcicjfnfpgaaBsN
namespace Go.Proofs.Ytpfbcicjfnfpgaa
open Go.RowKit Go.Shelf
set_option linter.unusedVariables false
attribute [local go_sem] Oper.semAt_some

/-- A digit: a number of layer nat. -/
abbrev Dg := Option Addr × Nat × Nat × List Int
def dv (d : Dg) : Value := .slice d.1 d.2.1 d.2.2.1
/-- What the digits that have come say, to the base B. -/
def dsum (B : Int) (D : Nat → Dg) (pre : List Nat) : Int := pre.foldl (fun s i => s * B + num (D i).2.2.2) 0
theorem dsum_snoc (B : Int) (D : Nat → Dg) (pre : List Nat) (x : Nat) : dsum B D (pre ++ [x]) = dsum B D pre * B + num (D x).2.2.2 := by simp [dsum]
theorem keeps_below {W W' : World} (h : Below W.heap.size W W') : KeepsOthers W W' := ⟨h.size, fun k o hk _ => (h.block k (Array.getElem?_eq_some_iff.1 hk).1).trans hk⟩
theorem sl_kept {W W' : World} {row : Option Nat} {a : Option Addr} {l : Nat} {zs : List Int} (h : Sl W a l zs) (hg : W.grownBy W' row) (hr : ∀ r, row = some r → ∃ o : Obj, W.heap[r]? = some o ∧ o.isCells = false) : Sl W' a l zs := by
  obtain ⟨h1, h2, h3⟩ := h
  refine ⟨h1, h2, fun h0 => ?_⟩
  obtain ⟨b, off, rfl, hc⟩ := h3 h0
  exact ⟨b, off, rfl, fun i hi => cell_kept (hc i hi) hg hr⟩
/-- What stands between two rounds. -/
def AdI (w : World) (B : Int) (D : Nat → Dg) (bv : Value) (pre : List Nat) (W : World) : Prop :=
  (∃ a l c zs, Boxed W (w.heap.size + 1 + 1 + 1) 25 (.slice a l c) ∧ Nt W a l c zs ∧ num zs = dsum B D pre) ∧ Boxed W w.heap.size 25 bv ∧ Boxed W (w.heap.size + 1) 25 (.slice none 0 0) ∧ Boxed W (w.heap.size + 1 + 1) 33 (.int .i64 0) ∧ Below w.heap.size w W ∧ w.heap.size + 5 ≤ W.heap.size
/-- What stands where a round has left. -/
def AdX (w : World) (B : Int) (D : Nat → Dg) (pre : List Nat) (W : World) : Prop :=
  Boxed W (w.heap.size + 1) 25 (.slice none 0 0) ∧ Boxed W (w.heap.size + 1 + 1) 33 (.int .i64 3) ∧ pw 4096 ≤ dsum B D pre ∧ Below w.heap.size w W
theorem adI_own (w : World) (B : Int) (D : Nat → Dg) (bv : Value) (n : Nat) (hn : w.heap.size ≤ n) : OwnFrom n (AdI w B D bv) := by
  intro s W W' row hs hg hr
  obtain ⟨⟨a, l, c, zs, h1, h2, h3⟩, h4, h5, h6, h7, h8⟩ := hs
  have k : ∀ {b : Nat} {t : TypeId} {v : Value}, Boxed W b t v → Boxed W' b t v := fun {b t v} x => boxed_own b t (fun (_ : Unit) => v) () W W' row x hg (fun r e => (hr r e).2)
  exact ⟨⟨a, l, c, zs, k h1, ⟨sl_kept h2.1 hg (fun r e => (hr r e).2), h2.2⟩, h3⟩, k h4, k h5, k h6, ownFrom_below (β := Unit) (Nat.le_refl _) hn () W W' row h7 hg hr, Nat.le_trans h8 hg.size⟩
theorem adX_own (w : World) (B : Int) (D : Nat → Dg) (n : Nat) (hn : w.heap.size ≤ n) : OwnFrom n (AdX w B D) := by
  intro s W W' row hs hg hr
  obtain ⟨h1, h2, h3, h4⟩ := hs
  have k : ∀ {b : Nat} {t : TypeId} {v : Value}, Boxed W b t v → Boxed W' b t v := fun {b t v} x => boxed_own b t (fun (_ : Unit) => v) () W W' row x hg (fun r e => (hr r e).2)
  exact ⟨k h1, k h2, h3, ownFrom_below (β := Unit) (Nat.le_refl _) hn () W W' row h4 hg hr⟩

/-- A store into one variable: all that a round that goes on owes. -/
theorem ad_go {w W W2 : World} {B : Int} {D : Nat → Dg} {bv : Value} {pre : List Nat} {x : Nat} {a : Option Addr} {l c : Nat} {zs : List Int} {n : Nat} (hI : AdI w B D bv pre W) (hb : Below W.heap.size W W2) (h : Nt W2 a l c zs) (e : num zs = dsum B D (pre ++ [x])) :
    KeepsFrom n W (W2.setCell ⟨w.heap.size + 1 + 1 + 1, 0, none⟩ (.slice a l c)) ∧ Kq w.heap.size (w.heap.size + 1 + 1 + 1 + 1) W (W2.setCell ⟨w.heap.size + 1 + 1 + 1, 0, none⟩ (.slice a l c)) ∧ AdI w B D bv (pre ++ [x]) (W2.setCell ⟨w.heap.size + 1 + 1 + 1, 0, none⟩ (.slice a l c)) := by
  obtain ⟨⟨a0, l0, c0, z0, h1, h2, h3⟩, h4, h5, h6, h7, hn⟩ := hI
  have hsz := hb.size
  have k : ∀ {b : Nat} {t : TypeId} {v : Value}, Boxed W b t v → Boxed W2 b t v := fun {b t v} x => (hb.block b x.lt).trans x
  have v3 : Va W2 (w.heap.size + 1 + 1 + 1) 25 #[.slice a0 l0 c0] := k h1
  refine ⟨((keeps_below hb).trans (KeepsOthers.setCell _ _ _)).from _, ⟨(hb.mono (by omega)).setCell (p := ⟨w.heap.size + 1 + 1 + 1, 0, none⟩) (show w.heap.size ≤ w.heap.size + 1 + 1 + 1 by omega) _, fun v q => (k q).other (by omega) _⟩, ⟨a, l, c, zs, v3.set _, h.far v3 (noInt1 _ _ _) (fun c hc => Below.heap_setCell _ _ _ _ hc), e⟩, (k h4).other (by omega) _, (k h5).other (by omega) _, (k h6).other (by omega) _, (h7.trans (hb.mono (by omega))).setCell (p := ⟨w.heap.size + 1 + 1 + 1, 0, none⟩) (show w.heap.size ≤ w.heap.size + 1 + 1 + 1 by omega) _, by rw [size_set]; omega⟩
/-- What a round that leaves owes. -/
theorem ad_leave {w W W2 : World} {B : Int} {D : Nat → Dg} {pre : List Nat} {x : Nat} {n : Nat} {c0 : Code} (hk : KeepsOthers W W2) (v1 : Va W2 (w.heap.size + 1) 25 #[.slice none 0 0]) (v2 : Va W2 (w.heap.size + 1 + 1) 33 #[.int .i64 0]) (hb : Below w.heap.size w W2) (e : pw 4096 ≤ dsum B D (pre ++ [x])) :
    KeepsFrom n W ((W2.setCell ⟨w.heap.size + 1, 0, none⟩ (.slice none 0 0)).setCell ⟨w.heap.size + 1 + 1, 0, none⟩ (.int .i64 3)) ∧ c0 = c0 ∧ AdX w B D (pre ++ [x]) ((W2.setCell ⟨w.heap.size + 1, 0, none⟩ (.slice none 0 0)).setCell ⟨w.heap.size + 1 + 1, 0, none⟩ (.int .i64 3)) :=
  ⟨((hk.trans (KeepsOthers.setCell _ _ _)).trans (KeepsOthers.setCell _ _ _)).from _, rfl, (v1.set _).other (p := ⟨w.heap.size + 1 + 1, 0, none⟩) (show w.heap.size + 1 ≠ w.heap.size + 1 + 1 by omega) _, (v2.other (p := ⟨w.heap.size + 1, 0, none⟩) (show w.heap.size + 1 + 1 ≠ w.heap.size + 1 by omega) _).set _, e,
    (hb.setCell (p := ⟨w.heap.size + 1, 0, none⟩) (show w.heap.size ≤ w.heap.size + 1 by omega) _).setCell (p := ⟨w.heap.size + 1 + 1, 0, none⟩) (show w.heap.size ≤ w.heap.size + 1 + 1 by omega) _⟩
theorem results_ne {fn : Func} {i j b c : Nat} {v u : Value} {tmps : Array Value} {w : World} (h : fn.results = #[.cell i 25, .cell j 33]) (hi : tmps.getD i undef = .pointer (some ⟨b, 0, none⟩)) (hv : Va w b 25 #[v])
    (hj : tmps.getD j undef = .pointer (some ⟨c, 0, none⟩)) (hu : Va w c 33 #[u]) :
    (results fn tmps).run Try.prog w = .ok (.tuple #[.agg #[v], u]) w := by
  have c := hv.cell; have d := hu.cell
  rw [Array.getD_eq_getD_getElem?] at hi hj
  simp [results, h, hi, hj, c, d, go_sem]

theorem dsum_nonneg {w : World} {B : Int} {D : Nat → Dg} (hB : 1 ≤ B) (hD : ∀ j, 0 ≤ num (D j).2.2.2) (pre : List Nat) : 0 ≤ dsum B D pre := by
  unfold dsum
  suffices h : ∀ (l : List Nat) (s : Int), 0 ≤ s → 0 ≤ l.foldl (fun s i => s * B + num (D i).2.2.2) s from h pre 0 (Int.le_refl _)
  intro l
  induction l with
  | nil => intro s hs; exact hs
  | cons x l ih =>
    intro s hs
    have := Int.mul_nonneg hs (show 0 ≤ B by omega)
    have := hD x
    exact ih (s * B + num (D x).2.2.2) (by omega)
theorem dsum_mono {w : World} {B : Int} {D : Nat → Dg} (hB : 1 ≤ B) (hD : ∀ j, 0 ≤ num (D j).2.2.2) (pre suf : List Nat) : dsum B D pre ≤ dsum B D (pre ++ suf) := by
  have h : ∀ (l : List Nat) (s : Int), 0 ≤ s → s ≤ l.foldl (fun s i => s * B + num (D i).2.2.2) s := by
    intro l
    induction l with
    | nil => intro s hs; exact Int.le_refl _
    | cons x l ih =>
      intro s hs
      have h1 : s * 1 ≤ s * B := Int.mul_le_mul_of_nonneg_left hB hs
      have h2 := hD x
      exact Int.le_trans (show s ≤ s * B + num (D x).2.2.2 by omega) (ih (s * B + num (D x).2.2.2) (by omega))
  unfold dsum
  rw [List.foldl_append]
  exact h suf _ (dsum_nonneg (w := w) hB hD pre)
theorem down_prefix {len k : Nat} (h : k ≤ len) : ∃ suf, down len len = down len k ++ suf := by
  refine ⟨((List.range (len - k)).map (fun j => k + j)).map (fun j => len - 1 - j), ?_⟩
  unfold down
  rw [← List.map_append, ← List.range_add, show k + (len - k) = len by omega]
theorem putV {W : World} {b D : Nat} {t : TypeId} {v : Value} {o : Obj} (h : Va W b t #[v]) (hK : W.heap[D]? = some o) (ho : o.isCells = false) {o' : Obj} : Va (W.putObj D o') b t #[v] :=
  Boxed.kept (B := b) h (grownBy_putObj' W D o') (fun e => by
    have e' : b = D := by simpa using e
    rw [← e', show W.heap[b]? = _ from h] at hK
    cases hK
    cases ho)
theorem noIntE {z : Int} : NoInt #[.int .i64 z] := by
  intro i y h
  rcases i with _ | i <;> simp at h
/-- What is answered, and its error. -/
def AdR (V er : Int) (a : Option Addr) (l c : Nat) (zs : List Int) : Prop := (er = 0 ∧ num zs = V ∧ V < pw 4096) ∨ (er = 3 ∧ a = none ∧ l = 0 ∧ c = 0 ∧ zs = [] ∧ pw 4096 ≤ V)

set_option maxRecDepth 100000 in
set_option maxHeartbeats 8000000 in
theorem added_in (b off len cap : Nat) (D : Nat → Dg) (ab : Option Addr) (lb cb : Nat) (ys : List Int) (w : World) (hlen : len ≤ 1000000) (hbw : b < w.heap.size) (hc : ∀ j, j < len → w.cell? ⟨b, off + j, none⟩ = some (dv (D j))) (hD : ∀ j, Nt w (D j).1 (D j).2.1 (D j).2.2.1 (D j).2.2.2) (hy : Nt w ab lb cb ys) (hB : 1 ≤ num ys) :
    CallsIn Fence.wide 5 Try.prog 76 #[.slice (some ⟨b, off, none⟩) len cap, .agg #[.slice ab lb cb]] w fun e W' => ∃ er a l c zs, e = .returned (.tuple #[.agg #[.slice a l c], .int .i64 er]) ∧ Nt W' a l c zs ∧ Hid (AdR (dsum (num ys) D (down len len)) er a l c zs) ∧ Below w.heap.size w W' := by
  have HN : Hid (∀ j, 0 ≤ num (D j).2.2.2) := fun j => (hD j).nonneg
  refine callsIn_of_wp_marks Try.func76 rfl trivial ?_ rfl
  simp only [Try.ntmps76, List.size_toArray, List.length_cons, List.length_nil, Nat.reduceAdd, Nat.reduceSub, Array.replicate_succ, Array.replicate_zero, List.push_toArray, List.append_toArray, List.nil_append, List.cons_append]
  gi_wp2_with (refine ⟨trivial, ?_⟩; gi_at_call 90; refine (back_in Fence.wide _ trivial rfl _ _ _ _).mono ?_; rintro e w' ⟨rfl, rfl⟩)
  refine ent5 w _ _ _ _ _ _ _ _ _ _ (Q := fun W => Code.wpIn Fence.wide 5 Try.prog _ _ _ W) ?_
  intro W0 hB0 hsz V0 V1 V2 V3 V4
  have hn1 : Nt W0 none 0 0 [] := Nt.nil _
  refine wpIn_rangeFunc_ownH rfl (show 1 ≤ 5 by omega) (gf := 95) (lb := #[.pointer (some ⟨w.heap.size + 1 + 1 + 1 + 1, 0, none⟩)]) rfl trivial (enters_of Try.func95 (by kernel_rfl) rfl)
    (back_stops Fence.wide (5 - 1) trivial rfl (by omega) (w.heap.size + 1 + 1 + 1 + 1) w.heap.size b off len cap (fun j => dv (D j)) hlen W0 V4.lt (by omega) hbw V4 (fun j hj => (hB0.cell (p := ⟨b, off + j, none⟩) hbw).trans (hc j hj))) kq_t (kq_b (by omega)) (Below.refl _ _) (fun _ => rfl)
    (AdI w (num ys) D (.slice ab lb cb)) (fun c pre W => c = .ret ∧ AdX w (num ys) D pre W)
    (adI_own w _ D _ _ (by omega)) (fun c s W W' row hs hg hr => ⟨hs.1, adX_own w _ D _ (by omega) s W W' row hs.2 hg hr⟩)
    ⟨⟨none, 0, 0, [], V3, hn1, rfl⟩, V0, V1, V2, hB0, by omega⟩
    (fun x a' W => ∃ Bx, w.heap.size + 1 + 1 + 1 + 1 < Bx ∧ Boxed W Bx 25 (dv (D x)) ∧ a' = { tmps := #[.slice (some ⟨b, off, none⟩) len cap, .agg #[.slice ab lb cb], undef, .pointer (some ⟨w.heap.size, 0, none⟩), .pointer (some ⟨w.heap.size + 1, 0, none⟩), .pointer (some ⟨w.heap.size + 1 + 1, 0, none⟩), .pointer (some ⟨w.heap.size + 1 + 1 + 1, 0, none⟩), undef, .pointer (some ⟨Bx, 0, none⟩), undef, undef, .agg #[.slice none 0 0], .slice (some ⟨b, off, none⟩) len cap, .func (.func 95) #[] #[.pointer (some ⟨w.heap.size + 1 + 1 + 1 + 1, 0, none⟩)], .int .i64 (x : Int), .agg #[dv (D x)], undef, undef, undef, undef, undef, undef, undef, undef, undef, undef, undef, undef, undef, undef, undef, undef, undef, undef, undef, undef, undef], defers := [] })
    (fun x a' _ X Y row hs hg hr => by obtain ⟨Bx, h1, h2, h3⟩ := hs; exact ⟨Bx, h1, boxed_own Bx 25 (fun (_ : Unit) => dv (D x)) () X Y row h2 hg (fun r e => (hr r e).2), h3⟩)
    ?assign ?body ?done ?stop
  case assign =>
    rintro l pre x W K hI hK
    have hB1 := hI.2.2.2.2.1
    have hs5 := hI.2.2.2.2.2
    simp only [dv]
    gi_wp2
    refine hK _ _ ((KeepsOthers.alloc _ _).from _) ⟨(Below.refl _ W).alloc hB1.size _, fun v q => (Va.old (t := 98) (cs := #[v]) q _)⟩ ?_ ?_
    · exact adI_own w (num ys) D _ w.heap.size (Nat.le_refl _) _ _ _ none hI (World.grownBy_alloc W _ none) (fun r e => by cases e)
    · exact ⟨W.heap.size, by omega, Boxed.new W _ _, rfl⟩
  case body =>
    rintro l pre x a' W hl ⟨r, hr⟩ hI ⟨Bx, hBx, bX, rfl⟩ hlt
    have HI : Hid (AdI w (num ys) D (.slice ab lb cb) pre W) := hI
    obtain ⟨⟨a0, l0, c0, z0, v3, n0, e0⟩, v0, v1, v2, hB1, hs1⟩ := hI
    have hx := Nt.after hB1 (hD x)
    have hyW := Nt.after hB1 hy
    have es := dsum_snoc (num ys) D pre x
    obtain ⟨dx, hdx⟩ : ∃ d, D x = d := ⟨_, rfl⟩
    obtain ⟨ad, ld, cd, zd⟩ := dx
    rw [hdx] at hx bX es ⊢
    simp only [dv] at bX hx es ⊢
    have HES : Hid (dsum (num ys) D (pre ++ [x]) = num z0 * num ys + num zd) := by show _ = _; rw [es, e0]
    have HZ : Hid (0 ≤ num zd) := hx.nonneg
    have q0 := v0.cell
    have q3 := v3.cell
    have qx := bX.cell
    have lx := bX.lt
    clear es e0 hlt hr hl hdx
    by_cases hm : Hid (num z0 * num ys < pw 4096)
    · by_cases ha : Hid (num z0 * num ys + num zd < pw 4096)
      · gi_wp2_with (first
          | (refine ⟨trivial, ?_⟩; gi_at_call 77; refine (CallsIn.inRound l (callsIn_wide.2 (nmul_ok a0 ab l0 c0 lb cb z0 ys W n0 hyW hm.out))).mono ?_; rintro e W1 ⟨a1, l1, c1, z1, rfl, h1, n1, hb1⟩; have x1 : Boxed W1 Bx 25 _ := (hb1.block _ bX.lt).trans bX; have qx1 := x1.cell; have lx1 := x1.lt; clear q0 q3 qx lx)
          | (refine ⟨trivial, ?_⟩; gi_at_call 20; refine (CallsIn.inRound l (callsIn_wide.2 (nadd_ok a1 ad l1 c1 ld cd z1 zd _ (h1.al _) ((Nt.after hb1 hx).al _) (by rw [n1]; exact ha.out)))).mono ?_; rintro e W2 ⟨a2, l2, c2, z2, rfl, h2, n2, hb2⟩; have hb3 : Below W.heap.size W W2 := (hb1.alloc hb1.size _).trans (hb2.mono (by simp; have := hb1.size; omega)); have y3 : Boxed W2 (w.heap.size + 1 + 1 + 1) 25 _ := (hb3.block _ v3.lt).trans v3; have q33 := y3.cell; have f33 := y3.frozen; clear qx1 lx1))
        exact ad_go HI.out hb3 h2 (by rw [n2, n1]; exact HES.out.symm)
      · gi_wp2_with (first
          | (refine ⟨trivial, ?_⟩; gi_at_call 77; refine (CallsIn.inRound l (callsIn_wide.2 (nmul_ok a0 ab l0 c0 lb cb z0 ys W n0 hyW hm.out))).mono ?_; rintro e W1 ⟨a1, l1, c1, z1, rfl, h1, n1, hb1⟩; have x1 : Boxed W1 Bx 25 _ := (hb1.block _ bX.lt).trans bX; have qx1 := x1.cell; have lx1 := x1.lt; clear q0 q3 qx lx)
          | (refine ⟨trivial, ?_⟩; gi_at_call 20; refine (CallsIn.inRound l (callsIn_wide.2 (nadd_long a1 ad l1 c1 ld cd z1 zd _ (h1.al _) ((Nt.after hb1 hx).al _) (by rw [n1]; exact Int.not_lt.1 ha)))).mono ?_; rintro e W2 ⟨rfl, hb2⟩; have hb3 : Below W.heap.size W W2 := (hb1.alloc hb1.size _).trans (hb2.mono (by simp; have := hb1.size; omega)); have y3 : Boxed W2 (w.heap.size + 1 + 1 + 1) 25 _ := (hb3.block _ v3.lt).trans v3; have q33 := y3.cell; have f33 := y3.frozen; have y1 : Boxed W2 (w.heap.size + 1) 25 _ := (hb3.block _ v1.lt).trans v1; have q31 := y1.cell; have f31 := y1.frozen; have y2 : Boxed W2 (w.heap.size + 1 + 1) 33 _ := (hb3.block _ v2.lt).trans v2; have q32 := y2.cell; have f32 := y2.frozen; clear qx1 lx1))
        have hb4 : Below w.heap.size w W2 := hB1.trans (hb3.mono hB1.size)
        exact ad_leave ((keeps_below hb3).trans (KeepsOthers.setCell _ _ _)) (Va.other y1 (p := ⟨w.heap.size + 1 + 1 + 1, 0, none⟩) (show w.heap.size + 1 ≠ w.heap.size + 1 + 1 + 1 by omega) _) (Va.other y2 (p := ⟨w.heap.size + 1 + 1 + 1, 0, none⟩) (show w.heap.size + 1 + 1 ≠ w.heap.size + 1 + 1 + 1 by omega) _) (hb4.setCell (p := ⟨w.heap.size + 1 + 1 + 1, 0, none⟩) (show w.heap.size ≤ w.heap.size + 1 + 1 + 1 by omega) _) (by rw [HES.out]; exact Int.not_lt.1 ha)
    · gi_wp2_with (refine ⟨trivial, ?_⟩; gi_at_call 77; refine (CallsIn.inRound l (callsIn_wide.2 (nmul_long a0 ab l0 c0 lb cb z0 ys W n0 hyW (Int.not_lt.1 hm)))).mono ?_; rintro e W1 ⟨rfl, hb1⟩; have y1 : Boxed W1 (w.heap.size + 1) 25 _ := (hb1.block _ v1.lt).trans v1; have q31 := y1.cell; have f31 := y1.frozen; have l31 := y1.lt; have y2 : Boxed W1 (w.heap.size + 1 + 1) 33 _ := (hb1.block _ v2.lt).trans v2; have q32 := y2.cell; have f32 := y2.frozen; have l32 := y2.lt; clear q0 q3 qx lx)
      have hz := HZ.out
      have hm2 := Int.not_lt.1 hm
      have hb4 : Below w.heap.size w W1 := hB1.trans (hb1.mono hB1.size)
      obtain ⟨k1, -, k2⟩ := ad_leave (n := W0.heap.size) (c0 := .ret) (B := num ys) (D := D) (pre := pre) (x := x) (keeps_below hb1) y1 y2 hb4 (by rw [HES.out]; generalize pw 4096 = P at *; omega)
      exact ⟨k1.trans ((KeepsOthers.alloc _ _).from _), rfl, adX_own w _ D w.heap.size (Nat.le_refl _) _ _ _ none k2 (World.grownBy_alloc _ _ none) (fun r e => by cases e)⟩
  case done =>
    rintro Dd zs W hD1 rfl ⟨⟨a0, l0, c0, z0, v3, n0, e0⟩, v0, v1, v2, hB1, hs1⟩ hK
    have q3 := v3.cell
    have q1 := v1.cell
    have f1 := v1.frozen
    have q2 := v2.cell
    have f2 := v2.frozen
    gi_wp2
    have hB2 := (hB1.setCell (p := ⟨w.heap.size + 1, 0, none⟩) (show w.heap.size ≤ w.heap.size + 1 by omega) (Value.slice a0 l0 c0)).setCell (p := ⟨w.heap.size + 1 + 1, 0, none⟩) (show w.heap.size ≤ w.heap.size + 1 + 1 by omega) (Value.int .i64 0)
    have u1 : Va ((W.setCell ⟨w.heap.size + 1, 0, none⟩ (Value.slice a0 l0 c0)).setCell ⟨w.heap.size + 1 + 1, 0, none⟩ (Value.int .i64 0)) (w.heap.size + 1) 25 #[.slice a0 l0 c0] := (Va.set v1 _).other (p := ⟨w.heap.size + 1 + 1, 0, none⟩) (show w.heap.size + 1 ≠ w.heap.size + 1 + 1 by omega) _
    have u2 : Va ((W.setCell ⟨w.heap.size + 1, 0, none⟩ (Value.slice a0 l0 c0)).setCell ⟨w.heap.size + 1 + 1, 0, none⟩ (Value.int .i64 0)) (w.heap.size + 1 + 1) 33 #[.int .i64 0] := (Va.other v2 (p := ⟨w.heap.size + 1, 0, none⟩) (show w.heap.size + 1 + 1 ≠ w.heap.size + 1 by omega) _).set _
    have hn2 : Nt ((W.setCell ⟨w.heap.size + 1, 0, none⟩ (Value.slice a0 l0 c0)).setCell ⟨w.heap.size + 1 + 1, 0, none⟩ (Value.int .i64 0)) a0 l0 c0 z0 := (n0.far v1 (noInt1 _ _ _) (fun c hc => Below.heap_setCell _ _ _ _ hc)).far (Va.other v2 (p := ⟨w.heap.size + 1, 0, none⟩) (show w.heap.size + 1 + 1 ≠ w.heap.size + 1 by omega) _) noIntE (fun c hc => Below.heap_setCell _ _ _ _ hc)
    have hK2 := ((KeepsOthers.setCell W ⟨w.heap.size + 1, 0, none⟩ (Value.slice a0 l0 c0)).trans (KeepsOthers.setCell _ ⟨w.heap.size + 1 + 1, 0, none⟩ (Value.int .i64 0))).same Dd _ hK rfl
    have hlt : num z0 < pw 4096 := n0.lt
    refine ⟨by simp, .inl ⟨_, _, rfl, run_takeDeferred hK2, ?_⟩⟩
    refine ⟨_, results_ne rfl rfl (putV u1 hK2 rfl) rfl (putV u2 hK2 rfl), ?_⟩
    exact ⟨0, a0, l0, c0, z0, rfl, ⟨sl_kept hn2.1 (grownBy_putObj' _ Dd (.deferred none)) (fun r e => by cases e; exact ⟨_, hK2, rfl⟩), hn2.2⟩, Or.inl ⟨rfl, e0, by rw [← e0]; exact hlt⟩, hB2.trans (belowK_b (w := w) (Nat.le_refl _) _ Dd _ _ (by omega) hK2 rfl rfl)⟩
  case stop =>
    rintro Dd c pre W hD1 ⟨k, hk, rfl⟩ ⟨rfl, v1, v2, hlong, hB1⟩ hK
    gi_wp2
    refine ⟨by simp, .inl ⟨_, _, rfl, run_takeDeferred hK, ?_⟩⟩
    refine ⟨_, results_ne rfl rfl (putV v1 hK rfl) rfl (putV v2 hK rfl), ?_⟩
    obtain ⟨suf, esuf⟩ := down_prefix hk
    have hmo := dsum_mono (w := w) (B := num ys) (D := D) hB HN.out (down len k) suf
    rw [← esuf] at hmo
    exact ⟨3, none, 0, 0, [], rfl, Nt.nil _, Or.inr ⟨rfl, rfl, rfl, rfl, rfl, Int.le_trans hlong hmo⟩, hB1.trans (belowK_b (w := w) (Nat.le_refl _) _ Dd _ _ (by omega) hK rfl rfl)⟩
end Go.Proofs.Ytpfbcicjfnfpgaa
