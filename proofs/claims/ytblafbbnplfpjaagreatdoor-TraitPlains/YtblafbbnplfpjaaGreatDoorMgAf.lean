/-
  Put together of: Wh1, Rt1, RatP, Wh2.
-/
import Derived.Test.YtblafbbnplfpjaaGreatDoorMgAd
import Derived.Test.YtblafbbnplfpjaaGreatDoorMgAe
import Derived.Test.YtblafbbnplfpjaaGreatDoorBsA
import Derived.Lib.Strings
namespace Go.Proofs.YtblafbbnplfpjaaGreatDoor
open Go.RowKit Go.Shelf
set_option linter.unusedVariables false

theorem Va.c0 {w : World} {b : Nat} {t : TypeId} {x y : Value} (h : Va w b t #[x, y]) : w.cell? ⟨b, 0, none⟩ = some x := by rw [h.cellAt 0]; rfl
theorem Va.c1 {w : World} {b : Nat} {t : TypeId} {x y : Value} (h : Va w b t #[x, y]) : w.cell? ⟨b, 1, none⟩ = some y := by rw [h.cellAt 1]; rfl
theorem Va.set2 {w : World} {b : Nat} {t : TypeId} {x y : Value} (h : Va w b t #[x, y]) (x' y' : Value) : Va ((w.setCell ⟨b, 0, none⟩ x').setCell ⟨b, 1, none⟩ y') b t #[x', y'] := by
  unfold Va at *
  simp only [World.setCell]
  rw [Array.getElem?_modify, if_pos rfl, Array.getElem?_modify, if_pos rfl, h]
  simp
theorem Va.other2 {w : World} {b c : Nat} {t : TypeId} {cs : Array Value} (h : Va w b t cs) (hne : b ≠ c) (x' y' : Value) : Va ((w.setCell ⟨c, 0, none⟩ x').setCell ⟨c, 1, none⟩ y') b t cs :=
  (h.other (p := ⟨c, 0, none⟩) hne x').other (p := ⟨c, 1, none⟩) hne y'
theorem below_2 {B : Nat} {a w : World} (h : Below B a w) {c : Nat} (hc : B ≤ c) (x y : Value) : Below B a ((w.setCell ⟨c, 0, none⟩ x).setCell ⟨c, 1, none⟩ y) :=
  (h.setCell (p := ⟨c, 0, none⟩) hc x).setCell (p := ⟨c, 1, none⟩) hc y

/-- No cell of a variable is a limb. -/
def NoInt (cs : Array Value) : Prop := ∀ (i : Nat) (z : Int), cs[i]? ≠ some (.int .u64 z)
theorem noInt2 (s : Bool) (a : Option Addr) (l c : Nat) : NoInt #[.bool s, .slice a l c] := by
  intro i z h
  rcases i with _ | _ | i <;> simp at h
theorem noInt1 (a : Option Addr) (l c : Nat) : NoInt #[.slice a l c] := by
  intro i z h
  rcases i with _ | i <;> simp at h
theorem Sl.far {w : World} {a : Option Addr} {len : Nat} {zs : List Int} (h : Sl w a len zs) {b : Nat} {t : TypeId} {cs : Array Value} (V : Va w b t cs) (hn : NoInt cs) {w' : World} (k : ∀ c, c ≠ b → w'.heap[c]? = w.heap[c]?) : Sl w' a len zs := by
  obtain ⟨h1, h2, h3⟩ := h
  refine ⟨h1, h2, fun h0 => ?_⟩
  obtain ⟨bb, off, rfl, hc⟩ := h3 h0
  refine ⟨bb, off, rfl, fun i hi => ?_⟩
  have hne : bb ≠ b := by
    rintro rfl
    have e := hc 0 h0
    rw [V.cellAt] at e
    exact hn _ _ e
  rw [← hc i hi]
  exact World.cell?_of_block (w := w) (k bb hne)
theorem Nt.far {w : World} {a : Option Addr} {len cap : Nat} {zs : List Int} (h : Nt w a len cap zs) {b : Nat} {t : TypeId} {cs : Array Value} (V : Va w b t cs) (hn : NoInt cs) {w' : World} (k : ∀ c, c ≠ b → w'.heap[c]? = w.heap[c]?) : Nt w' a len cap zs := ⟨h.1.far V hn k, h.2⟩
theorem far2 (w : World) (b : Nat) (x y : Value) : ∀ c, c ≠ b → ((w.setCell ⟨b, 0, none⟩ x).setCell ⟨b, 1, none⟩ y).heap[c]? = w.heap[c]? := fun c hc => (Below.heap_setCell _ ⟨b, 1, none⟩ _ _ hc).trans (Below.heap_setCell _ ⟨b, 0, none⟩ _ _ hc)

/-- A store of two cells, all told. -/
theorem st2 {W : World} {b : Nat} {t : TypeId} {x y : Value} (h : Va W b t #[x, y]) (x' y' : Value) {Q : World → Prop}
    (k : ∀ V, Va V b t #[x', y'] → (∀ c t cs, c ≠ b → Va W c t cs → Va V c t cs) → ((∀ c, c ≠ b → V.heap[c]? = W.heap[c]?) ∧ (∀ B v, B ≤ b → Below B v W → Below B v V)) → Q V) : Q ((W.setCell ⟨b, 0, none⟩ x').setCell ⟨b, 1, none⟩ y') :=
  k _ (h.set2 x' y') (fun c t cs hc hv => hv.other2 hc x' y') ⟨far2 W b x' y', fun B v hB hb => below_2 hb hB x' y'⟩

theorem results_w {fn : Func} {i b : Nat} {x y : Value} {tmps : Array Value} {w : World} (h : fn.results = #[.cell i 64]) (hi : tmps.getD i undef = .pointer (some ⟨b, 0, none⟩)) (hv : Va w b 64 #[x, y]) :
    (results fn tmps).run Tryz.prog w = .ok (.agg #[x, y]) w := by
  have c := hv.c0; have d := hv.c1
  rw [Array.getD_eq_getD_getElem?] at hi
  simp [results, h, hi, c, d, go_sem]
theorem results_wt {fn : Func} {i j b : Nat} {x y : Value} {tmps : Array Value} {w : World} (h : fn.results = #[.cell i 64, .tmp j]) (hi : tmps.getD i undef = .pointer (some ⟨b, 0, none⟩)) (hv : Va w b 64 #[x, y]) :
    (results fn tmps).run Tryz.prog w = .ok (.tuple #[.agg #[x, y], tmps.getD j undef]) w := by
  have c := hv.c0; have d := hv.c1
  rw [Array.getD_eq_getD_getElem?] at hi
  simp [results, h, hi, c, d, go_sem]
/-- A whole number that can be read: 0 has no sign. -/
def It (w : World) (s : Bool) (a : Option Addr) (l c : Nat) (zs : List Int) : Prop := Nt w a l c zs ∧ (s = true → num zs ≠ 0)
/-- What it is. -/
def iv (s : Bool) (zs : List Int) : Int := if s then - num zs else num zs
theorem It.after {w w' : World} (b : Below w.heap.size w w') {s : Bool} {a : Option Addr} {l c : Nat} {zs : List Int} (h : It w s a l c zs) : It w' s a l c zs := ⟨Nt.after b h.1, h.2⟩
theorem It.far {w : World} {s : Bool} {a : Option Addr} {l c : Nat} {zs : List Int} (h : It w s a l c zs) {b : Nat} {t : TypeId} {cs : Array Value} (V : Va w b t cs) (hn : NoInt cs) {w' : World} (k : ∀ c, c ≠ b → w'.heap[c]? = w.heap[c]?) : It w' s a l c zs := ⟨h.1.far V hn k, h.2⟩
theorem It.nil (w : World) : It w false none 0 0 [] := ⟨Nt.nil w, fun h => by cases h⟩
theorem iv_t (zs : List Int) : iv true zs = - num zs := rfl
theorem iv_f (zs : List Int) : iv false zs = num zs := rfl
/-- The sign is told by what it is. -/
theorem It.sign {w : World} {s : Bool} {a : Option Addr} {l c : Nat} {zs : List Int} (h : It w s a l c zs) : s = decide (iv s zs < 0) := by
  have h0 := h.1.nonneg
  cases s
  · rw [iv_f]; symm; simpa using h0
  · have := h.2 rfl
    rw [iv_t]; symm; simp; omega
theorem It.abs {w : World} {s : Bool} {a : Option Addr} {l c : Nat} {zs : List Int} (h : It w s a l c zs) : num zs = (iv s zs).natAbs := by
  have h0 := h.1.nonneg
  cases s
  · rw [iv_f]; omega
  · rw [iv_t]; omega
theorem It.lt {w : World} {s : Bool} {a : Option Addr} {l c : Nat} {zs : List Int} (h : It w s a l c zs) : (iv s zs).natAbs < pw 4096 := by rw [← h.abs]; exact h.1.lt
end Go.Proofs.YtblafbbnplfpjaaGreatDoor

namespace Go.Proofs.YtblafbbnplfpjaaGreatDoor
open Go.RowKit Go.Shelf
set_option linter.unusedVariables false

theorem Va.d0 {w : World} {b : Nat} {t : TypeId} {x y z : Value} (h : Va w b t #[x, y, z]) : w.cell? ⟨b, 0, none⟩ = some x := by rw [h.cellAt 0]; rfl
theorem Va.d1 {w : World} {b : Nat} {t : TypeId} {x y z : Value} (h : Va w b t #[x, y, z]) : w.cell? ⟨b, 1, none⟩ = some y := by rw [h.cellAt 1]; rfl
theorem Va.d2 {w : World} {b : Nat} {t : TypeId} {x y z : Value} (h : Va w b t #[x, y, z]) : w.cell? ⟨b, 2, none⟩ = some z := by rw [h.cellAt 2]; rfl
theorem Va.set3 {w : World} {b : Nat} {t : TypeId} {x y z : Value} (h : Va w b t #[x, y, z]) (x' y' z' : Value) : Va (((w.setCell ⟨b, 0, none⟩ x').setCell ⟨b, 1, none⟩ y').setCell ⟨b, 2, none⟩ z') b t #[x', y', z'] := by
  unfold Va at *
  simp only [World.setCell]
  rw [Array.getElem?_modify, if_pos rfl, Array.getElem?_modify, if_pos rfl, Array.getElem?_modify, if_pos rfl, h]
  simp
theorem fa3 (w : World) (b : Nat) (x y z : Value) : ∀ c, c ≠ b → (((w.setCell ⟨b, 0, none⟩ x).setCell ⟨b, 1, none⟩ y).setCell ⟨b, 2, none⟩ z).heap[c]? = w.heap[c]? := fun c hc => (Below.heap_setCell _ ⟨b, 2, none⟩ _ _ hc).trans (far2 w b x y c hc)
theorem fa1 (w : World) (b : Nat) (x : Value) : ∀ c, c ≠ b → (w.setCell ⟨b, 0, none⟩ x).heap[c]? = w.heap[c]? := fun c hc => Below.heap_setCell _ ⟨b, 0, none⟩ _ _ hc
theorem noInt3 (s : Bool) (a : Option Addr) (l c : Nat) (a' : Option Addr) (l' c' : Nat) : NoInt #[.bool s, .slice a l c, .slice a' l' c'] := by
  intro i z h
  rcases i with _ | _ | _ | i <;> simp at h
theorem belo3 {B : Nat} {a w : World} (h : Below B a w) {c : Nat} (hc : B ≤ c) (x y z : Value) : Below B a (((w.setCell ⟨c, 0, none⟩ x).setCell ⟨c, 1, none⟩ y).setCell ⟨c, 2, none⟩ z) :=
  (below_2 h hc x y).setCell (p := ⟨c, 2, none⟩) hc z
theorem sto3 {W : World} {b : Nat} {t : TypeId} {x y z : Value} (h : Va W b t #[x, y, z]) (x' y' z' : Value) {Q : World → Prop}
    (k : ∀ V, Va V b t #[x', y', z'] → (∀ c t cs, c ≠ b → Va W c t cs → Va V c t cs) → ((∀ c, c ≠ b → V.heap[c]? = W.heap[c]?) ∧ (∀ B v, B ≤ b → Below B v W → Below B v V)) → Q V) : Q (((W.setCell ⟨b, 0, none⟩ x').setCell ⟨b, 1, none⟩ y').setCell ⟨b, 2, none⟩ z') :=
  k _ (h.set3 x' y' z') (fun c t cs hc hv => hv.stay (fa3 W b x' y' z') hc) ⟨fa3 W b x' y' z', fun B v hB hb => belo3 hb hB x' y' z'⟩
theorem sto1 {W : World} {b : Nat} {t : TypeId} {x : Value} (h : Va W b t #[x]) (x' : Value) {Q : World → Prop}
    (k : ∀ V, Va V b t #[x'] → (∀ c t cs, c ≠ b → Va W c t cs → Va V c t cs) → ((∀ c, c ≠ b → V.heap[c]? = W.heap[c]?) ∧ (∀ B v, B ≤ b → Below B v W → Below B v V)) → Q V) : Q (W.setCell ⟨b, 0, none⟩ x') :=
  k _ (h.set x') (fun c t cs hc hv => hv.stay (fa1 W b x') hc) ⟨fa1 W b x', fun B v hB hb => hb.setCell (p := ⟨b, 0, none⟩) hB x'⟩

theorem Nt.drw {w : World} {a : Option Addr} {l c : Nat} {zs : List Int} (h : Nt w a l c zs) : Nt w.drew a l c zs := h
theorem It.drw {w : World} {s : Bool} {a : Option Addr} {l c : Nat} {zs : List Int} (h : It w s a l c zs) : It w.drew s a l c zs := h
theorem Sl.drw {w : World} {a : Option Addr} {l : Nat} {zs : List Int} (h : Sl w a l zs) : Sl w.drew a l zs := h
theorem Sl.after {w w' : World} (b : Below w.heap.size w w') {a : Option Addr} {l : Nat} {zs : List Int} (h : Sl w a l zs) : Sl w' a l zs := h.below b (Nat.le_refl _)

theorem results_r {fn : Func} {i b : Nat} {x y z : Value} {tmps : Array Value} {w : World} (h : fn.results = #[.cell i 66]) (hi : tmps.getD i undef = .pointer (some ⟨b, 0, none⟩)) (hv : Va w b 66 #[x, y, z]) :
    (results fn tmps).run Tryz.prog w = .ok (.agg #[x, y, z]) w := by
  have c := hv.d0; have d := hv.d1; have e := hv.d2
  rw [Array.getD_eq_getD_getElem?] at hi
  simp [results, h, hi, c, d, e, go_sem]
theorem results_rt {fn : Func} {i j b : Nat} {x y z : Value} {tmps : Array Value} {w : World} (h : fn.results = #[.cell i 66, .tmp j]) (hi : tmps.getD i undef = .pointer (some ⟨b, 0, none⟩)) (hv : Va w b 66 #[x, y, z]) :
    (results fn tmps).run Tryz.prog w = .ok (.tuple #[.agg #[x, y, z], tmps.getD j undef]) w := by
  have c := hv.d0; have d := hv.d1; have e := hv.d2
  rw [Array.getD_eq_getD_getElem?] at hi
  simp [results, h, hi, c, d, e, go_sem]
/-- At most 1024 limbs in either part. -/
def Short (v : Rat) : Prop := (v.num.natAbs : Int) < pw 1024 ∧ (v.den : Int) < pw 1024
/-- A denominator: 0 stands for 1. -/
def dn (ds : List Int) : Int := if num ds = 0 then 1 else num ds
/-- A rational number that can be read. -/
def Rt (w : World) (s : Bool) (a : Option Addr) (l c : Nat) (zs : List Int) (b : Option Addr) (m d : Nat) (ds : List Int) (v : Rat) : Prop := It w s a l c zs ∧ Nt w b m d ds ∧ iv s zs = v.num ∧ dn ds = v.den ∧ Short v
theorem Rt.after {w w' : World} (hb : Below w.heap.size w w') {s : Bool} {a : Option Addr} {l c : Nat} {zs : List Int} {b : Option Addr} {m d : Nat} {ds : List Int} {v : Rat} (h : Rt w s a l c zs b m d ds v) : Rt w' s a l c zs b m d ds v := ⟨It.after hb h.1, Nt.after hb h.2.1, h.2.2⟩
theorem Rt.drw {w : World} {s : Bool} {a : Option Addr} {l c : Nat} {zs : List Int} {b : Option Addr} {m d : Nat} {ds : List Int} {v : Rat} (h : Rt w s a l c zs b m d ds v) : Rt w.drew s a l c zs b m d ds v := h
theorem Rt.far {w : World} {s : Bool} {a : Option Addr} {l c : Nat} {zs : List Int} {b : Option Addr} {m d : Nat} {ds : List Int} {v : Rat} (h : Rt w s a l c zs b m d ds v) {b' : Nat} {t : TypeId} {cs : Array Value} (V : Va w b' t cs) (hn : NoInt cs) {w' : World} (k : ∀ c, c ≠ b' → w'.heap[c]? = w.heap[c]?) : Rt w' s a l c zs b m d ds v := ⟨h.1.far V hn k, h.2.1.far V hn k, h.2.2⟩
theorem one_lt_pw {n : Nat} (h : 1 ≤ n) : 1 < pw n := Int.lt_of_lt_of_le (by decide : (1 : Int) < pw 1) (pw_mono h)
theorem Rt.nil (w : World) : Rt w false none 0 0 [] none 0 0 [] 0 := ⟨It.nil w, Nt.nil w, rfl, rfl, Int.lt_trans (by decide) (one_lt_pw (by omega)), one_lt_pw (by omega)⟩
/-- What is answered where a number may be too long. -/
def RA (v : Rat) (er : Int) (v' : Rat) : Prop := (Short v ∧ er = 0 ∧ v' = v) ∨ (¬ Short v ∧ er = 3 ∧ v' = 0)
end Go.Proofs.YtblafbbnplfpjaaGreatDoor

namespace Go.Proofs.YtblafbbnplfpjaaGreatDoor
set_option linter.unusedVariables false

theorem rat_new (n d : Int) (hd : d ≠ 0) {g : Nat} (hg : g = Nat.gcd n.natAbs d.natAbs) {q r : Nat} (hq : q * g = n.natAbs) (hr : r * g = d.natAbs) :
    (Rat.divInt n d).num = (if d.sign * n < 0 then -(q : Int) else q) ∧ (Rat.divInt n d).den = r := by
  have g0 : 0 < g := by rw [hg]; exact Nat.gcd_pos_of_pos_right _ (by omega)
  rw [Rat.num_divInt, Rat.den_divInt, if_neg hd]
  have eg : d.gcd n = g := by rw [hg, Nat.gcd_comm]; rfl
  rw [eg]
  refine ⟨?_, by rw [← hr, Nat.mul_div_cancel _ g0]⟩
  have hn : ((d.sign * n).natAbs) = q * g := by rw [Int.natAbs_mul, Int.natAbs_sign_of_ne_zero hd, Nat.one_mul, hq]
  generalize d.sign * n = m at *
  by_cases h : m < 0
  · rw [if_pos h]
    have : m = (-(q : Int)) * g := by rw [Int.neg_mul, ← Int.natCast_mul, ← hn]; omega
    rw [this, Int.mul_ediv_cancel _ (by omega)]
  · rw [if_neg h]
    have : m = (q : Int) * g := by rw [← Int.natCast_mul, ← hn]; omega
    rw [this, Int.mul_ediv_cancel _ (by omega)]
end Go.Proofs.YtblafbbnplfpjaaGreatDoor

namespace Go.Proofs.YtblafbbnplfpjaaGreatDoor
open Go.RowKit Go.Shelf
set_option linter.unusedVariables false

set_option maxHeartbeats 4000000 in
theorem wnew_any (s : Bool) (a : Option Addr) (l c : Nat) (zs : List Int) (w : World) (h : Nt w a l c zs) :
    Calls Tryz.prog 137 #[.bool s, .agg #[.slice a l c]] w fun e w' => ∃ s', e = .returned (.agg #[.bool s', .slice a l c]) ∧ It w' s' a l c zs ∧ iv s' zs = iv s zs ∧ Below w.heap.size w w' := by
  have hz := h.zero
  cases s
  ·
    clear hz
    have B0 : Below w.heap.size w w := Below.refl _ _
    go_enter Tryz.func137, Tryz.ntmps137
    go_wp2_with fail
    refine ent2 w _ _ _ _ (Q := fun W => Code.wp Tryz.prog _ _ _ W) ?_
    intro x1 hb hs_x1 V0 V1
    replace h := Nt.after hb h
    replace B0 := step B0 hb
    clear hb hs_x1
    refine wp_region_noPanic ?_
    replace V0 : Va x1.drew _ _ _ := V0
    replace V1 : Va x1.drew _ _ _ := V1
    replace h : Nt x1.drew _ _ _ _ := h
    replace B0 := Below.drew B0
    refine wp_region_held_drew (S := (fun W => W.cell? ⟨w.heap.size, 0, none⟩ = some (.slice a l c))) (by kernel_rfl) V0.cell (fun hHeld => ?_)
    obtain ⟨x2, hxd⟩ : ∃ xd, xd = x1.drew := ⟨_, rfl⟩
    rw [← hxd] at V0 V1 h B0 hHeld ⊢
    clear hxd
    refine wpAnyH_take (i := 0) (v := ?_) rfl (by kernel_rfl) (by kernel_rfl) (by kernel_rfl) (fun _ _ _ h => h) (Or.inl ⟨by rfl, ?_⟩) hHeld ?_
    rotate_left
    · (intro W hSw; (try dsimp only at hSw); go_simp; all_goals (with_reducible rfl))
    simp only [List.getElem_toArray, List.getElem_cons_zero, Act.put, List.setIfInBounds_toArray, List.set_cons_zero, List.set_cons_succ]
    refine wpAnyH_take (i := 1) (v := ?_) rfl (by kernel_rfl) (by kernel_rfl) (by kernel_rfl) (fun _ _ _ h => h) (Or.inl ⟨by rfl, ?_⟩) hHeld ?_
    rotate_left
    · (intro W hSw; (try dsimp only at hSw); go_simp; all_goals (with_reducible rfl))
    simp only [List.getElem_toArray, List.getElem_cons_zero, List.getElem_cons_succ, Act.put, List.setIfInBounds_toArray, List.set_cons_zero, List.set_cons_succ]
    refine wpAnyH_take (i := 2) (v := undef) rfl (by kernel_rfl) (by kernel_rfl) (by kernel_rfl) (fun _ _ _ h => h) (Or.inr ⟨by rfl, rfl⟩) hHeld ?_
    simp only [List.getElem_toArray, List.getElem_cons_zero, List.getElem_cons_succ, Act.put, List.setIfInBounds_toArray, List.set_cons_zero, List.set_cons_succ]
    refine wpAnyH_take (i := 3) (v := undef) rfl (by kernel_rfl) (by kernel_rfl) (by kernel_rfl) (fun _ _ _ h => h) (Or.inr ⟨by rfl, rfl⟩) hHeld ?_
    simp only [List.getElem_toArray, List.getElem_cons_zero, List.getElem_cons_succ, Act.put, List.setIfInBounds_toArray, List.set_cons_zero, List.set_cons_succ]
    refine wpAnyH_take (i := 4) (v := undef) rfl (by kernel_rfl) (by kernel_rfl) (by kernel_rfl) (fun _ _ _ h => h) (Or.inr ⟨by rfl, rfl⟩) hHeld ?_
    simp only [List.getElem_toArray, List.getElem_cons_zero, List.getElem_cons_succ, Act.put, List.setIfInBounds_toArray, List.set_cons_zero, List.set_cons_succ]
    refine wpAnyH_take (i := 5) (v := ?_) rfl (by kernel_rfl) (by kernel_rfl) (by kernel_rfl) (fun _ _ _ h => h) (Or.inl ⟨by rfl, ?_⟩) hHeld ?_
    rotate_left
    · (intro W hSw; (try dsimp only at hSw); go_simp; all_goals (with_reducible rfl))
    simp only [List.getElem_toArray, List.getElem_cons_zero, List.getElem_cons_succ, Act.put, List.setIfInBounds_toArray, List.set_cons_zero, List.set_cons_succ]
    refine wpAnyH_take (i := 6) (v := ?_) rfl (by kernel_rfl) (by kernel_rfl) (by kernel_rfl) (fun _ _ _ h => h) (Or.inl ⟨by rfl, ?_⟩) hHeld ?_
    rotate_left
    · (intro W hSw; (try dsimp only at hSw); go_simp; all_goals (with_reducible rfl))
    simp only [List.getElem_toArray, List.getElem_cons_zero, List.getElem_cons_succ, Act.put, List.setIfInBounds_toArray, List.set_cons_zero, List.set_cons_succ]
    refine wpAnyH_take (i := 7) (v := ?_) rfl (by kernel_rfl) (by kernel_rfl) (by kernel_rfl) (fun _ _ _ h => h) (Or.inl ⟨by rfl, ?_⟩) hHeld ?_
    rotate_left
    · (intro W hSw; (try dsimp only at hSw); go_simp; all_goals (with_reducible rfl))
    simp only [List.getElem_toArray, List.getElem_cons_zero, List.getElem_cons_succ, Act.put, List.setIfInBounds_toArray, List.set_cons_zero, List.set_cons_succ]
    have c_V1 := V1.c0
    have d_V1 := V1.c1
    have f_V1 := V1.frozen 0
    have g_V1 := V1.frozen 1
    have l_V1 := V1.lt
    have m_V1 := Nat.le_of_lt l_V1
    refine wpAnyH_ready (rs := [8]) (by kernel_rfl) (by simp) ?_
    refine AllReadyH.cons rfl (fun K hK => ?_) AllReadyH.nil
    simp only [List.getElem_toArray, List.getElem_cons_zero, List.getElem_cons_succ]
    go_simp
    clear c_V1 d_V1 f_V1 g_V1 l_V1 m_V1
    refine st2 V1 (.bool false) (.slice a l c) (Q := fun W => K _ W) ?_
    intro x3 V' oth far
    replace V0 := oth _ _ _ (by first | omega | assumption) V0
    replace h := h.far V1 (noInt2 _ _ _ _) far.1
    replace B0 := far.2 _ _ (by first | omega | (simp; omega)) B0
    replace V1 := V'
    clear oth far
    refine hK.out _ _ V0.cell (fun hHeld => ?_)
    clear hK K
    refine wpAnyH_done (by kernel_rfl) ?_ _
    refine NoPanic.normal ?_
    clear hHeld
    go_wp2_with fail
    refine bodyPost_ret (results_w rfl rfl V1) rfl ?_
    exact ⟨false, rfl, ⟨h, fun e => by cases e⟩, rfl, B0⟩
  ·
    obtain ⟨z, ez⟩ : ∃ z : Bool, decide (num zs = 0) = z := ⟨_, rfl⟩
    rw [ez] at hz
    have B0 : Below w.heap.size w w := Below.refl _ _
    go_enter Tryz.func137, Tryz.ntmps137
    go_wp2_with fail
    refine ent2 w _ _ _ _ (Q := fun W => Code.wp Tryz.prog _ _ _ W) ?_
    intro x1 hb hs_x1 V0 V1
    replace h := Nt.after hb h
    replace B0 := step B0 hb
    clear hb hs_x1
    refine wp_region_noPanic ?_
    replace V0 : Va x1.drew _ _ _ := V0
    replace V1 : Va x1.drew _ _ _ := V1
    replace h : Nt x1.drew _ _ _ _ := h
    replace B0 := Below.drew B0
    refine wp_region_held_drew (S := (fun W => W.cell? ⟨w.heap.size, 0, none⟩ = some (.slice a l c))) (by kernel_rfl) V0.cell (fun hHeld => ?_)
    obtain ⟨x2, hxd⟩ : ∃ xd, xd = x1.drew := ⟨_, rfl⟩
    rw [← hxd] at V0 V1 h B0 hHeld ⊢
    clear hxd
    refine wpAnyH_take (i := 0) (v := ?_) rfl (by kernel_rfl) (by kernel_rfl) (by kernel_rfl) (fun _ _ _ h => h) (Or.inl ⟨by rfl, ?_⟩) hHeld ?_
    rotate_left
    · (intro W hSw; (try dsimp only at hSw); go_simp; all_goals (with_reducible rfl))
    simp only [List.getElem_toArray, List.getElem_cons_zero, Act.put, List.setIfInBounds_toArray, List.set_cons_zero, List.set_cons_succ]
    refine wpAnyH_take (i := 1) (v := ?_) rfl (by kernel_rfl) (by kernel_rfl) (by kernel_rfl) (fun _ _ _ h => h) (Or.inl ⟨by rfl, ?_⟩) hHeld ?_
    rotate_left
    · (intro W hSw; (try dsimp only at hSw); go_simp; all_goals (with_reducible rfl))
    simp only [List.getElem_toArray, List.getElem_cons_zero, List.getElem_cons_succ, Act.put, List.setIfInBounds_toArray, List.set_cons_zero, List.set_cons_succ]
    refine wpAnyH_take (i := 2) (v := ?_) rfl (by kernel_rfl) (by kernel_rfl) (by kernel_rfl) (fun _ _ _ h => h) (Or.inl ⟨by rfl, ?_⟩) hHeld ?_
    rotate_left
    · (intro W hSw; (try dsimp only at hSw); go_simp; all_goals (with_reducible rfl))
    simp only [List.getElem_toArray, List.getElem_cons_zero, List.getElem_cons_succ, Act.put, List.setIfInBounds_toArray, List.set_cons_zero, List.set_cons_succ]
    refine wpAnyH_take (i := 6) (v := ?_) rfl (by kernel_rfl) (by kernel_rfl) (by kernel_rfl) (fun _ _ _ h => h) (Or.inl ⟨by rfl, ?_⟩) hHeld ?_
    rotate_left
    · (intro W hSw; (try dsimp only at hSw); go_simp; all_goals (with_reducible rfl))
    simp only [List.getElem_toArray, List.getElem_cons_zero, List.getElem_cons_succ, Act.put, List.setIfInBounds_toArray, List.set_cons_zero, List.set_cons_succ]
    refine wpAnyH_ready (rs := [3]) (by kernel_rfl) (by simp) ?_
    refine AllReadyH.cons rfl (fun K hK => ?_) AllReadyH.nil
    simp only [List.getElem_toArray, List.getElem_cons_zero, List.getElem_cons_succ]
    go_simp
    refine (isZero_any a l c _).mono ?_
    rintro e x3 ⟨rfl, hb⟩
    replace V0 := Va.after hb V0
    replace V1 := Va.after hb V1
    replace h := Nt.after hb h
    replace B0 := step B0 hb
    clear hb
    rw [hz]
    try go_wp2_with fail
    refine hK.out _ _ V0.cell (fun hHeld => ?_)
    clear hK K
    refine wpAnyH_take (i := 4) (v := ?_) rfl (by kernel_rfl) (by kernel_rfl) (by kernel_rfl) (fun _ _ _ h => h) (Or.inl ⟨by rfl, ?_⟩) hHeld ?_
    rotate_left
    · (intro W hSw; (try dsimp only at hSw); go_simp; all_goals (with_reducible rfl))
    simp only [List.getElem_toArray, List.getElem_cons_zero, List.getElem_cons_succ, Act.put, List.setIfInBounds_toArray, List.set_cons_zero, List.set_cons_succ]
    refine wpAnyH_take (i := 5) (v := ?_) rfl (by kernel_rfl) (by kernel_rfl) (by kernel_rfl) (fun _ _ _ h => h) (Or.inl ⟨by rfl, ?_⟩) hHeld ?_
    rotate_left
    · (intro W hSw; (try dsimp only at hSw); go_simp; all_goals (with_reducible rfl))
    simp only [List.getElem_toArray, List.getElem_cons_zero, List.getElem_cons_succ, Act.put, List.setIfInBounds_toArray, List.set_cons_zero, List.set_cons_succ]
    refine wpAnyH_take (i := 7) (v := ?_) rfl (by kernel_rfl) (by kernel_rfl) (by kernel_rfl) (fun _ _ _ h => h) (Or.inl ⟨by rfl, ?_⟩) hHeld ?_
    rotate_left
    · (intro W hSw; (try dsimp only at hSw); go_simp; all_goals (with_reducible rfl))
    simp only [List.getElem_toArray, List.getElem_cons_zero, List.getElem_cons_succ, Act.put, List.setIfInBounds_toArray, List.set_cons_zero, List.set_cons_succ]
    have c_V1 := V1.c0
    have d_V1 := V1.c1
    have f_V1 := V1.frozen 0
    have g_V1 := V1.frozen 1
    have l_V1 := V1.lt
    have m_V1 := Nat.le_of_lt l_V1
    refine wpAnyH_ready (rs := [8]) (by kernel_rfl) (by simp) ?_
    refine AllReadyH.cons rfl (fun K hK => ?_) AllReadyH.nil
    simp only [List.getElem_toArray, List.getElem_cons_zero, List.getElem_cons_succ]
    go_simp
    clear c_V1 d_V1 f_V1 g_V1 l_V1 m_V1
    refine st2 V1 (.bool (!z)) (.slice a l c) (Q := fun W => K _ W) ?_
    intro x4 V' oth far
    replace V0 := oth _ _ _ (by first | omega | assumption) V0
    replace h := h.far V1 (noInt2 _ _ _ _) far.1
    replace B0 := far.2 _ _ (by first | omega | (simp; omega)) B0
    replace V1 := V'
    clear oth far
    refine hK.out _ _ V0.cell (fun hHeld => ?_)
    clear hK K
    refine wpAnyH_done (by kernel_rfl) ?_ _
    refine NoPanic.normal ?_
    clear hHeld
    go_wp2_with fail
    refine bodyPost_ret (results_w rfl rfl V1) rfl ?_
    refine ⟨!z, rfl, ⟨h, fun e => ?_⟩, ?_, B0⟩
    · rw [← ez] at e; simpa using e
    · cases z
      · rfl
      · have e0 : num zs = 0 := by simpa using ez
        show num zs = - num zs; omega

theorem wsign_any (s : Bool) (a : Option Addr) (l c : Nat) (zs : List Int) (w : World) (h : It w s a l c zs) :
    Calls Tryz.prog 132 #[.agg #[.bool s, .slice a l c]] w fun e w' => e = .returned (.int .i64 (Int.sign (iv s zs))) ∧ Below w.heap.size w w' := by
  have hz := h.1.zero
  have hp := h.1.nonneg
  cases s
  · have es : Int.sign (iv false zs) = if num zs = 0 then 0 else 1 := by
      rw [iv_f]
      by_cases e : num zs = 0
      · rw [if_pos e, e]; rfl
      · rw [if_neg e, Int.sign_eq_one_of_pos (by omega)]
    rw [es]
    clear es
    by_cases e : num zs = 0
    · rw [if_pos e]
      have ez : ((l : Int) == 0) = true := by rw [hz]; simpa using e
      clear hz hp e
      go_enter Tryz.func132, Tryz.ntmps132
      go_wp2_with fail
      refine ent1 w _ _ (Q := fun W => Calls Tryz.prog _ _ W _) ?_
      intro x1 B0 hs V0
      refine (isZero_any a l c x1).mono ?_
      rintro e x2 ⟨rfl, hb⟩
      rw [ez]
      replace B0 := step B0 hb
      go_wp2_with fail
      go_ret
      exact ⟨rfl, B0⟩
    · rw [if_neg e]
      have ez : ((l : Int) == 0) = false := by rw [hz]; simpa using e
      clear hz hp e
      go_enter Tryz.func132, Tryz.ntmps132
      go_wp2_with fail
      refine ent1 w _ _ (Q := fun W => Calls Tryz.prog _ _ W _) ?_
      intro x1 B0 hs V0
      refine (isZero_any a l c x1).mono ?_
      rintro e x2 ⟨rfl, hb⟩
      rw [ez]
      replace B0 := step B0 hb
      go_wp2_with fail
      go_ret
      exact ⟨rfl, B0⟩
  · have es : Int.sign (iv true zs) = -1 := by
      have := h.2 rfl
      rw [iv_t, Int.sign_eq_neg_one_of_neg (by omega)]
    rw [es]
    clear es hz hp h
    go_enter Tryz.func132, Tryz.ntmps132
    go_wp2_with fail
    go_ret
    exact ⟨rfl, (Below.refl _ _).alloc (Nat.le_refl _) _⟩

theorem wabs_any (s : Bool) (a : Option Addr) (l c : Nat) (w : World) :
    Calls Tryz.prog 135 #[.agg #[.bool s, .slice a l c]] w fun e w' => e = .returned (.agg #[.slice a l c]) ∧ Below w.heap.size w w' := by
  go_enter Tryz.func135, Tryz.ntmps135
  go_wp2_with fail
  refine bodyPost_ret (results_c rfl rfl (by have := Va.new (w.alloc (Obj.cells #[Value.bool s, Value.slice a l c] 64)) 62 #[Value.slice a l c]; simp only [World.alloc, Array.size_push] at this ⊢; exact this)) rfl ?_
  exact ⟨rfl, ((Below.refl _ _).alloc (Nat.le_refl _) _).alloc (by simp) _⟩

theorem wneg_any (s : Bool) (a : Option Addr) (l c : Nat) (zs : List Int) (w : World) (h : It w s a l c zs) :
    Calls Tryz.prog 133 #[.agg #[.bool s, .slice a l c]] w fun e w' => ∃ s', e = .returned (.agg #[.bool s', .slice a l c]) ∧ It w' s' a l c zs ∧ iv s' zs = - iv s zs ∧ Below w.heap.size w w' := by
  have B0 : Below w.heap.size w w := Below.refl _ _
  go_enter Tryz.func133, Tryz.ntmps133
  go_wp2_with fail
  refine ent2 w _ _ _ _ (Q := fun W => Calls Tryz.prog _ _ W _) ?_
  intro x1 hb hs_x1 V0 V1
  replace h := It.after hb h
  replace B0 := step B0 hb
  clear hb hs_x1
  refine (wnew_any (!s) a l c zs x1 h.1).mono ?_
  rintro e x2 ⟨s', rfl, h', e', hb⟩
  replace V0 := Va.after hb V0
  replace V1 := Va.after hb V1
  replace h := It.after hb h
  replace B0 := step B0 hb
  clear hb
  have c_V1 := V1.c0
  have d_V1 := V1.c1
  have f_V1 := V1.frozen 0
  have g_V1 := V1.frozen 1
  have l_V1 := V1.lt
  have m_V1 := Nat.le_of_lt l_V1
  go_wp2_with fail
  refine bodyPost_ret (results_w rfl rfl (V1.set2 _ _)) rfl ?_
  refine ⟨s', rfl, h'.far V1 (noInt2 _ _ _ _) (far2 _ _ _ _), ?_, below_2 B0 (by omega) _ _⟩
  rw [e']
  cases s
  · rfl
  · show num zs = - - num zs; omega

theorem wsmall_any (x : Int) (h1 : -9223372036854775808 ≤ x) (h2 : x ≤ 9223372036854775807) (w : World) :
    Calls Tryz.prog 98 #[.int .i64 x] w fun e w' => ∃ s a l c zs, e = .returned (.agg #[.bool s, .slice a l c]) ∧ It w' s a l c zs ∧ iv s zs = x ∧ Below w.heap.size w w' := by
  by_cases hx : x < 0
  ·
    have e1 : IntKind.u64.wrap x = x + 18446744073709551616 := by rw [IntKind.wrap_u64]; omega
    have e2 : IntKind.u64.wrap (-(x + 18446744073709551616)) = -x := by rw [IntKind.wrap_u64]; omega
    have B0 : Below w.heap.size w w := Below.refl _ _
    go_enter Tryz.func98, Tryz.ntmps98
    go_wp2_with fail
    refine ent1 w _ _ (Q := fun W => Calls Tryz.prog _ _ W _) ?_
    intro x1 hb hs_x1 V1
    replace B0 := step B0 hb
    clear hb hs_x1
    refine (small_any _ ⟨by omega, by omega⟩ x1).mono ?_
    rintro e x2 ⟨a, l, c, zs, rfl, h, hn, hb⟩
    replace V1 := Va.after hb V1
    replace B0 := step B0 hb
    clear hb
    have c_V1 := V1.c0
    have d_V1 := V1.c1
    have f_V1 := V1.frozen 0
    have g_V1 := V1.frozen 1
    have l_V1 := V1.lt
    have m_V1 := Nat.le_of_lt l_V1
    go_wp2_with fail
    refine (wnew_any true a l c zs x2 h).mono ?_
    rintro e x3 ⟨s', rfl, h', e', hb⟩
    replace V1 := Va.after hb V1
    replace h := Nt.after hb h
    replace B0 := step B0 hb
    clear hb
    clear c_V1 d_V1 f_V1 g_V1 l_V1 m_V1
    have c_V1 := V1.c0
    have d_V1 := V1.c1
    have f_V1 := V1.frozen 0
    have g_V1 := V1.frozen 1
    have l_V1 := V1.lt
    have m_V1 := Nat.le_of_lt l_V1
    go_wp2_with fail
    refine bodyPost_ret (results_w rfl rfl (V1.set2 _ _)) rfl ?_
    refine ⟨s', a, l, c, zs, rfl, h'.far V1 (noInt2 _ _ _ _) (far2 _ _ _ _), ?_, below_2 B0 (by omega) _ _⟩
    rw [e']
    show - num zs = x; omega
  ·
    have e1 : IntKind.u64.wrap x = x := by rw [IntKind.wrap_u64]; omega
    have B0 : Below w.heap.size w w := Below.refl _ _
    go_enter Tryz.func98, Tryz.ntmps98
    go_wp2_with fail
    refine ent1 w _ _ (Q := fun W => Calls Tryz.prog _ _ W _) ?_
    intro x1 hb hs_x1 V1
    replace B0 := step B0 hb
    clear hb hs_x1
    refine (small_any _ ⟨by omega, by omega⟩ x1).mono ?_
    rintro e x2 ⟨a, l, c, zs, rfl, h, hn, hb⟩
    replace V1 := Va.after hb V1
    replace B0 := step B0 hb
    clear hb
    have c_V1 := V1.c0
    have d_V1 := V1.c1
    have f_V1 := V1.frozen 0
    have g_V1 := V1.frozen 1
    have l_V1 := V1.lt
    have m_V1 := Nat.le_of_lt l_V1
    go_wp2_with fail
    refine (wnew_any false a l c zs x2 h).mono ?_
    rintro e x3 ⟨s', rfl, h', e', hb⟩
    replace V1 := Va.after hb V1
    replace h := Nt.after hb h
    replace B0 := step B0 hb
    clear hb
    clear c_V1 d_V1 f_V1 g_V1 l_V1 m_V1
    have c_V1 := V1.c0
    have d_V1 := V1.c1
    have f_V1 := V1.frozen 0
    have g_V1 := V1.frozen 1
    have l_V1 := V1.lt
    have m_V1 := Nat.le_of_lt l_V1
    go_wp2_with fail
    refine bodyPost_ret (results_w rfl rfl (V1.set2 _ _)) rfl ?_
    refine ⟨s', a, l, c, zs, rfl, h'.far V1 (noInt2 _ _ _ _) (far2 _ _ _ _), ?_, below_2 B0 (by omega) _ _⟩
    rw [e']
    show num zs = x; omega

theorem cmp3_neg (x y : Int) : cmp3 (-x) (-y) = cmp3 y x := by unfold cmp3; grind
theorem wcompare_any (s t : Bool) (a b : Option Addr) (la ca lb cb : Nat) (xs ys : List Int) (w : World) (hx : It w s a la ca xs) (hy : It w t b lb cb ys) :
    Calls Tryz.prog 81 #[.agg #[.bool s, .slice a la ca], .agg #[.bool t, .slice b lb cb]] w fun e w' => e = .returned (.int .i64 (cmp3 (iv s xs) (iv t ys))) ∧ Below w.heap.size w w' := by
  have p1 := hx.1.nonneg
  have p2 := hy.1.nonneg
  have q1 := hx.2
  have q2 := hy.2
  cases s <;> cases t
  ·
    clear q1 q2 p1 p2
    rw [iv_f, iv_f]
    have B0 : Below w.heap.size w w := Below.refl _ _
    go_enter Tryz.func81, Tryz.ntmps81
    go_wp2_with fail
    refine ent2 w _ _ _ _ (Q := fun W => Calls Tryz.prog _ _ W _) ?_
    intro x1 hb hs_x1 V0 V1
    replace hx := It.after hb hx
    replace hy := It.after hb hy
    replace B0 := step B0 hb
    clear hb hs_x1
    refine (ncompare_any a b _ _ _ _ xs ys x1 hx.1 hy.1).mono ?_
    rintro e x2 ⟨rfl, hb⟩
    replace V0 := Va.after hb V0
    replace V1 := Va.after hb V1
    replace hx := It.after hb hx
    replace hy := It.after hb hy
    replace B0 := step B0 hb
    clear hb
    have c_V0 := V0.c0
    have d_V0 := V0.c1
    have f_V0 := V0.frozen 0
    have g_V0 := V0.frozen 1
    have l_V0 := V0.lt
    have m_V0 := Nat.le_of_lt l_V0
    have c_V1 := V1.c0
    have d_V1 := V1.c1
    have f_V1 := V1.frozen 0
    have g_V1 := V1.frozen 1
    have l_V1 := V1.lt
    have m_V1 := Nat.le_of_lt l_V1
    go_wp2_with fail
    go_ret
    exact ⟨rfl, B0⟩
  ·
    have ec : cmp3 (iv false xs) (iv true ys) = 1 := by
      rw [iv_f, iv_t]
      have := q2 rfl
      exact cmp3_gt (by omega)
    rw [ec]
    clear ec q1 q2 p1 p2
    have B0 : Below w.heap.size w w := Below.refl _ _
    go_enter Tryz.func81, Tryz.ntmps81
    go_wp2_with fail
    go_ret
    exact ⟨rfl, ((Below.refl _ _).alloc (Nat.le_refl _) _).alloc (by simp) _⟩
  ·
    have ec : cmp3 (iv true xs) (iv false ys) = -1 := by
      rw [iv_t, iv_f]
      have := q1 rfl
      exact cmp3_lt (by omega)
    rw [ec]
    clear ec q1 q2 p1 p2
    have B0 : Below w.heap.size w w := Below.refl _ _
    go_enter Tryz.func81, Tryz.ntmps81
    go_wp2_with fail
    go_ret
    exact ⟨rfl, ((Below.refl _ _).alloc (Nat.le_refl _) _).alloc (by simp) _⟩
  ·
    clear q1 q2 p1 p2
    rw [iv_t, iv_t, cmp3_neg]
    have B0 : Below w.heap.size w w := Below.refl _ _
    go_enter Tryz.func81, Tryz.ntmps81
    go_wp2_with fail
    refine ent2 w _ _ _ _ (Q := fun W => Calls Tryz.prog _ _ W _) ?_
    intro x1 hb hs_x1 V0 V1
    replace hx := It.after hb hx
    replace hy := It.after hb hy
    replace B0 := step B0 hb
    clear hb hs_x1
    refine (ncompare_any b a _ _ _ _ ys xs x1 hy.1 hx.1).mono ?_
    rintro e x2 ⟨rfl, hb⟩
    replace V0 := Va.after hb V0
    replace V1 := Va.after hb V1
    replace hx := It.after hb hx
    replace hy := It.after hb hy
    replace B0 := step B0 hb
    clear hb
    have c_V0 := V0.c0
    have d_V0 := V0.c1
    have f_V0 := V0.frozen 0
    have g_V0 := V0.frozen 1
    have l_V0 := V0.lt
    have m_V0 := Nat.le_of_lt l_V0
    have c_V1 := V1.c0
    have d_V1 := V1.c1
    have f_V1 := V1.frozen 0
    have g_V1 := V1.frozen 1
    have l_V1 := V1.lt
    have m_V1 := Nat.le_of_lt l_V1
    go_wp2_with fail
    go_ret
    exact ⟨rfl, B0⟩
end Go.Proofs.YtblafbbnplfpjaaGreatDoor
namespace Go.Proofs.YtblafbbnplfpjaaGreatDoor
open Go.RowKit Go.Shelf
set_option linter.unusedVariables false

theorem bsize (l : List UInt8) : (ByteArray.mk l.toArray).size = l.length := by rw [Go.Lib.size_eq]
theorem slice_hi (l : List UInt8) (h : Int) (n : Nat) (e : h = n) (hn : n ≤ l.length) (W : World) : (Instr.sliceAt 9 (.string ⟨l.toArray⟩) none (some (.int .i64 h)) none).run Tryz.prog W = .ok (.string ⟨(l.take n).toArray⟩) W := by
  subst e
  have hb := bsize l
  have h1 : (n : Int) ≤ ((ByteArray.mk l.toArray).size : Int) := by omega
  rw [run_sliceAt_string _ _ _ _ _ _ Tryz.underlying9]
  simp [Instr.slice, run_underlying Tryz.underlying9, Instr.sliceBounds, run_sliceBound, h1, Go.Lib.extract_eq]
theorem slice_lo (l : List UInt8) (h : Int) (n : Nat) (e : h = n) (hn : n ≤ l.length) (W : World) : (Instr.sliceAt 9 (.string ⟨l.toArray⟩) (some (.int .i64 h)) none none).run Tryz.prog W = .ok (.string ⟨(l.drop n).toArray⟩) W := by
  subst e
  have hb := bsize l
  have h1 : (n : Int) ≤ ((ByteArray.mk l.toArray).size : Int) := by omega
  rw [run_sliceAt_string _ _ _ _ _ _ Tryz.underlying9]
  simp [Instr.slice, run_underlying Tryz.underlying9, Instr.sliceBounds, run_sliceBound, h1, Go.Lib.extract_eq]
  rw [hb, List.take_of_length_le (by simp)]
end Go.Proofs.YtblafbbnplfpjaaGreatDoor
