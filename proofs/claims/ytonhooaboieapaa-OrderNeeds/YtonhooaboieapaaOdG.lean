/-
  order: the heap's own methods.
-/
import Derived.Test.YtonhooaboieapaaOdB
import Derived.Deep.RegionHeld3
namespace Go.Proofs.Ytonhooaboieapaa
open Go.RowKit Go.Shelf
set_option linter.unusedVariables false

/-- Ints, as the heap's type has them. -/
def elR : El Int where
  enc := fun x => [.int .i64 x]
  dft := 0
  te := 3
  tl := 52
  z := .int .i64 0
  s := 1
  by8 := 8
  len := fun _ => rfl
  one := fun x v hv => by simp at hv; subst hv; rfl
  pos := by decide
  und := Try.underlying52
  inf := infoI
  zs := rfl
  bt := by decide
theorem ge_R {w : World} {B : Nat} {v : Value} {l : List Int} : Ge elR w B v l ↔ Ge elI w B v l := Iff.rfl
theorem rlen_any (a : Option Addr) (n cap : Nat) (w : World) : Calls Try.prog 92 #[.slice a n cap] w fun e w' => e = .returned (.int .i64 n) ∧ w' = w := by
  go_enter Try.func92, Try.ntmps92
  go_wp2_with fail
  go_ret
  exact ⟨rfl, rfl⟩
theorem Ge.at0 {w : World} {B g cap : Nat} {l : List Int} (h : Ge elI w B (.slice (some ⟨g, 0, none⟩) l.length cap) l) {i : Nat} (hi : i < l.length) : w.cell? ⟨g, i, none⟩ = some (.int .i64 (l.getD i 0)) := by
  obtain ⟨b, off, e, hc⟩ := h.toLe.li.at hi
  cases e
  rw [Nat.zero_add] at hc
  rw [hc, List.getD_eq_getElem?_getD, List.getD_eq_getElem?_getD, List.getElem?_eq_getElem hi]; rfl
/-- A number of the list is put anew. -/
theorem Ge.seti {w : World} {B g n cap : Nat} {l : List Int} (h : Ge elI w B (.slice (some ⟨g, 0, none⟩) n cap) l) {i : Nat} (hi : i < l.length) (y : Int) : Ge elI (w.setCell ⟨g, i, none⟩ (.int .i64 y)) B (.slice (some ⟨g, 0, none⟩) n cap) (l.set i y) := by
  have := h.put i hi 0 (by decide) (.int .i64 y) y rfl
  rwa [show i * elI.s + 0 = i from Nat.mul_one i] at this
theorem Ge.drw {w : World} {B : Nat} {v : Value} {l : List Int} (h : Ge elI w B v l) (n : Nat) : Ge elI (w.drewN n) B v l := h.kept (fun k _ => rfl)
theorem rless_any {w : World} {B g cap : Nat} {l : List Int} (h : Ge elI w B (.slice (some ⟨g, 0, none⟩) l.length cap) l) {i j : Nat} (hi : i < l.length) (hj : j < l.length) :
    Calls Try.prog 93 #[.slice (some ⟨g, 0, none⟩) l.length cap, .int .i64 (i : Int), .int .i64 (j : Int)] w fun e w' => e = .returned (.bool (decide (l.getD i 0 < l.getD j 0))) ∧ Below w.heap.size w w' ∧ w'.heap.size = w.heap.size := by
  have c1 := h.at0 hi
  have c2 := h.at0 hj
  have hii : (i : Int) < l.length := by omega
  have hji : (j : Int) < l.length := by omega
  generalize l.getD i 0 = x at *
  generalize l.getD j 0 = y at *
  clear h
  go_enter Try.func93, Try.ntmps93
  go_wp2_with fail
  go_quiet (fail)
  go_wp2_with fail
  go_ret
  exact ⟨rfl, below_drewN (Below.refl _ _) _, rfl⟩
set_option maxHeartbeats 4000000 in
theorem rswap_any {w : World} {B g cap : Nat} {l : List Int} (h : Ge elI w B (.slice (some ⟨g, 0, none⟩) l.length cap) l) {i j : Nat} (hi : i < l.length) (hj : j < l.length) :
    Calls Try.prog 94 #[.slice (some ⟨g, 0, none⟩) l.length cap, .int .i64 (i : Int), .int .i64 (j : Int)] w fun e w' => (∃ v, e = .returned v) ∧ Ge elI w' B (.slice (some ⟨g, 0, none⟩) l.length cap) (sw l i j) ∧ w.grownBy w' (some g) ∧ w'.heap.size = w.heap.size := by
  have c1 := h.at0 hi
  have c2 := h.at0 hj
  have f1 := h.frozen i
  have f2 := h.frozen j
  have hii : (i : Int) < l.length := by omega
  have hji : (j : Int) < l.length := by omega
  have HG : Hid (Ge elI w B (.slice (some ⟨g, 0, none⟩) l.length cap) l) := h
  have c3 : (w.setCell ⟨g, i, none⟩ (.int .i64 (l.getD j 0))).cell? ⟨g, j, none⟩ = some (.int .i64 (l.getD j 0)) := by
    have h1 := h.seti hi (l.getD j 0)
    have h2 : Ge elI (w.setCell ⟨g, i, none⟩ (.int .i64 (l.getD j 0))) B (.slice (some ⟨g, 0, none⟩) (l.set i (l.getD j 0)).length cap) (l.set i (l.getD j 0)) := by rw [List.length_set]; exact h1
    have h3 := h2.at0 (i := j) (by rw [List.length_set]; exact hj)
    rw [h3]
    congr 2
    by_cases e : i = j
    · subst e; rw [List.getD_eq_getElem?_getD, List.getElem?_set_self hi]; rfl
    · rw [List.getD_eq_getElem?_getD, List.getElem?_set_ne e, ← List.getD_eq_getElem?_getD]
  clear h
  go_enter Try.func94, Try.ntmps94
  go_wp2_with fail
  generalize hx : l.getD i 0 = x at *
  generalize hy : l.getD j 0 = y at *
  go_region
  go_end0
  have h1 := HG.out.seti hi y
  have h2 : Ge elI (w.setCell ⟨g, i, none⟩ (.int .i64 y)) B (.slice (some ⟨g, 0, none⟩) l.length cap) (l.set i y) := h1
  have h3 := h2.seti (i := j) (by rw [List.length_set]; exact hj) x
  refine ⟨⟨_, rfl⟩, ?_, ⟨rfl, rfl, rfl, by simp, fun k hk hne => ?_⟩, by simp⟩
  · unfold sw
    rw [hx, hy]
    exact h3.kept (fun k _ => rfl)
  · have hne' : k ≠ g := fun e => hne (by rw [e])
    show ((w.setCell _ _).setCell _ _).heap[k]? = _
    rw [heap_setCell_other _ _ _ _ hne', heap_setCell_other _ _ _ _ hne']
theorem step_app_E {ops : Array Oper} {o : Oper} {a : Act} {w : World} {K : Act → World → Prop} {Q : Exit → Act → World → Prop} {E' : Prop} (hgd : o.guard = none) (s x : Operand) (t : TypeId)
    (ho : o.op = .call { callee := .builtin .append, args := #[s, x], argTypes := #[t, t] }) (ht : t = elR.tl)
    (B : Nat) (v : Value) (xs : List Int) (hs : a.eval s = v) (hg : Ge elR w B v xs) (b off m c : Nat) (ys : List Int) (hx : a.eval x = .slice (some ⟨b, off, none⟩) m c) (hy : Le elR w (some ⟨b, off, none⟩) m ys)
    (hb : xs.length + m ≤ 1000000000000) (hB : B ≤ w.heap.size)
    (h : ∀ v' w', Ge elR w' B v' (xs ++ ys) → w.grownBy w' v.ownBlock → (v'.ownBlock = v.ownBlock ∨ v'.ownBlock = some w.heap.size) → K (a.put o.dst v') w') : if Region.wanted o (yielded ops a.tmps) = true then Oper.wp Try.prog o a w K Q else E' := by
  subst ht
  have hw : Region.wanted o (yielded ops a.tmps) = true := by simp [Region.wanted, hgd]
  rw [if_pos hw]
  obtain ⟨v', w', hr, k2, k3, k5⟩ := run_appE w o.type B v xs hg b off m c ys hy hb hB
  unfold Oper.wp execOp
  simp only [ho, resolve, invoke, builtin, Sem.run_bind, Sem.run_pure, Result.andThen_ok, List.map_toArray, List.map_cons, List.map_nil, hs, hx, hr]
  exact h v' w' k2 k3 k5
theorem ta_int (x : Int) (W : World) : Sem.run Try.prog (Instr.typeAssert (.iface 3 (.int .i64 x)) 20 3 false) W = .ok (.int .i64 x) W := by
  simp [Instr.typeAssert, run_underlying Try.underlying3]
set_option maxHeartbeats 4000000 in
theorem rpush_any {w : World} {B b : Nat} {v : Value} {l : List Int} (V : Va w b 52 #[v]) (h : Ge elI w B v l) (hB : B ≤ w.heap.size) (hl : l.length ≤ 1000000) (x : Int) :
    Calls Try.prog 96 #[.pointer (some ⟨b, 0, none⟩), .iface 3 (.int .i64 x)] w fun e w' => (∃ u, e = .returned u) ∧ ∃ v', Va w' b 52 #[v'] ∧ Ge elI w' B v' (l ++ [x]) ∧ Below 0 w w' ∧ w.heap.size ≤ w'.heap.size ∧ (∀ c, c < w.heap.size → c ≠ b → v.ownBlock ≠ some c → w'.heap[c]? = w.heap[c]?) ∧ (v'.ownBlock = v.ownBlock ∨ ∃ c, v'.ownBlock = some c ∧ w.heap.size ≤ c) := by
  obtain ⟨a, cap, rfl, hcap, -, -⟩ := h.shape
  have c0 := V.cell
  have f0 := V.frozen 0
  have HG : Hid (Ge elI w B (.slice a l.length cap) l) := h
  have B0 : Below w.heap.size w w := Below.refl _ _
  have ta := ta_int x
  clear h
  go_enter Try.func96, Try.ntmps96
  go_wp2_with fail
  have HGd : Hid (Ge elI w.drew B (.slice a l.length cap) l) := HG.out.kept (fun k _ => rfl)
  have hsd : Hid (w.drew.heap.size = w.heap.size) := rfl
  have hbd : Hid (∀ c : Nat, w.drew.heap[c]? = w.heap[c]?) := fun c => rfl
  refine wp_region_noPanic ?_
  replace V : Va w.drew _ _ _ := V
  replace B0 := Below.drew B0
  refine wp_region_held_drew (S := (fun W => True)) (by kernel_rfl) trivial (fun hHeld => ?_)
  obtain ⟨xd, hxd⟩ : ∃ xd, xd = w.drew := ⟨_, rfl⟩
  rw [← hxd] at V B0 HGd hsd hbd ⊢
  clear hxd
  refine wpAnyH_take (i := 0) (v := ?_) rfl (by kernel_rfl) (by kernel_rfl) (by kernel_rfl) (fun _ _ _ h => h) (Or.inl ⟨by rfl, ?_⟩) hHeld ?_
  rotate_left
  · (intro W hSw; (try dsimp only at hSw); go_simp; all_goals (with_reducible rfl))
  simp only [List.getElem_toArray, List.getElem_cons_zero, Act.put, List.setIfInBounds_toArray, List.set_cons_zero, List.set_cons_succ]
  refine wpAnyH_take (i := 1) (v := ?_) rfl (by kernel_rfl) (by kernel_rfl) (by kernel_rfl) (fun _ _ _ h => h) (Or.inl ⟨by rfl, ?_⟩) hHeld ?_
  rotate_left
  · (intro W hSw; (try dsimp only at hSw); go_simp; all_goals (with_reducible rfl))
  simp only [List.getElem_toArray, List.getElem_cons_zero, List.getElem_cons_succ, Act.put, List.setIfInBounds_toArray, List.set_cons_zero, List.set_cons_succ]
  refine wpAnyH_take (i := 2) (v := ?_) rfl (by kernel_rfl) (by kernel_rfl) (by kernel_rfl) (fun _ _ _ h => h) (Or.inl ⟨by rfl, ?_⟩) hHeld ?_
  rotate_left
  · (intro W hSw; (try dsimp only at hSw); go_simp; all_goals (with_reducible rfl))
  simp only [List.getElem_toArray, List.getElem_cons_zero, List.getElem_cons_succ, Act.put, List.setIfInBounds_toArray, List.set_cons_zero, List.set_cons_succ]
  refine wpAnyH_take (i := 4) (v := ?_) rfl (by kernel_rfl) (by kernel_rfl) (by kernel_rfl) (fun _ _ _ h => h) (Or.inl ⟨by rfl, ?_⟩) hHeld ?_
  rotate_left
  · (intro W hSw; (try dsimp only at hSw); go_simp; all_goals (with_reducible rfl))
  simp only [List.getElem_toArray, List.getElem_cons_zero, List.getElem_cons_succ, Act.put, List.setIfInBounds_toArray, List.set_cons_zero, List.set_cons_succ]
  refine wpAnyH_take (i := 5) (v := ?_) rfl (by kernel_rfl) (by kernel_rfl) (by kernel_rfl) (fun _ _ _ h => h) (Or.inl ⟨by rfl, ?_⟩) hHeld ?_
  rotate_left
  · (intro W hSw; (try dsimp only at hSw); go_simp; all_goals (with_reducible rfl))
  simp only [List.getElem_toArray, List.getElem_cons_zero, List.getElem_cons_succ, Act.put, List.setIfInBounds_toArray, List.set_cons_zero, List.set_cons_succ]
  have c0d := V.cell
  refine wpAnyH_ready (rs := [3, 6]) (by kernel_rfl) (by simp) ?_
  refine AllReadyH.cons rfl (fun K hK => ?_) (AllReadyH.cons rfl (fun K hK => ?_) AllReadyH.nil)
  ·
    simp only [List.getElem_toArray, List.getElem_cons_zero, List.getElem_cons_succ]
    go_simp
    refine hK.out _ _ trivial (fun hHeld => ?_)
    clear hK K
    refine wpAnyH_ready (rs := [6]) (by kernel_rfl) (by simp) ?_
    refine AllReadyH.cons rfl (fun K hK => ?_) AllReadyH.nil
    simp only [List.getElem_toArray, List.getElem_cons_zero, List.getElem_cons_succ]
    go_simp
    refine ent1 xd _ _ (Q := fun V => K _ V) ?_
    intro x7 hb7 hs7 VG
    have V7 := V.after hb7
    have c07 := V7.cell
    have HG7 : Hid (Ge elI x7 B (.slice a l.length cap) l) := HGd.out.after hb7
    have hsz7 : B ≤ x7.heap.size := by have := hsd.out; omega
    refine hK.out _ _ trivial (fun hHeld => ?_)
    clear hK K
    refine wpAnyH_ready (rs := [7]) (by kernel_rfl) (by simp) ?_
    refine AllReadyH.cons rfl (fun K hK => ?_) AllReadyH.nil
    simp only [List.getElem_toArray, List.getElem_cons_zero, List.getElem_cons_succ]
    refine step_app_E (o := { dst := some 11, op := .call { callee := .builtin .append, args := #[.tmp 7, .tmp 10], argTypes := #[52, 52] }, type := 52, pos := "ready.go:11", after := #[{ on := 3, ground := .data }, { on := 6, ground := .data }], guard := none }) rfl (.tmp 7) (.tmp 10) 52 rfl rfl B (.slice a l.length cap) l rfl (ge_R.2 HG7.out) xd.heap.size 0 1 1 [x] rfl (Le.one VG rfl) (by omega) hsz7 ?_
    intro v8 x8 hg8 hgr8 hob8
    have hk8 : ∀ c, c < xd.heap.size → (Value.slice a l.length cap).ownBlock ≠ some c → x8.heap[c]? = xd.heap[c]? := fun c hc hne => (hgr8.block c (by omega) (fun e => hne e.symm)).trans (hb7.block c hc)
    have V8 : Va x8 b 52 #[.slice a l.length cap] := (hk8 b V.lt (HG7.out.apart V7 (by decide))).trans V
    have HG8 : Hid (Ge elI x8 B v8 (l ++ [x])) := ge_R.1 hg8
    have HS8 : Hid (x7.heap.size ≤ x8.heap.size) := hgr8.size
    have HZ8 : Hid (Below 0 w x8) := ((B0.mono (Nat.zero_le _)).trans (hb7.mono (Nat.zero_le _))).trans ((Below.refl 0 x7).grown hgr8 (Nat.zero_le _) (fun k _ => Nat.zero_le _))
    have HK8 : Hid (∀ c, c < xd.heap.size → (Value.slice a l.length cap).ownBlock ≠ some c → x8.heap[c]? = xd.heap[c]?) := hk8
    have HO8 : Hid (v8.ownBlock = (Value.slice a l.length cap).ownBlock ∨ v8.ownBlock = some x7.heap.size) := hob8
    obtain ⟨a8, c8, rfl, -, -, -⟩ := (ge_R.1 hg8).shape
    clear hg8 hk8 hob8 hgr8
    simp only [Act.put, List.setIfInBounds_toArray, List.set_cons_zero, List.set_cons_succ]
    refine hK.out _ _ trivial (fun hHeld => ?_)
    clear hK K
    refine wpAnyH_take (i := 8) (v := ?_) rfl (by kernel_rfl) (by kernel_rfl) (by kernel_rfl) (fun _ _ _ h => h) (Or.inl ⟨by rfl, ?_⟩) hHeld ?_
    rotate_left
    · (intro W hSw; (try dsimp only at hSw); go_simp; all_goals (with_reducible rfl))
    simp only [List.getElem_toArray, List.getElem_cons_zero, List.getElem_cons_succ, Act.put, List.setIfInBounds_toArray, List.set_cons_zero, List.set_cons_succ]
    have f8 := V8.frozen 0
    have c8c := V8.cell
    refine wpAnyH_ready (rs := [9]) (by kernel_rfl) (by simp) ?_
    refine AllReadyH.cons rfl (fun K hK => ?_) AllReadyH.nil
    simp only [List.getElem_toArray, List.getElem_cons_zero, List.getElem_cons_succ]
    go_simp
    refine hK.out _ _ trivial (fun hHeld => ?_)
    clear hK K
    refine wpAnyH_done (by kernel_rfl) ?_ _
    refine NoPanic.normal ?_
    go_end0
    have e9 : l.length + 1 = (l ++ [x]).length := by simp
    rw [e9]
    have hsd2 := hsd.out
    have hs8 := HS8.out
    refine ⟨⟨_, rfl⟩, _, V8.set _, HG8.out.far (p := ⟨b, 0, none⟩) (fun e => HG8.out.apart V8 (by decide) e) _, HZ8.out.setCell (p := ⟨b, 0, none⟩) (Nat.zero_le _) _, by simp; omega, fun c hc hne hno => ?_, ?_⟩
    · rw [heap_setCell_other _ _ _ _ hne, HK8.out c (by omega) hno]; exact hbd.out c
    · rcases HO8.out with h | h
      · exact .inl h
      · exact .inr ⟨_, h, by omega⟩
  ·
    simp only [List.getElem_toArray, List.getElem_cons_zero, List.getElem_cons_succ]
    go_simp
    refine ent1 xd _ _ (Q := fun V => K _ V) ?_
    intro x7 hb7 hs7 VG
    have V7 := V.after hb7
    have c07 := V7.cell
    have HG7 : Hid (Ge elI x7 B (.slice a l.length cap) l) := HGd.out.after hb7
    have hsz7 : B ≤ x7.heap.size := by have := hsd.out; omega
    refine hK.out _ _ trivial (fun hHeld => ?_)
    clear hK K
    refine wpAnyH_ready (rs := [3]) (by kernel_rfl) (by simp) ?_
    refine AllReadyH.cons rfl (fun K hK => ?_) AllReadyH.nil
    simp only [List.getElem_toArray, List.getElem_cons_zero, List.getElem_cons_succ]
    go_simp
    refine hK.out _ _ trivial (fun hHeld => ?_)
    clear hK K
    refine wpAnyH_ready (rs := [7]) (by kernel_rfl) (by simp) ?_
    refine AllReadyH.cons rfl (fun K hK => ?_) AllReadyH.nil
    simp only [List.getElem_toArray, List.getElem_cons_zero, List.getElem_cons_succ]
    refine step_app_E (o := { dst := some 11, op := .call { callee := .builtin .append, args := #[.tmp 7, .tmp 10], argTypes := #[52, 52] }, type := 52, pos := "ready.go:11", after := #[{ on := 3, ground := .data }, { on := 6, ground := .data }], guard := none }) rfl (.tmp 7) (.tmp 10) 52 rfl rfl B (.slice a l.length cap) l rfl (ge_R.2 HG7.out) xd.heap.size 0 1 1 [x] rfl (Le.one VG rfl) (by omega) hsz7 ?_
    intro v8 x8 hg8 hgr8 hob8
    have hk8 : ∀ c, c < xd.heap.size → (Value.slice a l.length cap).ownBlock ≠ some c → x8.heap[c]? = xd.heap[c]? := fun c hc hne => (hgr8.block c (by omega) (fun e => hne e.symm)).trans (hb7.block c hc)
    have V8 : Va x8 b 52 #[.slice a l.length cap] := (hk8 b V.lt (HG7.out.apart V7 (by decide))).trans V
    have HG8 : Hid (Ge elI x8 B v8 (l ++ [x])) := ge_R.1 hg8
    have HS8 : Hid (x7.heap.size ≤ x8.heap.size) := hgr8.size
    have HZ8 : Hid (Below 0 w x8) := ((B0.mono (Nat.zero_le _)).trans (hb7.mono (Nat.zero_le _))).trans ((Below.refl 0 x7).grown hgr8 (Nat.zero_le _) (fun k _ => Nat.zero_le _))
    have HK8 : Hid (∀ c, c < xd.heap.size → (Value.slice a l.length cap).ownBlock ≠ some c → x8.heap[c]? = xd.heap[c]?) := hk8
    have HO8 : Hid (v8.ownBlock = (Value.slice a l.length cap).ownBlock ∨ v8.ownBlock = some x7.heap.size) := hob8
    obtain ⟨a8, c8, rfl, -, -, -⟩ := (ge_R.1 hg8).shape
    clear hg8 hk8 hob8 hgr8
    simp only [Act.put, List.setIfInBounds_toArray, List.set_cons_zero, List.set_cons_succ]
    refine hK.out _ _ trivial (fun hHeld => ?_)
    clear hK K
    refine wpAnyH_take (i := 8) (v := ?_) rfl (by kernel_rfl) (by kernel_rfl) (by kernel_rfl) (fun _ _ _ h => h) (Or.inl ⟨by rfl, ?_⟩) hHeld ?_
    rotate_left
    · (intro W hSw; (try dsimp only at hSw); go_simp; all_goals (with_reducible rfl))
    simp only [List.getElem_toArray, List.getElem_cons_zero, List.getElem_cons_succ, Act.put, List.setIfInBounds_toArray, List.set_cons_zero, List.set_cons_succ]
    have f8 := V8.frozen 0
    have c8c := V8.cell
    refine wpAnyH_ready (rs := [9]) (by kernel_rfl) (by simp) ?_
    refine AllReadyH.cons rfl (fun K hK => ?_) AllReadyH.nil
    simp only [List.getElem_toArray, List.getElem_cons_zero, List.getElem_cons_succ]
    go_simp
    refine hK.out _ _ trivial (fun hHeld => ?_)
    clear hK K
    refine wpAnyH_done (by kernel_rfl) ?_ _
    refine NoPanic.normal ?_
    go_end0
    have e9 : l.length + 1 = (l ++ [x]).length := by simp
    rw [e9]
    have hsd2 := hsd.out
    have hs8 := HS8.out
    refine ⟨⟨_, rfl⟩, _, V8.set _, HG8.out.far (p := ⟨b, 0, none⟩) (fun e => HG8.out.apart V8 (by decide) e) _, HZ8.out.setCell (p := ⟨b, 0, none⟩) (Nat.zero_le _) _, by simp; omega, fun c hc hne hno => ?_, ?_⟩
    · rw [heap_setCell_other _ _ _ _ hne, HK8.out c (by omega) hno]; exact hbd.out c
    · rcases HO8.out with h | h
      · exact .inl h
      · exact .inr ⟨_, h, by omega⟩
end Go.Proofs.Ytonhooaboieapaa
