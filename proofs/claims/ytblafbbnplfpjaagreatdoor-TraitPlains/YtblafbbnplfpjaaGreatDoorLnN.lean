/-
  Lists of nodes that are lent with marks behind their ends; whether they are still as they were.
-/
import Derived.Test.YtblafbbnplfpjaaGreatDoorMgAm
import Derived.Test.YtblafbbnplfpjaaGreatDoorMgAl
namespace Go.Proofs.YtblafbbnplfpjaaGreatDoor
open Go.RowKit Go.Shelf
set_option linter.unusedVariables false
set_option linter.unusedSimpArgs false

def mkN (k : Nat) : Nd := ⟨0, 8000024 + (k : Int), [], 0, 0, 0⟩
theorem mark13_any (i : Nat) (h1 : i < 12) (w : World) : Calls Tryz.prog 46 #[.int .i64 1, .int .i64 i] w fun e w' => e = .returned (.int .i64 (8000024 + i)) ∧ w' = w := by
  go_enter Tryz.func46, Tryz.ntmps46
  go_wp2_with fail
  go_ret
  exact ⟨rfl, rfl⟩
theorem results_nd {fn : Func} {j b : Nat} {x0 x1 x2 x3 x4 x5 : Value} {tmps : Array Value} {w : World} (h : fn.results = #[.cell j 48]) (hj : tmps.getD j undef = .pointer (some ⟨b, 0, none⟩)) (hv : Va w b 48 #[x0, x1, x2, x3, x4, x5]) :
    (results fn tmps).run Tryz.prog w = .ok (.agg #[x0, x1, x2, x3, x4, x5]) w := by
  have c0 := hv.n0
  have c1 := hv.n1
  have c2 := hv.n2
  have c3 := hv.n3
  have c4 := hv.n4
  have c5 := hv.n5
  rw [Array.getD_eq_getD_getElem?] at hj
  simp [results, h, hj, c0, c1, c2, c3, c4, c5, go_sem]
theorem markN_any (i : Nat) (h1 : i < 12) (w : World) : Calls Tryz.prog 23 #[.int .i64 1, .int .i64 i] w fun e w' => e = .returned (nv (mkN i)) ∧ Below w.heap.size w w' := by
  have hm := fun W => mark13_any i h1 W
  go_enter Tryz.func23, Tryz.ntmps23
  go_wp2_with fail
  refine ent1 w _ _ (Q := fun W => Calls _ _ _ W _) ?_
  intro W0 hB0 hs0 V0
  have c0 := V0.n0
  have c1 := V0.n1
  have c2 := V0.n2
  have c3 := V0.n3
  have c4 := V0.n4
  have c5 := V0.n5
  have HV0 : Hid (Va W0 w.heap.size 48 #[.int .i64 0, .int .i64 0, .string ⟨#[]⟩, .int .i64 0, .int .i64 0, .int .i64 0]) := V0
  have HB0 : Hid (Below w.heap.size w W0) := hB0
  clear V0 hB0 hs0
  refine (hm W0).mono ?_
  rintro e w' ⟨rfl, hw'⟩
  rw [hw']; clear hw' w'
  have f0 := HV0.out.frozen 0
  have f1 := HV0.out.frozen 1
  have f2 := HV0.out.frozen 2
  have f3 := HV0.out.frozen 3
  have f4 := HV0.out.frozen 4
  have f5 := HV0.out.frozen 5
  go_wp2_with fail
  refine bodyPost_ret (results_nd rfl rfl (HV0.out.set6 _ _ _ _ _ _)) rfl ?_
  exact ⟨rfl, below_6 HB0.out (Nat.le_refl _) _ _ _ _ _ _⟩
set_option maxHeartbeats 4000000 in
theorem lentN_any (a : Option Addr) (la ca : Nat) (ps : List Nd) (w : World) (h : Le elN w a la ps) (hn : a = none → la = 0 ∧ ca = 0) (hl : la ≤ 5000000000000) :
    Calls Tryz.prog 6 #[.slice a la ca] w fun e w' => e = .returned (.slice (some ⟨w.heap.size, 0, none⟩) la (la + 12)) ∧ Va w' w.heap.size 48 (rowE elN (ps ++ mkE mkN 12)).toArray ∧ Below w.heap.size w w' := by
  have hz := h.1
  obtain ⟨i0, hi, hz0, hz1, hz2⟩ := info_parts elN.inf
  have HB8 : Hid (i0.bytes * (la + 12) ≤ 281474976710656) := by show _ ≤ _; rw [hz2]; show 56 * _ ≤ _; omega
  have HNN : Hid (a = none → la = 0 ∧ ca = 0) := hn
  have HSL : Hid (Le elN w a la ps) := h
  have HLZ : Hid ((rowE elN ps).length = la * 6) := by show _ = _; rw [rowE_length, hz]; rfl
  clear hn h
  go_enter Tryz.func6, Tryz.ntmps6
  go_wp2_with (at_make; refine wpList_make_own w rfl _ _ 22 rfl w.heap.size 48 i0 (.agg #[.int .i64 0, .int .i64 0, .string ⟨#[]⟩, .int .i64 0, .int .i64 0, .int .i64 0]) 6 Tryz.underlying22 hi hz0 hz1 .i64 .i64 _ (la + 12) rfl rfl ?c1 HB8.out ?c2 (Nat.le_refl _) ?_)
  case c1 => omega
  case c2 => unfold maxLen; omega
  intro w1 ho1 hg1
  have hb1 : Below w.heap.size w w1 := (Below.refl _ _).grown hg1 (Nat.le_refl _) (fun k hk => by cases hk)
  have HR1 : Hid (∀ ad, a = some ad → ∀ (j : Nat) (u : Value), (rowE elN ps)[j]? = some u → w1.cell? (ad.add j) = some u) := le_row (HSL.out.after hb1)
  have HO1 : Hid (w1.ownsRow w.heap.size 48 6 (.slice (some ⟨w.heap.size, 0, none⟩) 0 (la + 12)) 0 []) := ho1
  have HB1 : Hid (Below w.heap.size w w1) := hb1
  have HZ : Hid (∀ u ∈ rowE elN ps, u.oneCell' = true) := rowE_one _ ps
  clear ho1 hg1 hb1
  go_wp2_with (at_builtin; refine wpList_append_fits_any w1 rfl _ _ 22 rfl w.heap.size 48 i0 6 Tryz.underlying22 hi hz1 w.heap.size 0 (la + 12) [] rfl HO1.out a la ca (rowE elN ps) rfl HLZ.out HNN.out HR1.out HZ.out (by omega) ?_; intro w2 ho2 hg2; simp only [Nat.zero_add, List.nil_append] at ho2 ⊢)
  have hb2 : Below w.heap.size w w2 := HB1.out.grown hg2 HB1.out.size (fun k hk => by cases hk; exact Nat.le_refl _)
  have HO2 : Hid (w2.ownsRow w.heap.size 48 6 (.slice (some ⟨w.heap.size, 0, none⟩) la (la + 12)) la (rowE elN ps)) := ho2
  have HB2 : Hid (Below w.heap.size w w2) := hb2
  clear ho2 hg2 hb2 HR1 HO1 HB1
  go_loopw [3, 4] (fun v ii wr => ∃ k : Nat, k ≤ 12 ∧ ii = .int .i64 k ∧ v = .slice (some ⟨w.heap.size, 0, none⟩) (la + k) (la + 12) ∧ Hid (wr.ownsRow w.heap.size 48 6 (.slice (some ⟨w.heap.size, 0, none⟩) (la + k) (la + 12)) (la + k) (rowE elN (ps ++ mkE mkN k))) ∧ Hid (Below w.heap.size w wr)) (fun _ ii _ => 12 - (intOf ii).toNat)
  case atStart => exact ⟨0, by omega, rfl, rfl, by rw [mkE, List.append_nil]; exact HO2, HB2.out⟩
  case round =>
    clear HO2 HB2
    obtain ⟨k, hk, rfl, rfl, HO, HB⟩ := hrel
    by_cases hlt : k < 12
    · have hki : (k : Int) < 12 := by omega
      have mk := markN_any k (by omega) wr
      go_wp2_with fail
      refine mk.mono ?_
      rintro e w3 ⟨rfl, hb3⟩
      have HB3 : Hid (Below w.heap.size w w3) := step HB.out hb3
      have HLK : Hid ((ps ++ mkE mkN k).length = la + k) := by show _ = _; rw [List.length_append, mkE_length]; omega
      have HO3 : Hid ((w3.alloc (.cells #[.int .i64 0, .int .i64 (8000024 + (k : Int)), .string ⟨#[]⟩, .int .i64 0, .int .i64 0, .int .i64 0] 48)).ownsRow w.heap.size 48 6 (.slice (some ⟨w.heap.size, 0, none⟩) (la + k) (la + 12)) (la + k) (rowE elN (ps ++ mkE mkN k))) :=
        own_of_ge (E := elN) (((ge_of_own (E := elN) HO.out HLK.out).after hb3).al _) HLK.out
      have HC : Hid (∀ (j : Nat) (u : Value), (rowE elN [mkN k])[j]? = some u → (w3.alloc (.cells #[.int .i64 0, .int .i64 (8000024 + (k : Int)), .string ⟨#[]⟩, .int .i64 0, .int .i64 0, .int .i64 0] 48)).cell? ((⟨w3.heap.size, 0, none⟩ : Addr).add j) = some u) :=
        Le.news (Le.one (E := elN) (Va.new w3 48 #[.int .i64 0, .int .i64 (8000024 + (k : Int)), .string ⟨#[]⟩, .int .i64 0, .int .i64 0, .int .i64 0]) rfl)
      have HZ1 : Hid (∀ u ∈ rowE elN [mkN k], u.oneCell' = true) := rowE_one _ _
      have hs3 := HB3.out.size
      clear hb3 HO HB mk
      go_wp2_with (at_builtin; refine wpList_append_fits _ rfl _ _ 22 rfl w.heap.size 48 i0 6 Tryz.underlying22 hi hz1 w.heap.size (la + k) (la + 12) (rowE elN (ps ++ mkE mkN k)) rfl HO3.out ⟨w3.heap.size, 0, none⟩ 1 1 (rowE elN [mkN k]) rfl rfl HC.out HZ1.out (by omega) ?_; intro w4 ho4 hg4)
      have hb4 : Below w.heap.size w w4 := (HB3.out.alloc hs3 _).grown hg4 (by simp; omega) (fun k hk => by cases hk; exact Nat.le_refl _)
      have HO5 : Hid (w4.ownsRow w.heap.size 48 6 (.slice (some ⟨w.heap.size, 0, none⟩) (la + (k + 1)) (la + 12)) (la + (k + 1)) (rowE elN (ps ++ mkE mkN (k + 1)))) := by
        have := ho4
        rw [← rowE_append, List.append_assoc] at this
        exact this
      clear ho4 hg4 HO3 HC HZ1 HB3
      go_wp2_with fail
      go_roundw
      case rel => exact ⟨k + 1, by omega, by go_num, rfl, HO5, hb4⟩
      case measure => simp [intOf]; omega
    · obtain rfl : k = 12 := by omega
      have HV : Hid (Va wr w.heap.size 48 (rowE elN (ps ++ mkE mkN 12)).toArray) := full_rowE (E := elN) HO.out
      clear HO
      go_wp2_with fail
      go_ret
      exact ⟨rfl, HV.out, HB.out⟩
set_option maxRecDepth 20000 in
set_option maxHeartbeats 8000000 in
theorem keptN_any (a : Option Addr) (la ca g : Nat) (ps : List Nd) (w : World) (h : Le elN w a la ps) (ho : Va w g 48 (rowE elN (ps ++ mkE mkN 12)).toArray) (hl : la ≤ 5000000000000) :
    Calls Tryz.prog 12 #[.slice (some ⟨g, 0, none⟩) la (la + 12), .slice a la ca] w fun e w' => e = .returned (.bool true) ∧ Below w.heap.size w w' := by
  have hz := h.1
  have g1 : ((la : Int) != la) = false := by simp
  have HLEN : Hid ((ps ++ mkE mkN 12).length = la + 12) := by show _ = _; rw [List.length_append, mkE_length]; omega
  have HO : Hid (Le elN w (some ⟨g, 0, none⟩) (la + 12) (ps ++ mkE mkN 12)) := by
    have := le_allE (E := elN) ho
    rwa [HLEN.out] at this
  have HSL : Hid (Le elN w a la ps) := h
  clear ho h
  go_enter Tryz.func12, Tryz.ntmps12
  go_wp2_with fail
  go_loopw [6] (fun ii wr => ∃ k : Nat, k ≤ la + 12 ∧ ii = .int .i64 k ∧ Hid (Below w.heap.size w wr)) (fun ii _ => la + 12 - (intOf ii).toNat)
  case atStart => exact ⟨0, by omega, rfl, Below.refl _ _⟩
  case round =>
    obtain ⟨k, hk, rfl, HB⟩ := hrel
    by_cases hlt : k < la + 12
    · have hsz := HB.out.size
      obtain ⟨y, hy⟩ : ∃ y, (ps ++ mkE mkN 12).getD k nd0 = y := ⟨_, rfl⟩
      have d0 : wr.cell? ⟨g, k * 6, none⟩ = some (.int .i64 y.kd) := by have := (HO.out.after HB.out).at k hlt 0 (.int .i64 y.kd) (by rw [show elN.dft = nd0 from rfl, hy]; rfl); simpa [elN] using this
      have d1 : wr.cell? ⟨g, k * 6 + 1, none⟩ = some (.int .i64 y.ks) := by have := (HO.out.after HB.out).at k hlt 1 (.int .i64 y.ks) (by rw [show elN.dft = nd0 from rfl, hy]; rfl); simpa [elN] using this
      have d2 : wr.cell? ⟨g, k * 6 + 2, none⟩ = some (sv y.nm) := by have := (HO.out.after HB.out).at k hlt 2 (sv y.nm) (by rw [show elN.dft = nd0 from rfl, hy]; rfl); simpa [elN] using this
      have d3 : wr.cell? ⟨g, k * 6 + 3, none⟩ = some (.int .i64 y.op) := by have := (HO.out.after HB.out).at k hlt 3 (.int .i64 y.op) (by rw [show elN.dft = nd0 from rfl, hy]; rfl); simpa [elN] using this
      have d4 : wr.cell? ⟨g, k * 6 + 4, none⟩ = some (.int .i64 y.un) := by have := (HO.out.after HB.out).at k hlt 4 (.int .i64 y.un) (by rw [show elN.dft = nd0 from rfl, hy]; rfl); simpa [elN] using this
      have d5 : wr.cell? ⟨g, k * 6 + 5, none⟩ = some (.int .i64 y.pl) := by have := (HO.out.after HB.out).at k hlt 5 (.int .i64 y.pl) (by rw [show elN.dft = nd0 from rfl, hy]; rfl); simpa [elN] using this
      by_cases hkl : k < la
      · obtain ⟨b, o, rfl⟩ := HSL.out.ex (by omega)
        have ez : ps.getD k nd0 = y := by rw [← hy, List.getD_eq_getElem?_getD, List.getD_eq_getElem?_getD, List.getElem?_append_left (by omega)]
        have e0 : wr.cell? ⟨b, o + (k * 6), none⟩ = some (.int .i64 y.kd) := by have := (HSL.out.after HB.out).at k hkl 0 (.int .i64 y.kd) (by rw [show elN.dft = nd0 from rfl, ez]; rfl); simpa [elN, Nat.add_assoc] using this
        have e1 : wr.cell? ⟨b, o + k * 6 + 1, none⟩ = some (.int .i64 y.ks) := by have := (HSL.out.after HB.out).at k hkl 1 (.int .i64 y.ks) (by rw [show elN.dft = nd0 from rfl, ez]; rfl); simpa [elN, Nat.add_assoc] using this
        have e2 : wr.cell? ⟨b, o + k * 6 + 2, none⟩ = some (sv y.nm) := by have := (HSL.out.after HB.out).at k hkl 2 (sv y.nm) (by rw [show elN.dft = nd0 from rfl, ez]; rfl); simpa [elN, Nat.add_assoc] using this
        have e3 : wr.cell? ⟨b, o + k * 6 + 3, none⟩ = some (.int .i64 y.op) := by have := (HSL.out.after HB.out).at k hkl 3 (.int .i64 y.op) (by rw [show elN.dft = nd0 from rfl, ez]; rfl); simpa [elN, Nat.add_assoc] using this
        have e4 : wr.cell? ⟨b, o + k * 6 + 4, none⟩ = some (.int .i64 y.un) := by have := (HSL.out.after HB.out).at k hkl 4 (.int .i64 y.un) (by rw [show elN.dft = nd0 from rfl, ez]; rfl); simpa [elN, Nat.add_assoc] using this
        have e5 : wr.cell? ⟨b, o + k * 6 + 5, none⟩ = some (.int .i64 y.pl) := by have := (HSL.out.after HB.out).at k hkl 5 (.int .i64 y.pl) (by rw [show elN.dft = nd0 from rfl, ez]; rfl); simpa [elN, Nat.add_assoc] using this
        have q1 : decide (k < la) = true := by simp; omega
        have q2 : decide (la ≤ k) = false := by simp; omega
        clear ez hy
        obtain ⟨y0, y1, y2, y3, y4, y5⟩ := y
        dsimp only at d0 d1 d2 d3 d4 d5 e0 e1 e2 e3 e4 e5
        go_wp2_with fail
        go_quiet (fail)
        go_wp2_with fail
        go_roundw
        case rel => exact ⟨k + 1, by omega, by go_num, below_drewN HB.out _⟩
        case measure => simp [intOf]; omega
      · have ez : y = mkN (k - la) := by
          rw [← hy, List.getD_eq_getElem?_getD, List.getElem?_append_right (by omega), ← List.getD_eq_getElem?_getD, hz, mkE_getD _ _ 12 (k - la) (by omega)]
        clear hy
        subst ez
        have q1 : decide (k < la) = false := by simp; omega
        have q2 : decide (la ≤ k) = true := by simp; omega
        have q1i : ¬ (k : Int) < la := by omega
        have q2i : (la : Int) ≤ k := by omega
        have hm1 : k - la < 12 := by omega
        have ew : IntKind.i64.wrap ((k : Int) - la) = k - la := by rw [IntKind.wrap_i64]; omega
        have hki : (k : Int) < (la : Int) + 12 := by omega
        have hki0 : ¬ (k : Int) < 0 := by omega
        obtain ⟨m, hm⟩ : ∃ m : Nat, k - la = m := ⟨_, rfl⟩
        have hmi : (k : Int) - la = (m : Int) := by omega
        have HM : Hid ((k : Int) - la = (m : Int)) := hmi
        have HMN : Hid (k - la = m) := hm
        rw [hm] at d0 d1 d2 d3 d4 d5 hm1
        rw [hmi] at ew
        have ewm : IntKind.i64.wrap (m : Int) = (m : Int) := by rw [IntKind.wrap_i64]; omega
        have HMK : Hid (∀ X : World, Calls Tryz.prog 23 #[.int .i64 1, .int .i64 (IntKind.i64.wrap ((k : Int) - (la : Int)))] X fun e w' => e = .returned (.agg #[.int .i64 0, .int .i64 (8000024 + (m : Int)), .string ⟨#[]⟩, .int .i64 0, .int .i64 0, .int .i64 0]) ∧ Below X.heap.size X w') := fun X => by rw [hmi, ewm]; exact markN_any m hm1 X
        clear hmi
        have q3 : ((8000024 + (m : Int) : Int) == 8000024 + m) = true := by simp
        have hS0 : wr.drew.cell? ⟨g, k * 6, none⟩ = some (.int .i64 0) ∧ wr.drew.cell? ⟨g, k * 6 + 1, none⟩ = some (.int .i64 (8000024 + (m : Int))) ∧ wr.drew.cell? ⟨g, k * 6 + 2, none⟩ = some (.string ⟨#[]⟩) ∧ wr.drew.cell? ⟨g, k * 6 + 3, none⟩ = some (.int .i64 0) ∧ wr.drew.cell? ⟨g, k * 6 + 4, none⟩ = some (.int .i64 0) ∧ wr.drew.cell? ⟨g, k * 6 + 5, none⟩ = some (.int .i64 0) ∧ Hid (Below wr.heap.size wr wr.drew) := ⟨d0, d1, d2, d3, d4, d5, below_drw wr⟩
        go_wp2_with fail
        refine wp_region_noPanic ?_
        refine wp_region_held_drew (S := (fun X : World => X.cell? ⟨g, k * 6, none⟩ = some (.int .i64 0) ∧ X.cell? ⟨g, k * 6 + 1, none⟩ = some (.int .i64 (8000024 + (m : Int))) ∧ X.cell? ⟨g, k * 6 + 2, none⟩ = some (.string ⟨#[]⟩) ∧ X.cell? ⟨g, k * 6 + 3, none⟩ = some (.int .i64 0) ∧ X.cell? ⟨g, k * 6 + 4, none⟩ = some (.int .i64 0) ∧ X.cell? ⟨g, k * 6 + 5, none⟩ = some (.int .i64 0) ∧ Hid (Below wr.heap.size wr X))) (by kernel_rfl) hS0 (fun hHeld => ?_)
        refine wpAnyH_take (i := 0) (v := ?_) rfl (by kernel_rfl) (by kernel_rfl) (by kernel_rfl) (fun _ _ _ h => h) (Or.inl ⟨by rfl, ?_⟩) hHeld ?_
        rotate_left
        · (intro W hSw; (try dsimp only at hSw); go_simp; all_goals (with_reducible rfl))
        simp only [List.getElem_toArray, List.getElem_cons_zero, List.getElem_cons_succ, Act.put, List.setIfInBounds_toArray, List.set_cons_zero, List.set_cons_succ]
        refine wpAnyH_take (i := 1) (v := ?_) rfl (by kernel_rfl) (by kernel_rfl) (by kernel_rfl) (fun _ _ _ h => h) (Or.inl ⟨by rfl, ?_⟩) hHeld ?_
        rotate_left
        · (intro W hSw; (try dsimp only at hSw); go_simp; all_goals (with_reducible rfl))
        simp only [List.getElem_toArray, List.getElem_cons_zero, List.getElem_cons_succ, Act.put, List.setIfInBounds_toArray, List.set_cons_zero, List.set_cons_succ]
        refine wpAnyH_take (i := 2) (v := ?_) rfl (by kernel_rfl) (by kernel_rfl) (by kernel_rfl) (fun _ _ _ h => h) (Or.inl ⟨by rfl, ?_⟩) hHeld ?_
        rotate_left
        · (intro W hSw; (try dsimp only at hSw); go_simp; all_goals (with_reducible rfl))
        simp only [List.getElem_toArray, List.getElem_cons_zero, List.getElem_cons_succ, Act.put, List.setIfInBounds_toArray, List.set_cons_zero, List.set_cons_succ]
        refine wpAnyH_take (i := 3) (v := ?_) rfl (by kernel_rfl) (by kernel_rfl) (by kernel_rfl) (fun _ _ _ h => h) (Or.inl ⟨by rfl, ?_⟩) hHeld ?_
        rotate_left
        · (intro W hSw; (try dsimp only at hSw); go_simp; all_goals (with_reducible rfl))
        simp only [List.getElem_toArray, List.getElem_cons_zero, List.getElem_cons_succ, Act.put, List.setIfInBounds_toArray, List.set_cons_zero, List.set_cons_succ]
        refine wpAnyH_take (i := 4) (v := ?_) rfl (by kernel_rfl) (by kernel_rfl) (by kernel_rfl) (fun _ _ _ h => h) (Or.inl ⟨by rfl, ?_⟩) hHeld ?_
        rotate_left
        · (intro W hSw; (try dsimp only at hSw); go_simp; all_goals (with_reducible rfl))
        simp only [List.getElem_toArray, List.getElem_cons_zero, List.getElem_cons_succ, Act.put, List.setIfInBounds_toArray, List.set_cons_zero, List.set_cons_succ]
        refine wpAnyH_take (i := 5) (v := undef) rfl (by kernel_rfl) (by kernel_rfl) (by kernel_rfl) (fun _ _ _ h => h) (Or.inr ⟨by rfl, rfl⟩) hHeld ?_
        simp only [List.getElem_toArray, List.getElem_cons_zero, List.getElem_cons_succ, Act.put, List.setIfInBounds_toArray, List.set_cons_zero, List.set_cons_succ]
        refine wpAnyH_take (i := 6) (v := undef) rfl (by kernel_rfl) (by kernel_rfl) (by kernel_rfl) (fun _ _ _ h => h) (Or.inr ⟨by rfl, rfl⟩) hHeld ?_
        simp only [List.getElem_toArray, List.getElem_cons_zero, List.getElem_cons_succ, Act.put, List.setIfInBounds_toArray, List.set_cons_zero, List.set_cons_succ]
        refine wpAnyH_take (i := 7) (v := undef) rfl (by kernel_rfl) (by kernel_rfl) (by kernel_rfl) (fun _ _ _ h => h) (Or.inr ⟨by rfl, rfl⟩) hHeld ?_
        simp only [List.getElem_toArray, List.getElem_cons_zero, List.getElem_cons_succ, Act.put, List.setIfInBounds_toArray, List.set_cons_zero, List.set_cons_succ]
        refine wpAnyH_take (i := 8) (v := undef) rfl (by kernel_rfl) (by kernel_rfl) (by kernel_rfl) (fun _ _ _ h => h) (Or.inr ⟨by rfl, rfl⟩) hHeld ?_
        simp only [List.getElem_toArray, List.getElem_cons_zero, List.getElem_cons_succ, Act.put, List.setIfInBounds_toArray, List.set_cons_zero, List.set_cons_succ]
        refine wpAnyH_take (i := 9) (v := undef) rfl (by kernel_rfl) (by kernel_rfl) (by kernel_rfl) (fun _ _ _ h => h) (Or.inr ⟨by rfl, rfl⟩) hHeld ?_
        simp only [List.getElem_toArray, List.getElem_cons_zero, List.getElem_cons_succ, Act.put, List.setIfInBounds_toArray, List.set_cons_zero, List.set_cons_succ]
        refine wpAnyH_take (i := 10) (v := undef) rfl (by kernel_rfl) (by kernel_rfl) (by kernel_rfl) (fun _ _ _ h => h) (Or.inr ⟨by rfl, rfl⟩) hHeld ?_
        simp only [List.getElem_toArray, List.getElem_cons_zero, List.getElem_cons_succ, Act.put, List.setIfInBounds_toArray, List.set_cons_zero, List.set_cons_succ]
        refine wpAnyH_take (i := 11) (v := undef) rfl (by kernel_rfl) (by kernel_rfl) (by kernel_rfl) (fun _ _ _ h => h) (Or.inr ⟨by rfl, rfl⟩) hHeld ?_
        simp only [List.getElem_toArray, List.getElem_cons_zero, List.getElem_cons_succ, Act.put, List.setIfInBounds_toArray, List.set_cons_zero, List.set_cons_succ]
        refine wpAnyH_take (i := 12) (v := undef) rfl (by kernel_rfl) (by kernel_rfl) (by kernel_rfl) (fun _ _ _ h => h) (Or.inr ⟨by rfl, rfl⟩) hHeld ?_
        simp only [List.getElem_toArray, List.getElem_cons_zero, List.getElem_cons_succ, Act.put, List.setIfInBounds_toArray, List.set_cons_zero, List.set_cons_succ]
        refine wpAnyH_take (i := 13) (v := undef) rfl (by kernel_rfl) (by kernel_rfl) (by kernel_rfl) (fun _ _ _ h => h) (Or.inr ⟨by rfl, rfl⟩) hHeld ?_
        simp only [List.getElem_toArray, List.getElem_cons_zero, List.getElem_cons_succ, Act.put, List.setIfInBounds_toArray, List.set_cons_zero, List.set_cons_succ]
        refine wpAnyH_take (i := 14) (v := undef) rfl (by kernel_rfl) (by kernel_rfl) (by kernel_rfl) (fun _ _ _ h => h) (Or.inr ⟨by rfl, rfl⟩) hHeld ?_
        simp only [List.getElem_toArray, List.getElem_cons_zero, List.getElem_cons_succ, Act.put, List.setIfInBounds_toArray, List.set_cons_zero, List.set_cons_succ]
        refine wpAnyH_take (i := 15) (v := ?_) rfl (by kernel_rfl) (by kernel_rfl) (by kernel_rfl) (fun _ _ _ h => h) (Or.inl ⟨by rfl, ?_⟩) hHeld ?_
        rotate_left
        · (intro W hSw; (try dsimp only at hSw); go_simp; all_goals (with_reducible rfl))
        simp only [List.getElem_toArray, List.getElem_cons_zero, List.getElem_cons_succ, Act.put, List.setIfInBounds_toArray, List.set_cons_zero, List.set_cons_succ]
        refine wpAnyH_take (i := 16) (v := ?_) rfl (by kernel_rfl) (by kernel_rfl) (by kernel_rfl) (fun _ _ _ h => h) (Or.inl ⟨by rfl, ?_⟩) hHeld ?_
        rotate_left
        · (intro W hSw; (try dsimp only at hSw); go_simp; all_goals (with_reducible rfl))
        simp only [List.getElem_toArray, List.getElem_cons_zero, List.getElem_cons_succ, Act.put, List.setIfInBounds_toArray, List.set_cons_zero, List.set_cons_succ]
        refine wpAnyH_take (i := 17) (v := ?_) rfl (by kernel_rfl) (by kernel_rfl) (by kernel_rfl) (fun _ _ _ h => h) (Or.inl ⟨by rfl, ?_⟩) hHeld ?_
        rotate_left
        · (intro W hSw; (try dsimp only at hSw); go_simp; all_goals (with_reducible rfl))
        simp only [List.getElem_toArray, List.getElem_cons_zero, List.getElem_cons_succ, Act.put, List.setIfInBounds_toArray, List.set_cons_zero, List.set_cons_succ]
        refine wpAnyH_take (i := 18) (v := ?_) rfl (by kernel_rfl) (by kernel_rfl) (by kernel_rfl) (fun _ _ _ h => h) (Or.inl ⟨by rfl, ?_⟩) hHeld ?_
        rotate_left
        · (intro W hSw; (try dsimp only at hSw); go_simp; all_goals (with_reducible rfl))
        simp only [List.getElem_toArray, List.getElem_cons_zero, List.getElem_cons_succ, Act.put, List.setIfInBounds_toArray, List.set_cons_zero, List.set_cons_succ]
        refine wpAnyH_take (i := 19) (v := ?_) rfl (by kernel_rfl) (by kernel_rfl) (by kernel_rfl) (fun _ _ _ h => h) (Or.inl ⟨by rfl, ?_⟩) hHeld ?_
        rotate_left
        · (intro W hSw; (try dsimp only at hSw); go_simp; all_goals (with_reducible rfl))
        simp only [List.getElem_toArray, List.getElem_cons_zero, List.getElem_cons_succ, Act.put, List.setIfInBounds_toArray, List.set_cons_zero, List.set_cons_succ]
        refine wpAnyH_take (i := 20) (v := ?_) rfl (by kernel_rfl) (by kernel_rfl) (by kernel_rfl) (fun _ _ _ h => h) (Or.inl ⟨by rfl, ?_⟩) hHeld ?_
        rotate_left
        · (intro W hSw; (try dsimp only at hSw); go_simp; all_goals (with_reducible rfl))
        simp only [List.getElem_toArray, List.getElem_cons_zero, List.getElem_cons_succ, Act.put, List.setIfInBounds_toArray, List.set_cons_zero, List.set_cons_succ]
        refine wpAnyH_take (i := 21) (v := ?_) rfl (by kernel_rfl) (by kernel_rfl) (by kernel_rfl) (fun _ _ _ h => h) (Or.inl ⟨by rfl, ?_⟩) hHeld ?_
        rotate_left
        · (intro W hSw; (try dsimp only at hSw); go_simp; all_goals (with_reducible rfl))
        simp only [List.getElem_toArray, List.getElem_cons_zero, List.getElem_cons_succ, Act.put, List.setIfInBounds_toArray, List.set_cons_zero, List.set_cons_succ]
        refine wpAnyH_take (i := 22) (v := ?_) rfl (by kernel_rfl) (by kernel_rfl) (by kernel_rfl) (fun _ _ _ h => h) (Or.inl ⟨by rfl, ?_⟩) hHeld ?_
        rotate_left
        · (intro W hSw; (try dsimp only at hSw); go_simp; all_goals (with_reducible rfl))
        simp only [List.getElem_toArray, List.getElem_cons_zero, List.getElem_cons_succ, Act.put, List.setIfInBounds_toArray, List.set_cons_zero, List.set_cons_succ]
        refine wpAnyH_take (i := 23) (v := ?_) rfl (by kernel_rfl) (by kernel_rfl) (by kernel_rfl) (fun _ _ _ h => h) (Or.inl ⟨by rfl, ?_⟩) hHeld ?_
        rotate_left
        · (intro W hSw; (try dsimp only at hSw); go_simp; all_goals (with_reducible rfl))
        simp only [List.getElem_toArray, List.getElem_cons_zero, List.getElem_cons_succ, Act.put, List.setIfInBounds_toArray, List.set_cons_zero, List.set_cons_succ]
        refine wpAnyH_take (i := 24) (v := ?_) rfl (by kernel_rfl) (by kernel_rfl) (by kernel_rfl) (fun _ _ _ h => h) (Or.inl ⟨by rfl, ?_⟩) hHeld ?_
        rotate_left
        · (intro W hSw; (try dsimp only at hSw); go_simp; all_goals (with_reducible rfl))
        simp only [List.getElem_toArray, List.getElem_cons_zero, List.getElem_cons_succ, Act.put, List.setIfInBounds_toArray, List.set_cons_zero, List.set_cons_succ]
        refine wpAnyH_take (i := 25) (v := ?_) rfl (by kernel_rfl) (by kernel_rfl) (by kernel_rfl) (fun _ _ _ h => h) (Or.inl ⟨by rfl, ?_⟩) hHeld ?_
        rotate_left
        · (intro W hSw; (try dsimp only at hSw); go_simp; all_goals (with_reducible rfl))
        simp only [List.getElem_toArray, List.getElem_cons_zero, List.getElem_cons_succ, Act.put, List.setIfInBounds_toArray, List.set_cons_zero, List.set_cons_succ]
        refine wpAnyH_take (i := 26) (v := ?_) rfl (by kernel_rfl) (by kernel_rfl) (by kernel_rfl) (fun _ _ _ h => h) (Or.inl ⟨by rfl, ?_⟩) hHeld ?_
        rotate_left
        · (intro W hSw; (try dsimp only at hSw); go_simp; all_goals (with_reducible rfl))
        simp only [List.getElem_toArray, List.getElem_cons_zero, List.getElem_cons_succ, Act.put, List.setIfInBounds_toArray, List.set_cons_zero, List.set_cons_succ]
        refine wpAnyH_take (i := 27) (v := ?_) rfl (by kernel_rfl) (by kernel_rfl) (by kernel_rfl) (fun _ _ _ h => h) (Or.inl ⟨by rfl, ?_⟩) hHeld ?_
        rotate_left
        · (intro W hSw; (try dsimp only at hSw); go_simp; all_goals (with_reducible rfl))
        simp only [List.getElem_toArray, List.getElem_cons_zero, List.getElem_cons_succ, Act.put, List.setIfInBounds_toArray, List.set_cons_zero, List.set_cons_succ]
        refine wpAnyH_take (i := 28) (v := ?_) rfl (by kernel_rfl) (by kernel_rfl) (by kernel_rfl) (fun _ _ _ h => h) (Or.inl ⟨by rfl, ?_⟩) hHeld ?_
        rotate_left
        · (intro W hSw; (try dsimp only at hSw); go_simp; all_goals (with_reducible rfl))
        simp only [List.getElem_toArray, List.getElem_cons_zero, List.getElem_cons_succ, Act.put, List.setIfInBounds_toArray, List.set_cons_zero, List.set_cons_succ]
        refine wpAnyH_take (i := 29) (v := ?_) rfl (by kernel_rfl) (by kernel_rfl) (by kernel_rfl) (fun _ _ _ h => h) (Or.inl ⟨by rfl, ?_⟩) hHeld ?_
        rotate_left
        · (intro W hSw; (try dsimp only at hSw); go_simp; all_goals (with_reducible rfl))
        simp only [List.getElem_toArray, List.getElem_cons_zero, List.getElem_cons_succ, Act.put, List.setIfInBounds_toArray, List.set_cons_zero, List.set_cons_succ]
        refine wpAnyH_ready (rs := [30]) (by kernel_rfl) (by simp) ?_
        refine AllReadyH.cons rfl (fun K hK => ?_) AllReadyH.nil
        simp only [List.getElem_toArray, List.getElem_cons_zero, List.getElem_cons_succ]
        go_simp
        refine (HMK.out _).mono ?_
        rintro e y ⟨rfl, hby⟩
        have hSy : y.cell? ⟨g, k * 6, none⟩ = some (.int .i64 0) ∧ y.cell? ⟨g, k * 6 + 1, none⟩ = some (.int .i64 (8000024 + (m : Int))) ∧ y.cell? ⟨g, k * 6 + 2, none⟩ = some (.string ⟨#[]⟩) ∧ y.cell? ⟨g, k * 6 + 3, none⟩ = some (.int .i64 0) ∧ y.cell? ⟨g, k * 6 + 4, none⟩ = some (.int .i64 0) ∧ y.cell? ⟨g, k * 6 + 5, none⟩ = some (.int .i64 0) ∧ Hid (Below wr.heap.size wr y) := ⟨(hby.cell (p := ⟨g, k * 6, none⟩) (cell_lt hHeld.1)).trans hHeld.1, (hby.cell (p := ⟨g, k * 6 + 1, none⟩) (cell_lt hHeld.2.1)).trans hHeld.2.1, (hby.cell (p := ⟨g, k * 6 + 2, none⟩) (cell_lt hHeld.2.2.1)).trans hHeld.2.2.1, (hby.cell (p := ⟨g, k * 6 + 3, none⟩) (cell_lt hHeld.2.2.2.1)).trans hHeld.2.2.2.1, (hby.cell (p := ⟨g, k * 6 + 4, none⟩) (cell_lt hHeld.2.2.2.2.1)).trans hHeld.2.2.2.2.1, (hby.cell (p := ⟨g, k * 6 + 5, none⟩) (cell_lt hHeld.2.2.2.2.2.1)).trans hHeld.2.2.2.2.2.1, step hHeld.2.2.2.2.2.2.out hby⟩
        try go_wp2_with fail
        refine hK.out _ _ hSy (fun hHeld => ?_)
        clear hK K
        refine wpAnyH_take (i := 31) (v := ?_) rfl (by kernel_rfl) (by kernel_rfl) (by kernel_rfl) (fun _ _ _ h => h) (Or.inl ⟨by rfl, ?_⟩) hHeld ?_
        rotate_left
        · (intro W hSw; (try dsimp only at hSw); go_simp; all_goals (with_reducible rfl))
        simp only [List.getElem_toArray, List.getElem_cons_zero, List.getElem_cons_succ, Act.put, List.setIfInBounds_toArray, List.set_cons_zero, List.set_cons_succ]
        refine wpAnyH_take (i := 32) (v := ?_) rfl (by kernel_rfl) (by kernel_rfl) (by kernel_rfl) (fun _ _ _ h => h) (Or.inl ⟨by rfl, ?_⟩) hHeld ?_
        rotate_left
        · (intro W hSw; (try dsimp only at hSw); go_simp; all_goals (with_reducible rfl))
        simp only [List.getElem_toArray, List.getElem_cons_zero, List.getElem_cons_succ, Act.put, List.setIfInBounds_toArray, List.set_cons_zero, List.set_cons_succ]
        refine wpAnyH_take (i := 33) (v := ?_) rfl (by kernel_rfl) (by kernel_rfl) (by kernel_rfl) (fun _ _ _ h => h) (Or.inl ⟨by rfl, ?_⟩) hHeld ?_
        rotate_left
        · (intro W hSw; (try dsimp only at hSw); go_simp; all_goals (with_reducible rfl))
        simp only [List.getElem_toArray, List.getElem_cons_zero, List.getElem_cons_succ, Act.put, List.setIfInBounds_toArray, List.set_cons_zero, List.set_cons_succ]
        refine wpAnyH_take (i := 34) (v := ?_) rfl (by kernel_rfl) (by kernel_rfl) (by kernel_rfl) (fun _ _ _ h => h) (Or.inl ⟨by rfl, ?_⟩) hHeld ?_
        rotate_left
        · (intro W hSw; (try dsimp only at hSw); go_simp; all_goals (with_reducible rfl))
        simp only [List.getElem_toArray, List.getElem_cons_zero, List.getElem_cons_succ, Act.put, List.setIfInBounds_toArray, List.set_cons_zero, List.set_cons_succ]
        refine wpAnyH_done (by kernel_rfl) ?_ _
        refine NoPanic.normal ?_
        have HBy : Hid (Below w.heap.size w y) := step HB.out hSy.2.2.2.2.2.2.out
        clear hSy hS0
        go_wp2_with fail
        go_roundw
        case rel => exact ⟨k + 1, by omega, by go_num, HBy.out⟩
        case measure => simp [intOf]; omega
    · go_wp2_with fail
      go_ret
      exact ⟨rfl, HB.out⟩
end Go.Proofs.YtblafbbnplfpjaaGreatDoor
