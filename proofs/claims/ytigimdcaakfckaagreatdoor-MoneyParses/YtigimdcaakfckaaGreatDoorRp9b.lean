/-
  The document's reader of amounts: digit.
-/
import Derived.Test.YtigimdcaakfckaaGreatDoorRp9a
import Derived.Test.YtigimdcaakfckaaGreatDoorAw9
namespace Go.Proofs.YtigimdcaakfckaaGreatDoor
open Go.RowKit Go.Shelf
set_option linter.unusedVariables false

theorem results_rd {fn : Func} {i b : Nat} {x y z u : Value} {tmps : Array Value} {w : World} (h : fn.results = #[.cell i 121]) (hi : tmps.getD i undef = .pointer (some ⟨b, 0, none⟩)) (hv : Va w b 121 #[x, y, z, u]) :
    (results fn tmps).run Tryz.prog w = .ok (.agg #[x, y, z, u]) w := by
  have c : w.cell? ⟨b, 0, none⟩ = some x := hv.cellAt 0
  have d : w.cell? ⟨b, 1, none⟩ = some y := hv.cellAt 1
  have e : w.cell? ⟨b, 2, none⟩ = some z := hv.cellAt 2
  have f : w.cell? ⟨b, 3, none⟩ = some u := hv.cellAt 3
  rw [Array.getD_eq_getD_getElem?] at hi
  simp [results, h, hi, c, d, e, f, go_sem]
theorem Va.set4 {w : World} {b : Nat} {t : TypeId} {x y z u : Value} (h : Va w b t #[x, y, z, u]) (x' y' z' u' : Value) : Va ((((w.setCell ⟨b, 0, none⟩ x').setCell ⟨b, 1, none⟩ y').setCell ⟨b, 2, none⟩ z').setCell ⟨b, 3, none⟩ u') b t #[x', y', z', u'] :=
  (((h.seti 0 x').seti 1 y').seti 2 z').seti 3 u'
theorem belo4 {B : Nat} {a w : World} (h : Below B a w) {c : Nat} (hc : B ≤ c) (x y z u : Value) : Below B a ((((w.setCell ⟨c, 0, none⟩ x).setCell ⟨c, 1, none⟩ y).setCell ⟨c, 2, none⟩ z).setCell ⟨c, 3, none⟩ u) :=
  (belo3 h hc x y z).setCell (p := ⟨c, 3, none⟩) hc u
set_option maxHeartbeats 8000000 in
theorem rdigit_no (s : List UInt8) (p far left : Nat) (neg : Bool) (w : World) (hp : p < s.length) (hs : s.length ≤ 140737488355328) (hf : far ≤ mostU neg) (hl : left ≤ 4) (c : UInt8) (hc : (ByteArray.mk s.toArray)[p]'(by rw [bsize]; exact hp) = c) (hok : okD neg far left c = false) :
    Calls Tryz.prog 72 #[.agg #[.int .i64 p, .int .u64 far, .bool neg, .bool false], .string ⟨s.toArray⟩, .int .i64 left] w fun e w' => e = .returned (.agg #[.int .i64 p, .int .u64 far, .bool neg, .bool true]) ∧ Below w.heap.size w w' := by
  have hpi : ¬ (s.length : Int) ≤ p := by omega
  have hpn : decide (s.length ≤ p) = false := by simp; omega
  by_cases h1 : 48 ≤ c.toNat
  · by_cases h2 : c.toNat ≤ 57
    · skip
      have n1 : decide (c.toNat < 48) = false := by simp; omega
      have n2 : decide (57 < c.toNat) = false := by simp; omega
      have i1 : decide ((c.toNat : Int) < 48) = false := by simp; omega
      have i2 : decide ((57 : Int) < c.toNat) = false := by simp; omega
      have j1 : ¬ ((c.toNat : Int) < 48) := by omega
      have j2 : ¬ ((57 : Int) < c.toNat) := by omega
      obtain ⟨m, hm⟩ : ∃ m, 10 ^ left = m := ⟨_, rfl⟩
      have hm1 : 1 ≤ m ∧ m ≤ 10000 := by rw [← hm]; exact pow_few hl
      have hm0 : ((m : Int) == 0) = false := by simp; omega
      have hm0' : ¬ (m : Int) = 0 := by omega
      obtain ⟨M, hM⟩ : ∃ M, mostU neg = M := ⟨_, rfl⟩
      obtain ⟨Q, hQ⟩ : ∃ Q, M / m = Q := ⟨_, rfl⟩
      have hQ2 : (M : Int).tdiv (m : Int) = Q := by rw [Int.tdiv_eq_ediv_of_nonneg (by omega), ← hQ]; simp
      have hQb : Q ≤ 9223372036854775808 := by rw [← hQ]; exact Nat.le_trans (Nat.div_le_self _ _) (by rw [← hM]; cases neg <;> decide)
      have wQ : IntKind.u64.wrap (Q : Int) = Q := by show (Q : Int) % 18446744073709551616 = Q; omega
      obtain ⟨V, hV⟩ : ∃ V, far * 10 + wv c = V := ⟨_, rfl⟩
      have hok2 : okD neg far left c = (decide (V ≤ Q) && !(neg && decide (V = 0) && decide (left = 0))) := by
        unfold okD; rw [(isD_iff c).2 ⟨h1, h2⟩, hV, hM, hm, hQ]; rfl
      have HV : Hid (far * 10 + wv c = V) := hV
      rw [wv_of h1 h2] at hV
      have hVi : 10 * (far : Int) + c.toNat - 48 = V := by omega
      rw [hok2] at hok
      by_cases hfar : far ≤ 922337203685477580
      · have hfi : ¬ (922337203685477580 : Int) < far := by omega
        have hfn : decide (922337203685477580 < far) = false := by simp; omega
        by_cases hVQ : V ≤ Q
        · have hvq : ¬ (Q : Int) < V := by omega
          rw [decide_eq_true hVQ] at hok
          obtain ⟨⟨hneg, hV0⟩, hl0⟩ : (neg = true ∧ V = 0) ∧ left = 0 := by simpa using hok
          subst hneg
          subst hl0
          clear hok hok2 hV hQ HV
          have v0 : ((V : Int) == 0) = true := by simp [hV0]
          clear hV0
          go_enter Tryz.func72, Tryz.ntmps72
          go_wp2_with fail
          refine ent2 w _ _ _ _ (Q := fun W => Code.wp Tryz.prog _ _ _ W) ?_
          intro x1 B0 hs1 V0 V1
          have hsz : w.heap.size + 2 ≤ x1.heap.size := by omega
          clear hs1
          have c0 : x1.cell? ⟨w.heap.size, 0, none⟩ = some (.int .i64 p) := V0.cellAt 0
          have c1 : x1.cell? ⟨w.heap.size, 1, none⟩ = some (.int .u64 far) := V0.cellAt 1
          have c2 : x1.cell? ⟨w.heap.size, 2, none⟩ = some (.bool true) := V0.cellAt 2
          have c3 : x1.cell? ⟨w.heap.size, 3, none⟩ = some (.bool false) := V0.cellAt 3
          have f0 := V0.frozen 0
          have f1 := V0.frozen 1
          have f3 := V0.frozen 3
          have d0 := V1.frozen 0
          have d1 := V1.frozen 1
          have d2 := V1.frozen 2
          have d3 := V1.frozen 3
          have e0 : x1.cell? ⟨w.heap.size + 1, 0, none⟩ = some (.int .i64 0) := V1.cellAt 0
          have e1 : x1.cell? ⟨w.heap.size + 1, 1, none⟩ = some (.int .u64 0) := V1.cellAt 1
          have e2 : x1.cell? ⟨w.heap.size + 1, 2, none⟩ = some (.bool false) := V1.cellAt 2
          have e3 : x1.cell? ⟨w.heap.size + 1, 3, none⟩ = some (.bool false) := V1.cellAt 3
          go_quiet (fail)
          replace V0 := V0.drN nq
          replace V1 := V1.drN nq
          replace B0 := below_drewN B0 nq
          go_wp2_with fail
          refine (rmost9 _ _ _ _ _).mono ?_
          rintro e x2 ⟨rfl, hb⟩
          rw [hM]
          replace V0 := Va.after hb V0
          replace V1 := Va.after hb V1
          replace B0 := step B0 hb
          clear hb
          clear c0 c1 c2 c3 f0 f1 f3 d0 d1 d2 d3 e0 e1 e2 e3
          have c0 : x2.cell? ⟨w.heap.size, 0, none⟩ = some (.int .i64 p) := V0.cellAt 0
          have c1 : x2.cell? ⟨w.heap.size, 1, none⟩ = some (.int .u64 far) := V0.cellAt 1
          have c2 : x2.cell? ⟨w.heap.size, 2, none⟩ = some (.bool true) := V0.cellAt 2
          have c3 : x2.cell? ⟨w.heap.size, 3, none⟩ = some (.bool false) := V0.cellAt 3
          have f0 := V0.frozen 0
          have f1 := V0.frozen 1
          have f3 := V0.frozen 3
          have d0 := V1.frozen 0
          have d1 := V1.frozen 1
          have d2 := V1.frozen 2
          have d3 := V1.frozen 3
          have e0 : x2.cell? ⟨w.heap.size + 1, 0, none⟩ = some (.int .i64 0) := V1.cellAt 0
          have e1 : x2.cell? ⟨w.heap.size + 1, 1, none⟩ = some (.int .u64 0) := V1.cellAt 1
          have e2 : x2.cell? ⟨w.heap.size + 1, 2, none⟩ = some (.bool false) := V1.cellAt 2
          have e3 : x2.cell? ⟨w.heap.size + 1, 3, none⟩ = some (.bool false) := V1.cellAt 3
          go_wp2_with fail
          refine (rpower9 0 hl _).mono ?_
          rintro e w' ⟨rfl, hw⟩
          rw [hw, hm]
          clear hw
          go_wp2_with fail
          refine bodyPost_ret (results_rd rfl rfl ((V1.other (p := ⟨w.heap.size, 3, none⟩) (by show w.heap.size + 1 ≠ w.heap.size; omega) _).set4 _ _ _ _)) rfl ?_
          exact ⟨rfl, belo4 (B0.setCell (p := ⟨w.heap.size, 3, none⟩) (Nat.le_refl _) _) (by omega) _ _ _ _⟩
        · have hvq : (Q : Int) < V := by omega
          clear hok hok2 hV hQ HV
          go_enter Tryz.func72, Tryz.ntmps72
          go_wp2_with fail
          refine ent2 w _ _ _ _ (Q := fun W => Code.wp Tryz.prog _ _ _ W) ?_
          intro x1 B0 hs1 V0 V1
          have hsz : w.heap.size + 2 ≤ x1.heap.size := by omega
          clear hs1
          have c0 : x1.cell? ⟨w.heap.size, 0, none⟩ = some (.int .i64 p) := V0.cellAt 0
          have c1 : x1.cell? ⟨w.heap.size, 1, none⟩ = some (.int .u64 far) := V0.cellAt 1
          have c2 : x1.cell? ⟨w.heap.size, 2, none⟩ = some (.bool neg) := V0.cellAt 2
          have c3 : x1.cell? ⟨w.heap.size, 3, none⟩ = some (.bool false) := V0.cellAt 3
          have f0 := V0.frozen 0
          have f1 := V0.frozen 1
          have f3 := V0.frozen 3
          have d0 := V1.frozen 0
          have d1 := V1.frozen 1
          have d2 := V1.frozen 2
          have d3 := V1.frozen 3
          have e0 : x1.cell? ⟨w.heap.size + 1, 0, none⟩ = some (.int .i64 0) := V1.cellAt 0
          have e1 : x1.cell? ⟨w.heap.size + 1, 1, none⟩ = some (.int .u64 0) := V1.cellAt 1
          have e2 : x1.cell? ⟨w.heap.size + 1, 2, none⟩ = some (.bool false) := V1.cellAt 2
          have e3 : x1.cell? ⟨w.heap.size + 1, 3, none⟩ = some (.bool false) := V1.cellAt 3
          go_quiet (fail)
          replace V0 := V0.drN nq
          replace V1 := V1.drN nq
          replace B0 := below_drewN B0 nq
          go_wp2_with fail
          refine (rmost9 _ _ _ _ _).mono ?_
          rintro e x2 ⟨rfl, hb⟩
          rw [hM]
          replace V0 := Va.after hb V0
          replace V1 := Va.after hb V1
          replace B0 := step B0 hb
          clear hb
          clear c0 c1 c2 c3 f0 f1 f3 d0 d1 d2 d3 e0 e1 e2 e3
          have c0 : x2.cell? ⟨w.heap.size, 0, none⟩ = some (.int .i64 p) := V0.cellAt 0
          have c1 : x2.cell? ⟨w.heap.size, 1, none⟩ = some (.int .u64 far) := V0.cellAt 1
          have c2 : x2.cell? ⟨w.heap.size, 2, none⟩ = some (.bool neg) := V0.cellAt 2
          have c3 : x2.cell? ⟨w.heap.size, 3, none⟩ = some (.bool false) := V0.cellAt 3
          have f0 := V0.frozen 0
          have f1 := V0.frozen 1
          have f3 := V0.frozen 3
          have d0 := V1.frozen 0
          have d1 := V1.frozen 1
          have d2 := V1.frozen 2
          have d3 := V1.frozen 3
          have e0 : x2.cell? ⟨w.heap.size + 1, 0, none⟩ = some (.int .i64 0) := V1.cellAt 0
          have e1 : x2.cell? ⟨w.heap.size + 1, 1, none⟩ = some (.int .u64 0) := V1.cellAt 1
          have e2 : x2.cell? ⟨w.heap.size + 1, 2, none⟩ = some (.bool false) := V1.cellAt 2
          have e3 : x2.cell? ⟨w.heap.size + 1, 3, none⟩ = some (.bool false) := V1.cellAt 3
          go_wp2_with fail
          refine (rpower9 left hl _).mono ?_
          rintro e w' ⟨rfl, hw⟩
          rw [hw, hm]
          clear hw
          go_wp2_with fail
          refine bodyPost_ret (results_rd rfl rfl ((V1.other (p := ⟨w.heap.size, 3, none⟩) (by show w.heap.size + 1 ≠ w.heap.size; omega) _).set4 _ _ _ _)) rfl ?_
          exact ⟨rfl, belo4 (B0.setCell (p := ⟨w.heap.size, 3, none⟩) (Nat.le_refl _) _) (by omega) _ _ _ _⟩
      · have hfi : (922337203685477580 : Int) < far := by omega
        have hfn : decide (922337203685477580 < far) = true := by simp; omega
        clear hok hok2 hV hQ HV hVi
        go_enter Tryz.func72, Tryz.ntmps72
        go_wp2_with fail
        refine ent2 w _ _ _ _ (Q := fun W => Code.wp Tryz.prog _ _ _ W) ?_
        intro x1 B0 hs1 V0 V1
        have hsz : w.heap.size + 2 ≤ x1.heap.size := by omega
        clear hs1
        have c0 : x1.cell? ⟨w.heap.size, 0, none⟩ = some (.int .i64 p) := V0.cellAt 0
        have c1 : x1.cell? ⟨w.heap.size, 1, none⟩ = some (.int .u64 far) := V0.cellAt 1
        have c2 : x1.cell? ⟨w.heap.size, 2, none⟩ = some (.bool neg) := V0.cellAt 2
        have c3 : x1.cell? ⟨w.heap.size, 3, none⟩ = some (.bool false) := V0.cellAt 3
        have f0 := V0.frozen 0
        have f1 := V0.frozen 1
        have f3 := V0.frozen 3
        have d0 := V1.frozen 0
        have d1 := V1.frozen 1
        have d2 := V1.frozen 2
        have d3 := V1.frozen 3
        have e0 : x1.cell? ⟨w.heap.size + 1, 0, none⟩ = some (.int .i64 0) := V1.cellAt 0
        have e1 : x1.cell? ⟨w.heap.size + 1, 1, none⟩ = some (.int .u64 0) := V1.cellAt 1
        have e2 : x1.cell? ⟨w.heap.size + 1, 2, none⟩ = some (.bool false) := V1.cellAt 2
        have e3 : x1.cell? ⟨w.heap.size + 1, 3, none⟩ = some (.bool false) := V1.cellAt 3
        go_quiet (fail)
        replace V0 := V0.drN nq
        replace V1 := V1.drN nq
        replace B0 := below_drewN B0 nq
        go_wp2_with fail
        refine bodyPost_ret (results_rd rfl rfl ((V1.other (p := ⟨w.heap.size, 3, none⟩) (by show w.heap.size + 1 ≠ w.heap.size; omega) _).set4 _ _ _ _)) rfl ?_
        exact ⟨rfl, belo4 (B0.setCell (p := ⟨w.heap.size, 3, none⟩) (Nat.le_refl _) _) (by omega) _ _ _ _⟩
    · have n1 : decide (c.toNat < 48) = false := by simp; omega
      have n2 : decide (57 < c.toNat) = true := by simp; omega
      have i1 : decide ((c.toNat : Int) < 48) = false := by simp; omega
      have i2 : decide ((57 : Int) < c.toNat) = true := by simp; omega
      have j1 : ¬ ((c.toNat : Int) < 48) := by omega
      have j2 : (57 : Int) < c.toNat := by omega
      clear hok
      go_enter Tryz.func72, Tryz.ntmps72
      go_wp2_with fail
      refine ent2 w _ _ _ _ (Q := fun W => bodyPost Tryz.prog _ _ _ _ W) ?_
      intro x1 B0 hs1 V0 V1
      refine bodyPost_ret (results_rd rfl rfl V1) rfl ?_
      exact ⟨rfl, B0⟩
  · have n1 : decide (c.toNat < 48) = true := by simp; omega
    have i1 : decide ((c.toNat : Int) < 48) = true := by simp; omega
    have j1 : (c.toNat : Int) < 48 := by omega
    clear hok
    go_enter Tryz.func72, Tryz.ntmps72
    go_wp2_with fail
    refine ent2 w _ _ _ _ (Q := fun W => bodyPost Tryz.prog _ _ _ _ W) ?_
    intro x1 B0 hs1 V0 V1
    refine bodyPost_ret (results_rd rfl rfl V1) rfl ?_
    exact ⟨rfl, B0⟩
set_option maxHeartbeats 8000000 in
theorem rdigit_ok (s : List UInt8) (p far left : Nat) (neg : Bool) (w : World) (hp : p < s.length) (hs : s.length ≤ 140737488355328) (hf : far ≤ mostU neg) (hl : left ≤ 4) (c : UInt8) (hc : (ByteArray.mk s.toArray)[p]'(by rw [bsize]; exact hp) = c) (hok : okD neg far left c = true) :
    Calls Tryz.prog 72 #[.agg #[.int .i64 p, .int .u64 far, .bool neg, .bool false], .string ⟨s.toArray⟩, .int .i64 left] w fun e w' => e = .returned (.agg #[.int .i64 (p + 1 : Nat), .int .u64 (far * 10 + wv c : Nat), .bool neg, .bool false]) ∧ Below w.heap.size w w' := by
  have hpi : ¬ (s.length : Int) ≤ p := by omega
  have hpn : decide (s.length ≤ p) = false := by simp; omega
  have h12 := (isD_iff c).1 ((okD_iff _ _ _ _).1 hok).1
  obtain ⟨h1, h2⟩ := h12
  have hkeep : True := trivial
  have n1 : decide (c.toNat < 48) = false := by simp; omega
  have n2 : decide (57 < c.toNat) = false := by simp; omega
  have i1 : decide ((c.toNat : Int) < 48) = false := by simp; omega
  have i2 : decide ((57 : Int) < c.toNat) = false := by simp; omega
  have j1 : ¬ ((c.toNat : Int) < 48) := by omega
  have j2 : ¬ ((57 : Int) < c.toNat) := by omega
  obtain ⟨m, hm⟩ : ∃ m, 10 ^ left = m := ⟨_, rfl⟩
  have hm1 : 1 ≤ m ∧ m ≤ 10000 := by rw [← hm]; exact pow_few hl
  have hm0 : ((m : Int) == 0) = false := by simp; omega
  have hm0' : ¬ (m : Int) = 0 := by omega
  obtain ⟨M, hM⟩ : ∃ M, mostU neg = M := ⟨_, rfl⟩
  obtain ⟨Q, hQ⟩ : ∃ Q, M / m = Q := ⟨_, rfl⟩
  have hQ2 : (M : Int).tdiv (m : Int) = Q := by rw [Int.tdiv_eq_ediv_of_nonneg (by omega), ← hQ]; simp
  have hQb : Q ≤ 9223372036854775808 := by rw [← hQ]; exact Nat.le_trans (Nat.div_le_self _ _) (by rw [← hM]; cases neg <;> decide)
  have wQ : IntKind.u64.wrap (Q : Int) = Q := by show (Q : Int) % 18446744073709551616 = Q; omega
  obtain ⟨V, hV⟩ : ∃ V, far * 10 + wv c = V := ⟨_, rfl⟩
  have hok2 : okD neg far left c = (decide (V ≤ Q) && !(neg && decide (V = 0) && decide (left = 0))) := by
    unfold okD; rw [(isD_iff c).2 ⟨h1, h2⟩, hV, hM, hm, hQ]; rfl
  have HV : Hid (far * 10 + wv c = V) := hV
  rw [wv_of h1 h2] at hV
  have hVi : 10 * (far : Int) + c.toNat - 48 = V := by omega
  rw [hok2] at hok
  rw [Bool.and_eq_true] at hok
  have hVQ : V ≤ Q := by simpa using hok.1
  have hvq : ¬ (Q : Int) < V := by omega
  have hfi : ¬ (922337203685477580 : Int) < far := by omega
  have hfn : decide (922337203685477580 < far) = false := by simp; omega
  have hok3 := hok.2
  clear hok hok2 hV hQ
  by_cases hn : neg = true
  · subst hn
    by_cases hV0 : V = 0
    · have hl0 : ((left : Int) == 0) = false := by simp [hV0] at hok3; simp; omega
      have hl1 : ¬ (left : Int) = 0 := by simpa using hl0
      have v0 : ((V : Int) == 0) = true := by simp [hV0]
      clear hok3 hV0
      go_enter Tryz.func72, Tryz.ntmps72
      go_wp2_with fail
      refine ent2 w _ _ _ _ (Q := fun W => Code.wp Tryz.prog _ _ _ W) ?_
      intro x1 B0 hs1 V0 V1
      have hsz : w.heap.size + 2 ≤ x1.heap.size := by omega
      clear hs1
      have c0 : x1.cell? ⟨w.heap.size, 0, none⟩ = some (.int .i64 p) := V0.cellAt 0
      have c1 : x1.cell? ⟨w.heap.size, 1, none⟩ = some (.int .u64 far) := V0.cellAt 1
      have c2 : x1.cell? ⟨w.heap.size, 2, none⟩ = some (.bool true) := V0.cellAt 2
      have c3 : x1.cell? ⟨w.heap.size, 3, none⟩ = some (.bool false) := V0.cellAt 3
      have f0 := V0.frozen 0
      have f1 := V0.frozen 1
      have f3 := V0.frozen 3
      have d0 := V1.frozen 0
      have d1 := V1.frozen 1
      have d2 := V1.frozen 2
      have d3 := V1.frozen 3
      have e0 : x1.cell? ⟨w.heap.size + 1, 0, none⟩ = some (.int .i64 0) := V1.cellAt 0
      have e1 : x1.cell? ⟨w.heap.size + 1, 1, none⟩ = some (.int .u64 0) := V1.cellAt 1
      have e2 : x1.cell? ⟨w.heap.size + 1, 2, none⟩ = some (.bool false) := V1.cellAt 2
      have e3 : x1.cell? ⟨w.heap.size + 1, 3, none⟩ = some (.bool false) := V1.cellAt 3
      go_quiet (fail)
      replace V0 := V0.drN nq
      replace V1 := V1.drN nq
      replace B0 := below_drewN B0 nq
      go_wp2_with fail
      refine (rmost9 _ _ _ _ _).mono ?_
      rintro e x2 ⟨rfl, hb⟩
      rw [hM]
      replace V0 := Va.after hb V0
      replace V1 := Va.after hb V1
      replace B0 := step B0 hb
      clear hb
      clear c0 c1 c2 c3 f0 f1 f3 d0 d1 d2 d3 e0 e1 e2 e3
      have c0 : x2.cell? ⟨w.heap.size, 0, none⟩ = some (.int .i64 p) := V0.cellAt 0
      have c1 : x2.cell? ⟨w.heap.size, 1, none⟩ = some (.int .u64 far) := V0.cellAt 1
      have c2 : x2.cell? ⟨w.heap.size, 2, none⟩ = some (.bool true) := V0.cellAt 2
      have c3 : x2.cell? ⟨w.heap.size, 3, none⟩ = some (.bool false) := V0.cellAt 3
      have f0 := V0.frozen 0
      have f1 := V0.frozen 1
      have f3 := V0.frozen 3
      have d0 := V1.frozen 0
      have d1 := V1.frozen 1
      have d2 := V1.frozen 2
      have d3 := V1.frozen 3
      have e0 : x2.cell? ⟨w.heap.size + 1, 0, none⟩ = some (.int .i64 0) := V1.cellAt 0
      have e1 : x2.cell? ⟨w.heap.size + 1, 1, none⟩ = some (.int .u64 0) := V1.cellAt 1
      have e2 : x2.cell? ⟨w.heap.size + 1, 2, none⟩ = some (.bool false) := V1.cellAt 2
      have e3 : x2.cell? ⟨w.heap.size + 1, 3, none⟩ = some (.bool false) := V1.cellAt 3
      go_wp2_with fail
      refine (rpower9 left hl _).mono ?_
      rintro e w' ⟨rfl, hw⟩
      rw [hw, hm]
      clear hw
      go_wp2_with fail
      all_goals (refine bodyPost_ret (results_rd rfl rfl (((V1.other (p := ⟨w.heap.size, 1, none⟩) (by show w.heap.size + 1 ≠ w.heap.size; omega) _).other (p := ⟨w.heap.size, 0, none⟩) (by show w.heap.size + 1 ≠ w.heap.size; omega) _).set4 _ _ _ _)) rfl ?_; exact ⟨by rw [HV.out]; rfl, belo4 ((B0.setCell (p := ⟨w.heap.size, 1, none⟩) (Nat.le_refl _) _).setCell (p := ⟨w.heap.size, 0, none⟩) (Nat.le_refl _) _) (by omega) _ _ _ _⟩)
    · have v0 : ((V : Int) == 0) = false := by simp [hV0]
      have v1 : ¬ (V : Int) = 0 := by omega
      clear hok3 hV0
      go_enter Tryz.func72, Tryz.ntmps72
      go_wp2_with fail
      refine ent2 w _ _ _ _ (Q := fun W => Code.wp Tryz.prog _ _ _ W) ?_
      intro x1 B0 hs1 V0 V1
      have hsz : w.heap.size + 2 ≤ x1.heap.size := by omega
      clear hs1
      have c0 : x1.cell? ⟨w.heap.size, 0, none⟩ = some (.int .i64 p) := V0.cellAt 0
      have c1 : x1.cell? ⟨w.heap.size, 1, none⟩ = some (.int .u64 far) := V0.cellAt 1
      have c2 : x1.cell? ⟨w.heap.size, 2, none⟩ = some (.bool true) := V0.cellAt 2
      have c3 : x1.cell? ⟨w.heap.size, 3, none⟩ = some (.bool false) := V0.cellAt 3
      have f0 := V0.frozen 0
      have f1 := V0.frozen 1
      have f3 := V0.frozen 3
      have d0 := V1.frozen 0
      have d1 := V1.frozen 1
      have d2 := V1.frozen 2
      have d3 := V1.frozen 3
      have e0 : x1.cell? ⟨w.heap.size + 1, 0, none⟩ = some (.int .i64 0) := V1.cellAt 0
      have e1 : x1.cell? ⟨w.heap.size + 1, 1, none⟩ = some (.int .u64 0) := V1.cellAt 1
      have e2 : x1.cell? ⟨w.heap.size + 1, 2, none⟩ = some (.bool false) := V1.cellAt 2
      have e3 : x1.cell? ⟨w.heap.size + 1, 3, none⟩ = some (.bool false) := V1.cellAt 3
      go_quiet (fail)
      replace V0 := V0.drN nq
      replace V1 := V1.drN nq
      replace B0 := below_drewN B0 nq
      go_wp2_with fail
      refine (rmost9 _ _ _ _ _).mono ?_
      rintro e x2 ⟨rfl, hb⟩
      rw [hM]
      replace V0 := Va.after hb V0
      replace V1 := Va.after hb V1
      replace B0 := step B0 hb
      clear hb
      clear c0 c1 c2 c3 f0 f1 f3 d0 d1 d2 d3 e0 e1 e2 e3
      have c0 : x2.cell? ⟨w.heap.size, 0, none⟩ = some (.int .i64 p) := V0.cellAt 0
      have c1 : x2.cell? ⟨w.heap.size, 1, none⟩ = some (.int .u64 far) := V0.cellAt 1
      have c2 : x2.cell? ⟨w.heap.size, 2, none⟩ = some (.bool true) := V0.cellAt 2
      have c3 : x2.cell? ⟨w.heap.size, 3, none⟩ = some (.bool false) := V0.cellAt 3
      have f0 := V0.frozen 0
      have f1 := V0.frozen 1
      have f3 := V0.frozen 3
      have d0 := V1.frozen 0
      have d1 := V1.frozen 1
      have d2 := V1.frozen 2
      have d3 := V1.frozen 3
      have e0 : x2.cell? ⟨w.heap.size + 1, 0, none⟩ = some (.int .i64 0) := V1.cellAt 0
      have e1 : x2.cell? ⟨w.heap.size + 1, 1, none⟩ = some (.int .u64 0) := V1.cellAt 1
      have e2 : x2.cell? ⟨w.heap.size + 1, 2, none⟩ = some (.bool false) := V1.cellAt 2
      have e3 : x2.cell? ⟨w.heap.size + 1, 3, none⟩ = some (.bool false) := V1.cellAt 3
      go_wp2_with fail
      refine (rpower9 left hl _).mono ?_
      rintro e w' ⟨rfl, hw⟩
      rw [hw, hm]
      clear hw
      go_wp2_with fail
      all_goals (refine bodyPost_ret (results_rd rfl rfl (((V1.other (p := ⟨w.heap.size, 1, none⟩) (by show w.heap.size + 1 ≠ w.heap.size; omega) _).other (p := ⟨w.heap.size, 0, none⟩) (by show w.heap.size + 1 ≠ w.heap.size; omega) _).set4 _ _ _ _)) rfl ?_; exact ⟨by rw [HV.out]; rfl, belo4 ((B0.setCell (p := ⟨w.heap.size, 1, none⟩) (Nat.le_refl _) _).setCell (p := ⟨w.heap.size, 0, none⟩) (Nat.le_refl _) _) (by omega) _ _ _ _⟩)
  · have hn' : neg = false := by simpa using hn
    subst hn'
    clear hok3 hn
    go_enter Tryz.func72, Tryz.ntmps72
    go_wp2_with fail
    refine ent2 w _ _ _ _ (Q := fun W => Code.wp Tryz.prog _ _ _ W) ?_
    intro x1 B0 hs1 V0 V1
    have hsz : w.heap.size + 2 ≤ x1.heap.size := by omega
    clear hs1
    have c0 : x1.cell? ⟨w.heap.size, 0, none⟩ = some (.int .i64 p) := V0.cellAt 0
    have c1 : x1.cell? ⟨w.heap.size, 1, none⟩ = some (.int .u64 far) := V0.cellAt 1
    have c2 : x1.cell? ⟨w.heap.size, 2, none⟩ = some (.bool false) := V0.cellAt 2
    have c3 : x1.cell? ⟨w.heap.size, 3, none⟩ = some (.bool false) := V0.cellAt 3
    have f0 := V0.frozen 0
    have f1 := V0.frozen 1
    have f3 := V0.frozen 3
    have d0 := V1.frozen 0
    have d1 := V1.frozen 1
    have d2 := V1.frozen 2
    have d3 := V1.frozen 3
    have e0 : x1.cell? ⟨w.heap.size + 1, 0, none⟩ = some (.int .i64 0) := V1.cellAt 0
    have e1 : x1.cell? ⟨w.heap.size + 1, 1, none⟩ = some (.int .u64 0) := V1.cellAt 1
    have e2 : x1.cell? ⟨w.heap.size + 1, 2, none⟩ = some (.bool false) := V1.cellAt 2
    have e3 : x1.cell? ⟨w.heap.size + 1, 3, none⟩ = some (.bool false) := V1.cellAt 3
    go_quiet (fail)
    replace V0 := V0.drN nq
    replace V1 := V1.drN nq
    replace B0 := below_drewN B0 nq
    go_wp2_with fail
    refine (rmost9 _ _ _ _ _).mono ?_
    rintro e x2 ⟨rfl, hb⟩
    rw [hM]
    replace V0 := Va.after hb V0
    replace V1 := Va.after hb V1
    replace B0 := step B0 hb
    clear hb
    clear c0 c1 c2 c3 f0 f1 f3 d0 d1 d2 d3 e0 e1 e2 e3
    have c0 : x2.cell? ⟨w.heap.size, 0, none⟩ = some (.int .i64 p) := V0.cellAt 0
    have c1 : x2.cell? ⟨w.heap.size, 1, none⟩ = some (.int .u64 far) := V0.cellAt 1
    have c2 : x2.cell? ⟨w.heap.size, 2, none⟩ = some (.bool false) := V0.cellAt 2
    have c3 : x2.cell? ⟨w.heap.size, 3, none⟩ = some (.bool false) := V0.cellAt 3
    have f0 := V0.frozen 0
    have f1 := V0.frozen 1
    have f3 := V0.frozen 3
    have d0 := V1.frozen 0
    have d1 := V1.frozen 1
    have d2 := V1.frozen 2
    have d3 := V1.frozen 3
    have e0 : x2.cell? ⟨w.heap.size + 1, 0, none⟩ = some (.int .i64 0) := V1.cellAt 0
    have e1 : x2.cell? ⟨w.heap.size + 1, 1, none⟩ = some (.int .u64 0) := V1.cellAt 1
    have e2 : x2.cell? ⟨w.heap.size + 1, 2, none⟩ = some (.bool false) := V1.cellAt 2
    have e3 : x2.cell? ⟨w.heap.size + 1, 3, none⟩ = some (.bool false) := V1.cellAt 3
    go_wp2_with fail
    refine (rpower9 left hl _).mono ?_
    rintro e w' ⟨rfl, hw⟩
    rw [hw, hm]
    clear hw
    go_wp2_with fail
    all_goals (refine bodyPost_ret (results_rd rfl rfl (((V1.other (p := ⟨w.heap.size, 1, none⟩) (by show w.heap.size + 1 ≠ w.heap.size; omega) _).other (p := ⟨w.heap.size, 0, none⟩) (by show w.heap.size + 1 ≠ w.heap.size; omega) _).set4 _ _ _ _)) rfl ?_; exact ⟨by rw [HV.out]; rfl, belo4 ((B0.setCell (p := ⟨w.heap.size, 1, none⟩) (Nat.le_refl _) _).setCell (p := ⟨w.heap.size, 0, none⟩) (Nat.le_refl _) _) (by omega) _ _ _ _⟩)
end Go.Proofs.YtigimdcaakfckaaGreatDoor
