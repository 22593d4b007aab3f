/-
  The walk of TraitBlind.
-/
import Derived.Test.YthladfhjhanhlaaGreatDoorMgAo
namespace Go.Proofs.YthladfhjhanhlaaGreatDoor
open Go.RowKit Go.Shelf
set_option linter.unusedVariables false

theorem Va.set5 {w : World} {b : Nat} {t : TypeId} {x0 x1 x2 x3 x4 : Value} (h : Va w b t #[x0, x1, x2, x3, x4]) (y0 y1 y2 y3 y4 : Value) :
    Va (((((w.setCell ⟨b, 0, none⟩ y0).setCell ⟨b, 1, none⟩ y1).setCell ⟨b, 2, none⟩ y2).setCell ⟨b, 3, none⟩ y3).setCell ⟨b, 4, none⟩ y4) b t #[y0, y1, y2, y3, y4] := by
  unfold Va at *
  simp [World.setCell, Array.getElem?_modify, h]
theorem Va.set5i {w : World} {b : Nat} {t : TypeId} {cs : List Value} (h : Va w b t cs.toArray) (i : Nat) (y : Value) : Va (w.setCell ⟨b, i, none⟩ y) b t (cs.set i y).toArray := by
  unfold Va at *
  simp only [World.setCell]
  rw [Array.getElem?_modify, if_pos rfl, h]
  simp
theorem fa5 (w : World) (b : Nat) (y0 y1 y2 y3 y4 : Value) : ∀ c, c ≠ b → (((((w.setCell ⟨b, 0, none⟩ y0).setCell ⟨b, 1, none⟩ y1).setCell ⟨b, 2, none⟩ y2).setCell ⟨b, 3, none⟩ y3).setCell ⟨b, 4, none⟩ y4).heap[c]? = w.heap[c]? := fun c hc => by
  rw [heap_setCell_other _ _ _ _ (by exact hc), heap_setCell_other _ _ _ _ (by exact hc), heap_setCell_other _ _ _ _ (by exact hc), heap_setCell_other _ _ _ _ (by exact hc), heap_setCell_other _ _ _ _ (by exact hc)]
theorem belo5 {B : Nat} {a w : World} (h : Below B a w) {c : Nat} (hc : B ≤ c) (y0 y1 y2 y3 y4 : Value) : Below B a (((((w.setCell ⟨c, 0, none⟩ y0).setCell ⟨c, 1, none⟩ y1).setCell ⟨c, 2, none⟩ y2).setCell ⟨c, 3, none⟩ y3).setCell ⟨c, 4, none⟩ y4) :=
  ((((h.setCell (p := ⟨c, 0, none⟩) hc y0).setCell (p := ⟨c, 1, none⟩) hc y1).setCell (p := ⟨c, 2, none⟩) hc y2).setCell (p := ⟨c, 3, none⟩) hc y3).setCell (p := ⟨c, 4, none⟩) hc y4
theorem Va.hop {w w' : World} {b : Nat} {t : TypeId} {cs : Array Value} (h : Va w b t cs) (k : w'.heap[b]? = w.heap[b]?) : Va w' b t cs := by unfold Va at *; rw [k]; exact h
theorem sto5 {W : World} {b : Nat} {t : TypeId} {x0 x1 x2 x3 x4 : Value} (h : Va W b t #[x0, x1, x2, x3, x4]) (y0 y1 y2 y3 y4 : Value) {Q : World → Prop}
    (k : ∀ V, Va V b t #[y0, y1, y2, y3, y4] → (∀ c t cs, c ≠ b → Va W c t cs → Va V c t cs) → ((∀ c, c ≠ b → V.heap[c]? = W.heap[c]?) ∧ (∀ B v, B ≤ b → Below B v W → Below B v V)) → Q V) : Q (((((W.setCell ⟨b, 0, none⟩ y0).setCell ⟨b, 1, none⟩ y1).setCell ⟨b, 2, none⟩ y2).setCell ⟨b, 3, none⟩ y3).setCell ⟨b, 4, none⟩ y4) :=
  k _ (h.set5 y0 y1 y2 y3 y4) (fun c t cs hc hv => hv.hop (fa5 W b y0 y1 y2 y3 y4 c hc)) ⟨fa5 W b y0 y1 y2 y3 y4, fun B v hB hb => belo5 hb hB y0 y1 y2 y3 y4⟩
/-- No cell of a variable is a string. -/
def NoStr (cs : Array Value) : Prop := ∀ (i : Nat) (s : ByteArray), cs[i]? ≠ some (.string s)
theorem noStr5 (a : Option Addr) (l c : Nat) (b : Option Addr) (m d : Nat) (x y z : Int) : NoStr #[.slice a l c, .slice b m d, .int .i64 x, .int .i64 y, .int .i64 z] := by
  intro i s h
  rcases i with _ | _ | _ | _ | _ | i <;> simp at h
theorem Le.farS {w w' : World} {a : Option Addr} {n : Nat} {l : List (List UInt8)} (h : Le elS w a n l) {b : Nat} {t : TypeId} {cs : Array Value} (V : Va w b t cs) (hn : NoStr cs) (k : ∀ c, c ≠ b → w'.heap[c]? = w.heap[c]?) : Le elS w' a n l := by
  refine h.kept (fun h0 q off e hlt => k q (fun e2 => ?_))
  subst e2
  subst e
  have c := h.at 0 h0 0 (sv (l.getD 0 [])) rfl
  rw [V.cellAt] at c
  exact hn _ _ c
/-- A list of texts that can be read. -/
def LeS (w : World) (a : Option Addr) (n : Nat) (l : List (List UInt8)) : Prop := Le elS w a n l
theorem LeS.after {w w' : World} (hb : Below w.heap.size w w') {a : Option Addr} {n : Nat} {l : List (List UInt8)} (h : LeS w a n l) : LeS w' a n l := Le.after hb h
theorem LeS.farS {w w' : World} {a : Option Addr} {n : Nat} {l : List (List UInt8)} (h : LeS w a n l) {b : Nat} {t : TypeId} {cs : Array Value} (V : Va w b t cs) (hn : NoStr cs) (k : ∀ c, c ≠ b → w'.heap[c]? = w.heap[c]?) : LeS w' a n l := Le.farS h V hn k
set_option maxHeartbeats 2000000 in
theorem names_no (ns : List Nd) (a : Option Addr) (cap : Nat) (w : World) (hL : Le elN w a ns.length ns) (h64 : ∀ n ∈ ns, N64 n) (hc : ¬ Cond wdB ns) :
    Calls Tryz.prog 4 #[.slice a ns.length cap] w fun e w' => e = .returned (.tuple #[.slice none 0 0, .slice none 0 0, .int .i64 131]) ∧ Below w.heap.size w w' := by
  have C1 := check13 ns a cap w hL h64
  rw [ckE_no hc] at C1
  clear hL h64 hc
  go_enter Tryz.func4, Tryz.ntmps4
  go_wp2_with fail
  refine C1.mono ?_
  rintro e W2 ⟨rfl, hb2⟩
  have HB2 : Hid (Below w.heap.size w W2) := hb2
  clear C1 hb2
  go_wp2_with fail
  refine bodyPost_ret (results_ttt rfl) rfl ?_
  exact ⟨rfl, HB2.out⟩
theorem srt_len {ns : List Nd} (hc : Cond wdB ns) (c : Int) : (srt (nms c ns)).length ≤ 100 := by
  have h1 : ns.length ≤ 64 := by
    rcases hc with rfl | h
    · simp
    · exact h.1
  have h2 := compact_le ((nms c ns).mergeSort fun x y => decide (x ≤ y))
  rw [List.length_mergeSort] at h2
  have h3 : (nms c ns).length ≤ ns.length := by
    unfold nms
    rw [List.length_map]
    exact List.length_filter_le _ _
  unfold srt
  omega
theorem anyK_take {ns : List Nd} {i : Nat} (h : i < ns.length) (c : Int) : anyK c (ns.take (i + 1)) = (anyK c (ns.take i) || decide ((ns.getD i nd0).kd = c)) := by
  unfold anyK
  rw [List.take_succ_eq_append_getElem h, List.any_append, List.getD_eq_getElem?_getD, List.getElem?_eq_getElem h]
  simp
theorem sto5i {W : World} {b : Nat} {t : TypeId} {cs : List Value} (h : Va W b t cs.toArray) (i : Nat) (y : Value) {Q : World → Prop}
    (k : ∀ V, Va V b t (cs.set i y).toArray → (∀ c t cs, c ≠ b → Va W c t cs → Va V c t cs) → ((∀ c, c ≠ b → V.heap[c]? = W.heap[c]?) ∧ (∀ B v, B ≤ b → Below B v W → Below B v V)) → Q V) : Q (W.setCell ⟨b, i, none⟩ y) :=
  k _ (h.set5i i y) (fun c t cs hc hv => hv.hop (heap_setCell_other _ _ _ _ (by exact hc))) ⟨fun c hc => heap_setCell_other _ _ _ _ (by exact hc), fun B v hB hb => hb.setCell (p := ⟨b, i, none⟩) hB y⟩
/-- What the amount, its digits and the quantity are behind i nodes. -/
def bA (ns : List Nd) (f g : Fx) (i : Nat) : Int := if anyK 6 (ns.take i) then f.amt else g.amt
def bD (ns : List Nd) (f g : Fx) (i : Nat) : Int := if anyK 6 (ns.take i) then f.dig else g.dig
def bQ (ns : List Nd) (f g : Fx) (i : Nat) : Int := if anyK 7 (ns.take i) then f.qty else g.qty
theorem bA_yes {ns : List Nd} {i : Nat} (h : i < ns.length) (f g : Fx) (e : (ns.getD i nd0).kd = 6) : bA ns f g (i + 1) = f.amt ∧ bD ns f g (i + 1) = f.dig := by
  unfold bA bD; rw [anyK_take h, decide_eq_true e, Bool.or_true]; exact ⟨rfl, rfl⟩
theorem bA_no {ns : List Nd} {i : Nat} (h : i < ns.length) (f g : Fx) (e : ¬ (ns.getD i nd0).kd = 6) : bA ns f g (i + 1) = bA ns f g i ∧ bD ns f g (i + 1) = bD ns f g i := by
  unfold bA bD; rw [anyK_take h, decide_eq_false e, Bool.or_false]; exact ⟨rfl, rfl⟩
theorem bQ_yes {ns : List Nd} {i : Nat} (h : i < ns.length) (f g : Fx) (e : (ns.getD i nd0).kd = 7) : bQ ns f g (i + 1) = f.qty := by
  unfold bQ; rw [anyK_take h, decide_eq_true e, Bool.or_true]; rfl
theorem bQ_no {ns : List Nd} {i : Nat} (h : i < ns.length) (f g : Fx) (e : ¬ (ns.getD i nd0).kd = 7) : bQ ns f g (i + 1) = bQ ns f g i := by
  unfold bQ; rw [anyK_take h, decide_eq_false e, Bool.or_false]
theorem hoE0 {ns : List Nd} {f : Fx} (hc : Cond wdB ns) (hf : f.Ok) : hoE ns f = 0 ∧ hoB ns f = hoV ns f.vf := ⟨by simp [hoE, hc]; exact ftE_ok hf, by simp [hoB, hc, hf]⟩
theorem LeS.drw {w : World} {a : Option Addr} {n : Nat} {l : List (List UInt8)} (h : LeS w a n l) : LeS w.drew a n l := h
theorem b64_of (b : Bool) {x y : Int} (hx : B64 x) (hy : B64 y) : B64 (if b then x else y) := by cases b <;> assumption
theorem bA_0 (ns : List Nd) (f g : Fx) : bA ns f g 0 = g.amt ∧ bD ns f g 0 = g.dig ∧ bQ ns f g 0 = g.qty := by unfold bA bD bQ anyK; simp
set_option maxRecDepth 20000 in
set_option maxHeartbeats 16000000 in
theorem blind_walk (ns : List Nd) (xa : Option Addr) (ca : Nat) (a1 : Option Addr) (c1 : Nat) (a2 : Option Addr) (c2 : Nat) (f : Fx) (a3 : Option Addr) (c3 : Nat) (a4 : Option Addr) (c4 : Nat) (g : Fx) (w : World) (hA : Le elN w xa ns.length ns) (h6 : ∀ n ∈ ns, N64 n) (hf : Lf w a1 c1 a2 c2 f) (hg : Lf w a3 c3 a4 c4 g) (hT : Tn w) :
    Calls Tryz.prog 3 #[.slice xa ns.length ca, fxv a1 c1 a2 c2 f, fxv a3 c3 a4 c4 g] w fun e w' => e = .returned (.bool true) ∧ Below w.heap.size w w' := by
  have HA : Hid (Le elN w xa ns.length ns) := hA
  have H6 : Hid (∀ n ∈ ns, N64 n) := h6
  have HF : Hid (Lf w a1 c1 a2 c2 f) := hf
  have HG : Hid (Lf w a3 c3 a4 c4 g) := hg
  have HT : Hid (Tn w) := hT
  clear hA h6 hf hg hT
  dsimp only [fxv]
  go_enter Tryz.func3, Tryz.ntmps3
  go_upto_region 1 with fail
  refine ent2 w _ _ _ _ (Q := fun W => Code.wp _ _ _ _ W) ?_
  intro W1 hb1 hs1 V4 V5
  have HV4 : Hid (Va W1 w.heap.size 25 #[.slice a1 f.byr.length c1, .slice a2 f.lin.length c2, .int .i64 f.amt, .int .i64 f.dig, .int .i64 f.qty]) := V4
  have HV5 : Hid (Va W1 (w.heap.size + 1) 25 #[.slice a3 g.byr.length c3, .slice a4 g.lin.length c4, .int .i64 g.amt, .int .i64 g.dig, .int .i64 g.qty]) := V5
  have HB1 : Hid (Below w.heap.size w W1) := hb1
  clear V4 V5 hb1 hs1
  by_cases hc : Cond wdB ns
  ·
    have D1 := names_ok ns xa ca W1 (HA.out.after HB1.out) H6.out hc
    have HC : Hid (Cond wdB ns) := hc
    clear hc
    obtain ⟨N1, hN1⟩ : ∃ N, srt (nms 4 ns) = N := ⟨_, rfl⟩
    obtain ⟨N2, hN2⟩ : ∃ N, srt (nms 5 ns) = N := ⟨_, rfl⟩
    have HN : Hid (srt (nms 4 ns) = N1 ∧ srt (nms 5 ns) = N2) := ⟨hN1, hN2⟩
    rw [hN1, hN2] at D1
    clear hN1 hN2
    go_wp2_with fail
    refine Calls.mono D1 ?_
    rintro e W2 ⟨a5, c5, a6, c6, rfl, hl5, hl6, hb⟩
    have HL5 : Hid (Le elS W2 a5 N1.length N1) := hl5
    have HL6 : Hid (Le elS W2 a6 N2.length N2) := hl6
    have HB2 : Hid (Below w.heap.size w W2) := step HB1.out hb
    have HX2 : Hid (Below W1.heap.size W1 W2) := hb
    clear D1 hl5 hl6 hb
    have D2 := fit_any f.byr f.lin a1 c1 a2 c2 f.amt f.dig f.qty W2 (HF.out.l1.after HB2.out) (HF.out.l2.after HB2.out)
    obtain ⟨e1, he1⟩ : ∃ x, ftE f.byr f.lin f.amt f.dig f.qty = x := ⟨_, rfl⟩
    have HE1 : Hid (ftE f.byr f.lin f.amt f.dig f.qty = e1) := he1
    rw [he1] at D2
    clear he1
    have v4 := HV4.out.after HX2.out
    have u0 := v4.f0
    have u1 := v4.f1
    have u2 := v4.f2
    have u3 := v4.f3
    have u4 := v4.f4
    go_wp2_with fail
    refine Calls.mono D2 ?_
    rintro e W3 ⟨rfl, hb⟩
    have HB3 : Hid (Below w.heap.size w W3) := step HB2.out hb
    have HX3 : Hid (Below W1.heap.size W1 W3) := step HX2.out hb
    have HY3 : Hid (Below W2.heap.size W2 W3) := hb
    clear D2 hb
    clear v4 u0 u1 u2 u3 u4
    by_cases z1 : e1 = 0
    ·
      subst z1
      have D3 := fit_any g.byr g.lin a3 c3 a4 c4 g.amt g.dig g.qty W3 (HG.out.l1.after HB3.out) (HG.out.l2.after HB3.out)
      obtain ⟨e2, he2⟩ : ∃ x, ftE g.byr g.lin g.amt g.dig g.qty = x := ⟨_, rfl⟩
      have HE2 : Hid (ftE g.byr g.lin g.amt g.dig g.qty = e2) := he2
      rw [he2] at D3
      clear he2
      have v5 := HV5.out.after HX3.out
      have t0 := v5.f0
      have t1 := v5.f1
      have t2 := v5.f2
      have t3 := v5.f3
      have t4 := v5.f4
      go_wp2_with fail
      refine Calls.mono D3 ?_
      rintro e W4 ⟨rfl, hb⟩
      have HB4 : Hid (Below w.heap.size w W4) := step HB3.out hb
      have HX4 : Hid (Below W1.heap.size W1 W4) := step HX3.out hb
      have HY4 : Hid (Below W2.heap.size W2 W4) := step HY3.out hb
      clear D3 hb
      clear v5 t0 t1 t2 t3 t4
      by_cases z2 : e2 = 0
      ·
        subst z2
        have HO1 : Hid f.Ok := Classical.byContradiction (fun h => by have h9 := HE1.out; rw [ftE_no h] at h9; cases h9)
        have HO2 : Hid g.Ok := Classical.byContradiction (fun h => by have h9 := HE2.out; rw [ftE_no h] at h9; cases h9)
        have HNl : Hid (N1.length ≤ 100 ∧ N2.length ≤ 100) := by
          have h9 := srt_len HC.out
          rw [← HN.out.1, ← HN.out.2]
          exact ⟨h9 4, h9 5⟩
        have HS1 : Hid ((nmM N1 f.byr g.byr) = (nmM N1 f.byr g.byr)) := rfl
        go_wp2_with fail
        have B0 := HY4.out
        have V4 := HV4.out.after HX4.out
        have V5 := HV5.out.after HX4.out
        have HF2 : Hid (Lf W2 a1 c1 a2 c2 f ∧ Lf W2 a3 c3 a4 c4 g) := ⟨HF.out.after HB2.out, HG.out.after HB2.out⟩
        go_cut [10] (fun s10 wx => ∃ (b10 : Nat) (s1 s2 : Option Addr) (q1 q2 : Nat), s10 = .pointer (some ⟨b10, 0, none⟩) ∧ Hid (Va wx b10 25 #[.slice s1 (nmM N1 f.byr g.byr).length q1, .slice s2 (nmM N2 f.lin g.lin).length q2, .int .i64 g.amt, .int .i64 g.dig, .int .i64 g.qty]) ∧ Hid (LeS wx s1 (nmM N1 f.byr g.byr).length (nmM N1 f.byr g.byr)) ∧ Hid (LeS wx s2 (nmM N2 f.lin g.lin).length (nmM N2 f.lin g.lin)) ∧ Hid (Below W2.heap.size W2 wx) ∧ Hid (W2.heap.size ≤ b10))
        case first =>
          refine wp_region_noPanic ?_
          replace V4 : Va W4.drew _ _ _ := V4
          replace V5 : Va W4.drew _ _ _ := V5
          replace B0 := Below.drew B0
          refine wp_region_held_drew (S := (fun W => W.cell? ⟨w.heap.size, 0, none⟩ = some (.slice a1 f.byr.length c1) ∧ W.cell? ⟨w.heap.size, 1, none⟩ = some (.slice a2 f.lin.length c2) ∧ W.cell? ⟨w.heap.size, 2, none⟩ = some (.int .i64 f.amt) ∧ W.cell? ⟨w.heap.size, 3, none⟩ = some (.int .i64 f.dig) ∧ W.cell? ⟨w.heap.size, 4, none⟩ = some (.int .i64 f.qty) ∧ W.cell? ⟨w.heap.size + 1, 0, none⟩ = some (.slice a3 g.byr.length c3) ∧ W.cell? ⟨w.heap.size + 1, 1, none⟩ = some (.slice a4 g.lin.length c4) ∧ W.cell? ⟨w.heap.size + 1, 2, none⟩ = some (.int .i64 g.amt) ∧ W.cell? ⟨w.heap.size + 1, 3, none⟩ = some (.int .i64 g.dig) ∧ W.cell? ⟨w.heap.size + 1, 4, none⟩ = some (.int .i64 g.qty))) (by kernel_rfl) ⟨V4.f0, V4.f1, V4.f2, V4.f3, V4.f4, V5.f0, V5.f1, V5.f2, V5.f3, V5.f4⟩ (fun hHeld => ?_)
          obtain ⟨x31, hxd⟩ : ∃ xd, xd = W4.drew := ⟨_, rfl⟩
          rw [← hxd] at V4 V5 B0 hHeld ⊢
          clear hxd
          refine wpAnyH_take (i := 0) (v := ?_) rfl (by kernel_rfl) (by kernel_rfl) (by kernel_rfl) (fun _ _ _ h => h) (Or.inl ⟨by rfl, ?_⟩) hHeld ?_
          rotate_left
          · (intro W hSw; (try dsimp only at hSw); go_simp; all_goals (with_reducible rfl))
          simp only [List.getElem_toArray, List.getElem_cons_zero, Act.put, List.setIfInBounds_toArray, List.set_cons_zero, List.set_cons_succ]
          refine wpAnyH_take (i := 1) (v := ?_) rfl (by kernel_rfl) (by kernel_rfl) (by kernel_rfl) (fun _ _ _ h => h) (Or.inl ⟨by rfl, ?_⟩) hHeld ?_
          rotate_left
          · (intro W hSw; (try dsimp only at hSw); go_simp; all_goals (with_reducible rfl))
          simp only [List.getElem_toArray, List.getElem_cons_zero, List.getElem_cons_succ, Act.put, List.setIfInBounds_toArray, List.set_cons_zero, List.set_cons_succ]
          refine wpAnyH_take (i := 2) (v := ?_) rfl (by kernel_rfl) (by kernel_rfl) (by kernel_rfl) (fun _ _ _ h => h) (Or.inl ⟨by rfl, ?_⟩) hHeld ?_
          rotate_left
          · (intro W hSw; (try dsimp only at hSw); go_simp; all_goals (with_reducible rfl))
          simp only [List.getElem_toArray, List.getElem_cons_zero, List.getElem_cons_succ, Act.put, List.setIfInBounds_toArray, List.set_cons_zero, List.set_cons_succ]
          refine wpAnyH_take (i := 3) (v := ?_) rfl (by kernel_rfl) (by kernel_rfl) (by kernel_rfl) (fun _ _ _ h => h) (Or.inl ⟨by rfl, ?_⟩) hHeld ?_
          rotate_left
          · (intro W hSw; (try dsimp only at hSw); go_simp; all_goals (with_reducible rfl))
          simp only [List.getElem_toArray, List.getElem_cons_zero, List.getElem_cons_succ, Act.put, List.setIfInBounds_toArray, List.set_cons_zero, List.set_cons_succ]
          refine wpAnyH_take (i := 4) (v := ?_) rfl (by kernel_rfl) (by kernel_rfl) (by kernel_rfl) (fun _ _ _ h => h) (Or.inl ⟨by rfl, ?_⟩) hHeld ?_
          rotate_left
          · (intro W hSw; (try dsimp only at hSw); go_simp; all_goals (with_reducible rfl))
          simp only [List.getElem_toArray, List.getElem_cons_zero, List.getElem_cons_succ, Act.put, List.setIfInBounds_toArray, List.set_cons_zero, List.set_cons_succ]
          refine wpAnyH_take (i := 6) (v := ?_) rfl (by kernel_rfl) (by kernel_rfl) (by kernel_rfl) (fun _ _ _ h => h) (Or.inl ⟨by rfl, ?_⟩) hHeld ?_
          rotate_left
          · (intro W hSw; (try dsimp only at hSw); go_simp; all_goals (with_reducible rfl))
          simp only [List.getElem_toArray, List.getElem_cons_zero, List.getElem_cons_succ, Act.put, List.setIfInBounds_toArray, List.set_cons_zero, List.set_cons_succ]
          refine wpAnyH_take (i := 7) (v := ?_) rfl (by kernel_rfl) (by kernel_rfl) (by kernel_rfl) (fun _ _ _ h => h) (Or.inl ⟨by rfl, ?_⟩) hHeld ?_
          rotate_left
          · (intro W hSw; (try dsimp only at hSw); go_simp; all_goals (with_reducible rfl))
          simp only [List.getElem_toArray, List.getElem_cons_zero, List.getElem_cons_succ, Act.put, List.setIfInBounds_toArray, List.set_cons_zero, List.set_cons_succ]
          refine wpAnyH_take (i := 8) (v := ?_) rfl (by kernel_rfl) (by kernel_rfl) (by kernel_rfl) (fun _ _ _ h => h) (Or.inl ⟨by rfl, ?_⟩) hHeld ?_
          rotate_left
          · (intro W hSw; (try dsimp only at hSw); go_simp; all_goals (with_reducible rfl))
          simp only [List.getElem_toArray, List.getElem_cons_zero, List.getElem_cons_succ, Act.put, List.setIfInBounds_toArray, List.set_cons_zero, List.set_cons_succ]
          refine wpAnyH_take (i := 9) (v := ?_) rfl (by kernel_rfl) (by kernel_rfl) (by kernel_rfl) (fun _ _ _ h => h) (Or.inl ⟨by rfl, ?_⟩) hHeld ?_
          rotate_left
          · (intro W hSw; (try dsimp only at hSw); go_simp; all_goals (with_reducible rfl))
          simp only [List.getElem_toArray, List.getElem_cons_zero, List.getElem_cons_succ, Act.put, List.setIfInBounds_toArray, List.set_cons_zero, List.set_cons_succ]
          refine wpAnyH_take (i := 10) (v := ?_) rfl (by kernel_rfl) (by kernel_rfl) (by kernel_rfl) (fun _ _ _ h => h) (Or.inl ⟨by rfl, ?_⟩) hHeld ?_
          rotate_left
          · (intro W hSw; (try dsimp only at hSw); go_simp; all_goals (with_reducible rfl))
          simp only [List.getElem_toArray, List.getElem_cons_zero, List.getElem_cons_succ, Act.put, List.setIfInBounds_toArray, List.set_cons_zero, List.set_cons_succ]
          refine wpAnyH_take (i := 12) (v := ?_) rfl (by kernel_rfl) (by kernel_rfl) (by kernel_rfl) (fun _ _ _ h => h) (Or.inl ⟨by rfl, ?_⟩) hHeld ?_
          rotate_left
          · (intro W hSw; (try dsimp only at hSw); go_simp; all_goals (with_reducible rfl))
          simp only [List.getElem_toArray, List.getElem_cons_zero, List.getElem_cons_succ, Act.put, List.setIfInBounds_toArray, List.set_cons_zero, List.set_cons_succ]
          refine wpAnyH_take (i := 13) (v := ?_) rfl (by kernel_rfl) (by kernel_rfl) (by kernel_rfl) (fun _ _ _ h => h) (Or.inl ⟨by rfl, ?_⟩) hHeld ?_
          rotate_left
          · (intro W hSw; (try dsimp only at hSw); go_simp; all_goals (with_reducible rfl))
          simp only [List.getElem_toArray, List.getElem_cons_zero, List.getElem_cons_succ, Act.put, List.setIfInBounds_toArray, List.set_cons_zero, List.set_cons_succ]
          refine wpAnyH_take (i := 14) (v := ?_) rfl (by kernel_rfl) (by kernel_rfl) (by kernel_rfl) (fun _ _ _ h => h) (Or.inl ⟨by rfl, ?_⟩) hHeld ?_
          rotate_left
          · (intro W hSw; (try dsimp only at hSw); go_simp; all_goals (with_reducible rfl))
          simp only [List.getElem_toArray, List.getElem_cons_zero, List.getElem_cons_succ, Act.put, List.setIfInBounds_toArray, List.set_cons_zero, List.set_cons_succ]
          refine wpAnyH_take (i := 15) (v := ?_) rfl (by kernel_rfl) (by kernel_rfl) (by kernel_rfl) (fun _ _ _ h => h) (Or.inl ⟨by rfl, ?_⟩) hHeld ?_
          rotate_left
          · (intro W hSw; (try dsimp only at hSw); go_simp; all_goals (with_reducible rfl))
          simp only [List.getElem_toArray, List.getElem_cons_zero, List.getElem_cons_succ, Act.put, List.setIfInBounds_toArray, List.set_cons_zero, List.set_cons_succ]
          refine wpAnyH_take (i := 16) (v := ?_) rfl (by kernel_rfl) (by kernel_rfl) (by kernel_rfl) (fun _ _ _ h => h) (Or.inl ⟨by rfl, ?_⟩) hHeld ?_
          rotate_left
          · (intro W hSw; (try dsimp only at hSw); go_simp; all_goals (with_reducible rfl))
          simp only [List.getElem_toArray, List.getElem_cons_zero, List.getElem_cons_succ, Act.put, List.setIfInBounds_toArray, List.set_cons_zero, List.set_cons_succ]
          refine wpAnyH_take (i := 17) (v := ?_) rfl (by kernel_rfl) (by kernel_rfl) (by kernel_rfl) (fun _ _ _ h => h) (Or.inl ⟨by rfl, ?_⟩) hHeld ?_
          rotate_left
          · (intro W hSw; (try dsimp only at hSw); go_simp; all_goals (with_reducible rfl))
          simp only [List.getElem_toArray, List.getElem_cons_zero, List.getElem_cons_succ, Act.put, List.setIfInBounds_toArray, List.set_cons_zero, List.set_cons_succ]
          refine wpAnyH_ready (rs := [5, 19]) (by kernel_rfl) (by simp) ?_
          refine AllReadyH.cons rfl (fun K hK => ?_) (AllReadyH.cons rfl (fun K hK => ?_) AllReadyH.nil)
          ·
            simp only [List.getElem_toArray, List.getElem_cons_zero, List.getElem_cons_succ]
            go_simp
            refine (nmd_any f.byr g.byr N1 a1 c1 a3 c3 a5 c5 _ (HF2.out.1.l1.after B0) (HF2.out.2.l1.after B0) (HL5.out.after B0) HO1.out.1.1 HO2.out.1.1 HNl.out.1).mono ?_
            rintro e x32 ⟨s1, q1, rfl, hs1, hb⟩
            replace V4 := Va.after hb V4
            replace V5 := Va.after hb V5
            replace B0 := step B0 hb
            clear hb
            try go_wp2_with fail
            refine hK.out _ _ ⟨V4.f0, V4.f1, V4.f2, V4.f3, V4.f4, V5.f0, V5.f1, V5.f2, V5.f3, V5.f4⟩ (fun hHeld => ?_)
            clear hK K
            refine wpAnyH_ready (rs := [11, 19]) (by kernel_rfl) (by simp) ?_
            refine AllReadyH.cons rfl (fun K hK => ?_) (AllReadyH.cons rfl (fun K hK => ?_) AllReadyH.nil)
            ·
              simp only [List.getElem_toArray, List.getElem_cons_zero, List.getElem_cons_succ]
              go_simp
              refine (nmd_any f.lin g.lin N2 a2 c2 a4 c4 a6 c6 _ (HF2.out.1.l2.after B0) (HF2.out.2.l2.after B0) (HL6.out.after B0) HO1.out.2.1.1 HO2.out.2.1.1 HNl.out.2).mono ?_
              rintro e x33 ⟨s2, q2, rfl, hs2, hb⟩
              replace V4 := Va.after hb V4
              replace V5 := Va.after hb V5
              replace hs1 := LeS.after hb hs1
              replace B0 := step B0 hb
              clear hb
              try go_wp2_with fail
              refine hK.out _ _ ⟨V4.f0, V4.f1, V4.f2, V4.f3, V4.f4, V5.f0, V5.f1, V5.f2, V5.f3, V5.f4⟩ (fun hHeld => ?_)
              clear hK K
              refine wpAnyH_take (i := 18) (v := ?_) rfl (by kernel_rfl) (by kernel_rfl) (by kernel_rfl) (fun _ _ _ h => h) (Or.inl ⟨by rfl, ?_⟩) hHeld ?_
              rotate_left
              · (intro W hSw; (try dsimp only at hSw); go_simp; all_goals (with_reducible rfl))
              simp only [List.getElem_toArray, List.getElem_cons_zero, List.getElem_cons_succ, Act.put, List.setIfInBounds_toArray, List.set_cons_zero, List.set_cons_succ]
              refine wpAnyH_ready (rs := [19]) (by kernel_rfl) (by simp) ?_
              refine AllReadyH.cons rfl (fun K hK => ?_) AllReadyH.nil
              ·
                simp only [List.getElem_toArray, List.getElem_cons_zero, List.getElem_cons_succ]
                go_simp
                have lt_V10_V4 := V4.lt
                have lt_V10_V5 := V5.lt
                have sz_V10 := B0.size
                refine ent1 _ _ _ (Q := fun V => K _ V) ?_
                intro x34 hb hs_ V10
                replace V4 := Va.after hb V4
                replace V5 := Va.after hb V5
                replace hs1 := LeS.after hb hs1
                replace hs2 := LeS.after hb hs2
                replace B0 := step B0 hb
                clear hb hs_
                refine hK.out _ _ ⟨V4.f0, V4.f1, V4.f2, V4.f3, V4.f4, V5.f0, V5.f1, V5.f2, V5.f3, V5.f4⟩ (fun hHeld => ?_)
                clear hK K
                have c_V10 := V10.f0
                have f0_V10 := V10.frozen 0
                have d_V10 := V10.f1
                have f1_V10 := V10.frozen 1
                have e_V10 := V10.f2
                have f2_V10 := V10.frozen 2
                have j_V10 := V10.f3
                have f3_V10 := V10.frozen 3
                have k_V10 := V10.f4
                have f4_V10 := V10.frozen 4
                have l_V10 := V10.lt
                have m_V10 := Nat.le_of_lt l_V10
                refine wpAnyH_ready (rs := [20]) (by kernel_rfl) (by simp) ?_
                refine AllReadyH.cons rfl (fun K hK => ?_) AllReadyH.nil
                simp only [List.getElem_toArray, List.getElem_cons_zero, List.getElem_cons_succ]
                go_simp
                clear c_V10 f0_V10 d_V10 f1_V10 e_V10 f2_V10 j_V10 f3_V10 k_V10 f4_V10 l_V10 m_V10
                refine sto5 V10 (.slice s1 (nmM N1 f.byr g.byr).length q1) (.slice s2 (nmM N2 f.lin g.lin).length q2) (.int .i64 g.amt) (.int .i64 g.dig) (.int .i64 g.qty) (Q := fun W => K _ W) ?_
                intro x35 V' oth far
                replace V4 := oth _ _ _ (by first | omega | assumption | (simp; omega)) V4
                replace V5 := oth _ _ _ (by first | omega | assumption | (simp; omega)) V5
                replace hs1 := LeS.farS hs1 V10 (noStr5 _ _ _ _ _ _ _ _ _) far.1
                replace hs2 := LeS.farS hs2 V10 (noStr5 _ _ _ _ _ _ _ _ _) far.1
                replace B0 := far.2 _ _ (by first | omega | (simp; omega)) B0
                replace V10 := V'
                clear oth far
                refine hK.out _ _ ⟨V4.f0, V4.f1, V4.f2, V4.f3, V4.f4, V5.f0, V5.f1, V5.f2, V5.f3, V5.f4⟩ (fun hHeld => ?_)
                clear hK K
                refine wpAnyH_done (by kernel_rfl) ?_ _
                refine NoPanic.normal ?_
                clear hHeld
                go_wp2_with fail
                go_meet
                exact ⟨_, s1, s2, q1, q2, rfl, V10, hs1, hs2, B0, by show _ ≤ _; omega⟩
            ·
              simp only [List.getElem_toArray, List.getElem_cons_zero, List.getElem_cons_succ]
              go_simp
              have lt_V10_V4 := V4.lt
              have lt_V10_V5 := V5.lt
              have sz_V10 := B0.size
              refine ent1 _ _ _ (Q := fun V => K _ V) ?_
              intro x33 hb hs_ V10
              replace V4 := Va.after hb V4
              replace V5 := Va.after hb V5
              replace hs1 := LeS.after hb hs1
              replace B0 := step B0 hb
              clear hb hs_
              refine hK.out _ _ ⟨V4.f0, V4.f1, V4.f2, V4.f3, V4.f4, V5.f0, V5.f1, V5.f2, V5.f3, V5.f4⟩ (fun hHeld => ?_)
              clear hK K
              refine wpAnyH_ready (rs := [11]) (by kernel_rfl) (by simp) ?_
              refine AllReadyH.cons rfl (fun K hK => ?_) AllReadyH.nil
              ·
                simp only [List.getElem_toArray, List.getElem_cons_zero, List.getElem_cons_succ]
                go_simp
                refine (nmd_any f.lin g.lin N2 a2 c2 a4 c4 a6 c6 _ (HF2.out.1.l2.after B0) (HF2.out.2.l2.after B0) (HL6.out.after B0) HO1.out.2.1.1 HO2.out.2.1.1 HNl.out.2).mono ?_
                rintro e x34 ⟨s2, q2, rfl, hs2, hb⟩
                replace V4 := Va.after hb V4
                replace V5 := Va.after hb V5
                replace V10 := Va.after hb V10
                replace hs1 := LeS.after hb hs1
                replace B0 := step B0 hb
                clear hb
                try go_wp2_with fail
                refine hK.out _ _ ⟨V4.f0, V4.f1, V4.f2, V4.f3, V4.f4, V5.f0, V5.f1, V5.f2, V5.f3, V5.f4⟩ (fun hHeld => ?_)
                clear hK K
                refine wpAnyH_take (i := 18) (v := ?_) rfl (by kernel_rfl) (by kernel_rfl) (by kernel_rfl) (fun _ _ _ h => h) (Or.inl ⟨by rfl, ?_⟩) hHeld ?_
                rotate_left
                · (intro W hSw; (try dsimp only at hSw); go_simp; all_goals (with_reducible rfl))
                simp only [List.getElem_toArray, List.getElem_cons_zero, List.getElem_cons_succ, Act.put, List.setIfInBounds_toArray, List.set_cons_zero, List.set_cons_succ]
                have c_V10 := V10.f0
                have f0_V10 := V10.frozen 0
                have d_V10 := V10.f1
                have f1_V10 := V10.frozen 1
                have e_V10 := V10.f2
                have f2_V10 := V10.frozen 2
                have j_V10 := V10.f3
                have f3_V10 := V10.frozen 3
                have k_V10 := V10.f4
                have f4_V10 := V10.frozen 4
                have l_V10 := V10.lt
                have m_V10 := Nat.le_of_lt l_V10
                refine wpAnyH_ready (rs := [20]) (by kernel_rfl) (by simp) ?_
                refine AllReadyH.cons rfl (fun K hK => ?_) AllReadyH.nil
                simp only [List.getElem_toArray, List.getElem_cons_zero, List.getElem_cons_succ]
                go_simp
                clear c_V10 f0_V10 d_V10 f1_V10 e_V10 f2_V10 j_V10 f3_V10 k_V10 f4_V10 l_V10 m_V10
                refine sto5 V10 (.slice s1 (nmM N1 f.byr g.byr).length q1) (.slice s2 (nmM N2 f.lin g.lin).length q2) (.int .i64 g.amt) (.int .i64 g.dig) (.int .i64 g.qty) (Q := fun W => K _ W) ?_
                intro x35 V' oth far
                replace V4 := oth _ _ _ (by first | omega | assumption | (simp; omega)) V4
                replace V5 := oth _ _ _ (by first | omega | assumption | (simp; omega)) V5
                replace hs1 := LeS.farS hs1 V10 (noStr5 _ _ _ _ _ _ _ _ _) far.1
                replace hs2 := LeS.farS hs2 V10 (noStr5 _ _ _ _ _ _ _ _ _) far.1
                replace B0 := far.2 _ _ (by first | omega | (simp; omega)) B0
                replace V10 := V'
                clear oth far
                refine hK.out _ _ ⟨V4.f0, V4.f1, V4.f2, V4.f3, V4.f4, V5.f0, V5.f1, V5.f2, V5.f3, V5.f4⟩ (fun hHeld => ?_)
                clear hK K
                refine wpAnyH_done (by kernel_rfl) ?_ _
                refine NoPanic.normal ?_
                clear hHeld
                go_wp2_with fail
                go_meet
                exact ⟨_, s1, s2, q1, q2, rfl, V10, hs1, hs2, B0, by show _ ≤ _; omega⟩
          ·
            simp only [List.getElem_toArray, List.getElem_cons_zero, List.getElem_cons_succ]
            go_simp
            have lt_V10_V4 := V4.lt
            have lt_V10_V5 := V5.lt
            have sz_V10 := B0.size
            refine ent1 _ _ _ (Q := fun V => K _ V) ?_
            intro x32 hb hs_ V10
            replace V4 := Va.after hb V4
            replace V5 := Va.after hb V5
            replace B0 := step B0 hb
            clear hb hs_
            refine hK.out _ _ ⟨V4.f0, V4.f1, V4.f2, V4.f3, V4.f4, V5.f0, V5.f1, V5.f2, V5.f3, V5.f4⟩ (fun hHeld => ?_)
            clear hK K
            refine wpAnyH_ready (rs := [5]) (by kernel_rfl) (by simp) ?_
            refine AllReadyH.cons rfl (fun K hK => ?_) AllReadyH.nil
            ·
              simp only [List.getElem_toArray, List.getElem_cons_zero, List.getElem_cons_succ]
              go_simp
              refine (nmd_any f.byr g.byr N1 a1 c1 a3 c3 a5 c5 _ (HF2.out.1.l1.after B0) (HF2.out.2.l1.after B0) (HL5.out.after B0) HO1.out.1.1 HO2.out.1.1 HNl.out.1).mono ?_
              rintro e x33 ⟨s1, q1, rfl, hs1, hb⟩
              replace V4 := Va.after hb V4
              replace V5 := Va.after hb V5
              replace V10 := Va.after hb V10
              replace B0 := step B0 hb
              clear hb
              try go_wp2_with fail
              refine hK.out _ _ ⟨V4.f0, V4.f1, V4.f2, V4.f3, V4.f4, V5.f0, V5.f1, V5.f2, V5.f3, V5.f4⟩ (fun hHeld => ?_)
              clear hK K
              refine wpAnyH_ready (rs := [11]) (by kernel_rfl) (by simp) ?_
              refine AllReadyH.cons rfl (fun K hK => ?_) AllReadyH.nil
              ·
                simp only [List.getElem_toArray, List.getElem_cons_zero, List.getElem_cons_succ]
                go_simp
                refine (nmd_any f.lin g.lin N2 a2 c2 a4 c4 a6 c6 _ (HF2.out.1.l2.after B0) (HF2.out.2.l2.after B0) (HL6.out.after B0) HO1.out.2.1.1 HO2.out.2.1.1 HNl.out.2).mono ?_
                rintro e x34 ⟨s2, q2, rfl, hs2, hb⟩
                replace V4 := Va.after hb V4
                replace V5 := Va.after hb V5
                replace V10 := Va.after hb V10
                replace hs1 := LeS.after hb hs1
                replace B0 := step B0 hb
                clear hb
                try go_wp2_with fail
                refine hK.out _ _ ⟨V4.f0, V4.f1, V4.f2, V4.f3, V4.f4, V5.f0, V5.f1, V5.f2, V5.f3, V5.f4⟩ (fun hHeld => ?_)
                clear hK K
                refine wpAnyH_take (i := 18) (v := ?_) rfl (by kernel_rfl) (by kernel_rfl) (by kernel_rfl) (fun _ _ _ h => h) (Or.inl ⟨by rfl, ?_⟩) hHeld ?_
                rotate_left
                · (intro W hSw; (try dsimp only at hSw); go_simp; all_goals (with_reducible rfl))
                simp only [List.getElem_toArray, List.getElem_cons_zero, List.getElem_cons_succ, Act.put, List.setIfInBounds_toArray, List.set_cons_zero, List.set_cons_succ]
                have c_V10 := V10.f0
                have f0_V10 := V10.frozen 0
                have d_V10 := V10.f1
                have f1_V10 := V10.frozen 1
                have e_V10 := V10.f2
                have f2_V10 := V10.frozen 2
                have j_V10 := V10.f3
                have f3_V10 := V10.frozen 3
                have k_V10 := V10.f4
                have f4_V10 := V10.frozen 4
                have l_V10 := V10.lt
                have m_V10 := Nat.le_of_lt l_V10
                refine wpAnyH_ready (rs := [20]) (by kernel_rfl) (by simp) ?_
                refine AllReadyH.cons rfl (fun K hK => ?_) AllReadyH.nil
                simp only [List.getElem_toArray, List.getElem_cons_zero, List.getElem_cons_succ]
                go_simp
                clear c_V10 f0_V10 d_V10 f1_V10 e_V10 f2_V10 j_V10 f3_V10 k_V10 f4_V10 l_V10 m_V10
                refine sto5 V10 (.slice s1 (nmM N1 f.byr g.byr).length q1) (.slice s2 (nmM N2 f.lin g.lin).length q2) (.int .i64 g.amt) (.int .i64 g.dig) (.int .i64 g.qty) (Q := fun W => K _ W) ?_
                intro x35 V' oth far
                replace V4 := oth _ _ _ (by first | omega | assumption | (simp; omega)) V4
                replace V5 := oth _ _ _ (by first | omega | assumption | (simp; omega)) V5
                replace hs1 := LeS.farS hs1 V10 (noStr5 _ _ _ _ _ _ _ _ _) far.1
                replace hs2 := LeS.farS hs2 V10 (noStr5 _ _ _ _ _ _ _ _ _) far.1
                replace B0 := far.2 _ _ (by first | omega | (simp; omega)) B0
                replace V10 := V'
                clear oth far
                refine hK.out _ _ ⟨V4.f0, V4.f1, V4.f2, V4.f3, V4.f4, V5.f0, V5.f1, V5.f2, V5.f3, V5.f4⟩ (fun hHeld => ?_)
                clear hK K
                refine wpAnyH_done (by kernel_rfl) ?_ _
                refine NoPanic.normal ?_
                clear hHeld
                go_wp2_with fail
                go_meet
                exact ⟨_, s1, s2, q1, q2, rfl, V10, hs1, hs2, B0, by show _ ≤ _; omega⟩
        case rest =>
          clear V4 V5 B0
          obtain ⟨b10, s1, s2, q1, q2, rfl, V10', hs1', hs2', B0', hineq'⟩ := hcut
          have V10 := V10'.out
          have hs1 := hs1'.out
          have hs2 := hs2'.out
          have B0 := B0'.out
          have hineq := hineq'.out
          clear V10' hs1' hs2' B0' hineq'
          have iq0 := hineq
          clear hineq
          have HVS : Hid (Va wc b10 25 #[.slice s1 (nmM N1 f.byr g.byr).length q1, .slice s2 (nmM N2 f.lin g.lin).length q2, .int .i64 (bA ns f g 0), .int .i64 (bD ns f g 0), .int .i64 (bQ ns f g 0)]) := by obtain ⟨e1, e2, e3⟩ := bA_0 ns f g; show Va _ _ _ _; rw [e1, e2, e3]; exact V10
          have HH1 : Hid (LeS wc s1 (nmM N1 f.byr g.byr).length (nmM N1 f.byr g.byr)) := hs1
          have HH2 : Hid (LeS wc s2 (nmM N2 f.lin g.lin).length (nmM N2 f.lin g.lin)) := hs2
          have HBc : Hid (Below W2.heap.size W2 wc) := B0
          clear V10 hs1 hs2 B0
          obtain ⟨M1, hM1⟩ : ∃ M, (nmM N1 f.byr g.byr) = M := ⟨_, rfl⟩
          obtain ⟨M2, hM2⟩ : ∃ M, (nmM N2 f.lin g.lin) = M := ⟨_, rfl⟩
          have HM : Hid ((nmM N1 f.byr g.byr) = M1 ∧ (nmM N2 f.lin g.lin) = M2) := ⟨hM1, hM2⟩
          rw [hM1] at HVS HH1
          rw [hM2] at HVS HH2
          try rw [hM1]
          try rw [hM2]
          clear hM1 hM2
          go_wp2_with fail
          go_loopw [11] (fun j wr => ∃ i : Nat, j = .int .i64 i ∧ i ≤ ns.length ∧ Hid (Va wr b10 25 #[.slice s1 M1.length q1, .slice s2 M2.length q2, .int .i64 (bA ns f g i), .int .i64 (bD ns f g i), .int .i64 (bQ ns f g i)]) ∧ Hid (LeS wr s1 M1.length M1) ∧ Hid (LeS wr s2 M2.length M2) ∧ Hid (Below W2.heap.size W2 wr)) (fun j _ => (ns.length - (intOf j).toNat : Nat))
          case atStart => exact ⟨0, rfl, Nat.zero_le _, HVS.out, HH1.out, HH2.out, HBc.out⟩
          case round =>
            clear HVS HH1 HH2 HBc
            obtain ⟨i, rfl, hi, HV, H1, H2, HBr⟩ := hrel
            have V10 := HV.out
            have hs1 := H1.out
            have hs2 := H2.out
            have B0 := HBr.out
            clear HV H1 H2 HBr
            have V4 := HV4.out.after (step HX2.out B0)
            have h4w : w.heap.size < b10 := by have := HV4.out.lt; have := HX2.out.size; omega
            have hl64 : ns.length ≤ 64 := by
              rcases HC.out with h | h
              · rw [h]; simp
              · exact h.1
            rcases Nat.lt_or_ge i ns.length with hlt | hge
            ·
              have hii : (i : Int) < ns.length := by omega
              obtain ⟨b, off, rfl⟩ := HA.out.ex (by omega)
              obtain ⟨n, hn⟩ : ∃ n, ns.getD i nd0 = n := ⟨_, rfl⟩
              have HNd : Hid (ns.getD i nd0 = n) := hn
              clear hn
              have k0 : wr.cell? ⟨b, off + i * 6, none⟩ = some (.int .i64 n.kd) := (HA.out.after (step HB2.out B0)).at i hlt 0 _ (by rw [← HNd.out]; rfl)
              by_cases h6 : n.kd = 6
              ·
                have e6 : (n.kd == 6) = true := by simpa using h6
                have e7 : (n.kd == 7) = false := by rw [h6]; rfl
                have HEA : Hid (bA ns f g (i + 1) = f.amt ∧ bD ns f g (i + 1) = f.dig ∧ bQ ns f g (i + 1) = bQ ns f g i) := by
                  have h9 := bA_yes hlt f g (by rw [HNd.out]; exact h6)
                  exact ⟨h9.1, h9.2, bQ_no hlt f g (by rw [HNd.out, h6]; decide)⟩
                clear h6
                go_wp2_with fail
                clear k0
                refine wp_region_noPanic ?_
                replace V10 : Va wr.drew _ _ _ := V10
                replace V4 : Va wr.drew _ _ _ := V4
                replace hs1 := hs1.drw
                replace hs2 := hs2.drw
                replace B0 := Below.drew B0
                refine wp_region_held_drew (S := (fun W => W.cell? ⟨w.heap.size, 0, none⟩ = some (.slice a1 f.byr.length c1) ∧ W.cell? ⟨w.heap.size, 1, none⟩ = some (.slice a2 f.lin.length c2) ∧ W.cell? ⟨w.heap.size, 2, none⟩ = some (.int .i64 f.amt) ∧ W.cell? ⟨w.heap.size, 3, none⟩ = some (.int .i64 f.dig) ∧ W.cell? ⟨w.heap.size, 4, none⟩ = some (.int .i64 f.qty))) (by kernel_rfl) ⟨V4.f0, V4.f1, V4.f2, V4.f3, V4.f4⟩ (fun hHeld => ?_)
                obtain ⟨x61, hxd⟩ : ∃ xd, xd = wr.drew := ⟨_, rfl⟩
                rw [← hxd] at V10 V4 hs1 hs2 B0 hHeld ⊢
                clear hxd
                refine wpAnyH_take (i := 0) (v := ?_) rfl (by kernel_rfl) (by kernel_rfl) (by kernel_rfl) (fun _ _ _ h => h) (Or.inl ⟨by rfl, ?_⟩) hHeld ?_
                rotate_left
                · (intro W hSw; (try dsimp only at hSw); go_simp; all_goals (with_reducible rfl))
                simp only [List.getElem_toArray, List.getElem_cons_zero, Act.put, List.setIfInBounds_toArray, List.set_cons_zero, List.set_cons_succ]
                refine wpAnyH_take (i := 1) (v := ?_) rfl (by kernel_rfl) (by kernel_rfl) (by kernel_rfl) (fun _ _ _ h => h) (Or.inl ⟨by rfl, ?_⟩) hHeld ?_
                rotate_left
                · (intro W hSw; (try dsimp only at hSw); go_simp; all_goals (with_reducible rfl))
                simp only [List.getElem_toArray, List.getElem_cons_zero, List.getElem_cons_succ, Act.put, List.setIfInBounds_toArray, List.set_cons_zero, List.set_cons_succ]
                refine wpAnyH_take (i := 2) (v := ?_) rfl (by kernel_rfl) (by kernel_rfl) (by kernel_rfl) (fun _ _ _ h => h) (Or.inl ⟨by rfl, ?_⟩) hHeld ?_
                rotate_left
                · (intro W hSw; (try dsimp only at hSw); go_simp; all_goals (with_reducible rfl))
                simp only [List.getElem_toArray, List.getElem_cons_zero, List.getElem_cons_succ, Act.put, List.setIfInBounds_toArray, List.set_cons_zero, List.set_cons_succ]
                refine wpAnyH_take (i := 3) (v := ?_) rfl (by kernel_rfl) (by kernel_rfl) (by kernel_rfl) (fun _ _ _ h => h) (Or.inl ⟨by rfl, ?_⟩) hHeld ?_
                rotate_left
                · (intro W hSw; (try dsimp only at hSw); go_simp; all_goals (with_reducible rfl))
                simp only [List.getElem_toArray, List.getElem_cons_zero, List.getElem_cons_succ, Act.put, List.setIfInBounds_toArray, List.set_cons_zero, List.set_cons_succ]
                refine wpAnyH_take (i := 4) (v := ?_) rfl (by kernel_rfl) (by kernel_rfl) (by kernel_rfl) (fun _ _ _ h => h) (Or.inl ⟨by rfl, ?_⟩) hHeld ?_
                rotate_left
                · (intro W hSw; (try dsimp only at hSw); go_simp; all_goals (with_reducible rfl))
                simp only [List.getElem_toArray, List.getElem_cons_zero, List.getElem_cons_succ, Act.put, List.setIfInBounds_toArray, List.set_cons_zero, List.set_cons_succ]
                have c_V10 := V10.f0
                have f0_V10 := V10.frozen 0
                have d_V10 := V10.f1
                have f1_V10 := V10.frozen 1
                have e_V10 := V10.f2
                have f2_V10 := V10.frozen 2
                have j_V10 := V10.f3
                have f3_V10 := V10.frozen 3
                have k_V10 := V10.f4
                have f4_V10 := V10.frozen 4
                have l_V10 := V10.lt
                have m_V10 := Nat.le_of_lt l_V10
                refine wpAnyH_ready (rs := [5]) (by kernel_rfl) (by simp) ?_
                refine AllReadyH.cons rfl (fun K hK => ?_) AllReadyH.nil
                simp only [List.getElem_toArray, List.getElem_cons_zero, List.getElem_cons_succ]
                go_simp
                clear c_V10 f0_V10 d_V10 f1_V10 e_V10 f2_V10 j_V10 f3_V10 k_V10 f4_V10 l_V10 m_V10
                refine sto5i (cs := [.slice s1 M1.length q1, .slice s2 M2.length q2, .int .i64 (bA ns f g i), .int .i64 (bD ns f g i), .int .i64 (bQ ns f g i)]) V10 2 (.int .i64 f.amt) (Q := fun W => K _ W) ?_
                intro x62 V' oth far
                have V'' : Va x62 (b10) 25 #[.slice s1 M1.length q1, .slice s2 M2.length q2, .int .i64 f.amt, .int .i64 (bD ns f g i), .int .i64 (bQ ns f g i)] := V'
                replace V4 := oth _ _ _ (by first | omega | assumption | (simp; omega)) V4
                replace hs1 := LeS.farS hs1 V10 (noStr5 _ _ _ _ _ _ _ _ _) far.1
                replace hs2 := LeS.farS hs2 V10 (noStr5 _ _ _ _ _ _ _ _ _) far.1
                replace B0 := far.2 _ _ (by first | omega | (simp; omega)) B0
                clear V'
                replace V10 := V''
                clear oth far
                refine hK.out _ _ ⟨V4.f0, V4.f1, V4.f2, V4.f3, V4.f4⟩ (fun hHeld => ?_)
                clear hK K
                refine wpAnyH_take (i := 6) (v := ?_) rfl (by kernel_rfl) (by kernel_rfl) (by kernel_rfl) (fun _ _ _ h => h) (Or.inl ⟨by rfl, ?_⟩) hHeld ?_
                rotate_left
                · (intro W hSw; (try dsimp only at hSw); go_simp; all_goals (with_reducible rfl))
                simp only [List.getElem_toArray, List.getElem_cons_zero, List.getElem_cons_succ, Act.put, List.setIfInBounds_toArray, List.set_cons_zero, List.set_cons_succ]
                have c_V10 := V10.f0
                have f0_V10 := V10.frozen 0
                have d_V10 := V10.f1
                have f1_V10 := V10.frozen 1
                have e_V10 := V10.f2
                have f2_V10 := V10.frozen 2
                have j_V10 := V10.f3
                have f3_V10 := V10.frozen 3
                have k_V10 := V10.f4
                have f4_V10 := V10.frozen 4
                have l_V10 := V10.lt
                have m_V10 := Nat.le_of_lt l_V10
                refine wpAnyH_ready (rs := [7]) (by kernel_rfl) (by simp) ?_
                refine AllReadyH.cons rfl (fun K hK => ?_) AllReadyH.nil
                simp only [List.getElem_toArray, List.getElem_cons_zero, List.getElem_cons_succ]
                go_simp
                clear c_V10 f0_V10 d_V10 f1_V10 e_V10 f2_V10 j_V10 f3_V10 k_V10 f4_V10 l_V10 m_V10
                refine sto5i (cs := [.slice s1 M1.length q1, .slice s2 M2.length q2, .int .i64 f.amt, .int .i64 (bD ns f g i), .int .i64 (bQ ns f g i)]) V10 3 (.int .i64 f.dig) (Q := fun W => K _ W) ?_
                intro x63 V' oth far
                have V'' : Va x63 (b10) 25 #[.slice s1 M1.length q1, .slice s2 M2.length q2, .int .i64 f.amt, .int .i64 f.dig, .int .i64 (bQ ns f g i)] := V'
                replace V4 := oth _ _ _ (by first | omega | assumption | (simp; omega)) V4
                replace hs1 := LeS.farS hs1 V10 (noStr5 _ _ _ _ _ _ _ _ _) far.1
                replace hs2 := LeS.farS hs2 V10 (noStr5 _ _ _ _ _ _ _ _ _) far.1
                replace B0 := far.2 _ _ (by first | omega | (simp; omega)) B0
                clear V'
                replace V10 := V''
                clear oth far
                refine hK.out _ _ ⟨V4.f0, V4.f1, V4.f2, V4.f3, V4.f4⟩ (fun hHeld => ?_)
                clear hK K
                refine wpAnyH_done (by kernel_rfl) ?_ _
                refine NoPanic.normal ?_
                clear hHeld
                have k0 : x63.cell? ⟨b, off + i * 6, none⟩ = some (.int .i64 n.kd) := (HA.out.after (step HB2.out B0)).at i hlt 0 _ (by rw [← HNd.out]; rfl)
                go_wp2_with fail
                clear k0
                go_roundw
                case rel =>
                  refine ⟨i + 1, by go_num, by omega, ?_, hs1, hs2, B0⟩
                  rw [HEA.out.1, HEA.out.2.1, HEA.out.2.2]
                  exact V10
                case measure => simp [intOf]; omega
              ·
                have e6 : (n.kd == 6) = false := by simpa using h6
                by_cases h7 : n.kd = 7
                · have e7 : (n.kd == 7) = true := by simpa using h7
                  have HEA : Hid (bA ns f g (i + 1) = bA ns f g i ∧ bD ns f g (i + 1) = bD ns f g i ∧ bQ ns f g (i + 1) = f.qty) := by
                    have h9 := bA_no hlt f g (by rw [HNd.out]; exact h6)
                    exact ⟨h9.1, h9.2, bQ_yes hlt f g (by rw [HNd.out]; exact h7)⟩
                  clear h6 h7
                  have c_V10 := V10.f0
                  have f0_V10 := V10.frozen 0
                  have d_V10 := V10.f1
                  have f1_V10 := V10.frozen 1
                  have e_V10 := V10.f2
                  have f2_V10 := V10.frozen 2
                  have j_V10 := V10.f3
                  have f3_V10 := V10.frozen 3
                  have k_V10 := V10.f4
                  have f4_V10 := V10.frozen 4
                  have l_V10 := V10.lt
                  have m_V10 := Nat.le_of_lt l_V10
                  have c_V4 := V4.f0
                  have f0_V4 := V4.frozen 0
                  have d_V4 := V4.f1
                  have f1_V4 := V4.frozen 1
                  have e_V4 := V4.f2
                  have f2_V4 := V4.frozen 2
                  have j_V4 := V4.f3
                  have f3_V4 := V4.frozen 3
                  have k_V4 := V4.f4
                  have f4_V4 := V4.frozen 4
                  have l_V4 := V4.lt
                  have m_V4 := Nat.le_of_lt l_V4
                  go_upto_region 7 with fail
                  clear c_V10 f0_V10 d_V10 f1_V10 e_V10 f2_V10 j_V10 f3_V10 k_V10 f4_V10 l_V10 m_V10 c_V4 f0_V4 d_V4 f1_V4 e_V4 f2_V4 j_V4 f3_V4 k_V4 f4_V4 l_V4 m_V4
                  clear k0
                  refine sto5i (cs := [.slice s1 M1.length q1, .slice s2 M2.length q2, .int .i64 (bA ns f g i), .int .i64 (bD ns f g i), .int .i64 (bQ ns f g i)]) V10 4 (.int .i64 f.qty) (Q := fun W => Code.wp _ _ _ _ W) ?_
                  intro x64 V' oth far
                  have V'' : Va x64 (b10) 25 #[.slice s1 M1.length q1, .slice s2 M2.length q2, .int .i64 (bA ns f g i), .int .i64 (bD ns f g i), .int .i64 f.qty] := V'
                  replace V4 := oth _ _ _ (by first | omega | assumption | (simp; omega)) V4
                  replace hs1 := LeS.farS hs1 V10 (noStr5 _ _ _ _ _ _ _ _ _) far.1
                  replace hs2 := LeS.farS hs2 V10 (noStr5 _ _ _ _ _ _ _ _ _) far.1
                  replace B0 := far.2 _ _ (by first | omega | (simp; omega)) B0
                  clear V'
                  replace V10 := V''
                  clear oth far
                  go_wp2_with fail
                  go_roundw
                  case rel =>
                    refine ⟨i + 1, by go_num, by omega, ?_, hs1, hs2, B0⟩
                    rw [HEA.out.1, HEA.out.2.1, HEA.out.2.2]
                    exact V10
                  case measure => simp [intOf]; omega
                · have e7 : (n.kd == 7) = false := by simpa using h7
                  have HEA : Hid (bA ns f g (i + 1) = bA ns f g i ∧ bD ns f g (i + 1) = bD ns f g i ∧ bQ ns f g (i + 1) = bQ ns f g i) := by
                    have h9 := bA_no hlt f g (by rw [HNd.out]; exact h6)
                    exact ⟨h9.1, h9.2, bQ_no hlt f g (by rw [HNd.out]; exact h7)⟩
                  clear h6 h7
                  go_wp2_with fail
                  clear k0
                  go_roundw
                  case rel =>
                    refine ⟨i + 1, by go_num, by omega, ?_, hs1, hs2, B0⟩
                    rw [HEA.out.1, HEA.out.2.1, HEA.out.2.2]
                    exact V10
                  case measure => simp [intOf]; omega
            ·
              obtain rfl : i = ns.length := by omega
              clear hge hi
              have B1 : Below w.heap.size w wr := step HB2.out B0
              have HSb : Hid (B64 (bA ns f g ns.length) ∧ B64 (bD ns f g ns.length) ∧ B64 (bQ ns f g ns.length)) := ⟨b64_of _ HF.out.b1 HG.out.b1, b64_of _ HF.out.b2 HG.out.b2, b64_of _ HF.out.b3 HG.out.b3⟩
              have HSF : Hid ((⟨M1, M2, bA ns f g ns.length, bD ns f g ns.length, bQ ns f g ns.length⟩ : Fx) = sameF ns f g) := by
                show _ = _
                unfold sameF bA bD bQ
                rw [HN.out.1, HN.out.2, HM.out.1, HM.out.2, List.take_length]
              obtain ⟨am, ham⟩ : ∃ x, bA ns f g ns.length = x := ⟨_, rfl⟩
              obtain ⟨dg, hdg⟩ : ∃ x, bD ns f g ns.length = x := ⟨_, rfl⟩
              obtain ⟨qt, hqt⟩ : ∃ x, bQ ns f g ns.length = x := ⟨_, rfl⟩
              rw [ham, hdg, hqt] at V10 HSb HSF
              clear ham hdg hqt
              have D5 := fit_any M1 M2 s1 q1 s2 q2 am dg qt wr hs1 hs2
              obtain ⟨e3, he3⟩ : ∃ x, ftE M1 M2 am dg qt = x := ⟨_, rfl⟩
              have HE3 : Hid (ftE M1 M2 am dg qt = e3) := he3
              rw [he3] at D5
              clear he3
              have c_V10 := V10.f0
              have f0_V10 := V10.frozen 0
              have d_V10 := V10.f1
              have f1_V10 := V10.frozen 1
              have e_V10 := V10.f2
              have f2_V10 := V10.frozen 2
              have j_V10 := V10.f3
              have f3_V10 := V10.frozen 3
              have k_V10 := V10.f4
              have f4_V10 := V10.frozen 4
              have l_V10 := V10.lt
              have m_V10 := Nat.le_of_lt l_V10
              go_wp2_with fail
              clear c_V10 f0_V10 d_V10 f1_V10 e_V10 f2_V10 j_V10 f3_V10 k_V10 f4_V10 l_V10 m_V10
              refine Calls.mono D5 ?_
              rintro e W6 ⟨rfl, hb⟩
              replace V10 := Va.after hb V10
              replace V4 := Va.after hb V4
              replace hs1 := LeS.after hb hs1
              replace hs2 := LeS.after hb hs2
              replace B0 := step B0 hb
              replace B1 := step B1 hb
              clear D5 hb
              by_cases z3 : e3 = 0
              ·
                subst z3
                have HO3 : Hid ((⟨M1, M2, am, dg, qt⟩ : Fx).Ok) := Classical.byContradiction (fun h => by have h9 := HE3.out; rw [ftE_no h] at h9; cases h9)
                have D6 := holds_any ns xa ca a1 c1 a2 c2 f W6 (HA.out.after B1) H6.out (HF.out.after B1) (HT.out.to B1)
                have e9 : hoE ns f = 0 ∧ hoB ns f = hoV ns f.vf := by
                  have h8 : f.Ok := HO1.out
                  exact hoE0 HC.out h8
                obtain ⟨RB, hRB⟩ : ∃ x, hoV ns f.vf = x := ⟨_, rfl⟩
                rw [e9.1, e9.2, hRB] at D6
                clear e9
                have c_V4 := V4.f0
                have f0_V4 := V4.frozen 0
                have d_V4 := V4.f1
                have f1_V4 := V4.frozen 1
                have e_V4 := V4.f2
                have f2_V4 := V4.frozen 2
                have j_V4 := V4.f3
                have f3_V4 := V4.frozen 3
                have k_V4 := V4.f4
                have f4_V4 := V4.frozen 4
                have l_V4 := V4.lt
                have m_V4 := Nat.le_of_lt l_V4
                go_wp2_with fail
                clear c_V4 f0_V4 d_V4 f1_V4 e_V4 f2_V4 j_V4 f3_V4 k_V4 f4_V4 l_V4 m_V4
                refine Calls.mono D6 ?_
                rintro e W7 ⟨rfl, hb⟩
                replace V10 := Va.after hb V10
                replace V4 := Va.after hb V4
                replace hs1 := LeS.after hb hs1
                replace hs2 := LeS.after hb hs2
                replace B0 := step B0 hb
                replace B1 := step B1 hb
                clear D6 hb
                have D7 := holds_any ns xa ca s1 q1 s2 q2 ⟨M1, M2, am, dg, qt⟩ W7 (HA.out.after B1) H6.out ⟨hs1, hs2, HSb.out.1, HSb.out.2.1, HSb.out.2.2⟩ (HT.out.to B1)
                have e9 : hoE ns ⟨M1, M2, am, dg, qt⟩ = 0 ∧ hoB ns ⟨M1, M2, am, dg, qt⟩ = RB := by
                  have h := hoE0 HC.out HO3.out
                  refine ⟨h.1, ?_⟩
                  rw [h.2, HSF.out, blind HC.out, hRB]
                rw [e9.1, e9.2] at D7
                clear e9 hRB
                have c_V10 := V10.f0
                have f0_V10 := V10.frozen 0
                have d_V10 := V10.f1
                have f1_V10 := V10.frozen 1
                have e_V10 := V10.f2
                have f2_V10 := V10.frozen 2
                have j_V10 := V10.f3
                have f3_V10 := V10.frozen 3
                have k_V10 := V10.f4
                have f4_V10 := V10.frozen 4
                have l_V10 := V10.lt
                have m_V10 := Nat.le_of_lt l_V10
                go_wp2_with fail
                clear c_V10 f0_V10 d_V10 f1_V10 e_V10 f2_V10 j_V10 f3_V10 k_V10 f4_V10 l_V10 m_V10
                refine Calls.mono D7 ?_
                rintro e W8 ⟨rfl, hb⟩
                replace B1 := step B1 hb
                clear D7 hb V4 V10 hs1 hs2 B0
                have D9 := awake13 _ (HT.out.to B1)
                have eRB : (RB == RB) = true := by simp
                go_wp2_with fail
                refine Calls.mono D9 ?_
                rintro e Wz ⟨rfl, hbz⟩
                have Bz := step B1 hbz
                clear D9 hbz
                go_wp2_with fail
                go_ret
                exact ⟨rfl, Bz⟩
              ·
                have z3' : (e3 != 0) = true := by simpa using z3
                have z3n : (e3 == 0) = false := by simpa using z3
                have D9 := awake13 _ (HT.out.to B1)
                go_wp2_with fail
                refine Calls.mono D9 ?_
                rintro e Wz ⟨rfl, hbz⟩
                have Bz := step B1 hbz
                clear D9 hbz
                go_wp2_with fail
                go_ret
                exact ⟨rfl, Bz⟩
      ·
        have z2' : (e2 != 0) = true := by simpa using z2
        have z2n : (e2 == 0) = false := by simpa using z2
        have D9 := awake13 _ (HT.out.to HB4.out)
        go_wp2_with fail
        refine Calls.mono D9 ?_
        rintro e Wz ⟨rfl, hbz⟩
        have Bz := step HB4.out hbz
        clear D9 hbz
        go_wp2_with fail
        go_ret
        exact ⟨rfl, Bz⟩
    ·
      have z1' : (e1 != 0) = true := by simpa using z1
      have z1n : (e1 == 0) = false := by simpa using z1
      have D9 := awake13 _ (HT.out.to HB3.out)
      go_wp2_with fail
      refine Calls.mono D9 ?_
      rintro e Wz ⟨rfl, hbz⟩
      have Bz := step HB3.out hbz
      clear D9 hbz
      go_wp2_with fail
      go_ret
      exact ⟨rfl, Bz⟩
  ·
    have D1 := names_no ns xa ca W1 (HA.out.after HB1.out) H6.out hc
    clear hc
    go_wp2_with fail
    refine Calls.mono D1 ?_
    rintro e W2 ⟨rfl, hb⟩
    have HB2 : Hid (Below w.heap.size w W2) := step HB1.out hb
    clear D1 hb
    have D9 := awake13 _ (HT.out.to HB2.out)
    go_wp2_with fail
    refine Calls.mono D9 ?_
    rintro e Wz ⟨rfl, hbz⟩
    have Bz := step HB2.out hbz
    clear D9 hbz
    go_wp2_with fail
    go_ret
    exact ⟨rfl, Bz⟩
end Go.Proofs.YthladfhjhanhlaaGreatDoor
