/-
  traits: opposite, bothForms.
-/
import Derived.Test.YtblafbbnplfpjaaGreatDoorTra
import Derived.Test.YtblafbbnplfpjaaGreatDoorMgAm
import Derived.Test.YtblafbbnplfpjaaGreatDoorMgAi
namespace Go.Proofs.YtblafbbnplfpjaaGreatDoor
open Go.RowKit Go.Shelf
set_option linter.unusedVariables false

theorem opposite_any (op : Int) (h1 : 1 ≤ op) (h4 : op ≤ 4) (w : World) : Calls Tryz.prog 69 #[.int .i64 op] w fun e w' => e = .returned (.int .i64 (5 - op)) ∧ w' = w := by
  have : op = 1 ∨ op = 2 ∨ op = 3 ∨ op = 4 := by omega
  rcases this with rfl | rfl | rfl | rfl <;> (clear h1 h4; go_enter Tryz.func69, Tryz.ntmps69; go_wp2_with fail; go_ret; exact ⟨rfl, rfl⟩)
theorem results_f {fn : Func} {i b : Nat} {x y : Value} {tmps : Array Value} {w : World} (h : fn.results = #[.cell i 76]) (hi : tmps.getD i undef = .pointer (some ⟨b, 0, none⟩)) (hv : Va w b 76 #[x, y]) :
    (results fn tmps).run Tryz.prog w = .ok (.agg #[x, y]) w := by
  have c := hv.c0; have d := hv.c1
  rw [Array.getD_eq_getD_getElem?] at hi
  simp [results, h, hi, c, d, go_sem]
/-- Two forms in memory, from the block B on. -/
def FmR (B : Nat) (W : World) (x : Fm) (y n : List Nd) : Prop := Ge elN W B (.slice x.ya x.yl x.yc) y ∧ Ge elN W B (.slice x.na x.nl x.nc) n
theorem Ge.blk {w : World} {B g n cap : Nat} {xs : List Nd} (h : Ge elN w B (.slice (some ⟨g, 0, none⟩) n cap) xs) : B ≤ g ∧ ∃ cur, w.heap[g]? = some (.cells cur 48 (0, 0)) := by
  obtain ⟨h1, h2 | ⟨g', cap', cur, e, hB, hh, r⟩⟩ := h
  · cases h2.1
  · cases e; exact ⟨hB, cur, hh⟩
/-- Rows of nodes from B on are kept. -/
def KpN (B : Nat) (W W' : World) : Prop := ∀ g cur, B ≤ g → W.heap[g]? = some (.cells cur 48 (0, 0)) → W'.heap[g]? = W.heap[g]?
theorem Ge.kp {W W' : World} {B : Nat} {v : Value} {xs : List Nd} (h : Ge elN W B v xs) (hk : KpN B W W') : Ge elN W' B v xs := by
  obtain ⟨h1, h2 | ⟨g, cap, cur, e, hB, hh, r⟩⟩ := h
  · exact ⟨h1, .inl h2⟩
  · exact ⟨h1, .inr ⟨g, cap, cur, e, hB, by rw [hk g cur hB hh]; exact hh, r⟩⟩
theorem FmR.kp {W W' : World} {B : Nat} {x : Fm} {y n : List Nd} (h : FmR B W x y n) (hk : KpN B W W') : FmR B W' x y n := ⟨h.1.kp hk, h.2.kp hk⟩
theorem kp_below {B : Nat} {W W' : World} (h : Below W.heap.size W W') : KpN B W W' := fun g cur _ hh => h.block g (Array.getElem?_eq_some_iff.1 hh).1
theorem kp_gr {B g0 : Nat} {W W' : World} (h : W.grownBy W' (some g0)) (hB : g0 < B) : KpN B W W' := fun g cur hg hh => h.block g (Array.getElem?_eq_some_iff.1 hh).1 (fun e => by cases e; omega)
theorem kp_own {α : Type} {E : El α} {B B' : Nat} {W W' : World} {v : Value} {xs : List α} (h : W.grownBy W' v.ownBlock) (hg : Ge E W B' v xs) (ht : E.te ≠ 48) : KpN B W W' := fun g cur _ hh => h.block g (Array.getElem?_eq_some_iff.1 hh).1 (fun e => by
  obtain ⟨h1, h2 | ⟨g', cap, cur', e', hB, hh', r⟩⟩ := hg
  · rw [h2.1] at e; cases e
  · rw [e'] at e
    cases e
    rw [hh] at hh'
    simp only [Option.some.injEq, Obj.cells.injEq] at hh'
    exact ht hh'.2.1.symm)
theorem kp_trans {B : Nat} {a b c : World} (h : KpN B a b) (k : KpN B b c) : KpN B a c := fun g cur hg hh => by
  have e := h g cur hg hh
  rw [k g cur hg (by rw [e]; exact hh), e]
/-- Forms in a list. -/
def FmL (B : Nat) (W : World) (xs : List Fm) (ys ns : List (List Nd)) : Prop := ys.length = xs.length ∧ ns.length = xs.length ∧ ∀ i, i < xs.length → FmR B W (xs.getD i fm0) (ys.getD i []) (ns.getD i [])
theorem FmL.kp {W W' : World} {B : Nat} {xs : List Fm} {ys ns : List (List Nd)} (h : FmL B W xs ys ns) (hk : KpN B W W') : FmL B W' xs ys ns := ⟨h.1, h.2.1, fun i hi => (h.2.2 i hi).kp hk⟩
theorem getD_app {α : Type} (l : List α) (x d : α) (i : Nat) (h : i < (l ++ [x]).length) : (l ++ [x]).getD i d = if i < l.length then l.getD i d else x := by
  rw [List.length_append, List.length_singleton] at h
  split
  · rename_i h'
    rw [List.getD_eq_getElem?_getD, List.getElem?_append_left h', ← List.getD_eq_getElem?_getD]
  · rename_i h'
    obtain rfl : i = l.length := by omega
    simp
theorem FmL.snoc {W : World} {B : Nat} {xs : List Fm} {ys ns : List (List Nd)} {x : Fm} {y n : List Nd} (h : FmL B W xs ys ns) (k : FmR B W x y n) : FmL B W (xs ++ [x]) (ys ++ [y]) (ns ++ [n]) := by
  refine ⟨by simp [h.1], by simp [h.2.1], fun i hi => ?_⟩
  rw [getD_app _ _ _ _ hi, getD_app _ _ _ _ (by simp [h.1] at hi ⊢; omega), getD_app _ _ _ _ (by simp [h.2.1] at hi ⊢; omega), h.1, h.2.1]
  split
  · exact h.2.2 i (by assumption)
  · exact k
theorem fl_head (neg : Bool) : ∀ (a : Fo) (o : Int) (d : Nat), a.Ok wdB o (d + 1) → ∀ l ∈ a.fl neg, ∃ m j, l = (Fo.cons m j .nil).flat ∧ (Fo.cons m j .nil).Ok wdB 0 d
  | .nil, _, _, _, l, hl => by simp [Fo.fl] at hl
  | .cons n k r, o, d, h, l, hl => by
    simp only [Fo.fl, List.mem_cons] at hl
    rcases hl with rfl | hl
    · have h1 : (Fo.cons n k .nil).Ok wdB o (d + 1) := ⟨h.1, trivial⟩
      have h2 := plain_len _ neg _ _ h1
      have h3 := plain_ok _ neg o d (h1.mono (by cases neg <;> simp))
      match e : (Fo.cons n k .nil).plain neg, h2 with
      | .cons m j .nil, _ => exact ⟨m, j, rfl, by rw [e] at h3; exact h3⟩
    · exact fl_head neg r o d h.2 l hl
theorem kdR_of {B : Nat} {W : World} {xs : List Fm} {k : Fo} {o : Int} {d : Nat} (hok : k.Ok wdB o (d + 1)) (h64 : k.flat.length ≤ 64) (h : FmL B W xs (k.fl false) (k.fl true)) (neg : Bool) (c : Int) (hc : c = 1 ∨ c = 2) : ∀ i, i < xs.length → KdR W neg c (xs.getD i fm0) ((k.fl neg).getD i []) := by
  intro i hi
  have hr := h.2.2 i hi
  have hl : (k.fl neg).length = xs.length := by cases neg; exact h.1; exact h.2.1
  have hg : Ge elN W B (.slice ((xs.getD i fm0).ad neg) ((xs.getD i fm0).ln neg) ((xs.getD i fm0).cp neg)) ((k.fl neg).getD i []) := by
    cases neg
    · exact hr.1
    · exact hr.2
  have hmem : (k.fl neg).getD i [] ∈ k.fl neg := by
    rw [List.getD_eq_getElem?_getD, List.getElem?_eq_getElem (by omega)]; exact List.getElem_mem _
  obtain ⟨m, j, e, ok⟩ := fl_head neg k o d hok _ hmem
  have hsz := (fl_ne (W := wdB) neg k o (d + 1) hok _ hmem).2
  obtain ⟨a', cap', e', h1, h2, h3⟩ := hg.shape
  have hle := hg.toLe
  generalize (k.fl neg).getD i [] = t at *
  simp only [Value.slice.injEq] at e'
  refine ⟨e'.2.1, by rw [e'.2.2]; exact h1, by rw [e'.2.2]; exact h2, by rw [e'.2.1] at hle; exact hle, by rw [e]; simp [Fo.flat], by omega, fun hk => ?_⟩
  rw [e] at hk ⊢
  have hj := Fo.len_flat j
  have hh : ((Fo.cons m j .nil).flat.headD nd0) = m := rfl
  rw [hh] at hk ⊢
  have hks := ok.1.2.2.2.1
  have h5 : (Fo.cons m j .nil).flat.length = j.flat.length + 1 := by simp [Fo.flat]
  rw [e, h5] at hsz
  have h6 : 2 ≤ m.ks := by
    rcases ok.1.1 with ⟨-, h, -⟩ | ⟨h, -⟩ | ⟨h | h, -⟩ | ⟨h | h, -⟩
    · exact h
    all_goals omega
  rw [h5]
  exact ⟨by omega, by omega, by omega⟩
theorem two_new (W2 : World) (s : Nat) (hs : W2.heap.size = s) (t1 : TypeId) (c1 : Array Value) (t2 : TypeId) (c2 : Array Value) : Va ((W2.alloc (.cells c1 t1)).alloc (.cells c2 t2)) s t1 c1 ∧ Va ((W2.alloc (.cells c1 t1)).alloc (.cells c2 t2)) (s + 1) t2 c2 := by
  subst hs
  exact ⟨(Va.new W2 t1 c1).old _, by have := Va.new (W2.alloc (.cells c1 t1)) t2 c2; rwa [World.size_alloc] at this⟩
theorem stn3 {W : World} {b : Nat} {t : TypeId} {x0 x1 x2 x3 x4 x5 : Value} (h : Va W b t #[x0, x1, x2, x3, x4, x5]) (y : Value) {Q : World → Prop}
    (k : ∀ V, Va V b t #[x0, x1, x2, y, x4, x5] → W.grownBy V (some b) → V.heap.size = W.heap.size → Q V) : Q (W.setCell ⟨b, 3, none⟩ y) :=
  k _ (by
    unfold Va at *
    simp only [World.setCell]
    rw [Array.getElem?_modify, if_pos rfl, h]
    simp) (gr_set (gr_refl W b) 3 y) (by simp [World.setCell])
theorem fa2b (w : World) (b : Nat) (x y : Value) : ∀ c, c ≠ b → ((w.setCell ⟨b, 0, none⟩ x).setCell ⟨b, 1, none⟩ y).heap[c]? = w.heap[c]? := fun c hc => (Below.heap_setCell _ ⟨b, 1, none⟩ _ _ hc).trans (Below.heap_setCell _ ⟨b, 0, none⟩ _ _ hc)
theorem cell_far2 (w : World) {b c : Nat} (h : c ≠ b) (i : Nat) (x y : Value) : ((w.setCell ⟨b, 0, none⟩ x).setCell ⟨b, 1, none⟩ y).cell? ⟨c, i, none⟩ = w.cell? ⟨c, i, none⟩ := by
  simp only [World.cell?, fa2b w b x y c h]
/-- What bothForms ends with. -/
def BfE (B : Nat) (n : Nd) (ys ns : List (List Nd)) (w : World) (e : Ending) (w' : World) : Prop := ∃ x : Fm, e = .returned (fmv x) ∧ FmR B w' x (frm n ys ns false) (frm n ys ns true) ∧ Below w.heap.size w w'
set_option maxHeartbeats 8000000 in
theorem both_any (B : Nat) (n : Nd) (k : Fo) (o : Int) (d : Nat) (hok : (Fo.cons n k .nil).Ok wdB o d) (h64 : k.flat.length ≤ 64) (xs : List Fm) (ak : Option Addr) (ck : Nat) (w : World) (hB : B ≤ w.heap.size) (hK : Le elF w ak xs.length xs) (hF : FmL B w xs (k.fl false) (k.fl true)) :
    Calls Tryz.prog 41 #[nv n, .slice ak xs.length ck] w (BfE B n (k.fl false) (k.fl true) w) := by
  obtain ⟨⟨hn, -, -, hks, okk⟩, -⟩ := hok
  have HK : Hid (Le elF w ak xs.length xs) := hK
  have HF : Hid (FmL B w xs (k.fl false) (k.fl true)) := hF
  have hxl : xs.length ≤ 64 := by have h1 := hF.1; rw [fl_len] at h1; have h2 := Fo.len_flat k; omega
  have hxk : xs.length = k.len := by have h1 := hF.1; rw [fl_len] at h1; omega
  have HQ : Hid (∀ (W : World), Below w.heap.size w W → ∀ neg c, c = 1 ∨ c = 2 → Le elF W ak xs.length xs ∧ ∀ i, i < xs.length → KdR W neg c (xs.getD i fm0) ((k.fl neg).getD i [])) := fun W hb neg c hc => ⟨hK.after hb, kdR_of okk h64 (hF.kp (kp_below hb)) neg c hc⟩
  have HE1 : Hid ((k.fl false).length = xs.length ∧ (k.fl true).length = xs.length) := ⟨hF.1, hF.2.1⟩
  obtain ⟨kd, ks, nm, op, un, pl⟩ := n
  dsimp only [nv] at *
  generalize hys : k.fl false = ys at *
  generalize hns : k.fl true = ns at *
  replace HQ : Hid (∀ (W : World), Below w.heap.size w W → ∀ c, c = 1 ∨ c = 2 → Le elF W ak xs.length xs ∧ (∀ i, i < xs.length → KdR W false c (xs.getD i fm0) (ys.getD i [])) ∧ (∀ i, i < xs.length → KdR W true c (xs.getD i fm0) (ns.getD i []))) := fun W hb c hc => ⟨(HQ.out W hb false c hc).1, by rw [← hys]; exact (HQ.out W hb false c hc).2, by rw [← hns]; exact (HQ.out W hb true c hc).2⟩
  clear hys hns okk hF hK h64

  by_cases k1 : kd = 1
  · subst k1
    clear hn hks hxk
    go_enter Tryz.func41, Tryz.ntmps41
    go_upto_region 1 with fail
    refine ent2 w _ _ _ _ (Q := fun W => Code.wp _ _ _ _ W) ?_
    intro W1 hb1 hs1 V0 V1
    have m0 := V0.n0
    have HV1 : Hid (Va W1 (w.heap.size + 1) 76 #[.slice none 0 0, .slice none 0 0]) := V1
    have HB1 : Hid (Below w.heap.size w W1) := hb1
    have q1 := HQ.out W1 hb1 1 (by decide)
    have D1 := gather_yes 1 (by decide) xs ak ck ys W1 q1.1 hxl HE1.out.1 q1.2.1
    clear q1 V0 V1 hb1
    go_wp2_with fail
    refine D1.mono ?_
    rintro e W2 ⟨a3, c3, rfl, hg3, hb3⟩
    have HG3 : Hid (Ge elN W2 W1.heap.size (.slice a3 ((gatL 1 ys).length + 1) c3) (gN 1 ys :: gatL 1 ys)) := hg3
    have hb13 := step HB1.out hb3
    have hs12 := hb3.size
    have HV2 : Hid (Va W2 (w.heap.size + 1) 76 #[.slice none 0 0, .slice none 0 0]) := HV1.out.after hb3
    have HB2 : Hid (Below w.heap.size w W2) := hb13
    have q2 := HQ.out W2 hb13 2 (by decide)
    have D2 := gather_no 2 (by decide) xs ak ck ns W2 q2.1 hxl HE1.out.2 q2.2.2
    clear q2 D1 hg3 hb3 hb13 HV1 HB1
    go_wp2_with fail
    refine D2.mono ?_
    rintro e W3 ⟨a4, c4, rfl, hg4, hb4⟩
    have HG4 : Hid (Ge elN W3 W2.heap.size (.slice a4 ((gatL 2 ns).length + 1) c4) (gN 2 ns :: gatL 2 ns)) := hg4
    have HG5 : Hid (Ge elN W3 W1.heap.size (.slice a3 ((gatL 1 ys).length + 1) c3) (gN 1 ys :: gatL 1 ys)) := HG3.out.after hb4
    have V3 := HV2.out.after hb4
    have B3 := step HB2.out hb4
    have v0 := V3.c0
    have v1 := V3.c1
    have f0 := V3.frozen 0
    have f1 := V3.frozen 1
    have hsz2 := HB2.out.size
    skip
    clear D2 hg4 hb4 HG3 HV2
    go_wp2_with fail
    refine bodyPost_ret (results_f rfl rfl (V3.set2 _ _)) rfl ?_
    refine ⟨⟨a3, (gatL 1 ys).length + 1, c3, a4, (gatL 2 ns).length + 1, c4⟩, rfl, ⟨?_, ?_⟩, below_2 B3 (by omega) _ _⟩
    · exact Ge.kept (HG5.out.le (by omega)) (fun g hg => fa2b _ _ _ _ g (by have := HG5.out.block g hg; omega))
    · exact Ge.kept (HG4.out.le (by omega)) (fun g hg => fa2b _ _ _ _ g (by have := HG4.out.block g hg; omega))
  by_cases k2 : kd = 2
  · subst k2
    clear hn hks hxk
    go_enter Tryz.func41, Tryz.ntmps41
    go_upto_region 1 with fail
    refine ent2 w _ _ _ _ (Q := fun W => Code.wp _ _ _ _ W) ?_
    intro W1 hb1 hs1 V0 V1
    have m0 := V0.n0
    have HV1 : Hid (Va W1 (w.heap.size + 1) 76 #[.slice none 0 0, .slice none 0 0]) := V1
    have HB1 : Hid (Below w.heap.size w W1) := hb1
    have q1 := HQ.out W1 hb1 2 (by decide)
    have D1 := gather_yes 2 (by decide) xs ak ck ys W1 q1.1 hxl HE1.out.1 q1.2.1
    clear q1 V0 V1 hb1
    go_wp2_with fail
    refine D1.mono ?_
    rintro e W2 ⟨a3, c3, rfl, hg3, hb3⟩
    have HG3 : Hid (Ge elN W2 W1.heap.size (.slice a3 ((gatL 2 ys).length + 1) c3) (gN 2 ys :: gatL 2 ys)) := hg3
    have hb13 := step HB1.out hb3
    have hs12 := hb3.size
    have HV2 : Hid (Va W2 (w.heap.size + 1) 76 #[.slice none 0 0, .slice none 0 0]) := HV1.out.after hb3
    have HB2 : Hid (Below w.heap.size w W2) := hb13
    have q2 := HQ.out W2 hb13 1 (by decide)
    have D2 := gather_no 1 (by decide) xs ak ck ns W2 q2.1 hxl HE1.out.2 q2.2.2
    clear q2 D1 hg3 hb3 hb13 HV1 HB1
    go_wp2_with fail
    refine D2.mono ?_
    rintro e W3 ⟨a4, c4, rfl, hg4, hb4⟩
    have HG4 : Hid (Ge elN W3 W2.heap.size (.slice a4 ((gatL 1 ns).length + 1) c4) (gN 1 ns :: gatL 1 ns)) := hg4
    have HG5 : Hid (Ge elN W3 W1.heap.size (.slice a3 ((gatL 2 ys).length + 1) c3) (gN 2 ys :: gatL 2 ys)) := HG3.out.after hb4
    have V3 := HV2.out.after hb4
    have B3 := step HB2.out hb4
    have v0 := V3.c0
    have v1 := V3.c1
    have f0 := V3.frozen 0
    have f1 := V3.frozen 1
    have hsz2 := HB2.out.size
    skip
    clear D2 hg4 hb4 HG3 HV2
    go_wp2_with fail
    refine bodyPost_ret (results_f rfl rfl (V3.set2 _ _)) rfl ?_
    refine ⟨⟨a3, (gatL 2 ys).length + 1, c3, a4, (gatL 1 ns).length + 1, c4⟩, rfl, ⟨?_, ?_⟩, below_2 B3 (by omega) _ _⟩
    · exact Ge.kept (HG5.out.le (by omega)) (fun g hg => fa2b _ _ _ _ g (by have := HG5.out.block g hg; omega))
    · exact Ge.kept (HG4.out.le (by omega)) (fun g hg => fa2b _ _ _ _ g (by have := HG4.out.block g hg; omega))
  by_cases k3 : kd = 3
  · subst k3
    have h1 : xs.length = 1 := by
      have : ks = 1 := by rcases hn with ⟨h, -⟩ | ⟨-, h, -⟩ | ⟨h, -⟩ | ⟨h, -⟩ <;> dsimp only at h <;> omega
      omega
    obtain ⟨x, rfl⟩ : ∃ x, xs = [x] := by
      match xs, h1 with
      | [x], _ => exact ⟨x, rfl⟩
    obtain ⟨bk, ofk, rfl⟩ := HK.out.ex (by simp)
    have HX : Hid (FmR B w x (ys.getD 0 []) (ns.getD 0 [])) := HF.out.2.2 0 (by simp)
    have HYN : Hid (ys.getD 0 [] = ys.headD [] ∧ ns.getD 0 [] = ns.headD []) := ⟨by cases ys <;> rfl, by cases ns <;> rfl⟩
    clear h1 hks hxk hxl hn HQ HE1
    go_enter Tryz.func41, Tryz.ntmps41
    go_upto_region 1 with fail
    refine ent2 w _ _ _ _ (Q := fun W => Code.wp _ _ _ _ W) ?_
    intro W1 hb1 hs1 V0 V1
    have m0 := V0.n0
    have L1 := HK.out.after hb1
    have t0 : W1.cell? ⟨bk, ofk, none⟩ = some (.slice x.ya x.yl x.yc) := by have := L1.at 0 (by simp) 0 _ rfl; simpa [elF] using this
    have t1 : W1.cell? ⟨bk, ofk + 1, none⟩ = some (.slice x.na x.nl x.nc) := by have := L1.at 0 (by simp) 1 _ rfl; simpa [elF] using this
    have hbk : bk < w.heap.size := HK.out.lt (by simp)
    have HB1 : Hid (Below w.heap.size w W1) := hb1
    have HV1 : Hid (Va W1 (w.heap.size + 1) 76 #[.slice none 0 0, .slice none 0 0]) := V1
    clear L1 V0 V1 hb1
    go_wp2_with fail
    refine wp_region_noPanic ?_
    replace HV1 : Hid (Va W1.drew (w.heap.size + 1) 76 #[.slice none 0 0, .slice none 0 0]) := HV1
    replace HB1 : Hid (Below w.heap.size w W1.drew) := HB1.out.drew
    replace t0 : W1.drew.cell? ⟨bk, ofk, none⟩ = some (.slice x.ya x.yl x.yc) := t0
    replace t1 : W1.drew.cell? ⟨bk, ofk + 1, none⟩ = some (.slice x.na x.nl x.nc) := t1
    refine wp_region_held_drew (S := fun W => W.cell? ⟨bk, ofk, none⟩ = some (.slice x.ya x.yl x.yc) ∧ W.cell? ⟨bk, ofk + 1, none⟩ = some (.slice x.na x.nl x.nc)) (by kernel_rfl) ⟨t0, t1⟩ (fun hHeld => ?_)
    obtain ⟨xd, hxd⟩ : ∃ xd, xd = W1.drew := ⟨_, rfl⟩
    rw [← hxd] at HV1 HB1 t0 t1 hHeld ⊢
    clear hxd
    refine wpAnyH_take (i := 0) (v := ?_) rfl (by kernel_rfl) (by kernel_rfl) (by kernel_rfl) (fun _ _ _ h => h) (Or.inl ⟨by rfl, ?_⟩) hHeld ?_
    rotate_left
    · (intro W hSw; (try dsimp only at hSw); go_simp; all_goals (with_reducible rfl))
    simp only [List.getElem_toArray, List.getElem_cons_zero, Act.put, List.setIfInBounds_toArray, List.set_cons_zero, List.set_cons_succ]
    refine wpAnyH_take (i := 1) (v := ?_) rfl (by kernel_rfl) (by kernel_rfl) (by kernel_rfl) (fun _ _ _ h => h) (Or.inl ⟨by rfl, ?_⟩) hHeld ?_
    rotate_left
    · (intro W hSw; (try dsimp only at hSw); go_simp; all_goals (with_reducible rfl))
    simp only [List.getElem_toArray, List.getElem_cons_zero, List.getElem_cons_succ, Act.put, List.setIfInBounds_toArray, List.set_cons_zero, List.set_cons_succ]
    refine wpAnyH_take (i := 2) (v := ?_) rfl (by kernel_rfl) (by kernel_rfl) (by kernel_rfl) (fun _ _ _ h => h) (Or.inl ⟨by rfl, ?_⟩) hHeld ?_
    rotate_left
    · (intro W hSw; (try dsimp only at hSw); go_simp; all_goals (with_reducible rfl))
    simp only [List.getElem_toArray, List.getElem_cons_zero, List.getElem_cons_succ, Act.put, List.setIfInBounds_toArray, List.set_cons_zero, List.set_cons_succ]
    refine wpAnyH_take (i := 3) (v := ?_) rfl (by kernel_rfl) (by kernel_rfl) (by kernel_rfl) (fun _ _ _ h => h) (Or.inl ⟨by rfl, ?_⟩) hHeld ?_
    rotate_left
    · (intro W hSw; (try dsimp only at hSw); go_simp; all_goals (with_reducible rfl))
    simp only [List.getElem_toArray, List.getElem_cons_zero, List.getElem_cons_succ, Act.put, List.setIfInBounds_toArray, List.set_cons_zero, List.set_cons_succ]
    refine wpAnyH_take (i := 4) (v := ?_) rfl (by kernel_rfl) (by kernel_rfl) (by kernel_rfl) (fun _ _ _ h => h) (Or.inl ⟨by rfl, ?_⟩) hHeld ?_
    rotate_left
    · (intro W hSw; (try dsimp only at hSw); go_simp; all_goals (with_reducible rfl))
    simp only [List.getElem_toArray, List.getElem_cons_zero, List.getElem_cons_succ, Act.put, List.setIfInBounds_toArray, List.set_cons_zero, List.set_cons_succ]
    refine wpAnyH_take (i := 5) (v := ?_) rfl (by kernel_rfl) (by kernel_rfl) (by kernel_rfl) (fun _ _ _ h => h) (Or.inl ⟨by rfl, ?_⟩) hHeld ?_
    rotate_left
    · (intro W hSw; (try dsimp only at hSw); go_simp; all_goals (with_reducible rfl))
    simp only [List.getElem_toArray, List.getElem_cons_zero, List.getElem_cons_succ, Act.put, List.setIfInBounds_toArray, List.set_cons_zero, List.set_cons_succ]
    refine wpAnyH_take (i := 6) (v := ?_) rfl (by kernel_rfl) (by kernel_rfl) (by kernel_rfl) (fun _ _ _ h => h) (Or.inl ⟨by rfl, ?_⟩) hHeld ?_
    rotate_left
    · (intro W hSw; (try dsimp only at hSw); go_simp; all_goals (with_reducible rfl))
    simp only [List.getElem_toArray, List.getElem_cons_zero, List.getElem_cons_succ, Act.put, List.setIfInBounds_toArray, List.set_cons_zero, List.set_cons_succ]
    refine wpAnyH_take (i := 7) (v := ?_) rfl (by kernel_rfl) (by kernel_rfl) (by kernel_rfl) (fun _ _ _ h => h) (Or.inl ⟨by rfl, ?_⟩) hHeld ?_
    rotate_left
    · (intro W hSw; (try dsimp only at hSw); go_simp; all_goals (with_reducible rfl))
    simp only [List.getElem_toArray, List.getElem_cons_zero, List.getElem_cons_succ, Act.put, List.setIfInBounds_toArray, List.set_cons_zero, List.set_cons_succ]
    refine wpAnyH_take (i := 8) (v := ?_) rfl (by kernel_rfl) (by kernel_rfl) (by kernel_rfl) (fun _ _ _ h => h) (Or.inl ⟨by rfl, ?_⟩) hHeld ?_
    rotate_left
    · (intro W hSw; (try dsimp only at hSw); go_simp; all_goals (with_reducible rfl))
    simp only [List.getElem_toArray, List.getElem_cons_zero, List.getElem_cons_succ, Act.put, List.setIfInBounds_toArray, List.set_cons_zero, List.set_cons_succ]
    have v0 := HV1.out.c0
    have v1 := HV1.out.c1
    have f0 := HV1.out.frozen 0
    have f1 := HV1.out.frozen 1
    refine wpAnyH_ready (rs := [9]) (by kernel_rfl) (by simp) ?_
    refine AllReadyH.cons rfl (fun K hK => ?_) AllReadyH.nil
    simp only [List.getElem_toArray, List.getElem_cons_zero, List.getElem_cons_succ]
    go_simp
    have hne : bk ≠ w.heap.size + 1 := by omega
    have HV3 := HV1.out.set2 (.slice x.na x.nl x.nc) (.slice x.ya x.yl x.yc)
    have B3 := below_2 HB1.out (c := w.heap.size + 1) (by omega) (.slice x.na x.nl x.nc) (.slice x.ya x.yl x.yc)
    have T3 : ((xd.setCell ⟨w.heap.size + 1, 0, none⟩ (.slice x.na x.nl x.nc)).setCell ⟨w.heap.size + 1, 1, none⟩ (.slice x.ya x.yl x.yc)).cell? ⟨bk, ofk, none⟩ = some (.slice x.ya x.yl x.yc) ∧ ((xd.setCell ⟨w.heap.size + 1, 0, none⟩ (.slice x.na x.nl x.nc)).setCell ⟨w.heap.size + 1, 1, none⟩ (.slice x.ya x.yl x.yc)).cell? ⟨bk, ofk + 1, none⟩ = some (.slice x.na x.nl x.nc) := ⟨(cell_far2 xd hne _ _ _).trans t0, (cell_far2 xd hne _ _ _).trans t1⟩
    refine hK.out _ _ T3 (fun hHeld => ?_)
    clear hK K
    refine wpAnyH_done (by kernel_rfl) ?_ _
    refine NoPanic.normal ?_
    clear hHeld T3 v0 v1 f0 f1 t0 t1
    go_wp2_with fail
    refine bodyPost_ret (results_f rfl rfl HV3) rfl ?_
    refine ⟨⟨x.na, x.nl, x.nc, x.ya, x.yl, x.yc⟩, rfl, ?_, B3⟩
    have hk := HX.out.kp (kp_below B3)
    rw [HYN.out.1, HYN.out.2] at hk
    exact ⟨hk.2, hk.1⟩
  by_cases k4 : kd = 4
  · subst k4
    clear hks hxk hn HQ HE1 HF HK hxl
    go_enter Tryz.func41, Tryz.ntmps41
    go_upto_region 1 with fail
    refine ent2 w _ _ _ _ (Q := fun W => Code.wp _ _ _ _ W) ?_
    intro W1 hb1 hs1 V0 V1
    have m0 := V0.n0
    have m1 := V0.n1
    have m2 := V0.n2
    have m3 := V0.n3
    have m4 := V0.n4
    have m5 := V0.n5
    have v0 := V1.c0
    have v1 := V1.c1
    have f0 := V1.frozen 0
    have f1 := V1.frozen 1
    go_wp2_with fail
    refine bodyPost_ret (results_f rfl rfl (((V1.set2 _ _).old _).old _)) rfl ?_
    have tn := two_new ((W1.setCell ⟨w.heap.size + 1, 0, none⟩ (.slice (some ⟨w.heap.size + 2, 0, none⟩) 1 1)).setCell ⟨w.heap.size + 1, 1, none⟩ (.slice (some ⟨w.heap.size + 2 + 1, 0, none⟩) 2 2)) (w.heap.size + 2) (by simp [World.setCell]; omega) 48 #[.int .i64 4, .int .i64 ks, sv nm, .int .i64 op, .int .i64 un, .int .i64 pl] 48 #[.int .i64 3, .int .i64 1, .string ⟨#[]⟩, .int .i64 0, .int .i64 0, .int .i64 0, .int .i64 4, .int .i64 ks, sv nm, .int .i64 op, .int .i64 un, .int .i64 pl]
    refine ⟨⟨some ⟨w.heap.size + 2, 0, none⟩, 1, 1, some ⟨w.heap.size + 2 + 1, 0, none⟩, 2, 2⟩, rfl, ⟨?_, ?_⟩, ?_⟩
    · exact Ge.of tn.1 (by omega) rfl rfl (by dsimp only; decide)
    · exact Ge.of tn.2 (by omega) rfl rfl (by dsimp only; decide)
    · exact ((below_2 hb1 (c := w.heap.size + 1) (by omega) _ _).alloc (by simp [World.setCell]; omega) _).alloc (by simp [World.setCell]; omega) _
  by_cases k5 : kd = 5
  · subst k5
    clear hks hxk hn HQ HE1 HF HK hxl
    go_enter Tryz.func41, Tryz.ntmps41
    go_upto_region 1 with fail
    refine ent2 w _ _ _ _ (Q := fun W => Code.wp _ _ _ _ W) ?_
    intro W1 hb1 hs1 V0 V1
    have m0 := V0.n0
    have m1 := V0.n1
    have m2 := V0.n2
    have m3 := V0.n3
    have m4 := V0.n4
    have m5 := V0.n5
    have v0 := V1.c0
    have v1 := V1.c1
    have f0 := V1.frozen 0
    have f1 := V1.frozen 1
    go_wp2_with fail
    refine bodyPost_ret (results_f rfl rfl (((V1.set2 _ _).old _).old _)) rfl ?_
    have tn := two_new ((W1.setCell ⟨w.heap.size + 1, 0, none⟩ (.slice (some ⟨w.heap.size + 2, 0, none⟩) 1 1)).setCell ⟨w.heap.size + 1, 1, none⟩ (.slice (some ⟨w.heap.size + 2 + 1, 0, none⟩) 2 2)) (w.heap.size + 2) (by simp [World.setCell]; omega) 48 #[.int .i64 5, .int .i64 ks, sv nm, .int .i64 op, .int .i64 un, .int .i64 pl] 48 #[.int .i64 3, .int .i64 1, .string ⟨#[]⟩, .int .i64 0, .int .i64 0, .int .i64 0, .int .i64 5, .int .i64 ks, sv nm, .int .i64 op, .int .i64 un, .int .i64 pl]
    refine ⟨⟨some ⟨w.heap.size + 2, 0, none⟩, 1, 1, some ⟨w.heap.size + 2 + 1, 0, none⟩, 2, 2⟩, rfl, ⟨?_, ?_⟩, ?_⟩
    · exact Ge.of tn.1 (by omega) rfl rfl (by dsimp only; decide)
    · exact Ge.of tn.2 (by omega) rfl rfl (by dsimp only; decide)
    · exact ((below_2 hb1 (c := w.heap.size + 1) (by omega) _ _).alloc (by simp [World.setCell]; omega) _).alloc (by simp [World.setCell]; omega) _
  have hop : 1 ≤ op ∧ op ≤ 4 := by
    rcases hn with ⟨h, -⟩ | ⟨h, -⟩ | ⟨h, -⟩ | ⟨-, -, -, h1, h2, -⟩
    · dsimp only at h; omega
    · dsimp only at h; omega
    · dsimp only at h; omega
    · exact ⟨h1, h2⟩
  have HFR : Hid (frm ⟨kd, ks, nm, op, un, pl⟩ ys ns false = [⟨kd, ks, nm, op, un, pl⟩] ∧ frm ⟨kd, ks, nm, op, un, pl⟩ ys ns true = [⟨kd, ks, nm, 5 - op, un, pl⟩]) := by constructor <;> simp [frm, k1, k2, k3, k4, k5]
  have D1 := fun W => opposite_any op hop.1 hop.2 W
  clear hks hxk hn HQ HE1 HF HK hxl
  go_enter Tryz.func41, Tryz.ntmps41
  go_upto_region 1 with fail
  refine ent2 w _ _ _ _ (Q := fun W => Code.wp _ _ _ _ W) ?_
  intro W1 hb1 hs1 V0 V1
  have m0 := V0.n0
  have m1 := V0.n1
  have m2 := V0.n2
  have m3 := V0.n3
  have m4 := V0.n4
  have m5 := V0.n5
  go_upto_region 12 with fail
  refine ent1 W1 _ _ (Q := fun W => Code.wp _ _ _ _ W) ?_
  intro W2 hb2 hs2 V2
  rw [hs1] at V2 hs2
  replace V0 := V0.after hb2
  replace V1 := V1.after hb2
  have B2 := step hb1 hb2
  clear m0 m1 m2 m3 m4 m5
  have m3 := V0.n3
  have p3 := V2.n3
  have q3 := V2.frozen 3
  go_wp2_with fail
  refine (D1 W2).mono ?_
  rintro e w' ⟨rfl, rfl⟩
  clear D1
  go_upto_region 13 with fail
  refine stn3 V2 _ (Q := fun W => Code.wp _ _ _ _ W) ?_
  intro W3 V3 hg3 hs3
  replace V0 := V0.gr hg3 (by omega)
  replace V1 := V1.gr hg3 (by omega)
  have B3 : Below w.heap.size w W3 := B2.trans (gr_to hg3 (by omega) (by omega))
  clear m3 p3 q3 V2 hg3 hb1 hb2
  have m0 := V0.n0
  have m1 := V0.n1
  have m2 := V0.n2
  have m3 := V0.n3
  have m4 := V0.n4
  have m5 := V0.n5
  have p0 := V3.n0
  have p1 := V3.n1
  have p2 := V3.n2
  have p3 := V3.n3
  have p4 := V3.n4
  have p5 := V3.n5
  have v0 := V1.c0
  have v1 := V1.c1
  have f0 := V1.frozen 0
  have f1 := V1.frozen 1
  have hs4 : W3.heap.size = w.heap.size + 3 := by omega
  clear hs3 hs2 hs1
  go_wp2_with fail
  refine bodyPost_ret (results_f rfl rfl (((V1.set2 _ _).old _).old _)) rfl ?_
  have tn := two_new ((W3.setCell ⟨w.heap.size + 1, 0, none⟩ (.slice (some ⟨w.heap.size + 3, 0, none⟩) 1 1)).setCell ⟨w.heap.size + 1, 1, none⟩ (.slice (some ⟨w.heap.size + 3 + 1, 0, none⟩) 1 1)) (w.heap.size + 3) (by simp [World.setCell]; omega) 48 #[.int .i64 kd, .int .i64 ks, sv nm, .int .i64 op, .int .i64 un, .int .i64 pl] 48 #[.int .i64 kd, .int .i64 ks, sv nm, .int .i64 (5 - op), .int .i64 un, .int .i64 pl]
  refine ⟨⟨some ⟨w.heap.size + 3, 0, none⟩, 1, 1, some ⟨w.heap.size + 3 + 1, 0, none⟩, 1, 1⟩, rfl, ⟨?_, ?_⟩, ?_⟩
  · rw [HFR.out.1]; exact Ge.of tn.1 (by omega) rfl rfl (by dsimp only; decide)
  · rw [HFR.out.2]; exact Ge.of tn.2 (by omega) rfl rfl (by dsimp only; decide)
  · exact ((below_2 B3 (c := w.heap.size + 1) (by omega) _ _).alloc (by simp [World.setCell]; omega) _).alloc (by simp [World.setCell]; omega) _
end Go.Proofs.YtblafbbnplfpjaaGreatDoor
namespace Go.Proofs.YtblafbbnplfpjaaGreatDoor
open Go.RowKit Go.Shelf
set_option linter.unusedVariables false
theorem Va.dd0 {w : World} {b : Nat} {t : TypeId} {x y : Value} (h : Va w b t #[x, y]) : w.cell? ⟨b, 0, none⟩ = some x := by rw [h.cellAt 0]; rfl
theorem Va.dd1 {w : World} {b : Nat} {t : TypeId} {x y : Value} (h : Va w b t #[x, y]) : w.cell? ⟨b, 1, none⟩ = some y := by rw [h.cellAt 1]; rfl
theorem two_al (w : World) (x y : Obj) : Below w.heap.size w ((w.alloc x).alloc y) := ((Below.refl _ _).alloc (Nat.le_refl _) _).alloc (by simp) _
theorem rck6_ok (U P : Int) (h : CanI U P) (w : World) : Calls Tryz.prog 93 #[.agg #[.int .i64 U, .int .i64 P]] w fun e w' => e = .returned (.int .i64 0) ∧ Below w.heap.size w w' := by
  obtain ⟨h0, h9, h3⟩ := h
  have g1 : decide (P < 0) = false := decide_eq_false (by omega)
  have g2 : decide (9 < P) = false := decide_eq_false (by omega)
  by_cases hp : 0 < P
  ·
    obtain ⟨m, hm⟩ : ∃ m, U.tmod 10 = m := ⟨_, rfl⟩
    have hm0 : (m == 0) = false := by have := h3 hp; rw [hm] at this; simpa using this
    have g3 : decide (0 < P) = true := decide_eq_true hp
    go_enter Tryz.func93, Tryz.ntmps93
    go_wp2_with fail
    go_ret
    exact ⟨rfl, (Below.refl _ _).alloc (Nat.le_refl _) _⟩
  ·
    have g3 : decide (0 < P) = false := decide_eq_false hp
    go_enter Tryz.func93, Tryz.ntmps93
    go_wp2_with fail
    go_ret
    exact ⟨rfl, (Below.refl _ _).alloc (Nat.le_refl _) _⟩
theorem rck6_no (U P : Int) (h : ¬ CanI U P) (w : World) : Calls Tryz.prog 93 #[.agg #[.int .i64 U, .int .i64 P]] w fun e w' => e = .returned (.int .i64 60) ∧ Below w.heap.size w w' := by
  by_cases a1 : P < 0
  ·
    have g1 : decide (P < 0) = true := decide_eq_true a1
    go_enter Tryz.func93, Tryz.ntmps93
    go_wp2_with fail
    go_ret
    exact ⟨rfl, (Below.refl _ _).alloc (Nat.le_refl _) _⟩
  ·
    have g1 : decide (P < 0) = false := decide_eq_false a1
    by_cases a2 : 9 < P
    ·
      have g2 : decide (9 < P) = true := decide_eq_true a2
      go_enter Tryz.func93, Tryz.ntmps93
      go_wp2_with fail
      go_ret
      exact ⟨rfl, (Below.refl _ _).alloc (Nat.le_refl _) _⟩
    ·
      have g2 : decide (9 < P) = false := decide_eq_false a2
      have hp : 0 < P := by
        rcases Int.lt_or_le 0 P with h' | h'
        · exact h'
        · exact absurd ⟨by omega, by omega, fun hh => by omega⟩ h
      have hm : U.tmod 10 = 0 := by
        rcases Decidable.em (U.tmod 10 = 0) with h' | h'
        · exact h'
        · exact absurd ⟨by omega, by omega, fun _ => h'⟩ h
      have g3 : decide (0 < P) = true := decide_eq_true hp
      go_enter Tryz.func93, Tryz.ntmps93
      go_wp2_with fail
      go_ret
      exact ⟨rfl, (Below.refl _ _).alloc (Nat.le_refl _) _⟩
set_option maxHeartbeats 4000000 in
theorem rsingle_any (n : Nd) (w : World) : Calls Tryz.prog 75 #[nv n] w fun e w' => e = .returned (.bool (mB n)) ∧ Below w.heap.size w w' := by
  obtain ⟨kd, ks, nm, op, un, pl⟩ := n
  dsimp only [nv]
  by_cases k1 : kd = 1
  · subst k1
    go_enter Tryz.func75, Tryz.ntmps75
    go_wp2_with fail
    all_goals (go_ret; refine ⟨?_, two_al _ _ _⟩; first | (simp [mB, NdOk, *]; done) | (simp [mB, NdOk, *]; intro hh; omega))
  by_cases k2 : kd = 2
  · subst k2
    go_enter Tryz.func75, Tryz.ntmps75
    go_wp2_with fail
    all_goals (go_ret; refine ⟨?_, two_al _ _ _⟩; first | (simp [mB, NdOk, *]; done) | (simp [mB, NdOk, *]; intro hh; omega))
  by_cases k3 : kd = 3
  · subst k3
    go_enter Tryz.func75, Tryz.ntmps75
    go_wp2_with fail
    all_goals (go_ret; refine ⟨?_, two_al _ _ _⟩; first | (simp [mB, NdOk, *]; done) | (simp [mB, NdOk, *]; intro hh; omega))
  by_cases k4 : kd = 4
  · subst k4
    go_enter Tryz.func75, Tryz.ntmps75
    go_upto_region 1 with fail
    refine ent1 w _ _ (Q := fun W => Code.wp _ _ _ _ W) ?_
    intro W1 hb1 hs1 V1
    go_upto_region 2 with fail
    refine ent1 W1 _ _ (Q := fun W => Code.wp _ _ _ _ W) ?_
    intro W2 hb2 hs2 V2
    have V3 := V1.after hb2
    have HB2 : Hid (Below w.heap.size w W2) := step hb1 hb2
    rw [hs1] at V2
    have n0 := V3.n0
    have n2 := V3.n2
    clear hb1 hb2 V1
    go_wp2_with (go_at_call 53; refine (rWord_any nm _).mono ?_; rintro e w2 ⟨rfl, hb⟩; have HB : Hid (Below w.heap.size w w2) := step HB2.out hb; have V4 := V3.after hb; have V5 := V2.after hb; have c0 := V4.n0; have c1 := V4.n1; have c3 := V4.n3; have c4 := V4.n4; have c5 := V4.n5; have d0 := V5.dd0; have d1 := V5.dd1; clear hb V4 V5)
    all_goals (go_ret; refine ⟨?_, HB.out⟩; first | (simp [mB, NdOk, *]; done) | (simp [mB, NdOk, *]; intro hh; omega))
  by_cases k5 : kd = 5
  · subst k5
    go_enter Tryz.func75, Tryz.ntmps75
    go_upto_region 1 with fail
    refine ent1 w _ _ (Q := fun W => Code.wp _ _ _ _ W) ?_
    intro W1 hb1 hs1 V1
    go_upto_region 2 with fail
    refine ent1 W1 _ _ (Q := fun W => Code.wp _ _ _ _ W) ?_
    intro W2 hb2 hs2 V2
    have V3 := V1.after hb2
    have HB2 : Hid (Below w.heap.size w W2) := step hb1 hb2
    rw [hs1] at V2
    have n0 := V3.n0
    have n2 := V3.n2
    clear hb1 hb2 V1
    go_wp2_with (go_at_call 53; refine (rWord_any nm _).mono ?_; rintro e w2 ⟨rfl, hb⟩; have HB : Hid (Below w.heap.size w w2) := step HB2.out hb; have V4 := V3.after hb; have V5 := V2.after hb; have c0 := V4.n0; have c1 := V4.n1; have c3 := V4.n3; have c4 := V4.n4; have c5 := V4.n5; have d0 := V5.dd0; have d1 := V5.dd1; clear hb V4 V5)
    all_goals (go_ret; refine ⟨?_, HB.out⟩; first | (simp [mB, NdOk, *]; done) | (simp [mB, NdOk, *]; intro hh; omega))
  by_cases k6 : kd = 6
  · subst k6
    go_enter Tryz.func75, Tryz.ntmps75
    by_cases hc : CanI un pl
    · have HC : Hid (CanI un pl) := hc
      clear hc
      go_wp2_with (go_at_call 93; refine (rck6_ok un pl HC.out _).mono ?_; rintro e w2 ⟨rfl, hb⟩; have HB : Hid (Below w.heap.size w w2) := step (two_al _ _ _) hb; clear hb)
      all_goals (go_ret; refine ⟨?_, by first | exact HB.out | exact two_al _ _ _⟩)
      all_goals have hc := HC.out
      all_goals have hc2 : CanD un pl := hc
      all_goals first | (simp [mB, NdOk, *]; done) | (simp [mB, NdOk, *]; intros; omega) | (simp [mB, NdOk, *]; omega)
    · have HC : Hid (¬ CanI un pl) := hc
      clear hc
      go_wp2_with (go_at_call 93; refine (rck6_no un pl HC.out _).mono ?_; rintro e w2 ⟨rfl, hb⟩; have HB : Hid (Below w.heap.size w w2) := step (two_al _ _ _) hb; clear hb)
      all_goals (go_ret; refine ⟨?_, by first | exact HB.out | exact two_al _ _ _⟩)
      all_goals have hc2 : ¬ CanD un pl := HC.out
      all_goals first | (simp [mB, NdOk, *]; done) | (simp [mB, NdOk, *]; intros; omega)
  by_cases k7 : kd = 7
  · subst k7
    go_enter Tryz.func75, Tryz.ntmps75
    by_cases hc : CanI un pl
    · have HC : Hid (CanI un pl) := hc
      clear hc
      go_wp2_with (go_at_call 93; refine (rck6_ok un pl HC.out _).mono ?_; rintro e w2 ⟨rfl, hb⟩; have HB : Hid (Below w.heap.size w w2) := step (two_al _ _ _) hb; clear hb)
      all_goals (go_ret; refine ⟨?_, by first | exact HB.out | exact two_al _ _ _⟩)
      all_goals have hc := HC.out
      all_goals have hc2 : CanD un pl := hc
      all_goals first | (simp [mB, NdOk, *]; done) | (simp [mB, NdOk, *]; intros; omega) | (simp [mB, NdOk, *]; omega)
    · have HC : Hid (¬ CanI un pl) := hc
      clear hc
      go_wp2_with (go_at_call 93; refine (rck6_no un pl HC.out _).mono ?_; rintro e w2 ⟨rfl, hb⟩; have HB : Hid (Below w.heap.size w w2) := step (two_al _ _ _) hb; clear hb)
      all_goals (go_ret; refine ⟨?_, by first | exact HB.out | exact two_al _ _ _⟩)
      all_goals have hc2 : ¬ CanD un pl := HC.out
      all_goals first | (simp [mB, NdOk, *]; done) | (simp [mB, NdOk, *]; intros; omega)
  go_enter Tryz.func75, Tryz.ntmps75
  go_wp2_with fail
  go_ret
  refine ⟨?_, two_al _ _ _⟩
  have hh : ¬ NdOk wdB ⟨kd, ks, nm, op, un, pl⟩ := by
    rintro (⟨h, -⟩ | ⟨h, -⟩ | ⟨h, -⟩ | ⟨h, -⟩) <;> dsimp only at h <;> omega
  rw [mB_no hh]; rfl
end Go.Proofs.YtblafbbnplfpjaaGreatDoor
