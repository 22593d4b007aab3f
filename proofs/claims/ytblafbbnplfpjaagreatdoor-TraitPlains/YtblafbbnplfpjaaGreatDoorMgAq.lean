/-
  traits: named, Names.
-/
import Derived.Test.YtblafbbnplfpjaaGreatDoorMgAn
import Derived.Lib.SlicesCompact
import Derived.Test.YtblafbbnplfpjaaGreatDoorChH
import Derived.Test.YtblafbbnplfpjaaGreatDoorPlA
import Derived.Test.YtblafbbnplfpjaaGreatDoorLnN
import Derived.Test.YtblafbbnplfpjaaGreatDoorMgAl
namespace Go.Proofs.YtblafbbnplfpjaaGreatDoor
open Go.RowKit Go.Shelf Go.Sort
set_option linter.unusedVariables false

/-- Texts rising, each once. -/
def srt (l : List (List UInt8)) : List (List UInt8) := Go.Lib.compact (l.mergeSort fun x y => decide (x ≤ y))
theorem holds_of_ge {w : World} {B g n cap : Nat} {ss : List (List UInt8)} (h : Ge elS w B (.slice (some ⟨g, 0, none⟩) n cap) ss) : Holds encStr w g 0 ss.toArray := by
  intro j hj
  have hj' : j < ss.length := by simpa using hj
  have hn : n = ss.length := by
    obtain ⟨a', cap', e, -, -, -⟩ := h.shape
    simp only [Value.slice.injEq] at e
    exact e.2.1
  have := h.toLe.at j (by omega) 0 (sv (ss.getD j [])) rfl
  refine ⟨?_, h.frozen _⟩
  rw [show 0 + j = 0 + (j * elS.s + 0) by show 0 + j = 0 + (j * 1 + 0); omega, this]
  simp [hj', List.getD_eq_getElem?_getD]
theorem le_of_holds {w : World} {g : Nat} {ts pad : List (List UInt8)} (h : Holds encStr w g 0 (ts ++ pad).toArray) : Le elS w (some ⟨g, 0, none⟩) ts.length ts := by
  refine ⟨rfl, fun h0 => ⟨g, 0, rfl, fun i u hu => ?_⟩⟩
  have hi : i < ts.length := by
    rcases Nat.lt_or_ge i (rowE elS ts).length with h' | h'
    · rw [rowE_length] at h'; have h'' : i < ts.length * 1 := h'; omega
    · rw [List.getElem?_eq_none h'] at hu; cases hu
  have h1 := (h i (by simp; omega)).1
  have h2 := rowE_get elS 0 (by decide) ts i hi
  rw [show i * elS.s + 0 = i by show i * 1 + 0 = i; omega, hu] at h2
  have h3 : u = sv (ts.getD i []) := by simpa [elS] using h2
  rw [h1, h3]
  simp [List.getElem!_eq_getElem?_getD, List.getElem?_append_left hi, List.getD_eq_getElem?_getD, hi]
theorem gr_put {w : World} {g n : Nat} {os : Array Obj} (d : Array (List UInt8)) : w.grownBy (grow (putRow encStr (Sort.ahead w n) g 0 d) os) (some g) := by
  refine ⟨rfl, rfl, rfl, by simp, fun k hk hne => ?_⟩
  rw [heap_grow_old _ _ (by simpa using hk)]
  have : g ≠ k := fun e => hne (by rw [e])
  simp [putRow, mapBlock, Sort.ahead, Array.getElem?_modify, this]
theorem compact_le (l : List (List UInt8)) : (Go.Lib.compact l).length ≤ l.length := by
  unfold Go.Lib.compact Go.Lib.compactUpTo
  rw [List.length_map]
  exact Nat.le_trans (List.length_filter_le _ _) (by simp)
theorem gr_put0 {w : World} {g n : Nat} (d : Array (List UInt8)) : w.grownBy (putRow encStr (Sort.ahead w n) g 0 d) (some g) := by
  have := gr_put (w := w) (g := g) (n := n) (os := #[]) d
  rwa [grow_empty] at this
theorem nms_drop {ns : List Nd} {i : Nat} (h : i < ns.length) (c : Int) : nms c (ns.take (i + 1)) = nms c (ns.take i) ++ (if (ns.getD i nd0).kd = c then [(ns.getD i nd0).nm] else []) := by
  rw [take_one (d := nd0) h, nms_app, nms_cons]; simp [nms]
theorem results_ttt {fn : Func} {i j k : Nat} {tmps : Array Value} {w : World} (h : fn.results = #[.tmp i, .tmp j, .tmp k]) :
    (results fn tmps).run Tryz.prog w = .ok (.tuple #[tmps.getD i undef, tmps.getD j undef, tmps.getD k undef]) w := by
  simp [results, h, go_sem]
set_option maxHeartbeats 4000000 in
theorem named_any (ns : List Nd) (a : Option Addr) (cap : Nat) (c : Int) (w : World) (hL : Le elN w a ns.length ns) (hl : ns.length ≤ 64) :
    Calls Tryz.prog 44 #[.slice a ns.length cap, .int .i64 c] w fun e w' => ∃ a' c', e = .returned (.slice a' (srt (nms c ns)).length c') ∧ Le elS w' a' (srt (nms c ns)).length (srt (nms c ns)) ∧ Below w.heap.size w w' := by
  have HL : Hid (Le elN w a ns.length ns) := hL
  clear hL
  obtain ⟨S, hS⟩ : ∃ S, srt (nms c ns) = S := ⟨_, rfl⟩
  have HS : Hid (srt (nms c ns) = S) := hS
  rw [hS]
  clear hS
  go_enter Tryz.func44, Tryz.ntmps44
  go_wp2_with fail
  go_loopw [5, 7, 10] (fun li _ j wr => ∃ i : Nat, j = .int .i64 i ∧ i ≤ ns.length ∧ Hid (Ge elS wr w.heap.size li (nms c (ns.take i))) ∧ Hid (Below w.heap.size w wr) ∧ Hid ((nms c (ns.take i)).length ≤ i)) (fun _ _ j _ => (ns.length - (intOf j).toNat : Nat))
  case atStart => exact ⟨0, rfl, Nat.zero_le _, Ge.nil _ _, Below.refl _ _, Nat.zero_le _⟩
  case round =>
    obtain ⟨i, rfl, hi, HG, HB, HN⟩ := hrel
    rcases Nat.lt_or_ge i ns.length with hlt | hge
    · have hii : (i : Int) < ns.length := by omega
      obtain ⟨b, off, rfl⟩ := HL.out.ex (by omega)
      have LL := HL.out.after HB.out
      obtain ⟨n, hn⟩ : ∃ n, ns.getD i nd0 = n := ⟨_, rfl⟩
      have k0 : wr.cell? ⟨b, off + i * 6, none⟩ = some (.int .i64 n.kd) := LL.at i hlt 0 _ (by rw [← hn]; rfl)
      have k1 : wr.cell? ⟨b, off + i * 6 + 1, none⟩ = some (.int .i64 n.ks) := by rw [Nat.add_assoc]; exact LL.at i hlt 1 _ (by rw [← hn]; rfl)
      have k2 : wr.cell? ⟨b, off + i * 6 + 2, none⟩ = some (sv n.nm) := by rw [Nat.add_assoc]; exact LL.at i hlt 2 _ (by rw [← hn]; rfl)
      have k3 : wr.cell? ⟨b, off + i * 6 + 3, none⟩ = some (.int .i64 n.op) := by rw [Nat.add_assoc]; exact LL.at i hlt 3 _ (by rw [← hn]; rfl)
      have k4 : wr.cell? ⟨b, off + i * 6 + 4, none⟩ = some (.int .i64 n.un) := by rw [Nat.add_assoc]; exact LL.at i hlt 4 _ (by rw [← hn]; rfl)
      have k5 : wr.cell? ⟨b, off + i * 6 + 5, none⟩ = some (.int .i64 n.pl) := by rw [Nat.add_assoc]; exact LL.at i hlt 5 _ (by rw [← hn]; rfl)
      have hnx := nms_drop hlt c
      rw [hn] at hnx
      have HX : Hid (nms c (ns.take (i + 1)) = nms c (ns.take i) ++ (if n.kd = c then [n.nm] else [])) := hnx
      obtain ⟨ao, co, hli, -, -, -⟩ := HG.out.shape
      subst hli
      obtain ⟨L, hL⟩ : ∃ L, nms c (ns.take i) = L := ⟨_, rfl⟩
      rw [hL] at HG HN HX
      rw [hL]
      have hLl := HN.out
      clear hn hnx LL hL
      go_upto_region 5 with fail
      refine ent1 wr _ _ (Q := fun W => Code.wp _ _ _ _ W) ?_
      intro W1 hb1 hs1 V1
      have m0 := V1.n0
      have m2 := V1.n2
      have HB1 : Hid (Below w.heap.size w W1) := step HB.out hb1
      have HG1 : Hid (Ge elS W1 w.heap.size (.slice ao L.length co) L) := HG.out.after hb1
      have hsz1 := HB1.out.size
      clear hb1 hs1 V1 k0 k1 k2 k3 k4 k5 HG HB
      by_cases hk : n.kd = c
      · have hkb : (n.kd == c) = true := by simpa using hk
        have HX2 : Hid (nms c (ns.take (i + 1)) = L ++ [n.nm]) := by show _ = _; rw [HX.out, if_pos hk]
        clear hk HX
        go_wp2_with (at_builtin; refine wpList_appE rfl _ _ _ rfl elS rfl w.heap.size _ L rfl (HG1.out.al _) W1.heap.size 0 1 1 [n.nm] rfl (Le.one (Va.new W1 _ _) rfl) (by omega) (by simp; omega) ?_; intro v' w6 hg6 hgr6 hob6; obtain ⟨a6, c6, rfl, -, -, -⟩ := hg6.shape)
        have HG6 : Hid (Ge elS w6 w.heap.size (.slice a6 (L ++ [n.nm]).length c6) (L ++ [n.nm])) := hg6
        have HB6 : Hid (Below w.heap.size w w6) := HB1.out.trans (appE_below hgr6 HG1.out (by simp; omega) ((Below.refl _ _).alloc (by omega) _))
        clear hg6 hgr6 hob6 HG1 HB1
        go_wp2_with fail
        go_roundw
        case rel => exact ⟨i + 1, rfl, by omega, by rw [HX2.out]; have := HG6.out; first | exact this | (rw [List.length_append] at this; exact this), HB6.out, by rw [HX2.out, List.length_append]; simp; omega⟩
        case measure => simp [intOf]; omega
      · have hkb : (n.kd == c) = false := by simpa using hk
        have HX2 : Hid (nms c (ns.take (i + 1)) = L) := by show _ = _; rw [HX.out, if_neg hk, List.append_nil]
        clear hk HX
        go_wp2_with fail
        go_roundw
        case rel => exact ⟨i + 1, rfl, by omega, by rw [HX2.out]; exact HG1.out, HB1.out, by rw [HX2.out]; show _ ≤ _; omega⟩
        case measure => simp [intOf]; omega
    · obtain rfl : i = ns.length := by omega
      rw [List.take_length] at HG HN
      obtain ⟨L, hL⟩ : ∃ L, nms c ns = L := ⟨_, rfl⟩
      rw [hL] at HG HN HS
      have hLl := HN.out
      obtain ⟨ao, co, hli, hco, hcm, hsh⟩ := HG.out.shape
      subst hli
      clear hL hge hi HN
      rcases hsh with ⟨rfl, rfl, rfl⟩ | ⟨g, rfl⟩
      · have C1 := Tryz.slices_Sort_string_none none 0 wr
        have C2 := Tryz.slices_Compact_string_empty none 0 wr
        have HS2 : Hid (S = []) := by show _ = _; rw [← HS.out]; simp [srt, Go.Lib.compact, Go.Lib.compactUpTo]
        clear hco hcm
        go_wp2_with fail
        refine C1.mono ?_
        rintro e w2 ⟨rfl, rfl⟩
        clear C1
        go_wp2_with fail
        refine C2.mono ?_
        rintro e w3 ⟨rfl, rfl⟩
        clear C2
        go_wp2_with fail
        go_ret
        refine ⟨none, 0, ?_, ?_, HB.out⟩
        · rw [HS2.out]; rfl
        · rw [HS2.out]; exact Le.nil _ _
      · have hgl : g < wr.heap.size := HG.out.lt g rfl
        have hgB : w.heap.size ≤ g := HG.out.block g rfl
        have hH := holds_of_ge HG.out
        have C1 := Tryz.slices_Sort_string g 0 co L wr hH hgl (by omega)
        obtain ⟨M, hM⟩ : ∃ M, (L.mergeSort fun x y => decide (x ≤ y)) = M := ⟨_, rfl⟩
        have hML : M.length = L.length := by rw [← hM, List.length_mergeSort]
        have HCM : Hid (Go.Lib.compact M = S) := by show _ = _; rw [← hM]; exact HS.out
        rw [hM] at C1
        clear hM hcm
        go_wp2_with fail
        refine C1.mono ?_
        rintro e w2 ⟨rfl, n, os, hw2⟩
        have H2 : Holds encStr w2 g 0 M.toArray := by
          rw [hw2]
          exact holds_grow _ _ _ _ _ _ (by simpa using hgl) (holds_putRow encStr (Sort.ahead wr n) g 0 L.toArray M.toArray hH (by simp [hML]))
        have G2 : wr.grownBy w2 (some g) := by rw [hw2]; exact gr_put _
        have HB2 : Hid (Below w.heap.size w w2) := HB.out.trans (gr_to G2 hgB HB.out.size)
        have C2 := Tryz.slices_Compact_string g 0 co M w2 H2 (by omega) (by omega)
        rw [hML, HCM.out] at C2
        have hSL : S.length ≤ L.length := by rw [← HCM.out, ← hML]; exact compact_le M
        have HH2 : Hid (Holds encStr w2 g 0 M.toArray) := H2
        have hs2 := G2.size
        have hsB := HB.out.size
        clear hw2 C1 H2 hH G2
        go_wp2_with fail
        refine C2.mono ?_
        rintro e w3 ⟨rfl, q, hw3⟩
        have H3 : Holds encStr w3 g 0 (S ++ List.replicate (L.length - S.length) []).toArray := by
          rw [hw3]
          exact holds_putRow encStr (Sort.ahead w2 q) g 0 M.toArray _ HH2.out (by simp; omega)
        have G3 : w2.grownBy w3 (some g) := by rw [hw3]; exact gr_put0 _
        have B3 : Below w.heap.size w w3 := HB2.out.trans (gr_to G3 hgB (by omega))
        have HLe : Hid (Le elS w3 (some ⟨g, 0, none⟩) S.length S) := le_of_holds H3
        clear hw3 C2 H3 G3
        go_wp2_with fail
        go_ret
        exact ⟨some ⟨g, 0, none⟩, co, rfl, HLe.out, B3⟩
/-- How Names ends where the nodes are a condition. -/
theorem names_ok (ns : List Nd) (a : Option Addr) (cap : Nat) (w : World) (hL : Le elN w a ns.length ns) (h64 : ∀ n ∈ ns, N64 n) (hc : Cond wdB ns) :
    Calls Tryz.prog 19 #[.slice a ns.length cap] w fun e w' => ∃ a1 c1 a2 c2, e = .returned (.tuple #[.slice a1 (srt (nms 4 ns)).length c1, .slice a2 (srt (nms 5 ns)).length c2, .int .i64 0]) ∧ Le elS w' a1 (srt (nms 4 ns)).length (srt (nms 4 ns)) ∧ Le elS w' a2 (srt (nms 5 ns)).length (srt (nms 5 ns)) ∧ Below w.heap.size w w' := by
  have C1 := check13 ns a cap w hL h64
  rw [ckE_ok hc] at C1
  have hl : ns.length ≤ 64 := by
    rcases hc with rfl | h
    · simp
    · exact h.1
  have HL : Hid (Le elN w a ns.length ns) := hL
  have C4 := fun W h => named_any ns a cap 4 W h hl
  have C5 := fun W h => named_any ns a cap 5 W h hl
  obtain ⟨S4, hS4⟩ : ∃ S, srt (nms 4 ns) = S := ⟨_, rfl⟩
  obtain ⟨S5, hS5⟩ : ∃ S, srt (nms 5 ns) = S := ⟨_, rfl⟩
  rw [hS4] at C4 ⊢
  rw [hS5] at C5 ⊢
  clear hL h64 hc hS4 hS5
  go_enter Tryz.func19, Tryz.ntmps19
  go_wp2_with fail
  refine C1.mono ?_
  rintro e W2 ⟨rfl, hb2⟩
  have D4 := C4 W2 (HL.out.after hb2)
  clear C1 C4
  go_wp2_with fail
  refine D4.mono ?_
  rintro e W3 ⟨a1, c1, rfl, hl1, hb3⟩
  have hb23 := step hb2 hb3
  have D5 := C5 W3 (HL.out.after hb23)
  have HL1 : Hid (Le elS W3 a1 S4.length S4) := hl1
  clear D4 C5 hl1
  go_wp2_with fail
  refine D5.mono ?_
  rintro e W4 ⟨a2, c2, rfl, hl2, hb4⟩
  have HL2 : Hid (Le elS W4 a2 S5.length S5) := hl2
  have B4 := step hb23 hb4
  have HL3 : Hid (Le elS W4 a1 S4.length S4) := HL1.out.after hb4
  clear D5 hl2 hb4 HL1
  go_wp2_with fail
  refine bodyPost_ret (results_ttt rfl) rfl ?_
  exact ⟨a1, c1, a2, c2, rfl, HL3.out, HL2.out, B4⟩
end Go.Proofs.YtblafbbnplfpjaaGreatDoor
namespace Go.Proofs.YtblafbbnplfpjaaGreatDoor
open Go.RowKit Go.Shelf
set_option linter.unusedVariables false
set_option linter.unusedSimpArgs false

/-- How Of ends. -/
def OfE (ns : List Nd) (w : World) (e : Ending) (w' : World) : Prop :=
  Below w.heap.size w w' ∧ ((∃ t : Tc, e = .returned (.tuple #[tvT t, .bool false]) ∧ (ns = [] ∨ ¬ Cond wdB ns)) ∨ ∃ n k t, e = .returned (.tuple #[tvT t, .bool true]) ∧ ns = (Fo.cons n k .nil).flat ∧ (Fo.cons n k .nil).Ok wdB 0 1 ∧ ns.length ≤ 64 ∧ Rtw w' (fun b => w.heap.size ≤ b) (.cons n k .nil) [t])
theorem cond_not {ns : List Nd} (h : NoTree wdB (ns.drop 0) 0 1) : ns = [] ∨ ¬ Cond wdB ns := by
  rcases Classical.em (ns = []) with e | e
  · exact .inl e
  · refine .inr (fun hc => ?_)
    obtain ⟨-, n, k, e1, ok⟩ := cond_tree e hc
    exact h n k [] (by rw [List.drop_zero, List.append_nil]; exact e1) ok
theorem cond_far {ns : List Nd} {n : Nd} {k : Fo} {q : Nat} (e : ns.drop 0 = (Fo.cons n k .nil).flat ++ ns.drop q) (ok : (Fo.cons n k .nil).Ok wdB 0 1) (hq : q ≤ ns.length) (hne : q ≠ ns.length) : ¬ Cond wdB ns := by
  rw [List.drop_zero] at e
  intro hc
  rcases Classical.em (ns = []) with e0 | e0
  · rw [e0] at e; simp [Fo.flat] at e
  · obtain ⟨-, m, j, e1, ok1⟩ := cond_tree e0 hc
    obtain ⟨-, -, h⟩ := one_tree (x := ns.drop q) (y := []) ok ok1 (by rw [← e, List.append_nil]; exact e1)
    have := congrArg List.length h
    rw [List.length_drop] at this
    simp at this
    omega
theorem cond_long {ns : List Nd} (h : 64 < ns.length) : ¬ Cond wdB ns := by
  intro hc
  obtain ⟨h1, -⟩ := cond_tree (fun e => by rw [e] at h; simp at h) hc
  omega
theorem cond_short {ns : List Nd} {n : Nd} {k : Fo} (h : ns.length ≤ 64) (e : ns = (Fo.cons n k .nil).flat) (ok : (Fo.cons n k .nil).Ok wdB 0 1) : Cond wdB ns := .inr ⟨h, n, k, e, ok⟩
set_option maxRecDepth 20000 in
set_option maxHeartbeats 8000000 in
theorem of13_any (ns : List Nd) (a : Option Addr) (cap : Nat) (w : World) (h64 : ∀ n ∈ ns, N64 n) (hL : Le elN w a ns.length ns) :
    Calls Tryz.prog 28 #[.slice a ns.length cap] w (OfE ns w) := by
  have HL : Hid (Le elN w a ns.length ns) := hL
  have HG : Hid (ns.length ≤ 64 → ∀ W, Below w.heap.size w W → Calls Tryz.prog 52 #[.slice a ns.length cap, .int .i64 (0 : Nat), .int .i64 (1 : Nat)] W (TgE ns 0 1 W)) := fun hl W hb => grown_any ns a cap h64 hl 16 1 rfl 0 W (Nat.zero_le _) (HL.out.after hb)
  clear hL
  go_enter Tryz.func28, Tryz.ntmps28
  go_upto_region 1 with fail
  refine ent1 w _ _ (Q := fun W => Code.wp _ _ _ _ W) ?_
  intro W1 hb1 hs1 V1
  have HV1 : Hid (Va W1 w.heap.size 56 zT) := V1
  have HB1 : Hid (Below w.heap.size w W1) := hb1
  clear V1 hb1
  rcases Nat.lt_or_ge 64 ns.length with h65 | h65
  · have h65' : (64 : Int) < ns.length := by omega
    have f0 := HV1.out.frozen 0
    have zf0 := HV1.out.t0
    have f1 := HV1.out.frozen 1
    have zf1 := HV1.out.t1
    have f2 := HV1.out.frozen 2
    have zf2 := HV1.out.t2
    have f3 := HV1.out.frozen 3
    have zf3 := HV1.out.t3
    have f4 := HV1.out.frozen 4
    have zf4 := HV1.out.t4
    have f5 := HV1.out.frozen 5
    have zf5 := HV1.out.t5
    have f6 := HV1.out.frozen 6
    have zf6 := HV1.out.t6
    go_wp2_with fail
    refine bodyPost_ret (results_tn rfl rfl rfl (HV1.out.set7 _ _ _ _ _ _ _ )) rfl ?_
    exact ⟨below_7 HB1.out (Nat.le_refl _) _ _ _ _ _ _ _ , .inl ⟨⟨⟨0, 0, [], 0, 0, 0⟩, none, 0, 0⟩, rfl, .inr (cond_long h65)⟩⟩
  · have h65' : ¬ (64 : Int) < ns.length := by omega
    have D := HG.out h65 W1 HB1.out
    go_wp2_with fail
    refine D.mono ?_
    rintro e W2 ⟨hb2, ⟨rfl, hno⟩ | ⟨n, k, t, q, rfl, hg⟩⟩
    · have HB2 : Hid (Below w.heap.size w W2) := step HB1.out hb2
      have HV2 : Hid (Va W2 w.heap.size 56 zT) := HV1.out.after hb2
      have hs2 := hb2.size
      have HNO : Hid (ns = [] ∨ ¬ Cond wdB ns) := cond_not hno
      clear D hb2 hno
      go_upto_region 4 with fail
      refine ent1 W2 _ _ (Q := fun W => Code.wp _ _ _ _ W) ?_
      intro W3 hb3 hs3 V3
      have HB3 : Hid (Below w.heap.size w W3) := step HB2.out hb3
      have HV3 : Hid (Va W3 w.heap.size 56 zT) := HV2.out.after hb3
      have HB23 : Hid (Below W2.heap.size W2 W3) := hb3
      have g0 := V3.t0
      have g1 := V3.t1
      have g2 := V3.t2
      have g3 := V3.t3
      have g4 := V3.t4
      have g5 := V3.t5
      have g6 := V3.t6
      have f0 := HV3.out.frozen 0
      have zf0 := HV3.out.t0
      have f1 := HV3.out.frozen 1
      have zf1 := HV3.out.t1
      have f2 := HV3.out.frozen 2
      have zf2 := HV3.out.t2
      have f3 := HV3.out.frozen 3
      have zf3 := HV3.out.t3
      have f4 := HV3.out.frozen 4
      have zf4 := HV3.out.t4
      have f5 := HV3.out.frozen 5
      have zf5 := HV3.out.t5
      have f6 := HV3.out.frozen 6
      have zf6 := HV3.out.t6
      clear V3 hb3
      have hq : ((-1 : Int) == (ns.length : Int)) = false := by first | (simp; done) | (simp; omega)
      go_wp2_with fail
      refine bodyPost_ret (results_tn rfl rfl rfl (HV3.out.set7 _ _ _ _ _ _ _ )) rfl ?_
      exact ⟨below_7 HB3.out (Nat.le_refl _) _ _ _ _ _ _ _ , .inl ⟨⟨⟨0, 0, [], 0, 0, 0⟩, none, 0, 0⟩, rfl, HNO.out⟩⟩
    · by_cases hqe : q = ns.length
      · have HB2 : Hid (Below w.heap.size w W2) := step HB1.out hb2
        have HV2 : Hid (Va W2 w.heap.size 56 zT) := HV1.out.after hb2
        have hs2 := hb2.size
        have HGR : Hid (Tgr ns 0 1 W1.heap.size W2 n k t q) := hg
        have hqe' := hqe
        clear D hb2 hg hqe
        go_upto_region 4 with fail
        refine ent1 W2 _ _ (Q := fun W => Code.wp _ _ _ _ W) ?_
        intro W3 hb3 hs3 V3
        have HB3 : Hid (Below w.heap.size w W3) := step HB2.out hb3
        have HV3 : Hid (Va W3 w.heap.size 56 zT) := HV2.out.after hb3
        have HB23 : Hid (Below W2.heap.size W2 W3) := hb3
        have g0 := V3.t0
        have g1 := V3.t1
        have g2 := V3.t2
        have g3 := V3.t3
        have g4 := V3.t4
        have g5 := V3.t5
        have g6 := V3.t6
        have f0 := HV3.out.frozen 0
        have zf0 := HV3.out.t0
        have f1 := HV3.out.frozen 1
        have zf1 := HV3.out.t1
        have f2 := HV3.out.frozen 2
        have zf2 := HV3.out.t2
        have f3 := HV3.out.frozen 3
        have zf3 := HV3.out.t3
        have f4 := HV3.out.frozen 4
        have zf4 := HV3.out.t4
        have f5 := HV3.out.frozen 5
        have zf5 := HV3.out.t5
        have f6 := HV3.out.frozen 6
        have zf6 := HV3.out.t6
        clear V3 hb3
        have hq : ((q : Int) == (ns.length : Int)) = true := by first | (simp; done) | (simp; omega)
        go_wp2_with fail
        refine bodyPost_ret (results_tn rfl rfl rfl (HV3.out.set7 _ _ _ _ _ _ _ )) rfl ?_
        exact ⟨below_7 HB3.out (Nat.le_refl _) _ _ _ _ _ _ _ , .inr ⟨n, k, t, rfl, by have := HGR.out.e; rw [hqe', List.drop_length, List.append_nil, List.drop_zero] at this; exact this, HGR.out.ok, h65, Rtw.imp (fun b hb hp => ⟨by omega, (fa7 _ _ _ _ _ _ _ _ _ b (by omega)).trans (HB23.out.block b hb)⟩) HGR.out.t⟩⟩
      · have HB2 : Hid (Below w.heap.size w W2) := step HB1.out hb2
        have HV2 : Hid (Va W2 w.heap.size 56 zT) := HV1.out.after hb2
        have hs2 := hb2.size
        have HNO : Hid (¬ Cond wdB ns) := cond_far hg.e hg.ok hg.le hqe
        clear D hb2 hg
        go_upto_region 4 with fail
        refine ent1 W2 _ _ (Q := fun W => Code.wp _ _ _ _ W) ?_
        intro W3 hb3 hs3 V3
        have HB3 : Hid (Below w.heap.size w W3) := step HB2.out hb3
        have HV3 : Hid (Va W3 w.heap.size 56 zT) := HV2.out.after hb3
        have HB23 : Hid (Below W2.heap.size W2 W3) := hb3
        have g0 := V3.t0
        have g1 := V3.t1
        have g2 := V3.t2
        have g3 := V3.t3
        have g4 := V3.t4
        have g5 := V3.t5
        have g6 := V3.t6
        have f0 := HV3.out.frozen 0
        have zf0 := HV3.out.t0
        have f1 := HV3.out.frozen 1
        have zf1 := HV3.out.t1
        have f2 := HV3.out.frozen 2
        have zf2 := HV3.out.t2
        have f3 := HV3.out.frozen 3
        have zf3 := HV3.out.t3
        have f4 := HV3.out.frozen 4
        have zf4 := HV3.out.t4
        have f5 := HV3.out.frozen 5
        have zf5 := HV3.out.t5
        have f6 := HV3.out.frozen 6
        have zf6 := HV3.out.t6
        clear V3 hb3
        have hq : ((q : Int) == (ns.length : Int)) = false := by first | (simp; done) | (simp; omega)
        go_wp2_with fail
        refine bodyPost_ret (results_tn rfl rfl rfl (HV3.out.set7 _ _ _ _ _ _ _ )) rfl ?_
        exact ⟨below_7 HB3.out (Nat.le_refl _) _ _ _ _ _ _ _ , .inl ⟨t, rfl, .inr HNO.out⟩⟩
set_option maxHeartbeats 4000000 in
theorem rchk13_any (ns : List Nd) (a : Option Addr) (cap : Nat) (w : World) (h64 : ∀ n ∈ ns, N64 n) (hL : Le elN w a ns.length ns) :
    Calls Tryz.prog 10 #[.slice a ns.length cap] w fun e w' => e = .returned (.int .i64 (ckE ns)) ∧ Below w.heap.size w w' := by
  have D := of13_any ns a cap w h64 hL
  clear hL
  rcases Classical.em (ns = []) with e0 | e0
  · subst e0
    have hR : ckE [] = 0 := ckE_ok (.inl rfl)
    rw [hR]
    clear D hR
    go_enter Tryz.func10, Tryz.ntmps10
    go_wp2_with fail
    go_ret
    exact ⟨rfl, Below.refl _ _⟩
  · have hl0 : ns.length ≠ 0 := fun h => e0 (List.length_eq_zero_iff.1 h)
    have hl1 : ((ns.length : Int) == 0) = false := by simp; omega
    obtain ⟨R, hR⟩ : ∃ R, ckE ns = R := ⟨_, rfl⟩
    have HR : Hid (ckE ns = R) := hR
    rw [hR]
    clear hR
    go_enter Tryz.func10, Tryz.ntmps10
    go_wp2_with fail
    refine D.mono ?_
    rintro e W2 ⟨hb2, ⟨t, rfl, hno⟩ | ⟨n, k, t, rfl, he, ok, h64', hr⟩⟩
    · have HE : Hid (R = 131) := by show _ = _; rw [← HR.out]; exact ckE_no (hno.resolve_left e0)
      have HB : Hid (Below w.heap.size w W2) := hb2
      clear D hno hb2
      go_upto_region 4 with fail
      refine ent1 W2 _ _ (Q := fun W => Code.wp _ _ _ _ W) ?_
      intro W3 hb3 hs3 V3
      go_wp2_with fail
      go_ret
      exact ⟨by rw [HE.out]; rfl, step HB.out hb3⟩
    · have HE : Hid (R = 0) := by show _ = _; rw [← HR.out]; exact ckE_ok (cond_short h64' he ok)
      have HB : Hid (Below w.heap.size w W2) := hb2
      clear D he ok hr hb2
      go_upto_region 4 with fail
      refine ent1 W2 _ _ (Q := fun W => Code.wp _ _ _ _ W) ?_
      intro W3 hb3 hs3 V3
      go_wp2_with fail
      go_ret
      exact ⟨by rw [HE.out]; rfl, step HB.out hb3⟩
end Go.Proofs.YtblafbbnplfpjaaGreatDoor
namespace Go.Proofs.YtblafbbnplfpjaaGreatDoor
open Go.RowKit Go.Shelf
set_option linter.unusedVariables false
set_option linter.unusedSimpArgs false

set_option maxHeartbeats 8000000 in
theorem rPlain_any (ns : List Nd) (a : Option Addr) (cap : Nat) (w : World) (hL : Le elN w a ns.length ns) (h64 : ∀ n ∈ ns, N64 n) :
    Calls Tryz.prog 18 #[.slice a ns.length cap] w (PlE ns w) := by
  have D := of13_any ns a cap w h64 hL
  clear hL
  rcases Classical.em (ns = []) with e0 | e0
  · subst e0
    clear D
    go_enter Tryz.func18, Tryz.ntmps18
    go_wp2_with fail
    go_ret2
    exact ⟨[], none, 0, 0, rfl, Ge.nil _ _, .inr (.inl ⟨rfl, rfl, rfl⟩), Below.refl _ _⟩
  · have hl1 : ((ns.length : Int) == 0) = false := by
      have : ns.length ≠ 0 := fun h => e0 (List.length_eq_zero_iff.1 h)
      simp; omega
    have HNE : Hid (ns ≠ []) := e0
    clear e0
    go_enter Tryz.func18, Tryz.ntmps18
    go_wp2_with fail
    refine D.mono ?_
    rintro e W2 ⟨hb2, ⟨t, rfl, hno⟩ | ⟨n, k, t, rfl, he, ok, hle, hr⟩⟩
    · have HNO : Hid (¬ Cond wdB ns) := hno.resolve_left HNE.out
      have HB : Hid (Below w.heap.size w W2) := hb2
      clear D hno hb2
      go_upto_region 4 with fail
      refine ent1 W2 _ _ (Q := fun W => Code.wp _ _ _ _ W) ?_
      intro W3 hb3 hs3 V3
      have HB3 : Hid (Below w.heap.size w W3) := step HB.out hb3
      clear hb3 hs3 V3 HB
      go_wp2_with fail
      go_ret2
      exact ⟨[], none, 0, 131, rfl, Ge.nil _ _, .inl ⟨HNO.out, rfl, rfl⟩, HB3.out⟩
    · obtain ⟨t, ts0, kts, e0, htn, htl, hLk, hP, hK, hZ⟩ := hr
      cases e0
      obtain ⟨tn, ta, tl, tc⟩ := t
      dsimp only at htn htl hLk hP
      subst htn
      have HR2 : Hid (Rtw W2 (fun b => w.heap.size ≤ b) (.cons tn k .nil) [⟨tn, ta, tl, tc⟩]) := ⟨_, [], kts, rfl, rfl, htl, hLk, hP, hK, rfl⟩
      have HE : Hid (ns = (Fo.cons tn k .nil).flat ∧ (Fo.cons tn k .nil).Ok wdB 0 1 ∧ ns.length ≤ 64) := ⟨he, ok, hle⟩
      have HKL : Hid (k.flat.length ≤ 64) := by have h9 := hle; rw [he] at h9; simp only [Fo.flat, List.length_cons, List.append_nil] at h9; show _ ≤ _; omega
      have HB2 : Hid (Below w.heap.size w W2) := hb2
      clear D hb2 he ok hle hLk hP hK hZ htl
      go_upto_region 4 with fail
      refine ent1 W2 _ _ (Q := fun W => Code.wp _ _ _ _ W) ?_
      intro W3 hb3 hs3 V3
      have HB3 : Hid (Below w.heap.size w W3) := step HB2.out hb3
      have HR3 : Hid (Rtw W3 (fun b => w.heap.size ≤ b) (.cons tn k .nil) [⟨tn, ta, tl, tc⟩]) := Rtw.imp (fun b hb hp => ⟨hp, hb3.block b hb⟩) HR2.out
      have D4 := rplain_any (fun b => w.heap.size ≤ b) 16 1 rfl (Nat.le_refl _) tn k 0 false ⟨tn, ta, tl, tc⟩ W3 HE.out.2.1 HKL.out HR3.out
      dsimp only [tvT, cT] at D4
      have g0 := V3.t0
      have g1 := V3.t1
      have g2 := V3.t2
      have g3 := V3.t3
      have g4 := V3.t4
      have g5 := V3.t5
      have g6 := V3.t6
      clear hb3 hs3 V3 HB2 HR2
      go_wp2_with fail
      refine D4.mono ?_
      rintro e W4 ⟨hb4, m4, j4, ⟨tn4, ta4, tl4, tc4⟩, rfl, hp4, hr4⟩
      have HB4 : Hid (Below w.heap.size w W4) := step HB3.out hb4
      have HP4 : Hid ((Fo.cons tn k .nil).plain false = .cons m4 j4 .nil) := hp4
      have HO4 : Hid ((Fo.cons m4 j4 .nil).Ok wdB 0 1) := by have h9 := plain_ok (.cons tn k .nil) false 0 1 HE.out.2.1; rw [hp4] at h9; exact h9
      have hjl : j4.flat.length ≤ 200 := by
        have h9 := plain_size (.cons tn k .nil) false
        rw [hp4] at h9
        have h8 := HKL.out
        simp only [Fo.flat, List.append_nil, List.length_cons] at h9
        omega
      have D5 := rlist_any _ 16 1 rfl m4 j4 0 ⟨tn4, ta4, tl4, tc4⟩ W4 HO4.out hjl hr4
      obtain ⟨F, hF⟩ : ∃ F, (Fo.cons m4 j4 .nil).flat = F := ⟨_, rfl⟩
      have HF : Hid (((Fo.cons tn k .nil).plain false).flat = F) := by show _ = _; rw [hp4, hF]
      rw [hF] at D5
      have hfl : F.length ≤ 201 := by rw [← hF]; simp only [Fo.flat, List.append_nil, List.length_cons]; omega
      dsimp only [tvT, cT] at D5
      clear D4 hb4 hp4 hr4 hF hjl g0 g1 g2 g3 g4 g5 g6
      go_wp2_with fail
      refine D5.mono ?_
      rintro e W5 ⟨hb5, a5, c5, rfl, hg5⟩
      have HB5 : Hid (Below w.heap.size w W5) := step HB4.out hb5
      have HG5 : Hid (Ge elN W5 W4.heap.size (.slice a5 F.length c5) F) := hg5
      have hsz := HB4.out.size
      clear D5 hb5 hg5
      rcases Nat.lt_or_ge 64 F.length with h65 | h65
      · have h65' : (64 : Int) < F.length := by omega
        have HL : Hid (64 < ((Fo.cons tn k .nil).plain false).flat.length) := by rw [HF.out]; exact h65
        clear h65
        go_wp2_with fail
        go_ret2
        exact ⟨[], none, 0, 3, rfl, Ge.nil _ _, .inr (.inr ⟨tn, k, HE.out.1, HE.out.2.1, HE.out.2.2, .inl ⟨HL.out, rfl, rfl⟩⟩), HB5.out⟩
      · have h65' : ¬ (64 : Int) < F.length := by omega
        have HL : Hid (((Fo.cons tn k .nil).plain false).flat.length ≤ 64 ∧ F = ((Fo.cons tn k .nil).plain false).flat) := ⟨by rw [HF.out]; exact h65, HF.out.symm⟩
        clear h65
        go_wp2_with fail
        go_ret2
        exact ⟨F, a5, c5, 0, rfl, HG5.out.le (by omega), .inr (.inr ⟨tn, k, HE.out.1, HE.out.2.1, HE.out.2.2, .inr ⟨HL.out.1, HL.out.2, rfl⟩⟩), HB5.out⟩
theorem plR_same {ns o1 o2 : List Nd} {e1 e2 : Int} (h1 : PlR ns o1 e1) (h2 : PlR ns o2 e2) : o1 = o2 ∧ e1 = e2 := by
  have cnd : ∀ n k, ns = (Fo.cons n k .nil).flat → (Fo.cons n k .nil).Ok wdB 0 1 → ns.length ≤ 64 → Cond wdB ns := fun n k h ok hl => cond_short hl h ok
  rcases h1 with ⟨hn, rfl, rfl⟩ | ⟨rfl, rfl, rfl⟩ | ⟨n, k, he, ok, hl, h1⟩
  · rcases h2 with ⟨-, rfl, rfl⟩ | ⟨rfl, -, -⟩ | ⟨n, k, he, ok, hl, -⟩
    · exact ⟨rfl, rfl⟩
    · exact absurd (.inl rfl) hn
    · exact absurd (cnd n k he ok hl) hn
  · rcases h2 with ⟨hn, -⟩ | ⟨-, rfl, rfl⟩ | ⟨n, k, he, -⟩
    · exact absurd (.inl rfl) hn
    · exact ⟨rfl, rfl⟩
    · simp [Fo.flat] at he
  · rcases h2 with ⟨hn, -⟩ | ⟨rfl, -⟩ | ⟨m, j, he2, ok2, -, h2⟩
    · exact absurd (cnd n k he ok hl) hn
    · simp [Fo.flat] at he
    · obtain ⟨rfl, rfl, -⟩ := one_tree (x := []) (y := []) ok ok2 (by rw [List.append_nil, List.append_nil, ← he, ← he2])
      rcases h1 with ⟨a1, rfl, rfl⟩ | ⟨a1, rfl, rfl⟩ <;> rcases h2 with ⟨b1, rfl, rfl⟩ | ⟨b1, rfl, rfl⟩
      · exact ⟨rfl, rfl⟩
      · omega
      · omega
      · exact ⟨rfl, rfl⟩
theorem plR_len {ns out : List Nd} {er : Int} (h : PlR ns out er) : out.length ≤ 64 := by
  rcases h with ⟨-, rfl, -⟩ | ⟨-, rfl, -⟩ | ⟨n, k, he, ok, hl, ⟨-, rfl, -⟩ | ⟨h, rfl, -⟩⟩
  · simp
  · simp
  · simp
  · exact h
/-- What traits' Names tells of nodes that are no condition. -/
theorem names_noP (ns : List Nd) (a : Option Addr) (cap : Nat) (w : World) (hL : Le elN w a ns.length ns) (h64 : ∀ n ∈ ns, N64 n) (hc : ¬ Cond wdB ns) :
    Calls Tryz.prog 19 #[.slice a ns.length cap] w fun e w' => e = .returned (.tuple #[.slice none 0 0, .slice none 0 0, .int .i64 131]) ∧ Below w.heap.size w w' := by
  have C1 := check13 ns a cap w hL h64
  rw [ckE_no hc] at C1
  clear hL h64 hc
  go_enter Tryz.func19, Tryz.ntmps19
  go_wp2_with fail
  refine C1.mono ?_
  rintro e W2 ⟨rfl, hb2⟩
  have HB2 : Hid (Below w.heap.size w W2) := hb2
  clear C1 hb2
  go_wp2_with fail
  refine bodyPost_ret (results_ttt rfl) rfl ?_
  exact ⟨rfl, HB2.out⟩
end Go.Proofs.YtblafbbnplfpjaaGreatDoor
namespace Go.Proofs.YtblafbbnplfpjaaGreatDoor
open Go.RowKit Go.Shelf
set_option linter.unusedVariables false
set_option linter.unusedSimpArgs false

set_option maxHeartbeats 4000000 in
theorem sameNodesL (l : List Nd) (a1 : Option Addr) (c1 : Nat) (a2 : Option Addr) (c2 : Nat) (w : World) (h1 : Le elN w a1 l.length l) (h2 : Le elN w a2 l.length l) (hl : l.length ≤ 5000000000000) :
    Calls Tryz.prog 21 #[.slice a1 l.length c1, .slice a2 l.length c2] w fun e w' => e = .returned (.bool true) ∧ Below w.heap.size w w' := by
  have H1 : Hid (Le elN w a1 l.length l) := h1
  have H2 : Hid (Le elN w a2 l.length l) := h2
  clear h1 h2
  go_enter Tryz.func21, Tryz.ntmps21
  go_wp2_with fail
  go_loopw [5] (fun j wr => ∃ i : Nat, j = .int .i64 i ∧ i ≤ l.length ∧ Hid (Below w.heap.size w wr)) (fun j _ => (l.length - (intOf j).toNat : Nat))
  case atStart => exact ⟨0, rfl, Nat.zero_le _, Below.refl _ _⟩
  case round =>
    obtain ⟨k, rfl, hk, HB⟩ := hrel
    rcases Nat.lt_or_ge k l.length with hlt | hge
    · have hii : (k : Int) < l.length := by omega
      obtain ⟨b1, o1, rfl⟩ := H1.out.ex (by omega)
      obtain ⟨b2, o2, rfl⟩ := H2.out.ex (by omega)
      obtain ⟨y, hy⟩ : ∃ y, l.getD k nd0 = y := ⟨_, rfl⟩
      have d0 : wr.cell? ⟨b1, o1 + (k * 6), none⟩ = some (.int .i64 y.kd) := by have := (H1.out.after HB.out).at k hlt 0 (.int .i64 y.kd) (by rw [show elN.dft = nd0 from rfl, hy]; rfl); simpa [elN, Nat.add_assoc] using this
      have d1 : wr.cell? ⟨b1, o1 + k * 6 + 1, none⟩ = some (.int .i64 y.ks) := by have := (H1.out.after HB.out).at k hlt 1 (.int .i64 y.ks) (by rw [show elN.dft = nd0 from rfl, hy]; rfl); simpa [elN, Nat.add_assoc] using this
      have d2 : wr.cell? ⟨b1, o1 + k * 6 + 2, none⟩ = some (sv y.nm) := by have := (H1.out.after HB.out).at k hlt 2 (sv y.nm) (by rw [show elN.dft = nd0 from rfl, hy]; rfl); simpa [elN, Nat.add_assoc] using this
      have d3 : wr.cell? ⟨b1, o1 + k * 6 + 3, none⟩ = some (.int .i64 y.op) := by have := (H1.out.after HB.out).at k hlt 3 (.int .i64 y.op) (by rw [show elN.dft = nd0 from rfl, hy]; rfl); simpa [elN, Nat.add_assoc] using this
      have d4 : wr.cell? ⟨b1, o1 + k * 6 + 4, none⟩ = some (.int .i64 y.un) := by have := (H1.out.after HB.out).at k hlt 4 (.int .i64 y.un) (by rw [show elN.dft = nd0 from rfl, hy]; rfl); simpa [elN, Nat.add_assoc] using this
      have d5 : wr.cell? ⟨b1, o1 + k * 6 + 5, none⟩ = some (.int .i64 y.pl) := by have := (H1.out.after HB.out).at k hlt 5 (.int .i64 y.pl) (by rw [show elN.dft = nd0 from rfl, hy]; rfl); simpa [elN, Nat.add_assoc] using this
      have e0 : wr.cell? ⟨b2, o2 + (k * 6), none⟩ = some (.int .i64 y.kd) := by have := (H2.out.after HB.out).at k hlt 0 (.int .i64 y.kd) (by rw [show elN.dft = nd0 from rfl, hy]; rfl); simpa [elN, Nat.add_assoc] using this
      have e1 : wr.cell? ⟨b2, o2 + k * 6 + 1, none⟩ = some (.int .i64 y.ks) := by have := (H2.out.after HB.out).at k hlt 1 (.int .i64 y.ks) (by rw [show elN.dft = nd0 from rfl, hy]; rfl); simpa [elN, Nat.add_assoc] using this
      have e2 : wr.cell? ⟨b2, o2 + k * 6 + 2, none⟩ = some (sv y.nm) := by have := (H2.out.after HB.out).at k hlt 2 (sv y.nm) (by rw [show elN.dft = nd0 from rfl, hy]; rfl); simpa [elN, Nat.add_assoc] using this
      have e3 : wr.cell? ⟨b2, o2 + k * 6 + 3, none⟩ = some (.int .i64 y.op) := by have := (H2.out.after HB.out).at k hlt 3 (.int .i64 y.op) (by rw [show elN.dft = nd0 from rfl, hy]; rfl); simpa [elN, Nat.add_assoc] using this
      have e4 : wr.cell? ⟨b2, o2 + k * 6 + 4, none⟩ = some (.int .i64 y.un) := by have := (H2.out.after HB.out).at k hlt 4 (.int .i64 y.un) (by rw [show elN.dft = nd0 from rfl, hy]; rfl); simpa [elN, Nat.add_assoc] using this
      have e5 : wr.cell? ⟨b2, o2 + k * 6 + 5, none⟩ = some (.int .i64 y.pl) := by have := (H2.out.after HB.out).at k hlt 5 (.int .i64 y.pl) (by rw [show elN.dft = nd0 from rfl, hy]; rfl); simpa [elN, Nat.add_assoc] using this
      clear hy
      obtain ⟨y0, y1, y2, y3, y4, y5⟩ := y
      dsimp only at d0 d1 d2 d3 d4 d5 e0 e1 e2 e3 e4 e5
      go_wp2_with fail
      go_quiet (fail)
      go_wp2_with fail
      go_roundw
      case rel => exact ⟨k + 1, by go_num, by omega, below_drewN HB.out _⟩
      case measure => simp [intOf]; omega
    · obtain rfl : k = l.length := by omega
      clear hge hk
      go_wp2_with fail
      go_ret
      exact ⟨rfl, HB.out⟩
end Go.Proofs.YtblafbbnplfpjaaGreatDoor
namespace Go.Proofs.YtblafbbnplfpjaaGreatDoor
open Go.RowKit Go.Shelf
set_option linter.unusedVariables false
set_option linter.unusedSimpArgs false

end Go.Proofs.YtblafbbnplfpjaaGreatDoor
namespace Go.Proofs.YtblafbbnplfpjaaGreatDoor
open Go.RowKit Go.Shelf
set_option linter.unusedVariables false

end Go.Proofs.YtblafbbnplfpjaaGreatDoor
