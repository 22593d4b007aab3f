/-
  traits: named, Names.
-/
import Derived.Test.YtblafbbnplfpjaaGreatDoorTrd
import Derived.Lib.SlicesCompact
namespace Go.Proofs.YtblafbbnplfpjaaGreatDoor
open Go.RowKit Go.Shelf Go.Sort
set_option linter.unusedVariables false

/-- Texts rising, each once. -/
def srt (l : List (List UInt8)) : List (List UInt8) := Go.Lib.compact (l.mergeSort fun x y => decide (x ≤ y))
theorem holds_of_ge {w : World} {B g n cap : Nat} {ss : List (List UInt8)} (h : Ge elS w B (.slice (some ⟨g, 0, none⟩) n cap) ss) : Holds encStr w g 0 ss.toArray := by
  intro j hj
  have hj' : j < ss.length := by simpa using hj
  have hn : n = ss.length := by
    obtain ⟨a', cap', e, -, -, -⟩ := h.shape
    simp only [Value.slice.injEq] at e
    exact e.2.1
  have := h.toLe.at j (by omega) 0 (sv (ss.getD j [])) rfl
  refine ⟨?_, h.frozen _⟩
  rw [show 0 + j = 0 + (j * elS.s + 0) by show 0 + j = 0 + (j * 1 + 0); omega, this]
  simp [hj', List.getD_eq_getElem?_getD]
theorem le_of_holds {w : World} {g : Nat} {ts pad : List (List UInt8)} (h : Holds encStr w g 0 (ts ++ pad).toArray) : Le elS w (some ⟨g, 0, none⟩) ts.length ts := by
  refine ⟨rfl, fun h0 => ⟨g, 0, rfl, fun i u hu => ?_⟩⟩
  have hi : i < ts.length := by
    rcases Nat.lt_or_ge i (rowE elS ts).length with h' | h'
    · rw [rowE_length] at h'; have h'' : i < ts.length * 1 := h'; omega
    · rw [List.getElem?_eq_none h'] at hu; cases hu
  have h1 := (h i (by simp; omega)).1
  have h2 := rowE_get elS 0 (by decide) ts i hi
  rw [show i * elS.s + 0 = i by show i * 1 + 0 = i; omega, hu] at h2
  have h3 : u = sv (ts.getD i []) := by simpa [elS] using h2
  rw [h1, h3]
  simp [List.getElem!_eq_getElem?_getD, List.getElem?_append_left hi, List.getD_eq_getElem?_getD, hi]
theorem gr_put {w : World} {g n : Nat} {os : Array Obj} (d : Array (List UInt8)) : w.grownBy (grow (putRow encStr (Sort.ahead w n) g 0 d) os) (some g) := by
  refine ⟨rfl, rfl, rfl, by simp, fun k hk hne => ?_⟩
  rw [heap_grow_old _ _ (by simpa using hk)]
  have : g ≠ k := fun e => hne (by rw [e])
  simp [putRow, mapBlock, Sort.ahead, Array.getElem?_modify, this]
theorem compact_le (l : List (List UInt8)) : (Go.Lib.compact l).length ≤ l.length := by
  unfold Go.Lib.compact Go.Lib.compactUpTo
  rw [List.length_map]
  exact Nat.le_trans (List.length_filter_le _ _) (by simp)
theorem gr_put0 {w : World} {g n : Nat} (d : Array (List UInt8)) : w.grownBy (putRow encStr (Sort.ahead w n) g 0 d) (some g) := by
  have := gr_put (w := w) (g := g) (n := n) (os := #[]) d
  rwa [grow_empty] at this
theorem nms_drop {ns : List Nd} {i : Nat} (h : i < ns.length) (c : Int) : nms c (ns.take (i + 1)) = nms c (ns.take i) ++ (if (ns.getD i nd0).kd = c then [(ns.getD i nd0).nm] else []) := by
  rw [take_one (d := nd0) h, nms_app, nms_cons]; simp [nms]
theorem results_ttt {fn : Func} {i j k : Nat} {tmps : Array Value} {w : World} (h : fn.results = #[.tmp i, .tmp j, .tmp k]) :
    (results fn tmps).run Tryz.prog w = .ok (.tuple #[tmps.getD i undef, tmps.getD j undef, tmps.getD k undef]) w := by
  simp [results, h, go_sem]
set_option maxHeartbeats 4000000 in
theorem named_any (ns : List Nd) (a : Option Addr) (cap : Nat) (c : Int) (w : World) (hL : Le elN w a ns.length ns) (hl : ns.length ≤ 64) :
    Calls Tryz.prog 44 #[.slice a ns.length cap, .int .i64 c] w fun e w' => ∃ a' c', e = .returned (.slice a' (srt (nms c ns)).length c') ∧ Le elS w' a' (srt (nms c ns)).length (srt (nms c ns)) ∧ Below w.heap.size w w' := by
  have HL : Hid (Le elN w a ns.length ns) := hL
  clear hL
  obtain ⟨S, hS⟩ : ∃ S, srt (nms c ns) = S := ⟨_, rfl⟩
  have HS : Hid (srt (nms c ns) = S) := hS
  rw [hS]
  clear hS
  go_enter Tryz.func44, Tryz.ntmps44
  go_wp2_with fail
  go_loopw [5, 7, 10] (fun li _ j wr => ∃ i : Nat, j = .int .i64 i ∧ i ≤ ns.length ∧ Hid (Ge elS wr w.heap.size li (nms c (ns.take i))) ∧ Hid (Below w.heap.size w wr) ∧ Hid ((nms c (ns.take i)).length ≤ i)) (fun _ _ j _ => (ns.length - (intOf j).toNat : Nat))
  case atStart => exact ⟨0, rfl, Nat.zero_le _, Ge.nil _ _, Below.refl _ _, Nat.zero_le _⟩
  case round =>
    obtain ⟨i, rfl, hi, HG, HB, HN⟩ := hrel
    rcases Nat.lt_or_ge i ns.length with hlt | hge
    · have hii : (i : Int) < ns.length := by omega
      obtain ⟨b, off, rfl⟩ := HL.out.ex (by omega)
      have LL := HL.out.after HB.out
      obtain ⟨n, hn⟩ : ∃ n, ns.getD i nd0 = n := ⟨_, rfl⟩
      have k0 : wr.cell? ⟨b, off + i * 6, none⟩ = some (.int .i64 n.kd) := LL.at i hlt 0 _ (by rw [← hn]; rfl)
      have k1 : wr.cell? ⟨b, off + i * 6 + 1, none⟩ = some (.int .i64 n.ks) := by rw [Nat.add_assoc]; exact LL.at i hlt 1 _ (by rw [← hn]; rfl)
      have k2 : wr.cell? ⟨b, off + i * 6 + 2, none⟩ = some (sv n.nm) := by rw [Nat.add_assoc]; exact LL.at i hlt 2 _ (by rw [← hn]; rfl)
      have k3 : wr.cell? ⟨b, off + i * 6 + 3, none⟩ = some (.int .i64 n.op) := by rw [Nat.add_assoc]; exact LL.at i hlt 3 _ (by rw [← hn]; rfl)
      have k4 : wr.cell? ⟨b, off + i * 6 + 4, none⟩ = some (.int .i64 n.un) := by rw [Nat.add_assoc]; exact LL.at i hlt 4 _ (by rw [← hn]; rfl)
      have k5 : wr.cell? ⟨b, off + i * 6 + 5, none⟩ = some (.int .i64 n.pl) := by rw [Nat.add_assoc]; exact LL.at i hlt 5 _ (by rw [← hn]; rfl)
      have hnx := nms_drop hlt c
      rw [hn] at hnx
      have HX : Hid (nms c (ns.take (i + 1)) = nms c (ns.take i) ++ (if n.kd = c then [n.nm] else [])) := hnx
      obtain ⟨ao, co, hli, -, -, -⟩ := HG.out.shape
      subst hli
      obtain ⟨L, hL⟩ : ∃ L, nms c (ns.take i) = L := ⟨_, rfl⟩
      rw [hL] at HG HN HX
      rw [hL]
      have hLl := HN.out
      clear hn hnx LL hL
      go_upto_region 5 with fail
      refine ent1 wr _ _ (Q := fun W => Code.wp _ _ _ _ W) ?_
      intro W1 hb1 hs1 V1
      have m0 := V1.n0
      have m2 := V1.n2
      have HB1 : Hid (Below w.heap.size w W1) := step HB.out hb1
      have HG1 : Hid (Ge elS W1 w.heap.size (.slice ao L.length co) L) := HG.out.after hb1
      have hsz1 := HB1.out.size
      clear hb1 hs1 V1 k0 k1 k2 k3 k4 k5 HG HB
      by_cases hk : n.kd = c
      · have hkb : (n.kd == c) = true := by simpa using hk
        have HX2 : Hid (nms c (ns.take (i + 1)) = L ++ [n.nm]) := by show _ = _; rw [HX.out, if_pos hk]
        clear hk HX
        go_wp2_with (at_builtin; refine wpList_appE rfl _ _ _ rfl elS rfl w.heap.size _ L rfl (HG1.out.al _) W1.heap.size 0 1 1 [n.nm] rfl (Le.one (Va.new W1 _ _) rfl) (by omega) (by simp; omega) ?_; intro v' w6 hg6 hgr6 hob6; obtain ⟨a6, c6, rfl, -, -, -⟩ := hg6.shape)
        have HG6 : Hid (Ge elS w6 w.heap.size (.slice a6 (L ++ [n.nm]).length c6) (L ++ [n.nm])) := hg6
        have HB6 : Hid (Below w.heap.size w w6) := HB1.out.trans (appE_below hgr6 HG1.out (by simp; omega) ((Below.refl _ _).alloc (by omega) _))
        clear hg6 hgr6 hob6 HG1 HB1
        go_wp2_with fail
        go_roundw
        case rel => exact ⟨i + 1, rfl, by omega, by rw [HX2.out]; have := HG6.out; first | exact this | (rw [List.length_append] at this; exact this), HB6.out, by rw [HX2.out, List.length_append]; simp; omega⟩
        case measure => simp [intOf]; omega
      · have hkb : (n.kd == c) = false := by simpa using hk
        have HX2 : Hid (nms c (ns.take (i + 1)) = L) := by show _ = _; rw [HX.out, if_neg hk, List.append_nil]
        clear hk HX
        go_wp2_with fail
        go_roundw
        case rel => exact ⟨i + 1, rfl, by omega, by rw [HX2.out]; exact HG1.out, HB1.out, by rw [HX2.out]; show _ ≤ _; omega⟩
        case measure => simp [intOf]; omega
    · obtain rfl : i = ns.length := by omega
      rw [List.take_length] at HG HN
      obtain ⟨L, hL⟩ : ∃ L, nms c ns = L := ⟨_, rfl⟩
      rw [hL] at HG HN HS
      have hLl := HN.out
      obtain ⟨ao, co, hli, hco, hcm, hsh⟩ := HG.out.shape
      subst hli
      clear hL hge hi HN
      rcases hsh with ⟨rfl, rfl, rfl⟩ | ⟨g, rfl⟩
      · have C1 := Tryz.slices_Sort_string_none none 0 wr
        have C2 := Tryz.slices_Compact_string_empty none 0 wr
        have HS2 : Hid (S = []) := by show _ = _; rw [← HS.out]; simp [srt, Go.Lib.compact, Go.Lib.compactUpTo]
        clear hco hcm
        go_wp2_with fail
        refine C1.mono ?_
        rintro e w2 ⟨rfl, rfl⟩
        clear C1
        go_wp2_with fail
        refine C2.mono ?_
        rintro e w3 ⟨rfl, rfl⟩
        clear C2
        go_wp2_with fail
        go_ret
        refine ⟨none, 0, ?_, ?_, HB.out⟩
        · rw [HS2.out]; rfl
        · rw [HS2.out]; exact Le.nil _ _
      · have hgl : g < wr.heap.size := HG.out.lt g rfl
        have hgB : w.heap.size ≤ g := HG.out.block g rfl
        have hH := holds_of_ge HG.out
        have C1 := Tryz.slices_Sort_string g 0 co L wr hH hgl (by omega)
        obtain ⟨M, hM⟩ : ∃ M, (L.mergeSort fun x y => decide (x ≤ y)) = M := ⟨_, rfl⟩
        have hML : M.length = L.length := by rw [← hM, List.length_mergeSort]
        have HCM : Hid (Go.Lib.compact M = S) := by show _ = _; rw [← hM]; exact HS.out
        rw [hM] at C1
        clear hM hcm
        go_wp2_with fail
        refine C1.mono ?_
        rintro e w2 ⟨rfl, n, os, hw2⟩
        have H2 : Holds encStr w2 g 0 M.toArray := by
          rw [hw2]
          exact holds_grow _ _ _ _ _ _ (by simpa using hgl) (holds_putRow encStr (Sort.ahead wr n) g 0 L.toArray M.toArray hH (by simp [hML]))
        have G2 : wr.grownBy w2 (some g) := by rw [hw2]; exact gr_put _
        have HB2 : Hid (Below w.heap.size w w2) := HB.out.trans (gr_to G2 hgB HB.out.size)
        have C2 := Tryz.slices_Compact_string g 0 co M w2 H2 (by omega) (by omega)
        rw [hML, HCM.out] at C2
        have hSL : S.length ≤ L.length := by rw [← HCM.out, ← hML]; exact compact_le M
        have HH2 : Hid (Holds encStr w2 g 0 M.toArray) := H2
        have hs2 := G2.size
        have hsB := HB.out.size
        clear hw2 C1 H2 hH G2
        go_wp2_with fail
        refine C2.mono ?_
        rintro e w3 ⟨rfl, q, hw3⟩
        have H3 : Holds encStr w3 g 0 (S ++ List.replicate (L.length - S.length) []).toArray := by
          rw [hw3]
          exact holds_putRow encStr (Sort.ahead w2 q) g 0 M.toArray _ HH2.out (by simp; omega)
        have G3 : w2.grownBy w3 (some g) := by rw [hw3]; exact gr_put0 _
        have B3 : Below w.heap.size w w3 := HB2.out.trans (gr_to G3 hgB (by omega))
        have HLe : Hid (Le elS w3 (some ⟨g, 0, none⟩) S.length S) := le_of_holds H3
        clear hw3 C2 H3 G3
        go_wp2_with fail
        go_ret
        exact ⟨some ⟨g, 0, none⟩, co, rfl, HLe.out, B3⟩
/-- How Names ends where the nodes are a condition. -/
theorem names_ok (ns : List Nd) (a : Option Addr) (cap : Nat) (w : World) (hL : Le elN w a ns.length ns) (h64 : ∀ n ∈ ns, N64 n) (hc : Cond wdB ns) :
    Calls Tryz.prog 19 #[.slice a ns.length cap] w fun e w' => ∃ a1 c1 a2 c2, e = .returned (.tuple #[.slice a1 (srt (nms 4 ns)).length c1, .slice a2 (srt (nms 5 ns)).length c2, .int .i64 0]) ∧ Le elS w' a1 (srt (nms 4 ns)).length (srt (nms 4 ns)) ∧ Le elS w' a2 (srt (nms 5 ns)).length (srt (nms 5 ns)) ∧ Below w.heap.size w w' := by
  have C1 := check13 ns a cap w hL h64
  rw [ckE_ok hc] at C1
  have hl : ns.length ≤ 64 := by
    rcases hc with rfl | h
    · simp
    · exact h.1
  have HL : Hid (Le elN w a ns.length ns) := hL
  have C4 := fun W h => named_any ns a cap 4 W h hl
  have C5 := fun W h => named_any ns a cap 5 W h hl
  obtain ⟨S4, hS4⟩ : ∃ S, srt (nms 4 ns) = S := ⟨_, rfl⟩
  obtain ⟨S5, hS5⟩ : ∃ S, srt (nms 5 ns) = S := ⟨_, rfl⟩
  rw [hS4] at C4 ⊢
  rw [hS5] at C5 ⊢
  clear hL h64 hc hS4 hS5
  go_enter Tryz.func19, Tryz.ntmps19
  go_wp2_with fail
  refine C1.mono ?_
  rintro e W2 ⟨rfl, hb2⟩
  have D4 := C4 W2 (HL.out.after hb2)
  clear C1 C4
  go_wp2_with fail
  refine D4.mono ?_
  rintro e W3 ⟨a1, c1, rfl, hl1, hb3⟩
  have hb23 := step hb2 hb3
  have D5 := C5 W3 (HL.out.after hb23)
  have HL1 : Hid (Le elS W3 a1 S4.length S4) := hl1
  clear D4 C5 hl1
  go_wp2_with fail
  refine D5.mono ?_
  rintro e W4 ⟨a2, c2, rfl, hl2, hb4⟩
  have HL2 : Hid (Le elS W4 a2 S5.length S5) := hl2
  have B4 := step hb23 hb4
  have HL3 : Hid (Le elS W4 a1 S4.length S4) := HL1.out.after hb4
  clear D5 hl2 hb4 HL1
  go_wp2_with fail
  refine bodyPost_ret (results_ttt rfl) rfl ?_
  exact ⟨a1, c1, a2, c2, rfl, HL3.out, HL2.out, B4⟩
end Go.Proofs.YtblafbbnplfpjaaGreatDoor
