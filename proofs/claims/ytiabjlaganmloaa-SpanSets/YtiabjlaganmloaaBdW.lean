/-
  The document's bounds: where spans begin and end, rising, each day once.
-/
import Derived.Test.YtiabjlaganmloaaSpC
import Derived.Test.YtiabjlaganmloaaAlD
import Derived.Deep.RegionHeld3
namespace Go.Proofs.Ytiabjlaganmloaa
open Go.RowKit Go.Shelf
set_option linter.unusedVariables false
set_option linter.unusedSimpArgs false

/-- Where spans begin and end. -/
def en2 (l : List Pr) : List Int := l.flatMap (fun p => [p.1, p.2])
theorem en2_length (l : List Pr) : (en2 l).length = 2 * l.length := by
  induction l with
  | nil => rfl
  | cons p l ih => simp only [en2, List.flatMap_cons, List.length_append, List.length_cons, List.length_nil] at *; omega
theorem en2_take {l : List Pr} {i : Nat} (h : i < l.length) : en2 (l.take (i + 1)) = en2 (l.take i) ++ [(l.getD i (0, 0)).1, (l.getD i (0, 0)).2] := by
  unfold en2
  rw [List.take_succ_eq_append_getElem h, List.flatMap_append, List.getD_eq_getElem?_getD, List.getElem?_eq_getElem h]
  simp only [List.flatMap_cons, List.flatMap_nil, List.append_nil, Option.getD_some]
theorem mem_en2 {l : List Pr} {z : Int} : z ∈ en2 l ↔ ∃ p ∈ l, z = p.1 ∨ z = p.2 := by simp [en2]
theorem Gd.nil (w : World) (B : Nat) : Gd w B (.slice none 0 0) [] := ⟨rfl, .inl ⟨rfl, rfl⟩⟩
theorem ld_new2 (w : World) (a b : Int) : Ld (w.alloc (.cells #[.int .i64 a, .int .i64 b] 22)) (some ⟨w.heap.size, 0, none⟩) 2 [a, b] := by
  have V := Va.new w 22 #[.int .i64 a, .int .i64 b]
  refine ⟨rfl, fun _ => ⟨_, _, rfl, fun i hi => ?_⟩⟩
  match i, hi with
  | 0, _ => exact V.c0
  | 1, _ => exact V.c1
  | k + 2, h => exact absurd h (by omega)
theorem ld_new1 (w : World) (a : Int) : Ld (w.alloc (.cells #[.int .i64 a] 22)) (some ⟨w.heap.size, 0, none⟩) 1 [a] := by
  have V := Va.new w 22 #[.int .i64 a]
  refine ⟨rfl, fun _ => ⟨_, _, rfl, fun i hi => ?_⟩⟩
  match i, hi with
  | 0, _ => exact V.cell
  | k + 1, h => exact absurd h (by omega)
theorem two_al {w X : World} {b i : Nat} {x0 x1 : Int} {o : Obj} (h : X.cell? ⟨b, i, none⟩ = some (.int .i64 x0) ∧ X.cell? ⟨b, i + 1, none⟩ = some (.int .i64 x1) ∧ Hid (Below w.heap.size w X ∧ b < w.heap.size)) :
    (X.alloc o).cell? ⟨b, i, none⟩ = some (.int .i64 x0) ∧ (X.alloc o).cell? ⟨b, i + 1, none⟩ = some (.int .i64 x1) ∧ Hid (Below w.heap.size w (X.alloc o) ∧ b < w.heap.size) := by
  obtain ⟨h1, h2, h3, h4⟩ := h
  have hb : Below X.heap.size X (X.alloc o) := (Below.refl _ _).alloc (Nat.le_refl _) _
  exact ⟨(hb.cell (p := ⟨b, i, none⟩) (cell_lt h1)).trans h1, (hb.cell (p := ⟨b, i + 1, none⟩) (cell_lt h2)).trans h2, h3.alloc h3.size _, h4⟩
theorem two_dr {w X : World} {b i : Nat} {x0 x1 : Int} (h : X.cell? ⟨b, i, none⟩ = some (.int .i64 x0) ∧ X.cell? ⟨b, i + 1, none⟩ = some (.int .i64 x1) ∧ Hid (Below w.heap.size w X ∧ b < w.heap.size)) :
    X.drew.cell? ⟨b, i, none⟩ = some (.int .i64 x0) ∧ X.drew.cell? ⟨b, i + 1, none⟩ = some (.int .i64 x1) ∧ Hid (Below w.heap.size w X.drew ∧ b < w.heap.size) := by
  obtain ⟨h1, h2, h3, h4⟩ := h
  exact ⟨h1, h2, ⟨h3.os, h3.tape, h3.output, h3.size, h3.block⟩, h4⟩
theorem two_gr {w X w3 : World} {v : Value} {b i : Nat} {x0 x1 : Int} (h : X.cell? ⟨b, i, none⟩ = some (.int .i64 x0) ∧ X.cell? ⟨b, i + 1, none⟩ = some (.int .i64 x1) ∧ Hid (Below w.heap.size w X ∧ b < w.heap.size)) (hgr : X.grownBy w3 v.ownBlock) (hle : w.heap.size ≤ X.heap.size) (hbk : ∀ k, v.ownBlock = some k → w.heap.size ≤ k) :
    w3.cell? ⟨b, i, none⟩ = some (.int .i64 x0) ∧ w3.cell? ⟨b, i + 1, none⟩ = some (.int .i64 x1) ∧ Hid (Below w.heap.size w w3 ∧ b < w.heap.size) := by
  obtain ⟨h1, h2, h3, h4⟩ := h
  have hb : Below w.heap.size X w3 := (Below.refl _ _).grown hgr hle hbk
  exact ⟨(hb.cell (p := ⟨b, i, none⟩) h4).trans h1, (hb.cell (p := ⟨b, i + 1, none⟩) h4).trans h2, h3.trans hb, h4⟩
theorem Gd.le {w : World} {B B' : Nat} {v : Value} {zs : List Int} (h : Gd w B v zs) (hb : B' ≤ B) : Gd w B' v zs := ⟨h.1, by
  rcases h.2 with h | ⟨g, cap, cur, e, hB, r⟩
  · exact .inl h
  · exact .inr ⟨g, cap, cur, e, Nat.le_trans hb hB, r⟩⟩
theorem nameR (w : World) (n : Nat) {Q : World → Prop} (h : ∀ W, (∀ p, W.cell? p = w.cell? p) → Below w.heap.size w W → W.heap.size = w.heap.size → Q W) : Q (w.drewN n) := h _ (fun _ => rfl) (below_drewN (Below.refl _ _) n) rfl
set_option maxRecDepth 20000 in
set_option maxHeartbeats 8000000 in
theorem bounds_any (a : Option Addr) (la ca : Nat) (ps : List Pr) (b : Option Addr) (lb cb : Nat) (qs : List Pr) (w : World) (h : Ls w a la ps) (h' : Ls w b lb qs) (hl : la ≤ 100000) (hl' : lb ≤ 100000) :
    Calls Try.prog 57 #[.slice a la ca, .slice b lb cb] w fun e w' => ∃ v zs, e = .returned v ∧ Gd w' w.heap.size v zs ∧ Hid (Rises zs ∧ ∀ z, z ∈ zs ↔ z ∈ en2 ps ++ en2 qs) ∧ Below w.heap.size w w' := by
  obtain rfl := h.1
  obtain rfl := h'.1
  have HL : Hid (Ls w a ps.length ps) := h
  have HL' : Hid (Ls w b qs.length qs) := h'
  clear h h'
  go_enter Try.func57, Try.ntmps57
  go_wp2_with fail
  go_loopw [5, 6] (fun s k wr => ∃ (i : Nat), i ≤ ps.length ∧ k = .int .i64 (i : Int) ∧ Gd wr w.heap.size s (en2 (ps.take i)) ∧ Below w.heap.size w wr) (fun _ k _ => ps.length - (intOf k).toNat)
  case atStart => exact ⟨0, Nat.zero_le _, by go_num, Gd.nil _ _, Below.refl _ _⟩
  case round =>
    obtain ⟨i, hi, rfl, hG, hB⟩ := hrel
    obtain ⟨av, cv, rfl, -, -⟩ := hG.shape
    rcases Nat.lt_or_ge i ps.length with hlt | hge
    · have HE : Hid (en2 (ps.take (i + 1)) = (en2 (ps.take i)) ++ [(ps.getD i (0, 0)).1, (ps.getD i (0, 0)).2]) := by show _ = _; rw [en2_take hlt]
      have HAL : Hid ((en2 (ps.take i)).length + 2 ≤ 8796093022208) := by show _ ≤ _; simp only [List.length_append, en2_length, List.length_take]; omega
      generalize en2 (ps.take i) = acc at *
      have HG : Hid (Gd wr w.heap.size (.slice av acc.length cv) acc) := hG
      obtain ⟨bb, off, rfl, hcc⟩ := (HL.out.after hB).2 (by omega)
      have c0 := (hcc i hlt).1
      have c1 := (hcc i hlt).2
      generalize (ps.getD i (0, 0)).1 = x0 at *
      generalize (ps.getD i (0, 0)).2 = x1 at *
      have hjl : (i : Int) < ps.length := by omega
      have hj0 : ¬ ((i : Int) < 0) := by omega
      have hsw := hB.size
      have hbb : bb < w.heap.size := HL.out.low (by omega) bb off rfl
      clear hcc hG
      go_wp2_with fail
      go_region_held3 (fun W => W.cell? ⟨bb, off + i * 2, none⟩ = some (.int .i64 x0) ∧ W.cell? ⟨bb, off + i * 2 + 1, none⟩ = some (.int .i64 x1) ∧ Hid (Below w.heap.size w W ∧ bb < w.heap.size))
        (first | exact ⟨c0, c1, hB, hbb⟩ | exact two_dr ⟨c0, c1, hB, hbb⟩ | exact two_al ⟨c0, c1, hB, hbb⟩ | exact two_dr (two_al ⟨c0, c1, hB, hbb⟩) | exact two_gr (two_dr (two_al ⟨c0, c1, hB, hbb⟩)) hgr3 (by simp; omega) HG.out.block | exact two_gr (two_al ⟨c0, c1, hB, hbb⟩) hgr3 (by simp; omega) HG.out.block)
        ((refine step_appD rfl _ _ rfl w.heap.size _ acc rfl (HG.out.al _) ⟨wr.heap.size, 0, none⟩ 2 2 [x0, x1] rfl (ld_new2 wr _ _) HAL.out (by simp; omega) ?_; intro v' w3 hg3 hgr3))
      have hgB := (two_gr (two_dr (two_al ⟨c0, c1, hB, hbb⟩)) hgr3 (by simp; omega) HG.out.block).2.2.1
      obtain ⟨a3, c3, rfl, -, -⟩ := hg3.shape
      go_wp2_with fail
      exact ⟨⟨i + 1, by omega, by go_num, by rw [HE.out]; first | exact hg3 | (rw [List.length_append] at hg3; exact hg3), hgB⟩, by simp [intOf] <;> omega⟩
    · have hkz : ¬ (i : Int) < ps.length := by omega
      obtain rfl : i = ps.length := by omega
      rw [List.take_length] at hG
      clear hge hi
      go_wp2_with fail
      go_loopw [5, 7] (fun s k wr => ∃ (i : Nat), i ≤ qs.length ∧ k = .int .i64 (i : Int) ∧ Gd wr w.heap.size s (en2 ps ++ en2 (qs.take i)) ∧ Below w.heap.size w wr) (fun _ k _ => qs.length - (intOf k).toNat)
      case atStart => exact ⟨0, Nat.zero_le _, by go_num, by simpa [en2] using hG, hB⟩
      case round =>
        obtain ⟨i, hi, rfl, hG, hB⟩ := hrel
        obtain ⟨av, cv, rfl, -, -⟩ := hG.shape
        rcases Nat.lt_or_ge i qs.length with hlt | hge
        · have HE : Hid (en2 ps ++ en2 (qs.take (i + 1)) = (en2 ps ++ en2 (qs.take i)) ++ [(qs.getD i (0, 0)).1, (qs.getD i (0, 0)).2]) := by show _ = _; rw [en2_take hlt, ← List.append_assoc]
          have HAL : Hid ((en2 ps ++ en2 (qs.take i)).length + 2 ≤ 8796093022208) := by show _ ≤ _; simp only [List.length_append, en2_length, List.length_take]; omega
          generalize en2 ps ++ en2 (qs.take i) = acc at *
          have HG : Hid (Gd wr w.heap.size (.slice av acc.length cv) acc) := hG
          obtain ⟨bb, off, rfl, hcc⟩ := (HL'.out.after hB).2 (by omega)
          have c0 := (hcc i hlt).1
          have c1 := (hcc i hlt).2
          generalize (qs.getD i (0, 0)).1 = x0 at *
          generalize (qs.getD i (0, 0)).2 = x1 at *
          have hjl : (i : Int) < qs.length := by omega
          have hj0 : ¬ ((i : Int) < 0) := by omega
          have hsw := hB.size
          have hbb : bb < w.heap.size := HL'.out.low (by omega) bb off rfl
          clear hcc hG
          go_wp2_with fail
          go_region_held3 (fun W => W.cell? ⟨bb, off + i * 2, none⟩ = some (.int .i64 x0) ∧ W.cell? ⟨bb, off + i * 2 + 1, none⟩ = some (.int .i64 x1) ∧ Hid (Below w.heap.size w W ∧ bb < w.heap.size))
            (first | exact ⟨c0, c1, hB, hbb⟩ | exact two_dr ⟨c0, c1, hB, hbb⟩ | exact two_al ⟨c0, c1, hB, hbb⟩ | exact two_dr (two_al ⟨c0, c1, hB, hbb⟩) | exact two_gr (two_dr (two_al ⟨c0, c1, hB, hbb⟩)) hgr3 (by simp; omega) HG.out.block | exact two_gr (two_al ⟨c0, c1, hB, hbb⟩) hgr3 (by simp; omega) HG.out.block)
            ((refine step_appD rfl _ _ rfl w.heap.size _ acc rfl (HG.out.al _) ⟨wr.heap.size, 0, none⟩ 2 2 [x0, x1] rfl (ld_new2 wr _ _) HAL.out (by simp; omega) ?_; intro v' w3 hg3 hgr3))
          have hgB := (two_gr (two_dr (two_al ⟨c0, c1, hB, hbb⟩)) hgr3 (by simp; omega) HG.out.block).2.2.1
          obtain ⟨a3, c3, rfl, -, -⟩ := hg3.shape
          go_wp2_with fail
          exact ⟨⟨i + 1, by omega, by go_num, by rw [HE.out]; first | exact hg3 | (rw [List.length_append] at hg3; exact hg3), hgB⟩, by simp [intOf] <;> omega⟩
        · have hkz : ¬ (i : Int) < qs.length := by omega
          obtain rfl : i = qs.length := by omega
          rw [List.take_length] at hG
          clear hge hi
          go_wp2_with fail
          obtain ⟨base, hbase⟩ : ∃ l, l = en2 ps ++ en2 qs := ⟨_, rfl⟩
          have HBS : Hid (base = en2 ps ++ en2 qs) := hbase
          have hbl : (en2 ps).length + (en2 qs).length = base.length := by rw [hbase, List.length_append]
          have hb4 : base.length ≤ 400000 := by rw [← hbl, en2_length, en2_length]; omega
          rw [← hbase] at hG
          rw [hbl]
          clear hbase hbl HL HL' hl hl'
          go_loopw [5, 8] (fun s k wr => ∃ (xs : List Int) (wd : Nat), k = .int .i64 (wd : Int) ∧ 1 ≤ wd ∧ wd ≤ 2 * base.length + 1 ∧ Hid (xs.length = base.length ∧ RS wd xs ∧ ∀ z, z ∈ xs ↔ z ∈ base) ∧ Gd wr w.heap.size s xs ∧ Below w.heap.size w wr) (fun _ k _ => base.length - (intOf k).toNat)
          case atStart => exact ⟨base, 1, by go_num, Nat.le_refl _, by omega, ⟨rfl, RS.one _, fun z => Iff.rfl⟩, hG, hB⟩
          case round =>
            clear hG hB
            obtain ⟨xs, wd, rfl, hw1, hw2, hX, hG, hB⟩ := hrel
            obtain ⟨av, cv, rfl, -, -⟩ := hG.shape
            have hxl := hX.out.1
            rcases Nat.lt_or_ge wd xs.length with hlt | hge
            · have hwz : (wd : Int) < xs.length := by omega
              have hxl' : xs.length ≤ 400000 := by omega
              have HXG : Hid (Gd wr w.heap.size (.slice av xs.length cv) xs) := hG
              clear hxl hG
              go_wp2_with fail
              obtain ⟨X, hXe⟩ : ∃ X, X = wr := ⟨_, rfl⟩
              subst hXe
              go_loopw [9, 10] (fun s k wr2 => ∃ (N : List Int) (t : Nat), k = .int .i64 ((2 * wd * t : Nat) : Int) ∧ 2 * wd * t ≤ xs.length + 2 * wd ∧ Hid (NS xs wd t N) ∧ Gd wr2 X.heap.size s N ∧ Below X.heap.size X wr2) (fun _ k _ => xs.length - (intOf k).toNat)
              case atStart => exact ⟨[], 0, by go_num, by omega, NS.start _ _, Gd.nil _ _, Below.refl _ _⟩
              case round =>
                obtain ⟨N, t, rfl, hft, hN, hGN, hB2⟩ := hrel
                obtain ⟨an, cn, rfl, -, -⟩ := hGN.shape
                obtain ⟨fr, hfr⟩ : ∃ fr, fr = 2 * wd * t := ⟨_, rfl⟩
                have HFR : Hid (fr = 2 * wd * t) := hfr
                rw [← hfr] at hft ⊢
                clear hfr
                rcases Nat.lt_or_ge fr xs.length with hf | hf
                · have hfz : (fr : Int) < xs.length := by omega
                  have wa : IntKind.i64.wrap ((fr : Int) + wd) = (fr : Int) + wd := by rw [IntKind.wrap_i64]; omega
                  have wb : IntKind.i64.wrap ((fr : Int) + wd + wd) = (fr : Int) + wd + wd := by rw [IntKind.wrap_i64]; omega
                  have wc : IntKind.i64.wrap ((xs.length : Int) + wd) = (xs.length : Int) + wd := by rw [IntKind.wrap_i64]; omega
                  obtain ⟨mid, hmid⟩ : ∃ m : Nat, (m : Int) = min ((fr : Int) + wd) xs.length := ⟨min (fr + wd) xs.length, by omega⟩
                  obtain ⟨en, hen⟩ : ∃ m : Nat, (m : Int) = min (min ((fr : Int) + wd) xs.length + wd) xs.length := ⟨min (min (fr + wd) xs.length + wd) xs.length, by omega⟩
                  have HME : Hid (mid = min (fr + wd) xs.length ∧ en = min (fr + 2 * wd) xs.length) := ⟨by omega, by omega⟩
                  go_wp2_with fail
                  rw [← hen, ← hmid]
                  have hb1 : fr ≤ mid ∧ mid ≤ en ∧ en ≤ xs.length := by have := HME.out; omega
                  have HRW : Hid ((∀ a b, fr ≤ a → a ≤ b → b < mid → gt xs a ≤ gt xs b) ∧ (∀ a b, mid ≤ a → a ≤ b → b < en → gt xs a ≤ gt xs b)) := by
                    have := RS.row (t := t) hX.out.2.1 hw1
                    rw [← HFR.out, ← HME.out.1, ← HME.out.2] at this
                    exact this
                  clear hmid hen wa wb wc
                  go_loopw [9, 13, 14] (fun s i k wr3 => ∃ (M : List Int) (i' k' : Nat), i = .int .i64 (i' : Int) ∧ k = .int .i64 (k' : Int) ∧ Hid (MS xs fr mid en i' k' M) ∧ Gd wr3 X.heap.size s (N ++ M) ∧ Below X.heap.size X wr3) (fun _ i k _ => (mid - (intOf i).toNat) + (en - (intOf k).toNat))
                  case atStart => exact ⟨[], fr, mid, rfl, rfl, MS.start hb1.1 hb1.2.1 hb1.2.2, by simpa using hGN, hB2⟩
                  case round =>
                    clear hGN hB2
                    obtain ⟨M, i', k', rfl, rfl, hM, hGN, hB2⟩ := hrel
                    obtain ⟨an, cn, rfl, -, -⟩ := hGN.shape
                    have b1 := hM.out.b1; have b2 := hM.out.b2; have b3 := hM.out.b3; have b4 := hM.out.b4; have b5 := hM.out.b5
                    have HAL : Hid ((N ++ M).length + 1 ≤ 8796093022208) := by
                      have h1 := hM.out.len; have h2 := hN.out.len; show _ ≤ _; rw [List.length_append]; omega
                    generalize hq : N ++ M = NM at *
                    have HQ : Hid (N ++ M = NM) := hq
                    have HG : Hid (Gd wr X.heap.size (.slice an NM.length cn) NM) := hGN
                    clear hq hGN
                    have hsw := hB2.size
                    rcases Nat.lt_or_ge i' mid with hi | hi
                    · have hiz : (i' : Int) < mid := by omega
                      obtain ⟨bb, off, rfl, hcc⟩ := ((Gd.ld HXG.out).after hB2).2 (by omega)
                      have ci := hcc i' (by omega)
                      have hil : (i' : Int) < xs.length := by omega
                      have hi0 : ¬ (i' : Int) < 0 := by omega
                      rcases Nat.eq_or_lt_of_le b4 with hke | hk
                      · have hkb : (k' : Int) = en := by omega
                        have hkc : ((k' : Int) == (en : Int)) = true := by simp [hkb]
                        have HC : Hid (k' = en ∨ gt xs i' ≤ gt xs k') := .inl hke
                        obtain ⟨z, hz⟩ : ∃ z, z = gt xs i' := ⟨_, rfl⟩
                        have HZ : Hid (z = gt xs i') := hz
                        have cw : wr.cell? ⟨bb, off + i', none⟩ = some (.int .i64 z) := by rw [hz]; exact ci
                        clear hz ci hke hkb
                        clear hcc
                        go_wp2_with fail
                        go_quiet (fail)
                        refine nameR wr nq (Q := fun W => Exit.then _ _ _ _ W) (fun wq hcell hBw hsq => ?_)
                        have hBq : Below X.heap.size X wq := hB2.trans (hBw.mono hsw)
                        have HGq : Hid (Gd wq X.heap.size (.slice an NM.length cn) NM) := HG.out.after hBw
                        have cz : wq.cell? ⟨bb, off + i', none⟩ = some (.int .i64 z) := (hcell _).trans cw
                        have hsq2 : X.heap.size ≤ wq.heap.size := by omega
                        clear hcell hBw hsq
                        go_wp2_with (at_builtin; refine wpList_appD rfl _ _ rfl X.heap.size _ NM rfl (HGq.out.al _) ⟨wq.heap.size, 0, none⟩ 1 1 [z] rfl (ld_new1 wq _) HAL.out (by simp; omega) ?_; intro v' w3 hg3 hgr3; obtain ⟨a3, c3, rfl, -, -⟩ := hg3.shape)
                        have hgB : Below X.heap.size X w3 := (hBq.alloc hsq2 _).trans ((Below.refl _ _).grown hgr3 (by simp; omega) HGq.out.block)
                        exact ⟨⟨M ++ [z], i' + 1, k', by go_num, by go_num, by rw [HZ.out]; exact hM.out.left hi HRW.out.1 HRW.out.2 HC.out, by rw [← List.append_assoc, HQ.out]; first | exact hg3 | (rw [List.length_append] at hg3; exact hg3), hgB⟩, by simp [intOf] <;> omega⟩
                      · have hkz : (k' : Int) < en := by omega
                        have hkc : ((k' : Int) == (en : Int)) = false := by rw [beq_eq_false_iff_ne]; omega
                        have hkl : (k' : Int) < xs.length := by omega
                        have hk0 : ¬ (k' : Int) < 0 := by omega
                        have ck := hcc k' (by omega)
                        obtain ⟨y, hy⟩ : ∃ y, y = gt xs k' := ⟨_, rfl⟩
                        have HY : Hid (y = gt xs k') := hy
                        have cy : wr.cell? ⟨bb, off + k', none⟩ = some (.int .i64 y) := by rw [hy]; exact ck
                        by_cases hzy : gt xs i' ≤ gt xs k'
                        · have HC : Hid (k' = en ∨ gt xs i' ≤ gt xs k') := .inr hzy
                          obtain ⟨z, hz⟩ : ∃ z, z = gt xs i' := ⟨_, rfl⟩
                          have HZ : Hid (z = gt xs i') := hz
                          have cw : wr.cell? ⟨bb, off + i', none⟩ = some (.int .i64 z) := by rw [hz]; exact ci
                          have hle : z ≤ y := by rw [hz, hy]; exact hzy
                          clear hz hy ci ck hzy
                          clear hcc
                          go_wp2_with fail
                          go_quiet (fail)
                          refine nameR wr nq (Q := fun W => Exit.then _ _ _ _ W) (fun wq hcell hBw hsq => ?_)
                          have hBq : Below X.heap.size X wq := hB2.trans (hBw.mono hsw)
                          have HGq : Hid (Gd wq X.heap.size (.slice an NM.length cn) NM) := HG.out.after hBw
                          have cz : wq.cell? ⟨bb, off + i', none⟩ = some (.int .i64 z) := (hcell _).trans cw
                          have hsq2 : X.heap.size ≤ wq.heap.size := by omega
                          clear hcell hBw hsq
                          go_wp2_with (at_builtin; refine wpList_appD rfl _ _ rfl X.heap.size _ NM rfl (HGq.out.al _) ⟨wq.heap.size, 0, none⟩ 1 1 [z] rfl (ld_new1 wq _) HAL.out (by simp; omega) ?_; intro v' w3 hg3 hgr3; obtain ⟨a3, c3, rfl, -, -⟩ := hg3.shape)
                          have hgB : Below X.heap.size X w3 := (hBq.alloc hsq2 _).trans ((Below.refl _ _).grown hgr3 (by simp; omega) HGq.out.block)
                          exact ⟨⟨M ++ [z], i' + 1, k', by go_num, by go_num, by rw [HZ.out]; exact hM.out.left hi HRW.out.1 HRW.out.2 HC.out, by rw [← List.append_assoc, HQ.out]; first | exact hg3 | (rw [List.length_append] at hg3; exact hg3), hgB⟩, by simp [intOf] <;> omega⟩
                        · have HC : Hid (i' = mid ∨ gt xs k' < gt xs i') := .inr (by omega)
                          obtain ⟨x, hx⟩ : ∃ x, x = gt xs i' := ⟨_, rfl⟩
                          have cx : wr.cell? ⟨bb, off + i', none⟩ = some (.int .i64 x) := by rw [hx]; exact ci
                          obtain ⟨z, hz⟩ : ∃ z, z = gt xs k' := ⟨_, rfl⟩
                          have HZ : Hid (z = gt xs k') := hz
                          have cw : wr.cell? ⟨bb, off + k', none⟩ = some (.int .i64 z) := by rw [hz]; exact ck
                          have hle : ¬ x ≤ z := by rw [hz, hx]; exact hzy
                          clear hz hx hy ci ck hzy cy HY
                          clear hcc
                          go_wp2_with fail
                          go_quiet (fail)
                          refine nameR wr nq (Q := fun W => Exit.then _ _ _ _ W) (fun wq hcell hBw hsq => ?_)
                          have hBq : Below X.heap.size X wq := hB2.trans (hBw.mono hsw)
                          have HGq : Hid (Gd wq X.heap.size (.slice an NM.length cn) NM) := HG.out.after hBw
                          have cz : wq.cell? ⟨bb, off + k', none⟩ = some (.int .i64 z) := (hcell _).trans cw
                          have hsq2 : X.heap.size ≤ wq.heap.size := by omega
                          clear hcell hBw hsq
                          go_wp2_with (at_builtin; refine wpList_appD rfl _ _ rfl X.heap.size _ NM rfl (HGq.out.al _) ⟨wq.heap.size, 0, none⟩ 1 1 [z] rfl (ld_new1 wq _) HAL.out (by simp; omega) ?_; intro v' w3 hg3 hgr3; obtain ⟨a3, c3, rfl, -, -⟩ := hg3.shape)
                          have hgB : Below X.heap.size X w3 := (hBq.alloc hsq2 _).trans ((Below.refl _ _).grown hgr3 (by simp; omega) HGq.out.block)
                          exact ⟨⟨M ++ [z], i', k' + 1, by go_num, by go_num, by rw [HZ.out]; exact hM.out.right hk HRW.out.1 HRW.out.2 HC.out, by rw [← List.append_assoc, HQ.out]; first | exact hg3 | (rw [List.length_append] at hg3; exact hg3), hgB⟩, by simp [intOf] <;> omega⟩
                    · obtain rfl : i' = mid := by omega
                      have hiz : ¬ (i' : Int) < i' := by omega
                      rcases Nat.eq_or_lt_of_le b4 with hke | hk
                      · have hkz : ¬ (k' : Int) < en := by omega
                        subst hke
                        have e : 2 * wd * (t + 1) = fr + 2 * wd := by rw [Nat.mul_succ, ← HFR.out]
                        have HNS : Hid (NS xs wd (t + 1) NM) := by
                          have h1 := NS.step (mid := i') (en := k') hw1 hN.out (by rw [← HFR.out]; exact hf) (by rw [← HFR.out]; exact HME.out.2) (by rw [← HFR.out]; exact hM.out)
                          rw [HQ.out] at h1
                          exact h1
                        have HE : Hid (2 * wd * (t + 1) = fr + 2 * wd) := e
                        clear e
                        go_wp2_with fail
                        exact ⟨⟨NM, t + 1, by rw [HE.out]; congr 1 <;> omega, by rw [HE.out]; omega, HNS, HG.out, hB2⟩, by simp [intOf] <;> omega⟩
                      · have hkz : (k' : Int) < en := by omega
                        have hkc : ((k' : Int) == (en : Int)) = false := by rw [beq_eq_false_iff_ne]; omega
                        have hkl : (k' : Int) < xs.length := by omega
                        have hk0 : ¬ (k' : Int) < 0 := by omega
                        obtain ⟨bb, off, rfl, hcc⟩ := ((Gd.ld HXG.out).after hB2).2 (by omega)
                        have ck := hcc k' (by omega)
                        have HC : Hid (∀ P : Prop, i' = i' ∨ P) := fun P => .inl rfl
                        obtain ⟨z, hz⟩ : ∃ z, z = gt xs k' := ⟨_, rfl⟩
                        have HZ : Hid (z = gt xs k') := hz
                        have cw : wr.cell? ⟨bb, off + k', none⟩ = some (.int .i64 z) := by rw [hz]; exact ck
                        clear hz ck
                        clear hcc
                        go_wp2_with fail
                        go_quiet (fail)
                        refine nameR wr nq (Q := fun W => Exit.then _ _ _ _ W) (fun wq hcell hBw hsq => ?_)
                        have hBq : Below X.heap.size X wq := hB2.trans (hBw.mono hsw)
                        have HGq : Hid (Gd wq X.heap.size (.slice an NM.length cn) NM) := HG.out.after hBw
                        have cz : wq.cell? ⟨bb, off + k', none⟩ = some (.int .i64 z) := (hcell _).trans cw
                        have hsq2 : X.heap.size ≤ wq.heap.size := by omega
                        clear hcell hBw hsq
                        go_wp2_with (at_builtin; refine wpList_appD rfl _ _ rfl X.heap.size _ NM rfl (HGq.out.al _) ⟨wq.heap.size, 0, none⟩ 1 1 [z] rfl (ld_new1 wq _) HAL.out (by simp; omega) ?_; intro v' w3 hg3 hgr3; obtain ⟨a3, c3, rfl, -, -⟩ := hg3.shape)
                        have hgB : Below X.heap.size X w3 := (hBq.alloc hsq2 _).trans ((Below.refl _ _).grown hgr3 (by simp; omega) HGq.out.block)
                        exact ⟨⟨M ++ [z], i', k' + 1, by go_num, by go_num, by rw [HZ.out]; exact hM.out.right hk HRW.out.1 HRW.out.2 (.inl rfl), by rw [← List.append_assoc, HQ.out]; first | exact hg3 | (rw [List.length_append] at hg3; exact hg3), hgB⟩, by simp [intOf] <;> omega⟩
                · have hfz : ¬ (fr : Int) < xs.length := by omega
                  have HDN : Hid (N.length = xs.length ∧ RS (2 * wd) N ∧ ∀ z, z ∈ N ↔ z ∈ xs) := NS.done hN.out (by rw [← HFR.out]; exact hf)
                  go_wp2_with fail
                  have hx1 := hX.out.1
                  exact ⟨⟨N, 2 * wd, by congr 1 <;> omega, by omega, by omega, ⟨HDN.out.1.trans hx1, HDN.out.2.1, fun z => (HDN.out.2.2 z).trans (hX.out.2.2 z)⟩, Gd.le hGN hB.size, step hB hB2⟩, by simp [intOf] <;> omega⟩
            · have hwz : ¬ (wd : Int) < xs.length := by omega
              have HSO : Hid (∀ i j, i ≤ j → j < xs.length → gt xs i ≤ gt xs j) := RS.all hX.out.2.1 hge
              have hxl' : xs.length ≤ 400000 := by omega
              have HXG : Hid (Gd wr w.heap.size (.slice av xs.length cv) xs) := hG
              have HXM : Hid (∀ z, z ∈ xs ↔ z ∈ base) := hX.out.2.2
              clear hxl hG hX hge hw1 hw2
              go_wp2_with fail
              obtain ⟨X, hXe⟩ : ∃ X, X = wr := ⟨_, rfl⟩
              subst hXe
              go_loopw [15, 16] (fun s k wr2 => ∃ (out : List Int) (i : Nat), k = .int .i64 (i : Int) ∧ i ≤ xs.length ∧ Hid (DD xs i out ∧ out.length ≤ i) ∧ Gd wr2 X.heap.size s out ∧ Below X.heap.size X wr2) (fun _ k _ => xs.length - (intOf k).toNat)
              case atStart => exact ⟨[], 0, by go_num, Nat.zero_le _, ⟨DD.start _, Nat.le_refl _⟩, Gd.nil _ _, Below.refl _ _⟩
              case round =>
                obtain ⟨NM, i, rfl, hi, hD, hGN, hB2⟩ := hrel
                obtain ⟨an, cn, rfl, -, -⟩ := hGN.shape
                have HG : Hid (Gd wr X.heap.size (.slice an NM.length cn) NM) := hGN
                have HAL : Hid (NM.length + 1 ≤ 8796093022208) := by have := hD.out.2; show _ ≤ _; omega
                have hsw := hB2.size
                clear hGN
                rcases Nat.lt_or_ge i xs.length with hlt | hge
                · have hil : (i : Int) < xs.length := by omega
                  have hi0 : ¬ (i : Int) < 0 := by omega
                  obtain ⟨bb, off, rfl, hcc⟩ := ((Gd.ld HXG.out).after hB2).2 (by omega)
                  have ci := hcc i hlt
                  obtain ⟨z, hz⟩ : ∃ z, z = gt xs i := ⟨_, rfl⟩
                  have HZ : Hid (z = gt xs i) := hz
                  have cw : wr.cell? ⟨bb, off + i, none⟩ = some (.int .i64 z) := by rw [hz]; exact ci
                  rcases Nat.eq_zero_or_pos i with h0 | h0
                  · have hic : ((i : Int) == 0) = true := by rw [h0]; rfl
                    have HDN : Hid (DD xs (i + 1) (NM ++ [z]) ∧ (NM ++ [z]).length ≤ i + 1) := ⟨by rw [hz]; exact hD.out.1.new hlt HSO.out (.inl h0), by have := hD.out.2; rw [List.length_append]; simp; omega⟩
                    clear hz ci h0 hcc
                    go_wp2_with fail
                    go_quiet (fail)
                    refine nameR wr nq (Q := fun W => Exit.then _ _ _ _ W) (fun wq hcell hBw hsq => ?_)
                    have hBq : Below X.heap.size X wq := hB2.trans (hBw.mono hsw)
                    have HGq : Hid (Gd wq X.heap.size (.slice an NM.length cn) NM) := HG.out.after hBw
                    have cz : wq.cell? ⟨bb, off + i, none⟩ = some (.int .i64 z) := (hcell _).trans cw
                    have hsq2 : X.heap.size ≤ wq.heap.size := by omega
                    clear hcell hBw hsq
                    go_wp2_with (at_builtin; refine wpList_appD rfl _ _ rfl X.heap.size _ NM rfl (HGq.out.al _) ⟨wq.heap.size, 0, none⟩ 1 1 [z] rfl (ld_new1 wq _) HAL.out (by simp; omega) ?_; intro v' w3 hg3 hgr3; obtain ⟨a3, c3, rfl, -, -⟩ := hg3.shape)
                    have hgB : Below X.heap.size X w3 := (hBq.alloc hsq2 _).trans ((Below.refl _ _).grown hgr3 (by simp; omega) HGq.out.block)
                    exact ⟨⟨NM ++ [z], i + 1, by go_num, by omega, HDN, by first | exact hg3 | (rw [List.length_append] at hg3; exact hg3), hgB⟩, by simp [intOf] <;> omega⟩
                  · have hic : ((i : Int) == 0) = false := by rw [beq_eq_false_iff_ne]; omega
                    have hi1 : IntKind.i64.wrap ((i : Int) - 1) = ((i - 1 : Nat) : Int) := by rw [IntKind.wrap_i64]; omega
                    have hj1 : ((i - 1 : Nat) : Int) < xs.length := by omega
                    have hj0 : ¬ ((i - 1 : Nat) : Int) < 0 := by omega
                    have cj := hcc (i - 1) (by omega)
                    obtain ⟨y, hy⟩ : ∃ y, y = gt xs (i - 1) := ⟨_, rfl⟩
                    have cy : wr.cell? ⟨bb, off + (i - 1), none⟩ = some (.int .i64 y) := by rw [hy]; exact cj
                    by_cases hzy : gt xs i = gt xs (i - 1)
                    · have hne : (z != y) = false := by rw [hz, hy, hzy]; simp
                      have HDN : Hid (DD xs (i + 1) NM ∧ NM.length ≤ i + 1) := ⟨hD.out.1.same h0 hzy, by have := hD.out.2; omega⟩
                      clear hz hy ci cj hzy hcc
                      generalize i - 1 = j at *
                      go_wp2_with fail
                      go_quiet (fail)
                      go_wp2_with fail
                      exact ⟨⟨NM, i + 1, by go_num, by omega, HDN, HG.out.after (below_drewN (Below.refl _ _) _), below_drewN hB2 _⟩, by simp [intOf] <;> omega⟩
                    · have hne : (z != y) = true := by rw [hz, hy]; simp [hzy]
                      have HDN : Hid (DD xs (i + 1) (NM ++ [z]) ∧ (NM ++ [z]).length ≤ i + 1) := ⟨by rw [hz]; exact hD.out.1.new hlt HSO.out (.inr hzy), by have := hD.out.2; rw [List.length_append]; simp; omega⟩
                      clear hz hy ci cj hzy hcc
                      generalize i - 1 = j at *
                      go_wp2_with fail
                      go_quiet (fail)
                      refine nameR wr nq (Q := fun W => Exit.then _ _ _ _ W) (fun wq hcell hBw hsq => ?_)
                      have hBq : Below X.heap.size X wq := hB2.trans (hBw.mono hsw)
                      have HGq : Hid (Gd wq X.heap.size (.slice an NM.length cn) NM) := HG.out.after hBw
                      have cz : wq.cell? ⟨bb, off + i, none⟩ = some (.int .i64 z) := (hcell _).trans cw
                      have hsq2 : X.heap.size ≤ wq.heap.size := by omega
                      clear hcell hBw hsq
                      go_wp2_with (at_builtin; refine wpList_appD rfl _ _ rfl X.heap.size _ NM rfl (HGq.out.al _) ⟨wq.heap.size, 0, none⟩ 1 1 [z] rfl (ld_new1 wq _) HAL.out (by simp; omega) ?_; intro v' w3 hg3 hgr3; obtain ⟨a3, c3, rfl, -, -⟩ := hg3.shape)
                      have hgB : Below X.heap.size X w3 := (hBq.alloc hsq2 _).trans ((Below.refl _ _).grown hgr3 (by simp; omega) HGq.out.block)
                      exact ⟨⟨NM ++ [z], i + 1, by go_num, by omega, HDN, by first | exact hg3 | (rw [List.length_append] at hg3; exact hg3), hgB⟩, by simp [intOf] <;> omega⟩
                · have hkz : ¬ (i : Int) < xs.length := by omega
                  obtain rfl : i = xs.length := by omega
                  go_wp2_with fail
                  go_ret
                  exact ⟨_, rfl, NM, Gd.le HG.out hB.size, ⟨hD.out.1.rise, fun z => by have h1 := (hD.out.1.done z).trans (HXM.out z); rw [HBS.out] at h1; first | exact h1 | simpa using h1⟩, step hB hB2⟩
end Go.Proofs.Ytiabjlaganmloaa
