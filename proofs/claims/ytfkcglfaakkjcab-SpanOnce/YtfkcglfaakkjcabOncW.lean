/-
  The walk of SpanOnce.
-/
import Derived.Test.YtfkcglfaakkjcabSpL
import Derived.Deep.RegionHeldLaw
namespace Go.Proofs.Ytfkcglfaakkjcab
open Go.RowKit Go.Shelf
set_option linter.unusedVariables false

theorem pick_any (x : Int) (n : Int) (h1 : b64 x) (hn : 1 ≤ n) (hn2 : n ≤ 1000000000) (w : World) :
    Calls Try.prog 21 #[.int .i64 x, .int .i64 n] w fun e w' => e = .returned (.int .i64 (x % n)) ∧ w' = w := by
  have g1 : ¬ (n < 1) := by omega
  have hd : ¬ (n = 0) := by omega
  have ht := Int.tmod_lt_of_pos x (show 0 < n by omega)
  have he : x % n = if x.tmod n < 0 then x.tmod n + n else x.tmod n := by
    rw [Int.tmod_eq_emod]
    have := Int.emod_nonneg x (show n ≠ 0 by omega)
    have := Int.emod_lt_of_pos x (show 0 < n by omega)
    grind
  have ht2 : - n ≤ x.tmod n := by
    have := Int.emod_nonneg x (show n ≠ 0 by omega)
    split at he <;> omega
  have w1 : IntKind.i64.wrap (x.tmod n) = x.tmod n := by rw [IntKind.wrap_i64]; omega
  clear h1
  by_cases hx : x.tmod n < 0
  · rw [if_pos hx] at he
    have w2 : IntKind.i64.wrap (x.tmod n + n) = x.tmod n + n := by rw [IntKind.wrap_i64]; omega
    have HE : Hid (x % n = x.tmod n + n) := he
    clear he
    go_enter Try.func21, Try.ntmps21
    go_wp2_with fail
    go_ret
    exact ⟨by rw [HE.out]; rfl, rfl⟩
  · rw [if_neg hx] at he
    have HE : Hid (x % n = x.tmod n) := he
    clear he
    go_enter Try.func21, Try.ntmps21
    go_wp2_with fail
    go_ret
    exact ⟨by rw [HE.out]; rfl, rfl⟩
/-- append, one step of a region that draws its order. -/
theorem step_appL {ops : Array Oper} {o : Oper} {a : Act} {w : World} {K : Act → World → Prop} {Q : Exit → Act → World → Prop} {E : Prop} (hgd : o.guard = none) (s x : Operand)
    (ho : o.op = .call { callee := .builtin .append, args := #[s, x], argTypes := #[22, 22] })
    (B : Nat) (v : Value) (ps : List Pr) (hs : a.eval s = v) (hg : Gs w B v ps) (ad : Addr) (m c : Nat) (qs : List Pr) (hx : a.eval x = .slice (some ad) m c) (hq : Ls w (some ad) m qs)
    (hb : ps.length + m ≤ 8796093022208) (hB : B ≤ w.heap.size)
    (h : ∀ v' w', Gs w' B v' (ps ++ qs) → w.grownBy w' v.ownBlock → K (a.put o.dst v') w') : if Region.wanted o (yielded ops a.tmps) = true then Oper.wp Try.prog o a w K Q else E := by
  have hw : Region.wanted o (yielded ops a.tmps) = true := by simp [Region.wanted, hgd]
  rw [if_pos hw]
  obtain ⟨i0, hi, hz0, hz1, hz2⟩ := info_parts infoS
  refine wp_append_own w s x _ ho B 35 i0 (.agg #[.int .i64 0, .int .i64 0]) 2 16 Try.underlying22 hi hz0 hz1 hz2 rfl (by decide) v ps.length (rowS ps) hs hg ad m c (rowS qs) hx (by rw [rowS_length, hq.1]) (fun j u hj => ?_) (rowS_one _) (by unfold maxLen; omega) (by omega) hB ?_
  · have hj' : j < qs.length * 2 := by
      rcases Nat.lt_or_ge j (rowS qs).length with h' | h'
      · rwa [rowS_length] at h'
      · rw [List.getElem?_eq_none h'] at hj; cases hj
    obtain ⟨b, off, e, hc⟩ := hq.2 (by have := hq.1; omega)
    cases e
    rw [Addr.add_lit]
    rcases Nat.mod_two_eq_zero_or_one j with e | e
    · have c0 := (hc (j / 2) (by have := hq.1; omega)).1
      have r0 := rowS_get0 qs (j / 2) (by omega)
      rw [show (j / 2) * 2 = j by omega] at c0 r0
      rw [hj] at r0; cases r0; exact c0
    · have c0 := (hc (j / 2) (by have := hq.1; omega)).2
      have r0 := rowS_get1 qs (j / 2) (by omega)
      rw [show (j / 2) * 2 + 1 = j by omega] at r0
      rw [show off + (j / 2) * 2 + 1 = off + j by omega] at c0
      rw [hj] at r0; cases r0; exact c0
  · intro v' w' h2 h3 _
    refine h v' w' ?_ h3
    show World.ownsRow _ _ _ _ _ _ _
    rw [List.length_append, rowS_append, hq.1]
    exact h2
theorem nameQ (w : World) (n : Nat) {Q : World → Prop} (h : ∀ W, (∀ p, W.cell? p = w.cell? p) → Below w.heap.size w W → W.heap.size = w.heap.size → W.heap = w.heap → Q W) : Q (w.drewN n) := h _ (fun _ => rfl) (below_drewN (Below.refl _ _) n) rfl rfl
theorem one_al {w X : World} {b i : Nat} {x0 x1 : Int} {o : Obj} (h : X.cell? ⟨b, i, none⟩ = some (.int .i64 x0) ∧ X.cell? ⟨b, i + 1, none⟩ = some (.int .i64 x1) ∧ Hid (Below w.heap.size w X ∧ b < w.heap.size)) :
    (X.alloc o).cell? ⟨b, i, none⟩ = some (.int .i64 x0) ∧ (X.alloc o).cell? ⟨b, i + 1, none⟩ = some (.int .i64 x1) ∧ Hid (Below w.heap.size w (X.alloc o) ∧ b < w.heap.size) := by
  obtain ⟨h1, h2, h3, h4⟩ := h
  have hb : Below X.heap.size X (X.alloc o) := (Below.refl _ _).alloc (Nat.le_refl _) _
  exact ⟨(hb.cell (p := ⟨b, i, none⟩) (cell_lt h1)).trans h1, (hb.cell (p := ⟨b, i + 1, none⟩) (cell_lt h2)).trans h2, h3.alloc h3.size _, h4⟩
theorem one_bel {w X w3 wq : World} {v : Value} {acc : List Pr} (hgr : X.grownBy w3 v.ownBlock) (hg : Gs wq w.heap.size v acc) (hle : w.heap.size ≤ X.heap.size) (hb : Below w.heap.size w X) : Below w.heap.size w w3 := hb.trans ((Below.refl _ _).grown hgr hle hg.block)
theorem one_gr {w X w3 : World} {v : Value} {b i : Nat} {x0 x1 : Int} (h : X.cell? ⟨b, i, none⟩ = some (.int .i64 x0) ∧ X.cell? ⟨b, i + 1, none⟩ = some (.int .i64 x1) ∧ Hid (Below w.heap.size w X ∧ b < w.heap.size)) (hgr : X.grownBy w3 v.ownBlock) (hle : w.heap.size ≤ X.heap.size) (hbk : ∀ k, v.ownBlock = some k → w.heap.size ≤ k) :
    w3.cell? ⟨b, i, none⟩ = some (.int .i64 x0) ∧ w3.cell? ⟨b, i + 1, none⟩ = some (.int .i64 x1) ∧ Hid (Below w.heap.size w w3 ∧ b < w.heap.size) := by
  obtain ⟨h1, h2, h3, h4⟩ := h
  have hb : Below w.heap.size X w3 := (Below.refl _ _).grown hgr hle hbk
  exact ⟨(hb.cell (p := ⟨b, i, none⟩) h4).trans h1, (hb.cell (p := ⟨b, i + 1, none⟩) h4).trans h2, h3.trans hb, h4⟩
/-- What has been told anew of a list's last spans. -/
structure OnI (ps acc : List Pr) (m : Nat) : Prop where
  may : ∀ p ∈ acc, May p
  same : ∀ d, inS acc d ↔ inS (ps.drop m) d
  len : acc.length = 2 * (ps.length - m)
theorem OnI.start (ps : List Pr) : OnI ps [] ps.length := ⟨fun p h => by simp at h, fun d => by simp [inS_nil], by simp⟩
theorem OnI.step {ps acc : List Pr} {m : Nat} (h : OnI ps acc (m + 1)) (hm : m < ps.length) {p q : Pr} (h1 : May p) (h2 : May q) (he : ∀ d, inS [p, q] d ↔ inS [ps.getD m (0, 0)] d) : OnI ps (acc ++ [p, q]) m := by
  refine ⟨fun r hr => ?_, fun d => ?_, ?_⟩
  · rcases List.mem_append.1 hr with hr | hr
    · exact h.may r hr
    · simp at hr
      rcases hr with rfl | rfl
      · exact h1
      · exact h2
  · have e1 : ps.drop m = ps.getD m (0, 0) :: ps.drop (m + 1) := by rw [List.drop_eq_getElem_cons hm, List.getD_eq_getElem?_getD, List.getElem?_eq_getElem hm]; rfl
    have hh := he d
    rw [inS_append, h.same, e1, inS_cons (p := ps.getD m (0, 0)), hh, inS_cons]
    simp only [inS_nil, or_false]
    exact or_comm
  · rw [List.length_append, h.len]; simp; omega
set_option maxRecDepth 20000 in
set_option maxHeartbeats 4000000 in
theorem once_walk (a : Option Addr) (len cap : Nat) (ps : List Pr) (b : Option Addr) (lb cb : Nat) (zs : List Int) (w : World) (h : Ls w a len ps) (hc : len ≤ cap) (hcap : cap ≤ 8796093021952) (hn : a = none → len = 0 ∧ cap = 0) (g : ∀ q ∈ ps, b64 q.1 ∧ b64 q.2)
    (k : Ld w b lb zs) (kc : lb ≤ cb) (kcap : cb ≤ 17592186043904) (kn : b = none → lb = 0 ∧ cb = 0) (kg : ∀ z ∈ zs, b64 z) :
    Calls Try.prog 4 #[.slice a len cap, .slice b lb cb] w fun e w' => e = .returned (.bool true) ∧ Below w.heap.size w w' := by
  have hpl := h.1
  have hzl := k.1
  have HL : Hid (Ls w a len ps) := h
  have HK : Hid (Ld w b lb zs) := k
  have HZ : Hid (∀ z ∈ zs, b64 z) := kg
  have aw := awake_any w
  clear h k g kg kn
  go_enter Try.func4, Try.ntmps4
  go_wp2_with (go_at_call 7; refine aw.mono ?_; rintro e w1 ⟨rfl, hb1⟩)
  have sm := small_any a len cap ps w1 (HL.out.after hb1) (by omega)
  refine sm.mono ?_
  rintro e w2 ⟨rfl, hb2⟩
  have HB2 : Hid (Below w.heap.size w w2) := step hb1 hb2
  clear aw sm hb1 hb2
  by_cases hs : Sml ps
  · rw [smB_true hs]
    have HM : Hid (∀ p ∈ ps, May p) := hs.2
    have h5 := hs.1
    rw [hpl] at h5
    have hB2s := HB2.out.size
    have HR := OnI.start ps
    clear hs
    go_wp2_with fail
    go_loopw [5, 6] (fun s5 i wr => ∃ (m : Nat) (acc : List Pr), m ≤ len ∧ i = .int .i64 ((m : Int) - 1) ∧ Hid (OnI ps acc m) ∧ Gs wr w.heap.size s5 acc ∧ Below w.heap.size w wr) (fun _ i _ => (intOf i + 1).toNat)
    case atStart => exact ⟨len, [], Nat.le_refl _, rfl, by rw [← hpl]; exact HR, Gs.nil _ _, HB2.out⟩
    case round =>
      obtain ⟨m, acc, hm, rfl, hO, hG, hB⟩ := hrel
      rcases Nat.eq_zero_or_pos m with h0 | h0
      · subst h0
        obtain ⟨av, cv, rfl, -, -, -⟩ := hG.shape
        have HG : Hid (Gs wr w.heap.size (.slice av acc.length cv) acc) := hG
        have HOM : Hid (∀ p ∈ acc, May p) := hO.out.may
        have HOS : Hid (∀ d, inS acc d ↔ inS ps d) := fun d => by have := hO.out.same d; simpa using this
        have hal : acc.length ≤ 1000 := by have := hO.out.len; omega
        have cp := copy_any a len cap ps wr (HL.out.after hB) hn (by omega)
        clear hG hO
        go_wp2_with (go_at_call 10; refine cp.mono ?_; rintro e w3 ⟨v3, rfl, hg3, hb3⟩)
        obtain ⟨a3, c3, rfl, -, -, -⟩ := hg3.shape
        refine (of_ok a3 ps.length c3 ps w3 hg3.ls HM.out (by omega)).mono ?_
        rintro e w4 ⟨p4, cs4, rfl, hst4, he4, hb4⟩
        have HB4 : Hid (Below w.heap.size w w4) := step (step hB hb3) hb4
        have HG4 : Hid (Ls w4 av acc.length acc) := (HG.out.ls.after hb3).after hb4
        clear cp hg3 hb3 hb4 hB
        go_wp2_with fail
        refine (of_ok av acc.length cv acc w4 HG4.out HOM.out (by omega)).mono ?_
        rintro e w5 ⟨p5, cs5, rfl, hst5, he5, hb5⟩
        have HB5 : Hid (Below w.heap.size w w5) := step HB4.out hb5
        have hst45 := hst4.after hb5
        have HEQ : Hid (cs4 = cs5) := few_unique hst45.1 hst5.1 (fun d => by rw [he4.out, he5.out, HOS.out])
        clear hst4 hb5 he4 he5 HG4 HB4
        obtain ⟨-, hl4, a4, c4, V4, hc4, L4, -⟩ := hst45
        obtain ⟨-, hl5, a5, c5, V5, hc5, L5, -⟩ := hst5
        go_wp2_with fail
        refine (spans_any p4 a4 cs4.length c4 true w5 V4).mono ?_
        rintro e w6 ⟨rfl, rfl⟩
        have t6 := told_st w5.heap.size a4 cs4.length c4 cs4 (by omega) _ (Va.new w5 _ _) (L4.after ((Below.refl _ _).alloc (Nat.le_refl _) _))
        unfold itv at *
        go_wp2_with fail
        refine t6.mono ?_
        rintro e w7 ⟨v7, rfl, hg7, hb7⟩
        have hb57 : Below w5.heap.size w5 w7 := ((Below.refl _ _).alloc (Nat.le_refl _) _).trans (hb7.mono (by simp))
        have V57 := V5.after hb57
        have L57 := L5.after hb57
        have HB7 : Hid (Below w.heap.size w w7) := step HB5.out hb57
        have HG7 : Hid (Gs w7 _ v7 cs4) := hg7
        obtain ⟨a7, c7, rfl, -, -, -⟩ := hg7.shape
        clear hg7 hb7 hb57 t6 V5 L5 V4 L4
        have s8 := spans_any p5 a5 cs5.length c5 true w7 V57
        unfold itv at s8
        go_wp2_with fail
        refine s8.mono ?_
        rintro e w8 ⟨rfl, rfl⟩
        have t8 := told_st w7.heap.size a5 cs5.length c5 cs5 (by omega) _ (Va.new w7 _ _) (L57.after ((Below.refl _ _).alloc (Nat.le_refl _) _))
        unfold itv at t8
        go_wp2_with fail
        refine t8.mono ?_
        rintro e w9 ⟨v9, rfl, hg9, hb9⟩
        have hb79 : Below w7.heap.size w7 w9 := ((Below.refl _ _).alloc (Nat.le_refl _) _).trans (hb9.mono (by simp))
        have HG79 : Hid (Ls w9 a7 cs4.length cs4) := (Gs.ls HG7.out).after hb79
        have HG9 : Hid (Gs w9 _ v9 cs5) := hg9
        have HB9 : Hid (Below w.heap.size w w9) := step HB7.out hb79
        obtain ⟨a9, c9, rfl, -, -, -⟩ := hg9.shape
        clear hg9 hb9 hb79 t8 s8 V57 L57
        go_wp2_with fail
        refine (same_any a7 a9 cs4.length cs5.length c7 c9 cs4 cs5 w9 HG79.out (Gs.ls HG9.out) (by omega)).mono ?_
        rintro e w10 ⟨rfl, hb10⟩
        rw [decide_eq_true HEQ.out]
        go_wp2_with fail
        go_ret
        exact ⟨rfl, step HB9.out hb10⟩
      · obtain ⟨j, rfl⟩ : ∃ j, m = j + 1 := ⟨m - 1, by omega⟩
        rw [show ((j + 1 : Nat) : Int) - 1 = j by omega]
        obtain ⟨av, cv, rfl, -, -, -⟩ := hG.shape
        obtain ⟨bb, off, rfl, hcc⟩ := (HL.out.after hB).2 (by omega)
        have c0 := (hcc j (by omega)).1
        have c1 := (hcc j (by omega)).2
        have hbb : bb < w.heap.size := HL.out.low (by omega) bb off rfl
        have hmj := HM.out _ (getD_mem (show j < ps.length by omega))
        have hjp : j < ps.length := by omega
        have HO : Hid (OnI ps acc (j + 1)) := hO
        have HST : Hid (∀ p q : Pr, May p → May q → (∀ d, inS [p, q] d ↔ inS [((ps.getD j (0, 0)).1, (ps.getD j (0, 0)).2)] d) → OnI ps (acc ++ [p, q]) j) := fun p q h1 h2 h3 => HO.out.step hjp h1 h2 h3
        have HAL : Hid (acc.length + 2 ≤ 8796093022208) := by have := HO.out.len; show _ ≤ _; omega
        unfold May at hmj
        generalize (ps.getD j (0, 0)).1 = x0 at *
        generalize (ps.getD j (0, 0)).2 = x1 at *
        obtain ⟨q1, q2, q3⟩ := hmj
        have HGr : Hid (Gs wr w.heap.size (.slice av acc.length cv) acc) := hG
        have hjl : (j : Int) < len := by omega
        have hj0 : ¬ ((j : Int) < 0) := by omega
        have wn : IntKind.i64.wrap (x1 - x0) = x1 - x0 := by rw [IntKind.wrap_i64]; omega
        have wn1 : IntKind.i64.wrap (x1 - x0 + 1) = x1 - x0 + 1 := by rw [IntKind.wrap_i64]; omega
        clear hcc hG hO HO
        go_wp2_with fail
        go_quiet (fail)
        have hsw := hB.size
        refine nameQ wr nq (Q := fun W => Exit.then _ _ _ _ W) (fun wq hcell hBw hsq hGq => ?_)
        have hBq : Below w.heap.size w wq := hB.trans (hBw.mono hsw)
        have hBq0 : Below w.heap.size w wq.drew := ⟨hBq.os, hBq.tape, hBq.output, hBq.size, hBq.block⟩
        have HG : Hid (Gs wq w.heap.size (.slice av acc.length cv) acc) := HGr.out.after hBw
        rw [← hcell] at c0 c1
        have hwq : w.heap.size ≤ wq.heap.size := by omega
        clear hcell hGq hBw hB HGr hsq
        by_cases hlc : j < lb
        · have hlz : (j : Int) < lb := by omega
          obtain ⟨bz, oz, rfl, hz⟩ := (HK.out.after hBq).2 (by omega)
          have z0 := hz j hlc
          have hzb := HZ.out (zs.getD j 0) (by rw [List.getD_eq_getElem?_getD, List.getElem?_eq_getElem (by omega)]; exact List.getElem_mem _)
          generalize zs.getD j 0 = z at *
          have pk := fun W => pick_any z (x1 - x0 + 1) hzb (by omega) (by omega) W
          have k1 : 0 ≤ z % (x1 - x0 + 1) := Int.emod_nonneg _ (by omega)
          have k2 : z % (x1 - x0 + 1) < x1 - x0 + 1 := Int.emod_lt_of_pos _ (by omega)
          generalize z % (x1 - x0 + 1) = kk at *
          have wk : IntKind.i64.wrap (x0 + kk) = x0 + kk := by rw [IntKind.wrap_i64]; omega
          clear hz hzb
          by_cases hk0 : 0 < kk
          · by_cases hkn : kk < x1 - x0
            · go_wp2_with (go_at_call 21; refine (pk _).mono ?_; rintro e w' ⟨rfl, hw'⟩; rw [hw']; clear hw' w')
              go_wp2_with fail
              have HQ : Hid (OnI ps (acc ++ [(x0 + kk, x1), (x0, x0 + kk)]) j) := HST.out _ _ ⟨by show 0 ≤ x0 + kk; omega, by show x0 + kk < x1; omega, q3⟩ ⟨q1, by show x0 < x0 + kk; omega, by show x0 + kk ≤ 3652059; omega⟩ (fun d => by simp only [inS_cons, inS_nil, or_false]; omega)
              go_region_law
                ((refine step_appL rfl _ _ rfl w.heap.size _ acc rfl (HG.out.al _) ⟨wq.heap.size, 0, none⟩ 2 2 [(x0 + kk, x1), (x0, x0 + kk)] rfl (ls_new2 wq.drew _ _ _ _) HAL.out (by simp; omega) ?_; intro v' w3 hg3 hgr3; have hgB : Below w.heap.size w w3 := one_bel hgr3 HG.out (by simp; omega) (hBq0.alloc hwq _)))
              all_goals (obtain ⟨a3, c3, rfl, -, -, -⟩ := hg3.shape)
              all_goals go_wp2_with fail
              all_goals exact ⟨⟨j, acc ++ [(x0 + kk, x1), (x0, x0 + kk)], by omega, by go_num, HQ, by rw [List.length_append] at hg3; exact hg3, hgB⟩, by simp [intOf] <;> omega⟩
            · go_wp2_with (go_at_call 21; refine (pk _).mono ?_; rintro e w' ⟨rfl, hw'⟩; rw [hw']; clear hw' w')
              go_wp2_with fail
              have HQ : Hid (OnI ps (acc ++ [(x0, x1), (x0, x1)]) j) := HST.out _ _ ⟨q1, q2, q3⟩ ⟨q1, q2, q3⟩ (fun d => by simp only [inS_cons, inS_nil, or_false]; omega)
              go_region_law
                ((refine step_appL rfl _ _ rfl w.heap.size _ acc rfl (HG.out.al _) ⟨wq.heap.size, 0, none⟩ 2 2 [(x0, x1), (x0, x1)] rfl (ls_new2 wq.drew _ _ _ _) HAL.out (by simp; omega) ?_; intro v' w3 hg3 hgr3; have hgB : Below w.heap.size w w3 := one_bel hgr3 HG.out (by simp; omega) (hBq0.alloc hwq _)))
              all_goals (obtain ⟨a3, c3, rfl, -, -, -⟩ := hg3.shape)
              all_goals go_wp2_with fail
              all_goals exact ⟨⟨j, acc ++ [(x0, x1), (x0, x1)], by omega, by go_num, HQ, by rw [List.length_append] at hg3; exact hg3, hgB⟩, by simp [intOf] <;> omega⟩
          · go_wp2_with (go_at_call 21; refine (pk _).mono ?_; rintro e w' ⟨rfl, hw'⟩; rw [hw']; clear hw' w')
            go_wp2_with fail
            have HQ : Hid (OnI ps (acc ++ [(x0, x1), (x0, x1)]) j) := HST.out _ _ ⟨q1, q2, q3⟩ ⟨q1, q2, q3⟩ (fun d => by simp only [inS_cons, inS_nil, or_false]; omega)
            go_region_law
              ((refine step_appL rfl _ _ rfl w.heap.size _ acc rfl (HG.out.al _) ⟨wq.heap.size, 0, none⟩ 2 2 [(x0, x1), (x0, x1)] rfl (ls_new2 wq.drew _ _ _ _) HAL.out (by simp; omega) ?_; intro v' w3 hg3 hgr3; have hgB : Below w.heap.size w w3 := one_bel hgr3 HG.out (by simp; omega) (hBq0.alloc hwq _)))
            all_goals (obtain ⟨a3, c3, rfl, -, -, -⟩ := hg3.shape)
            all_goals go_wp2_with fail
            all_goals exact ⟨⟨j, acc ++ [(x0, x1), (x0, x1)], by omega, by go_num, HQ, by rw [List.length_append] at hg3; exact hg3, hgB⟩, by simp [intOf] <;> omega⟩
        · have hlz : ¬ (j : Int) < lb := by omega
          have wk : IntKind.i64.wrap (x0 + 0) = x0 := by rw [IntKind.wrap_i64]; omega
          go_wp2_with fail
          have HQ : Hid (OnI ps (acc ++ [(x0, x1), (x0, x1)]) j) := HST.out _ _ ⟨q1, q2, q3⟩ ⟨q1, q2, q3⟩ (fun d => by simp only [inS_cons, inS_nil, or_false]; omega)
          go_region_law
            ((refine step_appL rfl _ _ rfl w.heap.size _ acc rfl (HG.out.al _) ⟨wq.heap.size, 0, none⟩ 2 2 [(x0, x1), (x0, x1)] rfl (ls_new2 wq.drew _ _ _ _) HAL.out (by simp; omega) ?_; intro v' w3 hg3 hgr3; have hgB : Below w.heap.size w w3 := one_bel hgr3 HG.out (by simp; omega) (hBq0.alloc hwq _)))
          all_goals (obtain ⟨a3, c3, rfl, -, -, -⟩ := hg3.shape)
          all_goals go_wp2_with fail
          all_goals exact ⟨⟨j, acc ++ [(x0, x1), (x0, x1)], by omega, by go_num, HQ, by rw [List.length_append] at hg3; exact hg3, hgB⟩, by simp [intOf] <;> omega⟩
  · rw [smB_false hs]
    clear hs
    go_wp2_with fail
    go_ret
    exact ⟨rfl, HB2.out⟩
end Go.Proofs.Ytfkcglfaakkjcab
