/-
  The document's Put.
-/
import Derived.Test.YtiabjlaganmloaaPt1
namespace Go.Proofs.Ytiabjlaganmloaa
open Go.RowKit Go.Shelf
set_option linter.unusedVariables false
set_option linter.unusedSimpArgs false

theorem nil_or_snoc (l : List Pr) : l = [] ∨ ∃ L b, l = L ++ [b] := by
  rcases List.eq_nil_or_concat l with h | ⟨L, b, h⟩
  · exact .inl h
  · exact .inr ⟨L, b, by rw [h, List.concat_eq_append]⟩
theorem step_appS {ops : Array Oper} {o : Oper} {a : Act} {w : World} {K : Act → World → Prop} {Q : Exit → Act → World → Prop} {E : Prop} (hgd : o.guard = none) (s x : Operand)
    (ho : o.op = .call { callee := .builtin .append, args := #[s, x], argTypes := #[31, 31] })
    (B : Nat) (v : Value) (ps : List Pr) (hs : a.eval s = v) (hg : Gs w B v ps) (b c : Nat) (x0 x1 : Int) (hx : a.eval x = .slice (some ⟨b, 0, none⟩) 1 c) (h0 : w.cell? ⟨b, 0, none⟩ = some (.int .i64 x0)) (h1 : w.cell? ⟨b, 1, none⟩ = some (.int .i64 x1))
    (hb : ps.length + 1 ≤ 8796093022208) (hB : B ≤ w.heap.size)
    (h : ∀ v' w', Gs w' B v' (ps ++ [(x0, x1)]) → w.grownBy w' v.ownBlock → K (a.put o.dst v') w') : if Region.wanted o (yielded ops a.tmps) = true then Oper.wp Try.prog o a w K Q else E := by
  have hw : Region.wanted o (yielded ops a.tmps) = true := by simp [Region.wanted, hgd]
  rw [if_pos hw]
  obtain ⟨v', w', hr, k2, k3, k5⟩ := run_appS w o.type B v ps hg b c x0 x1 h0 h1 hb hB
  unfold Oper.wp execOp
  simp only [ho, resolve, invoke, builtin, Sem.run_bind, Sem.run_pure, Result.andThen_ok, List.map_toArray, List.map_cons, List.map_nil, hs, hx, hr]
  exact h v' w' k2 k3
def S9 (w : World) (b i j : Nat) (x y : Int) (W : World) : Prop := W.cell? ⟨b, i, none⟩ = some (.int .i64 x) ∧ W.cell? ⟨b, j, none⟩ = some (.int .i64 y) ∧ Hid (Below w.heap.size w W ∧ b < w.heap.size)
theorem S9.al {w X : World} {b i j : Nat} {x y : Int} (h : S9 w b i j x y X) (o : Obj) : S9 w b i j x y (X.alloc o) := by
  obtain ⟨h1, h2, h3, h4⟩ := h
  have hb : Below X.heap.size X (X.alloc o) := (Below.refl _ _).alloc (Nat.le_refl _) _
  exact ⟨(hb.cell (p := ⟨b, i, none⟩) (cell_lt h1)).trans h1, (hb.cell (p := ⟨b, j, none⟩) (cell_lt h2)).trans h2, h3.alloc h3.size _, h4⟩
theorem S9.dr {w X : World} {b i j : Nat} {x y : Int} (h : S9 w b i j x y X) : S9 w b i j x y X.drew := by
  obtain ⟨h1, h2, h3, h4⟩ := h
  exact ⟨h1, h2, ⟨h3.os, h3.tape, h3.output, h3.size, h3.block⟩, h4⟩
theorem S9.gr {w X w3 : World} {v : Value} {b i j : Nat} {x y : Int} (h : S9 w b i j x y X) (hgr : X.grownBy w3 v.ownBlock) (hle : w.heap.size ≤ X.heap.size) (hbk : ∀ k, v.ownBlock = some k → w.heap.size ≤ k) : S9 w b i j x y w3 := by
  obtain ⟨h1, h2, h3, h4⟩ := h
  have hb : Below w.heap.size X w3 := (Below.refl _ _).grown hgr hle hbk
  exact ⟨(hb.cell (p := ⟨b, i, none⟩) h4).trans h1, (hb.cell (p := ⟨b, j, none⟩) h4).trans h2, h3.trans hb, h4⟩
set_option maxRecDepth 20000 in
set_option maxHeartbeats 8000000 in
theorem put_any (way : Nat) (hway : way = 1 ∨ way = 2 ∨ way = 3) (a : Option Addr) (la ca : Nat) (ps : List Pr) (b : Option Addr) (lb cb : Nat) (qs : List Pr) (w : World) (h : Ls w a la ps) (h' : Ls w b lb qs) (hl : la ≤ 100000) (hl' : lb ≤ 100000) (hm : ∀ p ∈ ps, May p) (hm' : ∀ p ∈ qs, May p) :
    Calls Try.prog 27 #[.int .i64 way, .slice a la ca, .slice b lb cb] w fun e w' => ∃ v out, e = .returned v ∧ Gs w' w.heap.size v out ∧ Hid (Few out ∧ ∀ d, inS out d ↔ wP way (inS ps d) (inS qs d)) ∧ Below w.heap.size w w' := by
  obtain rfl := h.1
  obtain rfl := h'.1
  have HL : Hid (Ls w a ps.length ps) := h
  have HL' : Hid (Ls w b qs.length qs) := h'
  have HM : Hid ((∀ p ∈ ps, May p) ∧ ∀ p ∈ qs, May p) := ⟨hm, hm'⟩
  have hbd := bounds_any a ps.length ca ps b qs.length cb qs w h h' hl hl'
  clear h h' hm hm'
  go_enter Try.func27, Try.ntmps27
  go_wp2_with fail
  refine hbd.mono ?_
  rintro e w1 ⟨v, zs, rfl, hg, hz, hb⟩
  obtain ⟨az, cz, rfl, -, -⟩ := hg.shape
  obtain ⟨hr, hmem⟩ := hz.out
  have HE : Hid (Ends ps zs ∧ Ends qs zs) := ends_of hmem
  have HZM : Hid (∀ i, i < zs.length → 0 ≤ zs.getD i 0 ∧ zs.getD i 0 ≤ 3652059) := zs_may hmem HM.out.1 HM.out.2
  have hzl := zs_len hr hmem
  have HR : Hid (Rises zs) := hr
  have HG : Hid (Ld w1 az zs.length zs) := hg.ld
  have HB1 : Hid (Below w.heap.size w w1) := hb
  clear hbd hz hg hr hmem hb
  go_wp2_with fail
  go_loopw [8, 9] (fun li i wr => ∃ (k : Nat) (out : List Pr), i = .int .i64 k ∧ (k = 0 ∨ k < zs.length) ∧ Hid (PI (fun d => wP way (inS ps d) (inS qs d)) (zs.getD 0 0) (zs.getD k 0) out ∧ out.length ≤ k) ∧ Hid (Gs wr w1.heap.size li out) ∧ Hid (Below w1.heap.size w1 wr)) (fun _ i _ => (zs.length - (intOf i).toNat : Nat))
  case atStart => exact ⟨0, [], rfl, .inl rfl, ⟨PI.start _ _, Nat.le_refl _⟩, Gs.nil _ _, Below.refl _ _⟩
  case round =>
    obtain ⟨k, out, rfl, hk, HI, HO, HB⟩ := hrel
    obtain ⟨ao, co, rfl, -, -, hso⟩ := HO.out.shape
    have HSO : Hid ((ao = none ∧ out = [] ∧ co = 0) ∨ ∃ g, ao = some ⟨g, 0, none⟩) := hso
    clear hso
    have hk9 : k + 1 ≤ 400001 := by omega
    rcases Nat.lt_or_ge (k + 1) zs.length with hlt | hge
    · have hki : (k : Int) + 1 < zs.length := by omega
      have hki2 : (k : Int) < zs.length := by omega
      obtain ⟨bb, off, rfl, hcc⟩ := (HG.out.after HB.out).2 (by omega)
      have hbb : bb < w1.heap.size := by
        obtain ⟨b', o', e, hc'⟩ := HG.out.2 (by omega)
        cases e
        exact cell_lt (hc' 0 (by omega))
      have ck := hcc k (by omega)
      have ck1 := hcc (k + 1) hlt
      have hxy := rises_get HR.out (Nat.lt_succ_self k) hlt
      have HAS : Hid (∀ d, zs.getD k 0 ≤ d → d < zs.getD (k + 1) 0 → (wP way (inS ps d) (inS qs d) ↔ wP way (inS ps (zs.getD k 0)) (inS qs (zs.getD k 0)))) := fun d h1 h2 => put_as HR.out HE.out.1 HE.out.2 hlt h1 h2
      have HMX := HZM.out k (by omega)
      have HMY := HZM.out (k + 1) hlt
      have hlo : zs.getD 0 0 ≤ zs.getD k 0 := by
        rcases Nat.eq_zero_or_pos k with h0 | h0
        · rw [h0]; omega
        · have := rises_get HR.out h0 (by omega); omega
      have HN : Hid (∀ o, PI (fun d => wP way (inS ps d) (inS qs d)) (zs.getD 0 0) (zs.getD (k + 1) 0) o → PI (fun d => wP way (inS ps d) (inS qs d)) (zs.getD 0 0) (zs.getD (k + 1) 0) o) := fun o h => h
      have rh1 := fun W (hW : Below w1.heap.size w1 W) => rhas_any a ps.length ca ps (zs.getD k 0) W (HL.out.after (step HB1.out hW)) (by omega)
      have rh2 := fun W (hW : Below w1.heap.size w1 W) => rhas_any b qs.length cb qs (zs.getD k 0) W (HL'.out.after (step HB1.out hW)) (by omega)
      have hiff := wnt_iff way ps qs (zs.getD k 0)
      have hwt := fun W => wanted_any way hway (inB ps (zs.getD k 0)) (inB qs (zs.getD k 0)) W
      have hsz1 := HB.out.size
      generalize zs.getD k 0 = x at *
      obtain ⟨y, hy⟩ : ∃ y, zs.getD (k + 1) 0 = y := ⟨_, rfl⟩
      have HY : Hid (zs.getD (k + 1) 0 = y) := hy
      rw [hy] at ck1 hxy HAS HMY HN
      clear hy
      generalize zs.getD 0 0 = lo at *
      have HWI : Hid (wnt way (inB ps x) (inB qs x) = true ↔ wP way (inS ps x) (inS qs x)) := hiff
      clear hiff hcc
      generalize inB ps x = A at *
      generalize inB qs x = B at *
      generalize wnt way A B = R at *
      have hki0 : ¬ (k : Int) < 0 := by omega
      go_wp2_with fail
      refine wp_region_quiet_lit (by kernel_rfl) (by kernel_rfl) ?_
      repeat (go_big_quiet_step (fail))
      go_big_quiet_step ((refine (rh1 (wr.drewN _) (below_drewN HB.out _)).mono ?_; rintro e w2 ⟨rfl, rfl⟩; exact ⟨rfl, _, rfl⟩))
      repeat (go_big_quiet_step (fail))
      go_big_quiet_step ((refine (rh2 (wr.drewN _) (below_drewN HB.out _)).mono ?_; rintro e w2 ⟨rfl, rfl⟩; exact ⟨rfl, _, rfl⟩))
      repeat (go_big_quiet_step (fail))
      go_big_quiet_step ((refine (hwt (wr.drewN _)).mono ?_; rintro e w2 ⟨rfl, rfl⟩; exact ⟨rfl, _, rfl⟩))
      repeat (go_big_quiet_step (fail))
      refine wpQuiet_nil ?_
      intro _ hw'
      obtain ⟨nq, hw''⟩ := hw'
      subst hw''
      refine nameR wr nq (Q := fun W => Exit.then _ _ _ _ W) (fun wq hcell hBw hsq => ?_)
      have HBq : Hid (Below w1.heap.size w1 wq) := HB.out.trans (hBw.mono hsz1)
      have HOq : Hid (Gs wq w1.heap.size (.slice ao out.length co) out) := HO.out.after hBw
      have ckq : wq.cell? ⟨bb, off + k, none⟩ = some (.int .i64 x) := (hcell _).trans ck
      have ck1q : wq.cell? ⟨bb, off + (k + 1), none⟩ = some (.int .i64 y) := (hcell _).trans ck1
      have hszq : w1.heap.size ≤ wq.heap.size := by omega
      clear hcell hBw hsq rh1 rh2 hwt HO HB ck ck1
      cases R with
      | false =>
        have HNI : Hid (PI (fun d => wP way (inS ps d) (inS qs d)) lo y out ∧ out.length ≤ k + 1) := ⟨HI.out.1.skip hxy (fun d h1 h2 hf => by
          have := (HAS.out d h1 h2).1 hf
          have := HWI.out.2 this
          cases this), Nat.le_succ_of_le HI.out.2⟩
        clear HI HAS HWI
        go_wp2_with fail
        exact ⟨⟨k + 1, out, by go_num, .inr hlt, by rw [HY.out]; exact HNI.out, HOq.out, HBq.out⟩, by simp [intOf]; omega⟩
      | true =>
        have HF : Hid (∀ d, x ≤ d → d < y → wP way (inS ps d) (inS qs d)) := fun d h1 h2 => (HAS.out d h1 h2).2 (HWI.out.1 rfl)
        clear HAS HWI
        have HALL : Hid (out.length + 1 ≤ 8796093022208) := by have := HI.out.2; show _ ≤ _; omega
        rcases nil_or_snoc out with rfl | ⟨o, ⟨p, q⟩, rfl⟩
        · have HNI : Hid (PI (fun d => wP way (inS ps d) (inS qs d)) lo y ([] ++ [(x, y)]) ∧ ([] ++ [(x, y)] : List Pr).length ≤ k + 1) := ⟨HI.out.1.new hxy hlo HMX.1 HMY.2 HF.out (fun p hp => by simp at hp), by simp⟩
          clear HI HF
          have x1 : IntKind.i64.wrap ((k : Int) + 1) = (k : Int) + 1 := by rw [IntKind.wrap_i64]; omega
          go_wp2_with fail
          go_quiet (fail)
          refine nameR wq _ (Q := fun W => Exit.then _ _ _ _ W) (fun wz hcell hBw hsq => ?_)
          have HBz : Hid (Below w1.heap.size w1 wz) := HBq.out.trans (hBw.mono hszq)
          have HOz : Hid (Gs wz w1.heap.size (.slice ao 0 co) []) := HOq.out.after hBw
          have ckz : wz.cell? ⟨bb, off + k, none⟩ = some (.int .i64 x) := (hcell _).trans ckq
          have ck1z : wz.cell? ⟨bb, off + (k + 1), none⟩ = some (.int .i64 y) := (hcell _).trans ck1q
          have hszz : w1.heap.size ≤ wz.heap.size := by omega
          clear hcell hBw hsq HBq HOq ckq ck1q
          have hS0 : S9 w1 bb (off + k) (off + (k + 1)) x y wz := ⟨ckz, ck1z, HBz.out, hbb⟩
          have HAL : Hid (([] : List Pr).length + 1 ≤ 8796093022208) := by show _ ≤ _; simp
          have hk1n : ¬ ((k : Int) + 1 < 0) := by omega
          have hk10 : (0 : Int) ≤ (k : Int) + 1 := by omega
          go_wp2_with fail
          go_region_held3 (fun W => W.cell? ⟨bb, off + k, none⟩ = some (.int .i64 x) ∧ W.cell? ⟨bb, off + (k + 1), none⟩ = some (.int .i64 y) ∧ Hid (Below w1.heap.size w1 W ∧ bb < w1.heap.size))
            (first | exact hS0 | exact hS0.dr | exact hS0.al _ | exact (hS0.al _).dr | exact ((hS0.dr).al _) | exact ((hS0.al _).dr).gr hgr3 (by simp; omega) HOz.out.block | exact ((hS0.dr).al _).gr hgr3 (by simp; omega) HOz.out.block | exact (hS0.al _).gr hgr3 (by simp; omega) HOz.out.block)
            ((refine step_appS rfl _ _ rfl w1.heap.size _ ([] : List Pr) rfl (HOz.out.al _) wz.heap.size 1 x y rfl (Va.new wz _ _).c0 (Va.new wz _ _).c1 HAL.out (by simp; omega) ?_; intro v' w3 hg3 hgr3))
          have hgB : Below w1.heap.size w1 w3 := (((hS0.al _).dr).gr hgr3 (by simp; omega) HOz.out.block).2.2.1
          obtain ⟨a3, c3, rfl, -, -, -⟩ := hg3.shape
          go_wp2_with fail
          exact ⟨⟨k + 1, [] ++ [(x, y)], by go_num, .inr hlt, by rw [HY.out]; exact HNI.out, by first | exact hg3 | (rw [List.length_append] at hg3; exact hg3), hgB⟩, by simp [intOf]; omega⟩
        · obtain ⟨go, rfl⟩ : ∃ g, ao = some ⟨g, 0, none⟩ := by
            rcases HSO.out with ⟨-, h0, -⟩ | h
            · simp at h0
            · exact h
          have hol : o.length + 1 ≤ k := by have := HI.out.2; rw [List.length_append] at this; simpa using this
          obtain ⟨d0, d1, f0, f1⟩ := HOq.out.cells o.length (by simp)
          have eg : (o ++ [(p, q)]).getD o.length (0, 0) = (p, q) := by simp
          rw [eg] at d0 d1
          clear eg HSO
          have hlen : (o ++ [(p, q)]).length = o.length + 1 := by simp
          rw [hlen] at HOq HALL ⊢
          clear hlen
          have x1 : IntKind.i64.wrap ((k : Int) + 1) = (k : Int) + 1 := by rw [IntKind.wrap_i64]; omega
          have x2 : IntKind.i64.wrap (o.length : Int) = (o.length : Int) := by rw [IntKind.wrap_i64]; omega
          have hk1n : ¬ ((k : Int) + 1 < 0) := by omega
          have hk10 : (0 : Int) ≤ (k : Int) + 1 := by omega
          have hgo : w1.heap.size ≤ go := HOq.out.block go rfl
          have hm0 : ¬ (o.length : Int) < 0 := by omega
          have hm1 : (o.length : Int) < (o.length : Int) + 1 := by omega
          by_cases hqx : q = x
          · subst hqx
            have HNI : Hid (PI (fun d => wP way (inS ps d) (inS qs d)) lo y (o ++ [(p, y)]) ∧ (o ++ [(p, y)]).length ≤ k + 1) := ⟨HI.out.1.join hxy hlo HMY.2 HF.out, by simp; omega⟩
            have hqq : (q == q) = true := by simp
            clear HI HF
            go_wp2_with fail
            go_quiet (fail)
            refine nameR wq _ (Q := fun W => Exit.then _ _ _ _ W) (fun wz hcell hBw hsq => ?_)
            have HBz : Hid (Below w1.heap.size w1 wz) := HBq.out.trans (hBw.mono hszq)
            have HOz : Hid (Gs wz w1.heap.size (.slice (some ⟨go, 0, none⟩) (o.length + 1) co) (o ++ [(p, q)])) := HOq.out.after hBw
            have ckz : wz.cell? ⟨bb, off + k, none⟩ = some (.int .i64 q) := (hcell _).trans ckq
            have ck1z : wz.cell? ⟨bb, off + (k + 1), none⟩ = some (.int .i64 y) := (hcell _).trans ck1q
            have d1z : wz.cell? ⟨go, o.length * 2 + 1, none⟩ = some (.int .i64 q) := (hcell _).trans d1
            have hszz : w1.heap.size ≤ wz.heap.size := by omega
            have f1z : wz.frozen? ⟨go, o.length * 2 + 1, none⟩ = false := (HOz.out.cells o.length (by simp)).2.2.2
            clear hcell hBw hsq HBq HOq ckq ck1q d0 d1 f0 f1
            go_wp2_with fail
            have hput := HOz.out.put1 o.length (by simp) y
            have eset : (o ++ [(p, q)]).set o.length (((o ++ [(p, q)]).getD o.length (0, 0)).1, y) = o ++ [(p, y)] := by simp
            rw [eset] at hput
            exact ⟨⟨k + 1, o ++ [(p, y)], by go_num, .inr hlt, by rw [HY.out]; exact HNI.out, hput, HBz.out.setCell (p := ⟨go, o.length * 2 + 1, none⟩) hgo _⟩, by simp [intOf]; omega⟩
          · have HNI : Hid (PI (fun d => wP way (inS ps d) (inS qs d)) lo y (o ++ [(p, q)] ++ [(x, y)]) ∧ (o ++ [(p, q)] ++ [(x, y)]).length ≤ k + 1) := ⟨HI.out.1.new hxy hlo HMX.1 HMY.2 HF.out (HI.out.1.ne hqx), by simp; omega⟩
            have hqq : (q == x) = false := by simpa using hqx
            clear HI HF
            go_wp2_with fail
            go_quiet (fail)
            refine nameR wq _ (Q := fun W => Exit.then _ _ _ _ W) (fun wz hcell hBw hsq => ?_)
            have HBz : Hid (Below w1.heap.size w1 wz) := HBq.out.trans (hBw.mono hszq)
            have HOz : Hid (Gs wz w1.heap.size (.slice (some ⟨go, 0, none⟩) (o.length + 1) co) (o ++ [(p, q)])) := HOq.out.after hBw
            have ckz : wz.cell? ⟨bb, off + k, none⟩ = some (.int .i64 x) := (hcell _).trans ckq
            have ck1z : wz.cell? ⟨bb, off + (k + 1), none⟩ = some (.int .i64 y) := (hcell _).trans ck1q
            have hszz : w1.heap.size ≤ wz.heap.size := by omega
            clear hcell hBw hsq HBq HOq ckq ck1q d0 d1 f0 f1 hqx
            have hS0 : S9 w1 bb (off + k) (off + (k + 1)) x y wz := ⟨ckz, ck1z, HBz.out, hbb⟩
            have HAL : Hid ((o ++ [(p, q)]).length + 1 ≤ 8796093022208) := by have := HALL.out; show _ ≤ _; simp; omega
            go_wp2_with fail
            go_region_held3 (fun W => W.cell? ⟨bb, off + k, none⟩ = some (.int .i64 x) ∧ W.cell? ⟨bb, off + (k + 1), none⟩ = some (.int .i64 y) ∧ Hid (Below w1.heap.size w1 W ∧ bb < w1.heap.size))
              (first | exact hS0 | exact hS0.dr | exact hS0.al _ | exact (hS0.al _).dr | exact ((hS0.dr).al _) | exact ((hS0.al _).dr).gr hgr3 (by simp; omega) HOz.out.block | exact ((hS0.dr).al _).gr hgr3 (by simp; omega) HOz.out.block | exact (hS0.al _).gr hgr3 (by simp; omega) HOz.out.block)
              ((refine step_appS rfl _ _ rfl w1.heap.size _ (o ++ [(p, q)]) rfl (HOz.out.al _) wz.heap.size 1 x y rfl (Va.new wz _ _).c0 (Va.new wz _ _).c1 HAL.out (by simp; omega) ?_; intro v' w3 hg3 hgr3))
            have hgB : Below w1.heap.size w1 w3 := (((hS0.al _).dr).gr hgr3 (by simp; omega) HOz.out.block).2.2.1
            obtain ⟨a3, c3, rfl, -, -, -⟩ := hg3.shape
            go_wp2_with fail
            exact ⟨⟨k + 1, o ++ [(p, q)] ++ [(x, y)], by go_num, .inr hlt, by rw [HY.out]; exact HNI.out, by first | exact hg3 | (rw [show (o ++ [(p, q)] ++ [(x, y)]).length = o.length + 1 + 1 from (by simp)] at hg3; exact hg3), hgB⟩, by simp [intOf]; omega⟩
    · have hnl : ¬ (k : Int) + 1 < zs.length := by omega
      have hdone := put_done HR.out HE.out.1 HE.out.2 HI.out.1 hk (by omega)
      have HDN : Hid _ := hdone
      clear hdone hge HI
      go_wp2_with fail
      go_ret
      exact ⟨_, rfl, out, Gs.le HO.out HB1.out.size, HDN.out, step HB1.out HB.out⟩
end Go.Proofs.Ytiabjlaganmloaa
