/-
  The walk of WholeBack: each call by its contract.
-/
import Derived.Test.YthjlkobfmoahiaaGreatDoorWTxt
import Derived.Test.YthjlkobfmoahiaaGreatDoorWPar
import Derived.Test.YthjlkobfmoahiaaGreatDoorWh5
namespace Go.Proofs.YthjlkobfmoahiaaGreatDoor
open Go.RowKit Go.Shelf
set_option linter.unusedVariables false

theorem Pt.after {W W' : World} (hb : Below W.heap.size W W') (h : Pt W) : Pt W' := h.to hb
/-- The text of a number says it. -/
theorem good_text {s : Bool} {zs : List Int} {t : List UInt8} (ht : Tx 10 t (num zs).toNat) (hs : s = true → num zs ≠ 0) (h0 : 0 ≤ num zs) (hlt : num zs < pw 4096) : Good (sg s ++ t) ∧ (if neg (sg s ++ t) then - (tv 10 (bare (sg s ++ t)) : Int) else tv 10 (bare (sg s ++ t))) = iv s zs ∧ (sg s ++ t).length ≤ 140737488355328 := by
  have hh : t.head? ≠ some 45 := fun e => by
    obtain ⟨ne, dig, -, -⟩ := ht
    cases t with
    | nil => exact ne rfl
    | cons c t =>
      have h1 := dig c (by simp)
      have h2 : c = 45 := by simpa using e
      rw [h2] at h1
      exact absurd h1 (by decide)
  have hn : neg (sg s ++ t) = s := by
    unfold neg sg
    cases s with
    | true => rfl
    | false => exact decide_eq_false (by simpa using hh)
  have hb : bare (sg s ++ t) = t := by
    unfold bare; rw [hn]; unfold sg
    cases s <;> rfl
  have hl : t.length ≤ 262144 := tx_len ht h0 hlt
  have hv := ht.val
  have hlen : (sg s ++ t).length ≤ 1 + t.length := by unfold sg; cases s <;> simp <;> omega
  refine ⟨?_, ?_, by omega⟩
  · unfold Good
    rw [hn, hb]
    exact ⟨ht.dig, ht.ne, hl, fun h => by rw [hv]; have := hs h; omega, by rw [hv]; rw [Int.toNat_of_nonneg h0]; exact hlt⟩
  · rw [hn, hb, hv, Int.toNat_of_nonneg h0]; unfold iv; rfl
theorem lean_tx {l : List UInt8} (hd : Dig 10 l) (h : trimA l ≠ []) : Tx 10 (trimA l) (tv 10 l) ∧ tv 10 l ≠ 0 := by
  obtain ⟨n, h1, h2⟩ := trimA_spec l
  have hv : tv 10 l = tv 10 (trimA l) := by rw [h1, tv_ahead]; rw [trimA_noughts, trimA_id h2]
  have ht : Tx 10 (trimA l) (tv 10 l) := ⟨h, trimA_dig hd, hv.symm, fun e => absurd e h2⟩
  exact ⟨ht, fun e => by have := ht.head_zero e; rw [this] at h2; exact h2 rfl⟩
theorem lean_zero {l : List UInt8} (h : trimA l = []) : tv 10 l = 0 := by
  obtain ⟨n, h1, h2⟩ := trimA_spec l
  rw [h, List.append_nil] at h1
  rw [h1, tv_noughts]
/-- What a text says has that text. -/
theorem good_back {l : List UInt8} {s : Bool} {zs : List Int} {t : List UInt8} {W : World} {a : Option Addr} {ln c : Nat} (hg : Good l) (hI : It W s a ln c zs) (hv : iv s zs = if neg l then - (tv 10 (bare l) : Int) else tv 10 (bare l)) (ht : Tx 10 t (num zs).toNat) :
    s = neg l ∧ (trimA (bare l) = [] → sg s ++ t = [48] ∧ iv s zs = 0) ∧ (trimA (bare l) ≠ [] → t = trimA (bare l) ∧ iv s zs ≠ 0) := by
  obtain ⟨h1, h2, h3, h4, h5⟩ := hg
  have hs : s = neg l := by
    rw [hI.sign, hv]
    cases h : neg l with
    | true => have := h4 h; simp; omega
    | false => simp
  have hz : num zs = tv 10 (bare l) := by
    have := hI.abs
    rw [this, hv]
    cases neg l <;> simp
  have hn : (num zs).toNat = tv 10 (bare l) := by omega
  rw [hn] at ht
  refine ⟨hs, fun e => ?_, fun e => ?_⟩
  · have e0 := lean_zero e
    have hf : neg l = false := by
      cases h : neg l with
      | true => exact absurd e0 (h4 h)
      | false => rfl
    rw [hs, hf]
    exact ⟨by show t = [48]; exact ht.head_zero e0, by rw [← hf, ← hs, hv, e0, hf]; rfl⟩
  · have := lean_tx h1 e
    refine ⟨ht.unique (by omega) (by omega) this.1, ?_⟩
    rw [hv]
    have := this.2
    cases neg l <;> simp <;> omega
theorem take_sg {l : List UInt8} : l.take (l.length - (bare l).length) = sg (neg l) := by
  cases h : neg l with
  | false => have : bare l = l := by unfold bare; rw [h]; rfl
             rw [this]; simp [sg]
  | true =>
    have hb : bare l = l.drop 1 := by unfold bare; rw [h]; rfl
    have hh : l.head? = some 45 := of_decide_eq_true h
    cases l with
    | nil => simp at hh
    | cons x l =>
      have : x = 45 := by simpa using hh
      subst this
      rw [hb]; simp [sg]
theorem bare_lt (l : List UInt8) : decide ((bare l).length < l.length) = neg l := by
  cases h : neg l with
  | false => have : bare l = l := by unfold bare; rw [h]; rfl
             rw [this]; simp
  | true =>
    have hb : bare l = l.drop 1 := by unfold bare; rw [h]; rfl
    have hh : l.head? = some 45 := of_decide_eq_true h
    cases l with
    | nil => simp at hh
    | cons x l => rw [hb]; simp
theorem trim_m (l : List UInt8) (w : World) : Calls Tryz.prog 9 #[.string ⟨l.toArray⟩, .string ⟨#[45]⟩] w fun e w' => e = .returned (.string ⟨(bare l).toArray⟩) ∧ w' = w := by
  have h := Tryz.strings_TrimPrefix ⟨l.toArray⟩ ⟨#[45]⟩ w
  rw [trim_pre] at h
  exact h
theorem trim_z (l : List UInt8) (w : World) : Calls Tryz.prog 10 #[.string ⟨l.toArray⟩, .string ⟨#[48]⟩] w fun e w' => e = .returned (.string ⟨(trimA l).toArray⟩) ∧ w' = w := Tryz.strings_TrimLeft_one ⟨l.toArray⟩ 48 (by decide) w
set_option maxHeartbeats 16000000 in
set_option maxRecDepth 20000 in
theorem back4_walk (s0 : Bool) (a0 : Option Addr) (len0 cap0 : Nat) (z0 : List Int) (l : List UInt8) (w : World) (h0 : Sl w a0 len0 z0) (c0 : len0 ≤ cap0) (e0 : a0 = none → len0 = 0 ∧ cap0 = 0) (hll : l.length ≤ 140737488355328) (hT : Pt w) :
    Calls Tryz.prog 3 #[.agg #[.bool s0, .slice a0 len0 cap0], .string ⟨l.toArray⟩] w fun e w' => e = .returned (.bool true) ∧ Below w.heap.size w w' := by
  have B0 : Below w.heap.size w w := Below.refl _ _
  have HT : Hid (Pt w) := hT
  clear hT
  go_enter Tryz.func3, Tryz.ntmps3
  go_wp2_with fail
  refine ent1 w _ _ (Q := fun W => Calls Tryz.prog _ _ W _) ?_
  intro x1 hb hs_x1 V0
  replace h0 := h0.below hb (Nat.le_refl _)
  replace B0 := step B0 hb
  clear hb hs_x1
  refine (oflaw4 s0 a0 len0 cap0 z0 x1 h0 e0 c0).mono ?_
  rintro e x2 ⟨sx, ax, lx, kx, zx, au, ku, rfl, hx, hu, ex, hb⟩
  replace B0 := step B0 hb
  clear hb ex hu h0 V0 e0 c0
  go_wp2_with fail
  refine ent2 x2 _ _ _ _ (Q := fun W => Calls Tryz.prog _ _ W _) ?_
  intro x3 hb hs_x3 Vx Vu
  replace hx := It.after hb hx
  replace B0 := step B0 hb
  clear hb hs_x3
  clear Vu
  refine (wtext_any sx ax lx kx zx _ hx (HT.out.to B0)).mono ?_
  rintro e x4 ⟨t1, rfl, ht1, hb⟩
  replace Vx := Va.after hb Vx
  replace hx := It.after hb hx
  replace B0 := step B0 hb
  clear hb
  obtain ⟨hg1, hv1, hl1⟩ := good_text ht1 hx.2 hx.1.nonneg hx.1.lt
  have HG1 : Hid (Good (sg sx ++ t1)) := hg1
  have HV1 : Hid _ := hv1
  clear hg1 hv1 ht1
  have c_Vx := Vx.c0
  have f0_Vx := Vx.frozen 0
  have d_Vx := Vx.c1
  have f1_Vx := Vx.frozen 1
  have l_Vx := Vx.lt
  have m_Vx := Nat.le_of_lt l_Vx
  go_wp2_with fail
  refine (wparse_any (sg sx ++ t1) hl1 _).mono ?_
  rintro e x5 ⟨sb, ab, lb, cb, zb, atb, erb, rfl, hbk, hW, hb⟩
  replace Vx := Va.after hb Vx
  replace hx := It.after hb hx
  replace B0 := step B0 hb
  clear hb
  obtain ⟨rfl, rfl, hvb⟩ : erb = 0 ∧ atb = 0 ∧ iv sb zb = iv sx zx := by
    rcases hW.out with ⟨-, h1, h2, h3⟩ | ⟨h, -⟩
    · exact ⟨h1, h2, h3.trans HV1.out⟩
    · exact absurd HG1.out h
  have HVB : Hid (iv sb zb = iv sx zx) := hvb
  clear hW hvb HG1 HV1 hl1
  clear c_Vx f0_Vx d_Vx f1_Vx l_Vx m_Vx
  have c_Vx := Vx.c0
  have f0_Vx := Vx.frozen 0
  have d_Vx := Vx.c1
  have f1_Vx := Vx.frozen 1
  have l_Vx := Vx.lt
  have m_Vx := Nat.le_of_lt l_Vx
  go_wp2_with fail
  refine ent1 x5 _ _ (Q := fun W => Calls Tryz.prog _ _ W _) ?_
  intro x6 hb hs_x6 Vb
  replace Vx := Va.after hb Vx
  replace hx := It.after hb hx
  replace hbk := It.after hb hbk
  replace B0 := step B0 hb
  clear hb hs_x6
  refine (wsame_ok sb sx ab ax lb cb lx kx zb zx _ hbk hx HVB.out).mono ?_
  rintro e x7 ⟨rfl, hb⟩
  replace Vx := Va.after hb Vx
  replace Vb := Va.after hb Vb
  replace hx := It.after hb hx
  replace hbk := It.after hb hbk
  replace B0 := step B0 hb
  clear hb
  clear c_Vx f0_Vx d_Vx f1_Vx l_Vx m_Vx
  go_wp2_with fail
  clear Vx Vb hbk hx
  clear HVB
  refine (wparse_any l hll _).mono ?_
  rintro e x8 ⟨sj, aj, lj, cj, zj, atj, erj, rfl, hj, hW, hb⟩
  replace B0 := step B0 hb
  clear hb
  rcases hW.out with ⟨hG, rfl, rfl, hvj⟩ | ⟨-, he, hv0, ha0, ha1⟩
  · have HG : Hid (Good l) := hG
    have HVJ : Hid (iv sj zj = if neg l then - (tv 10 (bare l) : Int) else tv 10 (bare l)) := hvj
    clear hG hvj hW
    have hbs : (ByteArray.mk l.toArray).size = l.length := bsize l
    have hbl := bare_len l
    have hsl := slice_hi l ((l.length : Int) - (bare l).length) (l.length - (bare l).length) (by omega) (by omega)
    rw [take_sg] at hsl
    have hlt := bare_lt l
    have hLl := trimA_len (bare l)
    have hback := fun (t : List UInt8) (W : World) (hW : It W sj aj lj cj zj) (ht : Tx 10 t (num zj).toNat) => good_back HG.out hW HVJ.out ht
    have HBK : Hid _ := hback
    clear hback
    have htm := trim_m l
    have htz := trim_z (bare l)
    have HG2 : Hid (neg l = true → tv 10 (bare l) ≠ 0) := HG.out.2.2.2.1
    have HZ0 : Hid (trimA (bare l) = [] → tv 10 (bare l) = 0) := lean_zero
    have HNE : Hid (trimA (bare l) ≠ [] → tv 10 (bare l) ≠ 0) := fun h => (lean_tx HG.out.1 h).2
    obtain ⟨Bl, hBl⟩ : ∃ B, bare l = B := ⟨_, rfl⟩
    obtain ⟨n, hn⟩ : ∃ n, neg l = n := ⟨_, rfl⟩
    rw [hBl] at hsl hlt hLl hbl HBK htm htz HG2 HZ0 HNE HVJ
    rw [hn] at hsl hlt HBK HG2 HVJ
    clear HG
    obtain ⟨L, hL⟩ : ∃ L, trimA Bl = L := ⟨_, rfl⟩
    rw [hL] at hLl HBK htz HZ0 HNE
    clear hBl hn hL
    have hbb : (ByteArray.mk Bl.toArray).size = Bl.length := bsize _
    have hbL : (ByteArray.mk L.toArray).size = L.length := bsize _
    have hsgn := fun (W : World) (hW : It W sj aj lj cj zj) => wsign_any sj aj lj cj zj W hW
    rw [HVJ.out] at hsgn
    go_wp2_with fail
    refine ent1 x8 _ _ (Q := fun W => Calls Tryz.prog _ _ W _) ?_
    intro x9 hb hs_x9 Vj
    replace hj := It.after hb hj
    replace B0 := step B0 hb
    clear hb hs_x9
    refine (htm _).mono ?_
    rintro e w' ⟨rfl, rfl⟩
    go_wp2_with fail
    refine (htz _).mono ?_
    rintro e w' ⟨rfl, rfl⟩
    by_cases hL0 : L = []
    · subst hL0
      obtain rfl : n = false := by cases n; rfl; exact absurd (HZ0.out rfl) (HG2.out rfl)
      have hle : Bl.length = l.length := by have : ¬ Bl.length < l.length := of_decide_eq_false hlt; omega
      have hTx : ∀ W, It W sj aj lj cj zj → Pt W → Calls Tryz.prog 6 #[.agg #[.bool sj, .slice aj lj cj]] W fun e W' => e = .returned (.string ⟨([48]).toArray⟩) ∧ Below W.heap.size W W' := fun W hW hP => (wtext_any sj aj lj cj zj W hW hP).mono (fun e W' h => by
        obtain ⟨t, h1, h2, h3⟩ := h
        obtain ⟨g1, g2, g3⟩ := HBK.out t W hW h2
        refine ⟨?_, h3⟩
        rw [h1]
        have e : sg sj ++ t = [48] := by
          exact (g2 rfl).1
        rw [e])
      have hsg2 : ∀ W, It W sj aj lj cj zj → Calls Tryz.prog 8 #[.agg #[.bool sj, .slice aj lj cj]] W fun e W' => e = .returned (.int .i64 (0)) ∧ Below W.heap.size W W' := fun W hW => (hsgn W hW).mono (fun e W' h => ⟨by rw [h.1]; congr 2; rw [HZ0.out rfl]; rfl, h.2⟩)
      clear hsgn HBK
      have c_Vj := Vj.c0
      have f0_Vj := Vj.frozen 0
      have d_Vj := Vj.c1
      have f1_Vj := Vj.frozen 1
      have l_Vj := Vj.lt
      have m_Vj := Nat.le_of_lt l_Vj
      go_wp2_with fail
      refine (hTx _ hj (HT.out.to B0)).mono ?_
      rintro e x10 ⟨rfl, hb⟩
      replace Vj := Va.after hb Vj
      replace hj := It.after hb hj
      replace B0 := step B0 hb
      clear hb
      clear c_Vj f0_Vj d_Vj f1_Vj l_Vj m_Vj
      have c_Vj := Vj.c0
      have f0_Vj := Vj.frozen 0
      have d_Vj := Vj.c1
      have f1_Vj := Vj.frozen 1
      have l_Vj := Vj.lt
      have m_Vj := Nat.le_of_lt l_Vj
      go_wp2_with fail
      refine (hsg2 _ hj).mono ?_
      rintro e x11 ⟨rfl, hb⟩
      replace Vj := Va.after hb Vj
      replace hj := It.after hb hj
      replace B0 := step B0 hb
      clear hb
      clear c_Vj f0_Vj d_Vj f1_Vj l_Vj m_Vj
      have c_Vj := Vj.c0
      have f0_Vj := Vj.frozen 0
      have d_Vj := Vj.c1
      have f1_Vj := Vj.frozen 1
      have l_Vj := Vj.lt
      have m_Vj := Nat.le_of_lt l_Vj
      go_wp2_with fail
      refine (hsg2 _ hj).mono ?_
      rintro e x12 ⟨rfl, hb⟩
      replace Vj := Va.after hb Vj
      replace hj := It.after hb hj
      replace B0 := step B0 hb
      clear hb
      clear c_Vj f0_Vj d_Vj f1_Vj l_Vj m_Vj
      have c_Vj := Vj.c0
      have f0_Vj := Vj.frozen 0
      have d_Vj := Vj.c1
      have f1_Vj := Vj.frozen 1
      have l_Vj := Vj.lt
      have m_Vj := Nat.le_of_lt l_Vj
      go_wp2_with fail
      go_ret
      exact ⟨by first | rfl | simp, B0⟩
    cases n
    · have hle : Bl.length = l.length := by have : ¬ Bl.length < l.length := of_decide_eq_false hlt; omega
      have hcat : (⟨#[]⟩ ++ ⟨L.toArray⟩ : ByteArray) = ⟨L.toArray⟩ := cat [] L
      have hsl2 : ∀ W, (Instr.sliceAt 9 (.string ⟨l.toArray⟩) none (some (.int .i64 ((l.length : Int) - Bl.length))) none).run Tryz.prog W = .ok (.string ⟨#[]⟩) W := hsl
      clear hsl
      have hemp : (ByteArray.mk L.toArray).toList.isEmpty = false := by
        rw [Go.Lib.toList_data]
        cases L with
        | nil => exact absurd rfl hL0
        | cons x r => rfl
      have hemp2 : L.isEmpty = false := by
        cases L with
        | nil => exact absurd rfl hL0
        | cons x r => rfl
      have hTx : ∀ W, It W sj aj lj cj zj → Pt W → Calls Tryz.prog 6 #[.agg #[.bool sj, .slice aj lj cj]] W fun e W' => e = .returned (.string ⟨(L).toArray⟩) ∧ Below W.heap.size W W' := fun W hW hP => (wtext_any sj aj lj cj zj W hW hP).mono (fun e W' h => by
        obtain ⟨t, h1, h2, h3⟩ := h
        obtain ⟨g1, g2, g3⟩ := HBK.out t W hW h2
        refine ⟨?_, h3⟩
        rw [h1]
        have e : sg sj ++ t = L := by
          rw [(g3 hL0).1, g1]; rfl
        rw [e])
      have hsg2 : ∀ W, It W sj aj lj cj zj → Calls Tryz.prog 8 #[.agg #[.bool sj, .slice aj lj cj]] W fun e W' => e = .returned (.int .i64 (1)) ∧ Below W.heap.size W W' := fun W hW => (hsgn W hW).mono (fun e W' h => ⟨by rw [h.1]; congr 2; have := HNE.out hL0; simp; omega, h.2⟩)
      clear hsgn HBK
      have c_Vj := Vj.c0
      have f0_Vj := Vj.frozen 0
      have d_Vj := Vj.c1
      have f1_Vj := Vj.frozen 1
      have l_Vj := Vj.lt
      have m_Vj := Nat.le_of_lt l_Vj
      go_wp2_with fail
      refine (hTx _ hj (HT.out.to B0)).mono ?_
      rintro e x10 ⟨rfl, hb⟩
      replace Vj := Va.after hb Vj
      replace hj := It.after hb hj
      replace B0 := step B0 hb
      clear hb
      clear c_Vj f0_Vj d_Vj f1_Vj l_Vj m_Vj
      have c_Vj := Vj.c0
      have f0_Vj := Vj.frozen 0
      have d_Vj := Vj.c1
      have f1_Vj := Vj.frozen 1
      have l_Vj := Vj.lt
      have m_Vj := Nat.le_of_lt l_Vj
      go_wp2_with fail
      refine (hsg2 _ hj).mono ?_
      rintro e x11 ⟨rfl, hb⟩
      replace Vj := Va.after hb Vj
      replace hj := It.after hb hj
      replace B0 := step B0 hb
      clear hb
      clear c_Vj f0_Vj d_Vj f1_Vj l_Vj m_Vj
      have c_Vj := Vj.c0
      have f0_Vj := Vj.frozen 0
      have d_Vj := Vj.c1
      have f1_Vj := Vj.frozen 1
      have l_Vj := Vj.lt
      have m_Vj := Nat.le_of_lt l_Vj
      go_wp2_with fail
      refine (hsg2 _ hj).mono ?_
      rintro e x12 ⟨rfl, hb⟩
      replace Vj := Va.after hb Vj
      replace hj := It.after hb hj
      replace B0 := step B0 hb
      clear hb
      clear c_Vj f0_Vj d_Vj f1_Vj l_Vj m_Vj
      have c_Vj := Vj.c0
      have f0_Vj := Vj.frozen 0
      have d_Vj := Vj.c1
      have f1_Vj := Vj.frozen 1
      have l_Vj := Vj.lt
      have m_Vj := Nat.le_of_lt l_Vj
      go_wp2_with fail
      go_ret
      exact ⟨by first | rfl | simp, B0⟩
    · have hle : Bl.length < l.length := of_decide_eq_true hlt
      have hcat : (⟨#[45]⟩ ++ ⟨L.toArray⟩ : ByteArray) = ⟨(45 :: L).toArray⟩ := cat [45] L
      have hsl2 : ∀ W, (Instr.sliceAt 9 (.string ⟨l.toArray⟩) none (some (.int .i64 ((l.length : Int) - Bl.length))) none).run Tryz.prog W = .ok (.string ⟨#[45]⟩) W := hsl
      clear hsl
      have hemp : (ByteArray.mk L.toArray).toList.isEmpty = false := by
        rw [Go.Lib.toList_data]
        cases L with
        | nil => exact absurd rfl hL0
        | cons x r => rfl
      have hemp2 : L.isEmpty = false := by
        cases L with
        | nil => exact absurd rfl hL0
        | cons x r => rfl
      have hTx : ∀ W, It W sj aj lj cj zj → Pt W → Calls Tryz.prog 6 #[.agg #[.bool sj, .slice aj lj cj]] W fun e W' => e = .returned (.string ⟨(45 :: L).toArray⟩) ∧ Below W.heap.size W W' := fun W hW hP => (wtext_any sj aj lj cj zj W hW hP).mono (fun e W' h => by
        obtain ⟨t, h1, h2, h3⟩ := h
        obtain ⟨g1, g2, g3⟩ := HBK.out t W hW h2
        refine ⟨?_, h3⟩
        rw [h1]
        have e : sg sj ++ t = 45 :: L := by
          rw [(g3 hL0).1, g1]; rfl
        rw [e])
      have hsg2 : ∀ W, It W sj aj lj cj zj → Calls Tryz.prog 8 #[.agg #[.bool sj, .slice aj lj cj]] W fun e W' => e = .returned (.int .i64 (-1)) ∧ Below W.heap.size W W' := fun W hW => (hsgn W hW).mono (fun e W' h => ⟨by rw [h.1]; congr 2; have := HNE.out hL0; simp; omega, h.2⟩)
      clear hsgn HBK
      have c_Vj := Vj.c0
      have f0_Vj := Vj.frozen 0
      have d_Vj := Vj.c1
      have f1_Vj := Vj.frozen 1
      have l_Vj := Vj.lt
      have m_Vj := Nat.le_of_lt l_Vj
      go_wp2_with fail
      refine (hTx _ hj (HT.out.to B0)).mono ?_
      rintro e x10 ⟨rfl, hb⟩
      replace Vj := Va.after hb Vj
      replace hj := It.after hb hj
      replace B0 := step B0 hb
      clear hb
      clear c_Vj f0_Vj d_Vj f1_Vj l_Vj m_Vj
      have c_Vj := Vj.c0
      have f0_Vj := Vj.frozen 0
      have d_Vj := Vj.c1
      have f1_Vj := Vj.frozen 1
      have l_Vj := Vj.lt
      have m_Vj := Nat.le_of_lt l_Vj
      go_wp2_with fail
      refine (hsg2 _ hj).mono ?_
      rintro e x11 ⟨rfl, hb⟩
      replace Vj := Va.after hb Vj
      replace hj := It.after hb hj
      replace B0 := step B0 hb
      clear hb
      clear c_Vj f0_Vj d_Vj f1_Vj l_Vj m_Vj
      have c_Vj := Vj.c0
      have f0_Vj := Vj.frozen 0
      have d_Vj := Vj.c1
      have f1_Vj := Vj.frozen 1
      have l_Vj := Vj.lt
      have m_Vj := Nat.le_of_lt l_Vj
      go_wp2_with fail
      refine (hsg2 _ hj).mono ?_
      rintro e x12 ⟨rfl, hb⟩
      replace Vj := Va.after hb Vj
      replace hj := It.after hb hj
      replace B0 := step B0 hb
      clear hb
      clear c_Vj f0_Vj d_Vj f1_Vj l_Vj m_Vj
      have c_Vj := Vj.c0
      have f0_Vj := Vj.frozen 0
      have d_Vj := Vj.c1
      have f1_Vj := Vj.frozen 1
      have l_Vj := Vj.lt
      have m_Vj := Nat.le_of_lt l_Vj
      go_wp2_with fail
      go_ret
      exact ⟨by first | rfl | simp, B0⟩
  · have HS : Hid (Int.sign (iv sj zj) = 0) := by show _ = _; rw [hv0]; rfl
    have hbs : (ByteArray.mk l.toArray).size = l.length := bsize l
    clear hW hv0
    go_wp2_with fail
    refine ent1 x8 _ _ (Q := fun W => Calls Tryz.prog _ _ W _) ?_
    intro x9 hb hs_x9 Vj
    replace hj := It.after hb hj
    replace B0 := step B0 hb
    clear hb hs_x9
    have hsg := wsign_any sj aj lj cj zj x9 hj
    rw [HS.out] at hsg
    refine (hsg).mono ?_
    rintro e x10 ⟨rfl, hb⟩
    replace Vj := Va.after hb Vj
    replace hj := It.after hb hj
    replace B0 := step B0 hb
    clear hb
    have c_Vj := Vj.c0
    have f0_Vj := Vj.frozen 0
    have d_Vj := Vj.c1
    have f1_Vj := Vj.frozen 1
    have l_Vj := Vj.lt
    have m_Vj := Nat.le_of_lt l_Vj
    go_wp2_with fail
    go_ret
    exact ⟨rfl, B0⟩
end Go.Proofs.YthjlkobfmoahiaaGreatDoor
