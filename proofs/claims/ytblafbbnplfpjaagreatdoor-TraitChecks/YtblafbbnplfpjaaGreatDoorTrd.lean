/-
  traits: fold at forms, Plain.
-/
import Derived.Test.YtblafbbnplfpjaaGreatDoorTrc
namespace Go.Proofs.YtblafbbnplfpjaaGreatDoor
open Go.RowKit Go.Shelf
set_option linter.unusedVariables false

theorem ent4f (w : World) (t0 : TypeId) (c0 : Array Value) (t1 : TypeId) (c1 : Array Value) (t2 : TypeId) (c2 : Array Value) (t3 : TypeId) (c3 : Array Value) {Q : World → Prop}
    (h : ∀ w0, Below w.heap.size w w0 → w0.heap.size = w.heap.size + 4 → Va w0 (w.heap.size) t0 c0 → Va w0 (w.heap.size + 1) t1 c1 → Va w0 (w.heap.size + 2) t2 c2 → Va w0 (w.heap.size + 3) t3 c3 → Q w0) : Q ((((w.alloc (.cells c0 t0)).alloc (.cells c1 t1)).alloc (.cells c2 t2)).alloc (.cells c3 t3)) := by
  refine ent3 w t0 c0 t1 c1 t2 c2 (Q := fun W => Q (W.alloc (.cells c3 t3))) ?_
  intro w0 hb hs V0 V1 V2
  refine ent1 w0 t3 c3 ?_
  intro w1 hb1 hs1 V3
  exact h w1 (step hb hb1) (by omega) (V0.after hb1) (V1.after hb1) (V2.after hb1) (by rw [hs] at V3; exact V3)
/-- How fold at forms ends. -/
def FdE (y : List Nd) (w : World) (e : Ending) (w' : World) : Prop := ∃ x : Fm, e = .returned (fmv x) ∧ Ge elN w' w.heap.size (.slice x.ya x.yl x.yc) y ∧ Below w.heap.size w w'
set_option maxHeartbeats 4000000 in
theorem foldF (ns : List Nd) (a : Option Addr) (cap : Nat) (w : World) (hL : Le elN w a ns.length ns) (h1 : ns.length ≤ 64) (n : Nd) (k : Fo) (hns : ns = (Fo.cons n k .nil).flat) (hok : (Fo.cons n k .nil).Ok wdB 0 1) :
    Calls Tryz.prog 40 #[.slice a ns.length cap, jvF] w (FdE ((Fo.cons n k .nil).plain false).flat w) := by
  have h0 : 0 < ns.length := by rw [hns]; simp [Fo.flat]
  have HL : Hid (Le elN w a ns.length ns) := hL
  have HN : Hid (ns = (Fo.cons n k .nil).flat) := hns
  have HOK : Hid ((Fo.cons n k .nil).Ok wdB 0 1) := hok
  obtain ⟨RY, hRY⟩ : ∃ R, ((Fo.cons n k .nil).plain false).flat = R := ⟨_, rfl⟩
  obtain ⟨RN, hRN⟩ : ∃ R, ((Fo.cons n k .nil).plain true).flat = R := ⟨_, rfl⟩
  have HR : Hid (((Fo.cons n k .nil).plain false).flat = RY ∧ ((Fo.cons n k .nil).plain true).flat = RN) := ⟨hRY, hRN⟩
  rw [hRY]
  clear hL hns hok hRY hRN
  have B0 : Below w.heap.size w w := Below.refl _ _
  go_enter Tryz.func40, Tryz.ntmps40
  go_upto_region 2 with fail
  refine ent4f w _ _ _ _ _ _ _ _ (Q := fun W => Code.wp _ _ _ _ W) ?_
  intro W1 hb hs V0 V1 VR V2
  replace B0 := step B0 hb
  have L1 := HL.out.after hb
  have hlt := fun b off (h : a = some ⟨b, off, none⟩) => (by subst h; exact HL.out.lt h0 : b < w.heap.size)
  clear hb
  go_upto_region 3 with fail
  refine ent1 W1 _ _ (Q := fun W => Code.wp _ _ _ _ W) ?_
  intro W2 hb hs2 V3
  rw [hs] at V3 hs2
  replace V0 := V0.after hb
  replace V1 := V1.after hb
  replace V2 := V2.after hb
  replace VR := VR.after hb
  replace L1 := L1.after hb
  replace B0 := step B0 hb
  clear hb
  have c3 := V3.cell
  have f3 := V3.frozen 0
  go_upto_region 4 with fail
  refine st1 V3 _ (Q := fun W => Code.wp _ _ _ _ W) ?_
  intro W3 hv hg hs3
  have C3 : DsF ns a cap w.heap.size (w.heap.size + 3) (w.heap.size + 4) (w.heap.size + 1) jvF W3 0 :=
    ⟨V0.gr hg (by omega), V2.gr hg (by omega), hv, V1.gr hg (by omega), L1.grown hg (fun _ b off h => by have := hlt b off h; omega), by omega, by omega, fun b off h => by have := hlt b off h; omega, by omega, h1, Nat.zero_le _⟩
  have HVR : Hid (Va W3 (w.heap.size + 2) 76 #[.slice none 0 0, .slice none 0 0]) := VR.gr hg (by omega)
  have HB3 : Hid (Below w.heap.size w W3) := B0.trans (gr_to hg (by omega) (by omega))
  have d3 := hv.cell
  have hs4 : w.heap.size + 5 ≤ W3.heap.size := by omega
  clear V0 V1 V2 V3 VR c3 f3 L1 hv hg hs hs2 hs3 B0 hlt
  have C9 : Calls Tryz.prog 65 #[pt1 w.heap.size, pt1 (w.heap.size + 3), pt1 (w.heap.size + 4), pt1 (w.heap.size + 1)] W3 (DfE (w.heap.size + 5) ns (w.heap.size + 3) RY RN (0 + (Fo.cons n k .nil).flat.length) W3) := by
    have := (allD_of (downF (w.heap.size + 5) ns a cap w.heap.size (w.heap.size + 3) (w.heap.size + 4) (w.heap.size + 1) (by omega)) (.cons n k .nil)).1 0 0 HOK.out 0 W3 [] C3 (by omega) (by rw [List.drop_zero, List.append_nil]; exact HN.out)
    rw [HR.out.1, HR.out.2] at this
    exact this
  clear C3
  go_wp2_with fail
  refine C9.mono ?_
  rintro e W4 ⟨x, rfl, hfm, -, -, hg⟩
  have B4 : Below w.heap.size w W4 := HB3.out.trans (gr_to hg (by omega) (by omega))
  have V9 := HVR.out.gr hg (by omega)
  have v0 := V9.c0
  have v1 := V9.c1
  have f0 := V9.frozen 0
  have f1 := V9.frozen 1
  have HFM : Hid (FmR (w.heap.size + 5) W4 x RY RN) := hfm
  clear hg C9 HB3 hfm HVR
  go_wp2_with fail
  refine bodyPost_ret (results_f rfl rfl (V9.set2 _ _)) rfl ?_
  refine ⟨x, rfl, ?_, below_2 B4 (by omega) _ _⟩
  exact Ge.kept (HFM.out.1.le (by omega)) (fun g hg => fa2b _ _ _ _ g (by have := HFM.out.1.block g hg; omega))
/-- What Plain answers. -/
def PlR (ns out : List Nd) (er : Int) : Prop := (¬ Cond wdB ns ∧ out = [] ∧ er = 131) ∨ (ns = [] ∧ out = [] ∧ er = 0) ∨
  ∃ n k, ns = (Fo.cons n k .nil).flat ∧ (Fo.cons n k .nil).Ok wdB 0 1 ∧ ns.length ≤ 64 ∧ ((64 < ((Fo.cons n k .nil).plain false).flat.length ∧ out = [] ∧ er = 3) ∨ (((Fo.cons n k .nil).plain false).flat.length ≤ 64 ∧ out = ((Fo.cons n k .nil).plain false).flat ∧ er = 0))
def PlE (ns : List Nd) (w : World) (e : Ending) (w' : World) : Prop := ∃ out a' c' er, e = .returned (.tuple #[.slice a' out.length c', .int .i64 er]) ∧ Ge elN w' w.heap.size (.slice a' out.length c') out ∧ PlR ns out er ∧ Below w.heap.size w w'
set_option maxHeartbeats 4000000 in
theorem plain13 (ns : List Nd) (a : Option Addr) (cap : Nat) (w : World) (hL : Le elN w a ns.length ns) (h64 : ∀ n ∈ ns, N64 n) :
    Calls Tryz.prog 17 #[.slice a ns.length cap] w (PlE ns w) := by
  have C1 := check13 ns a cap w hL h64
  have HL : Hid (Le elN w a ns.length ns) := hL
  clear hL h64
  rcases Classical.em (Cond wdB ns) with hc | hc
  rotate_left
  · rw [ckE_no hc] at C1
    have HC : Hid (¬ Cond wdB ns) := hc
    clear hc
    go_enter Tryz.func17, Tryz.ntmps17
    go_wp2_with fail
    refine C1.mono ?_
    rintro e W2 ⟨rfl, hb2⟩
    clear C1
    go_wp2_with fail
    go_ret2
    exact ⟨[], none, 0, 131, rfl, Ge.nil _ _, .inl ⟨HC.out, rfl, rfl⟩, hb2⟩
  rw [ckE_ok hc] at C1
  have HC : Hid (Cond wdB ns) := hc
  clear hc
  rcases Nat.eq_zero_or_pos ns.length with h0 | h0
  · have hn0 : ((ns.length : Int) == 0) = true := by rw [h0]; rfl
    have HE : Hid (ns = []) := List.length_eq_zero_iff.1 h0
    clear h0
    go_enter Tryz.func17, Tryz.ntmps17
    go_wp2_with fail
    refine C1.mono ?_
    rintro e W2 ⟨rfl, hb2⟩
    clear C1
    go_wp2_with fail
    go_ret2
    exact ⟨[], none, 0, 0, rfl, Ge.nil _ _, .inr (.inl ⟨HE.out, rfl, rfl⟩), hb2⟩
  have hne : ns ≠ [] := fun h => by rw [h] at h0; exact absurd h0 (Nat.lt_irrefl _)
  have hn0 : ((ns.length : Int) == 0) = false := by simp; omega
  obtain ⟨hl64, n, k, hnk, hok⟩ := cond_tree hne HC.out
  have HNK : Hid (ns = (Fo.cons n k .nil).flat ∧ (Fo.cons n k .nil).Ok wdB 0 1) := ⟨hnk, hok⟩
  have C2 := fun W h => foldF ns a cap W h hl64 n k HNK.out.1 HNK.out.2
  obtain ⟨P, hP⟩ : ∃ P, ((Fo.cons n k .nil).plain false).flat = P := ⟨_, rfl⟩
  have HP : Hid (((Fo.cons n k .nil).plain false).flat = P) := hP
  rw [hP] at C2
  clear hnk hok hP hne
  go_enter Tryz.func17, Tryz.ntmps17
  go_wp2_with fail
  refine C1.mono ?_
  rintro e W2 ⟨rfl, hb2⟩
  have D2 := C2 W2 (HL.out.after hb2)
  clear C1 C2
  go_wp2_with fail
  refine D2.mono ?_
  rintro e W3 ⟨x, rfl, hge, hb3⟩
  obtain ⟨ya, yl, yc, na, nl, nc⟩ := x
  dsimp only [fmv] at *
  obtain ⟨a', cap', e', hcl, hcm, hsh⟩ := hge.shape
  simp only [Value.slice.injEq] at e'
  obtain ⟨rfl, rfl, rfl⟩ := e'
  have B3 := step hb2 hb3
  have HG : Hid (Ge elN W3 w.heap.size (.slice ya P.length yc) P) := hge.le hb2.size
  clear hge hb2 hb3 D2 hsh hcl hcm
  have hfd : ∀ W : World, (Instr.field 76 (.agg #[.slice ya P.length yc, .slice na nl nc]) 0).run Tryz.prog W = .ok (.slice ya P.length yc) W := fun _ => by kernel_rfl
  rcases Nat.lt_or_ge 64 P.length with hp | hp
  · have hp' : (64 : Int) < P.length := by omega
    go_wp2_with fail
    go_ret2
    exact ⟨[], none, 0, 3, rfl, Ge.nil _ _, .inr (.inr ⟨n, k, HNK.out.1, HNK.out.2, hl64, .inl ⟨by rw [HP.out]; exact hp, rfl, rfl⟩⟩), B3⟩
  · have hp' : ¬ (64 : Int) < P.length := by omega
    go_wp2_with fail
    go_ret2
    exact ⟨P, ya, yc, 0, rfl, HG.out, .inr (.inr ⟨n, k, HNK.out.1, HNK.out.2, hl64, .inr ⟨by rw [HP.out]; exact hp, by rw [HP.out], rfl⟩⟩), B3⟩
end Go.Proofs.YtblafbbnplfpjaaGreatDoor
