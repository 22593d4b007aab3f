/-
  rat.Of of any ratio; KeptRatio, told, the document's Sign.
-/
import Derived.Test.YtadfccbjadopgaaGreatAl
import Derived.Test.YtadfccbjadopgaaGreatRt11
import Derived.Test.YtadfccbjadopgaaGreatKept5
import Derived.Test.YtadfccbjadopgaaGreatRt15
namespace Go.Proofs.YtadfccbjadopgaaGreat
open Go.RowKit Go.Shelf
set_option linter.unusedVariables false

theorem rsign5 (s : Bool) (a : Option Addr) (l c : Nat) (zs : List Int) (b : Option Addr) (m d : Nat) (ys : List Int) (v : Rat) (w : World) (h : Rr w s a l c zs b m d ys v) :
    Calls Tryz.prog 18 #[.agg #[.bool s, .slice a l c, .slice b m d]] w fun e w' => e = .returned (.int .i64 (Int.sign v.num)) ∧ Below w.heap.size w w' := by
  have hz := num_eq_zero h.1.2.1
  have z0 := num_nonneg h.1.2.1
  rw [h.2.2.1] at hz
  have hv := h.2.2.2.2.2.1
  have hs := h.2.2.2.2.2.2.2
  by_cases l0 : l = 0
  · have e1 : Int.sign v.num = 0 := by rw [← hv]; cases s <;> simp only [iv_t, iv_f, hz.2 l0] <;> rfl
    rw [e1]
    subst l0
    clear hz hv hs h e1 z0
    go_enter Tryz.func18, Tryz.ntmps18
    go_wp2_with fail
    go_ret
    exact ⟨rfl, (Below.refl _ _).alloc (Nat.le_refl _) _⟩
  · have l1 : ((l : Int) == 0) = false := by simp; omega
    have n0 : num zs ≠ 0 := fun e => l0 (hz.1 e)
    cases s
    · have e1 : Int.sign v.num = 1 := by rw [← hv, iv_f]; exact Int.sign_eq_one_of_pos (by omega)
      rw [e1]
      clear hz hv hs h e1 z0 n0 l0
      go_enter Tryz.func18, Tryz.ntmps18
      go_wp2_with fail
      go_ret
      exact ⟨rfl, (Below.refl _ _).alloc (Nat.le_refl _) _⟩
    · have e1 : Int.sign v.num = -1 := by rw [← hv, iv_t]; exact Int.sign_eq_neg_one_of_neg (by omega)
      rw [e1]
      clear hz hv hs h e1 z0 n0 l0
      go_enter Tryz.func18, Tryz.ntmps18
      go_wp2_with fail
      go_ret
      exact ⟨rfl, (Below.refl _ _).alloc (Nat.le_refl _) _⟩

set_option maxHeartbeats 4000000 in
theorem told5 (s1 : Bool) (a1 : Option Addr) (l1 c1 : Nat) (z1 : List Int) (s : Bool) (a : Option Addr) (l c : Nat) (zs : List Int) (b : Option Addr) (m d : Nat) (ys : List Int) (v : Rat) (w : World) (h1 : It w s1 a1 l1 c1 z1) (h2 : Rr w s a l c zs b m d ys v) (he : iv s1 z1 = v.num) :
    Calls Tryz.prog 20 #[.agg #[.bool s1, .slice a1 l1 c1], .agg #[.bool s, .slice a l c, .slice b m d]] w fun e w' => e = .returned (.bool true) ∧ Below w.heap.size w w' := by
  have hl1 := len_4096 h1.1; have hz1 : z1.length = l1 := h1.1.1.1
  have en : num zs = num z1 := by
    have q1 := h1.abs; have q2 := h2.2.2.2.2.2.1; have z0 := num_nonneg h2.1.2.1; rw [he] at q1
    cases s <;> simp only [iv_t, iv_f] at q2 <;> omega
  have ez := trim_one h2.1.2.1 h1.1.limbs (by rw [h2.2.2.1, h2.1.1]) (by rw [h1.1.2.1, hz1]) en; (have el : l = l1 := by rw [← h2.1.1, ez, hz1]); subst el; subst ez; (have ess : (Int.sign v.num == Int.sign v.num) = true := by simp); have HE : Hid (iv s1 zs = v.num) := he; (obtain ⟨sg, hsg⟩ : ∃ sg, Int.sign v.num = sg := ⟨_, rfl⟩); have HSG : Hid (Int.sign v.num = sg) := hsg; rw [hsg] at ess; clear he en hsg; have B0 : Below w.heap.size w w := Below.refl _ _
  go_enter Tryz.func20, Tryz.ntmps20
  (go_wp2_with fail); refine ent2 w _ _ _ _ (Q := fun W => Code.wp Tryz.prog _ _ _ W) ?_; intro x1 hb hs_x1 V0 V1; replace h1 := It.after hb h1; replace h2 := Rr.after hb h2; replace B0 := step B0 hb; clear hb hs_x1; refine wp_region_noPanic ?_; replace V0 : Va x1.drew _ _ _ := V0; replace V1 : Va x1.drew _ _ _ := V1; replace h1 := h1.drw; replace h2 := h2.drw; replace B0 := Below.drew B0; refine wp_region_held_drew (S := (fun W => W.cell? ⟨w.heap.size, 0, none⟩ = some (.bool s1) ∧ W.cell? ⟨w.heap.size, 1, none⟩ = some (.slice a1 l c1) ∧ W.cell? ⟨w.heap.size + 1, 0, none⟩ = some (.bool s) ∧ W.cell? ⟨w.heap.size + 1, 1, none⟩ = some (.slice a l c) ∧ W.cell? ⟨w.heap.size + 1, 2, none⟩ = some (.slice b m d))) (by kernel_rfl) ⟨V0.c0, V0.c1, V1.d0, V1.d1, V1.d2⟩ (fun hHeld => ?_); (obtain ⟨x2, hxd⟩ : ∃ xd, xd = x1.drew := ⟨_, rfl⟩); rw [← hxd] at V0 V1 h1 h2 B0 hHeld ⊢; clear hxd; refine wpAnyH_take (i := 0) (v := ?_) rfl (by kernel_rfl) (by kernel_rfl) (by kernel_rfl) (fun _ _ _ h => h) (Or.inl ⟨by rfl, ?_⟩) hHeld ?_
  rotate_left
  · (intro W hSw; (try dsimp only at hSw); go_simp; all_goals (with_reducible rfl))
  simp only [gA, gB, Act.put, gD, gE, gF]; refine wpAnyH_take (i := 2) (v := ?_) rfl (by kernel_rfl) (by kernel_rfl) (by kernel_rfl) (fun _ _ _ h => h) (Or.inl ⟨by rfl, ?_⟩) hHeld ?_; rotate_left
  · (intro W hSw; (try dsimp only at hSw); go_simp; all_goals (with_reducible rfl))
  simp only [gA, gB, gC, Act.put, gD, gE, gF]; refine wpAnyH_ready (rs := [1]) (by kernel_rfl) (by simp) ?_; refine AllReadyH.cons rfl (fun K hK => ?_) AllReadyH.nil; simp only [gA, gB, gC]; (go_simp); refine (wsign_any s1 a1 l c1 zs _ h1).mono ?_; rintro e x3 ⟨rfl, hb⟩; replace V0 := Va.after hb V0; replace V1 := Va.after hb V1; replace h1 := It.after hb h1; replace h2 := Rr.after hb h2; replace B0 := step B0 hb; clear hb; rw [HE.out, HSG.out]; (try go_wp2_with fail); refine hK.out _ _ ⟨V0.c0, V0.c1, V1.d0, V1.d1, V1.d2⟩ (fun hHeld => ?_); clear hK K; refine wpAnyH_ready (rs := [3]) (by kernel_rfl) (by simp) ?_; refine AllReadyH.cons rfl (fun K hK => ?_) AllReadyH.nil; simp only [gA, gB, gC]; (go_simp); refine (rsign5 s a l c zs b m d ys v _ h2).mono ?_; rintro e x4 ⟨rfl, hb⟩; replace V0 := Va.after hb V0; replace V1 := Va.after hb V1; replace h1 := It.after hb h1; replace h2 := Rr.after hb h2; replace B0 := step B0 hb; clear hb; rw [HSG.out]; (try go_wp2_with fail)
  refine hK.out _ _ ⟨V0.c0, V0.c1, V1.d0, V1.d1, V1.d2⟩ (fun hHeld => ?_); clear hK K; refine wpAnyH_take (i := 4) (v := .bool true) rfl (by kernel_rfl) (by kernel_rfl) (by kernel_rfl) (fun _ _ _ h => h) (Or.inl ⟨by rfl, ?_⟩) hHeld ?_
  · (intro W hSw; (try dsimp only at hSw); go_simp; first | (rw [ess]) | skip)
  simp only [gA, gB, gC, Act.put, gD, gE, gF]; refine wpAnyH_take (i := 5) (v := ?_) rfl (by kernel_rfl) (by kernel_rfl) (by kernel_rfl) (fun _ _ _ h => h) (Or.inl ⟨by rfl, ?_⟩) hHeld ?_; rotate_left
  · (intro W hSw; (try dsimp only at hSw); go_simp; all_goals (with_reducible rfl))
  simp only [gA, gB, gC, Act.put, gD, gE, gF]; refine wpAnyH_take (i := 6) (v := ?_) rfl (by kernel_rfl) (by kernel_rfl) (by kernel_rfl) (fun _ _ _ h => h) (Or.inl ⟨by rfl, ?_⟩) hHeld ?_; rotate_left
  · (intro W hSw; (try dsimp only at hSw); go_simp; all_goals (with_reducible rfl))
  simp only [gA, gB, gC, Act.put, gD, gE, gF]; refine wpAnyH_take (i := 9) (v := ?_) rfl (by kernel_rfl) (by kernel_rfl) (by kernel_rfl) (fun _ _ _ h => h) (Or.inl ⟨by rfl, ?_⟩) hHeld ?_; rotate_left
  · (intro W hSw; (try dsimp only at hSw); go_simp; all_goals (with_reducible rfl))
  simp only [gA, gB, gC, Act.put, gD, gE, gF]; refine wpAnyH_take (i := 10) (v := ?_) rfl (by kernel_rfl) (by kernel_rfl) (by kernel_rfl) (fun _ _ _ h => h) (Or.inl ⟨by rfl, ?_⟩) hHeld ?_; rotate_left
  · (intro W hSw; (try dsimp only at hSw); go_simp; all_goals (with_reducible rfl))
  simp only [gA, gB, gC, Act.put, gD, gE, gF]; refine wpAnyH_ready (rs := [7]) (by kernel_rfl) (by simp) ?_; refine AllReadyH.cons rfl (fun K hK => ?_) AllReadyH.nil; simp only [gA, gB, gC]; (go_simp); refine (wabs_any s1 a1 l c1 _).mono ?_; rintro e x5 ⟨rfl, hb⟩; replace V0 := Va.after hb V0; replace V1 := Va.after hb V1; replace h1 := It.after hb h1; replace h2 := Rr.after hb h2; replace B0 := step B0 hb; clear hb; (try go_wp2_with fail); refine hK.out _ _ ⟨V0.c0, V0.c1, V1.d0, V1.d1, V1.d2⟩ (fun hHeld => ?_); clear hK K; refine wpAnyH_ready (rs := [8]) (by kernel_rfl) (by simp) ?_; refine AllReadyH.cons rfl (fun K hK => ?_) AllReadyH.nil; simp only [gA, gB, gC]; (go_simp); refine (limbs_any a1 l c1 zs _ h1.1).mono ?_; rintro e x6 ⟨g, rfl, hg, ho, hb⟩; replace V0 := Va.after hb V0; replace V1 := Va.after hb V1; replace h1 := It.after hb h1; replace h2 := Rr.after hb h2; replace B0 := step B0 hb; clear hb hg; replace ho : Ow _ g zs := ho; (try go_wp2_with fail)
  refine hK.out _ _ ⟨V0.c0, V0.c1, V1.d0, V1.d1, V1.d2⟩ (fun hHeld => ?_); clear hK K; refine wpAnyH_ready (rs := [11]) (by kernel_rfl) (by simp) ?_; refine AllReadyH.cons rfl (fun K hK => ?_) AllReadyH.nil; simp only [gA, gB, gC]; (go_simp); refine (sameq_b (some ⟨g, 0, none⟩) a l l c zs _ (ho.sl h1.1.limbs hz1) h2.1 (by omega)).mono ?_; rintro e x7 ⟨rfl, hb⟩; replace V0 := Va.after hb V0; replace V1 := Va.after hb V1; replace h1 := It.after hb h1; replace h2 := Rr.after hb h2; replace ho := Ow.after hb ho; replace B0 := step B0 hb; clear hb; (try go_wp2_with fail); refine hK.out _ _ ⟨V0.c0, V0.c1, V1.d0, V1.d1, V1.d2⟩ (fun hHeld => ?_); clear hK K; refine wpAnyH_take (i := 12) (v := ?_) rfl (by kernel_rfl) (by kernel_rfl) (by kernel_rfl) (fun _ _ _ h => h) (Or.inl ⟨by rfl, ?_⟩) hHeld ?_; rotate_left
  · (intro W hSw; (try dsimp only at hSw); go_simp; all_goals (with_reducible rfl))
  simp only [gA, gB, gC, Act.put, gD, gE, gF]; refine wpAnyH_take (i := 13) (v := ?_) rfl (by kernel_rfl) (by kernel_rfl) (by kernel_rfl) (fun _ _ _ h => h) (Or.inl ⟨by rfl, ?_⟩) hHeld ?_; rotate_left
  · (intro W hSw; (try dsimp only at hSw); go_simp; all_goals (with_reducible rfl))
  simp only [gA, gB, gC, Act.put, gD, gE, gF]; refine wpAnyH_done (by kernel_rfl) ?_ _; refine NoPanic.normal ?_; clear hHeld; (go_wp2_with fail)
  go_ret
  exact ⟨rfl, B0⟩
end Go.Proofs.YtadfccbjadopgaaGreat
