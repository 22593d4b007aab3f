/-
  The walk of SpanSets.
-/
import Derived.Test.YtiabjlaganmloaaKeS
import Derived.Test.YtiabjlaganmloaaOvS
namespace Go.Proofs.Ytiabjlaganmloaa
open Go.RowKit Go.Shelf
set_option linter.unusedVariables false
set_option linter.unusedSimpArgs false

theorem in_ls {w : World} {g : Nat} {ps qs : List Pr} (h : Va w g 24 (rowS (ps ++ qs)).toArray) : Ls w (some ⟨g, 0, none⟩) ps.length ps := by
  refine ⟨rfl, fun _ => ⟨g, 0, rfl, fun i hi => ?_⟩⟩
  have hr := row_at h i (by rw [List.length_append]; omega)
  have e : (ps ++ qs).getD i (0, 0) = ps.getD i (0, 0) := by rw [List.getD_eq_getElem?_getD, List.getElem?_append_left hi, ← List.getD_eq_getElem?_getD]
  rw [e] at hr
  rw [Nat.zero_add]
  exact hr
theorem ofE_ne (ps : List Pr) : ofE ps ≠ 0 := by unfold ofE; split <;> omega
theorem has_s {b i : Nat} (p : Nat) (ps : List Pr) (d : Int) (Y X : World) (h : St Y p ps) (hS : X.cell? ⟨b, i, none⟩ = some (.int .i64 d) ∧ Hid (Below Y.heap.size Y X)) :
    Calls Try.prog 20 #[.pointer (some ⟨p, 0, none⟩), .int .i64 d] X fun e w' => e = .returned (.bool (inB ps d)) ∧ (w'.cell? ⟨b, i, none⟩ = some (.int .i64 d) ∧ Hid (Below Y.heap.size Y w')) := by
  refine (has_any p ps d X (h.after hS.2.out)).mono ?_
  rintro e w' ⟨rfl, hb⟩
  exact ⟨rfl, s3_keep hS hb⟩
theorem rhas_s {b i : Nat} (a : Option Addr) (len cap : Nat) (ps : List Pr) (d : Int) (Y X : World) (h : Ls Y a len ps) (hl : len ≤ 9000000000000) (hS : X.cell? ⟨b, i, none⟩ = some (.int .i64 d) ∧ Hid (Below Y.heap.size Y X)) :
    Calls Try.prog 21 #[.slice a len cap, .int .i64 d] X fun e w' => e = .returned (.bool (inB ps d)) ∧ (w'.cell? ⟨b, i, none⟩ = some (.int .i64 d) ∧ Hid (Below Y.heap.size Y w')) := by
  refine (rhas_any a len cap ps d X (h.after hS.2.out) hl).mono ?_
  rintro e w' ⟨rfl, rfl⟩
  exact ⟨rfl, hS⟩
set_option maxRecDepth 20000 in
set_option maxHeartbeats 4000000 in
theorem set_walk (a : Option Addr) (len cap : Nat) (ps : List Pr) (b : Option Addr) (lb cb : Nat) (zs : List Int) (w : World) (h : Ls w a len ps) (hc : len ≤ cap) (hcap : cap ≤ 8796093021952) (hn : a = none → len = 0 ∧ cap = 0) (g : ∀ q ∈ ps, b64 q.1 ∧ b64 q.2)
    (h' : Ld w b lb zs) (hc' : lb ≤ cb) (hcap' : cb ≤ 17592186043904) (hn' : b = none → lb = 0 ∧ cb = 0) (g' : ∀ z ∈ zs, b64 z) :
    Calls Try.prog 4 #[.slice a len cap, .slice b lb cb] w fun e w' => e = .returned (.bool true) ∧ Below w.heap.size w w' := by
  obtain rfl := h.1
  obtain rfl := h'.1
  have HL : Hid (Ls w a ps.length ps) := h
  have HD : Hid (Ld w b zs.length zs) := h'
  have HN : Hid (a = none → ps.length = 0 ∧ cap = 0) := hn
  have HGZ : Hid (∀ z ∈ zs, b64 z) := g'
  have hl9 : ps.length ≤ 9000000000000 := by omega
  clear h h' g g' hn hn'
  go_enter Try.func4, Try.ntmps4
  go_wp2_with fail
  refine (awake_any w).mono ?_
  rintro e w1 ⟨rfl, hb1⟩
  have HB1 : Hid (Below w.heap.size w w1) := hb1
  clear hb1
  go_wp2_with fail
  refine (lentS_any a ps.length cap ps w1 (HL.out.after HB1.out) HN.out hl9).mono ?_
  rintro e w2 ⟨rfl, hv2, hb2⟩
  have HV2 : Hid (Va w2 w1.heap.size 24 (rowS (ps ++ mkS 12)).toArray) := hv2
  have HB2 : Hid (Below w.heap.size w w2) := step HB1.out hb2
  have HS1 : Hid (w.heap.size ≤ w1.heap.size) := HB1.out.size
  have HS2 : Hid (w1.heap.size < w2.heap.size) := hv2.lt
  clear hv2 hb2 HB1
  go_wp2_with fail
  by_cases ta : Tks ps
  · refine (of_new (some ⟨w1.heap.size, 0, none⟩) ps.length (ps.length + 12) ps w2 (in_ls HV2.out) ta.2 ta.1).mono ?_
    rintro e w3 ⟨p, cs, rfl, hst, hds, hb3⟩
    have HF3 : Hid (StF w3 w2.heap.size p cs) := hst
    have HDS : Hid (∀ d, inS cs d ↔ inS ps d) := hds.out
    have HV3 : Hid (Va w3 w1.heap.size 24 (rowS (ps ++ mkS 12)).toArray) := HV2.out.after hb3
    have HB3 : Hid (Below w.heap.size w w3) := step HB2.out hb3
    have HS3 : Hid (w2.heap.size ≤ w3.heap.size) := hb3.size
    clear hst hds hb3 HV2 HB2
    go_wp2_with fail
    refine (rof_ok a ps.length cap ps w3 (HL.out.after HB3.out) ta).mono ?_
    rintro e w4 ⟨vo, os, rfl, hgo, hfo, hb4⟩
    have eo : os = cs := few_unique hfo.out.1 HF3.out.1 (fun d => (hfo.out.2 d).trans (HDS.out d).symm)
    subst eo
    obtain ⟨ao, co, rfl, -⟩ := hgo.slice
    have HGO : Hid (Gs w4 w3.heap.size (.slice ao os.length co) os) := hgo
    have HF4 : Hid (StF w4 w2.heap.size p os) := HF3.out.after hb4
    have HV4 : Hid (Va w4 w1.heap.size 24 (rowS (ps ++ mkS 12)).toArray) := HV3.out.after hb4
    have HB4 : Hid (Below w.heap.size w w4) := step HB3.out hb4
    clear hgo hfo hb4 HF3 HV3 HB3 HDS ta
    go_wp2_with fail
    refine (keptS_any a ps.length cap w1.heap.size ps w4 (HL.out.after HB4.out) HV4.out hl9).mono ?_
    rintro e w5 ⟨rfl, hb5⟩
    have HGO5 : Hid (Gs w5 w3.heap.size (.slice ao os.length co) os) := HGO.out.after hb5
    have HF5 : Hid (StF w5 w2.heap.size p os) := HF4.out.after hb5
    have HV5 : Hid (Va w5 w1.heap.size 24 (rowS (ps ++ mkS 12)).toArray) := HV4.out.after hb5
    have HB5 : Hid (Below w.heap.size w w5) := step HB4.out hb5
    clear hb5 HGO HF4 HV4 HB4
    go_wp2_with fail
    refine (overS_any ps.length w1.heap.size (ps ++ mkS 12) w5 HV5.out (by rw [List.length_append, mkS_length]) hl9).mono ?_
    rintro e w6 ⟨rfl, hb6, hk6⟩
    have HST : Hid (St w6 p os) := HF5.out.other HS2.out hk6
    have HGO6 : Hid (Gs w6 w3.heap.size (.slice ao os.length co) os) := HGO5.out.kept (fun k hk => hk6 k (HGO5.out.lt k hk) (by have := HGO5.out.block k hk; have := HS2.out; have := HS3.out; omega))
    have HB6 : Hid (Below w.heap.size w w6) := HB5.out.trans (hb6.mono HS1.out)
    have hos : os.length ≤ 4096 := HST.out.2.1
    clear hb6 hk6 HF5 HGO5 HV5 HB5
    go_wp2_with fail
    refine (is_ok p ao co os w6 HST.out HGO6.out.ls).mono ?_
    rintro e w7 ⟨rfl, hb7⟩
    have HST7 : Hid (St w7 p os) := HST.out.after hb7
    have HGO7 : Hid (Ls w7 ao os.length os) := HGO6.out.ls.after hb7
    have HB7 : Hid (Below w.heap.size w w7) := step HB6.out hb7
    clear hb7 HST HGO6 HB6
    go_wp2_with fail
    go_loopw [10] (fun i wr => ∃ k : Nat, i = .int .i64 k ∧ k ≤ zs.length ∧ Hid (Below w7.heap.size w7 wr)) (fun i _ => (zs.length - (intOf i).toNat : Nat))
    case atStart => exact ⟨0, rfl, Nat.zero_le _, Below.refl _ _⟩
    case round =>
      obtain ⟨k, rfl, hk, HBr⟩ := hrel
      by_cases hlt : k < zs.length
      · have hki : (k : Int) < zs.length := by omega
        by_cases h3 : k < 300
        · have h3i : (k : Int) < 300 := by omega
          have HSTr : Hid (St wr p os) := HST7.out.after HBr.out
          have HGOr : Hid (Ls wr ao os.length os) := HGO7.out.after HBr.out
          obtain ⟨gg, oo, rfl, hcc⟩ := (HD.out.after (step HB7.out HBr.out)).2 (by omega)
          have ck := hcc k hlt
          obtain ⟨d, hd⟩ : ∃ d, zs.getD k 0 = d := ⟨_, rfl⟩
          rw [hd] at ck
          clear hd hcc
          have hki0 : ¬ (k : Int) < 0 := by omega
          have hS0 : wr.drew.cell? ⟨gg, oo + k, none⟩ = some (.int .i64 d) ∧ Hid (Below wr.heap.size wr wr.drew) := ⟨ck, below_drew wr⟩
          have hBB : (inB os d == inB os d) = true := by simp
          have hBB2 : (inB os d != inB os d) = false := by simp
          go_wp2_with fail
          refine wp_region_noPanic ?_
          refine wp_region_held_drew (S := (fun X : World => X.cell? ⟨gg, oo + k, none⟩ = some (.int .i64 d) ∧ Hid (Below wr.heap.size wr X))) (by kernel_rfl) hS0 (fun hHeld => ?_)
          refine wpAnyH_take (i := 0) (v := ?_) rfl (by kernel_rfl) (by kernel_rfl) (by kernel_rfl) (fun _ _ _ h => h) (Or.inl ⟨by rfl, ?_⟩) hHeld ?_
          rotate_left
          · (intro W hSw; (try dsimp only at hSw); go_simp; all_goals (with_reducible rfl))
          simp only [List.getElem_toArray, List.getElem_cons_zero, Act.put, List.setIfInBounds_toArray, List.set_cons_zero, List.set_cons_succ]
          refine wpAnyH_take (i := 1) (v := ?_) rfl (by kernel_rfl) (by kernel_rfl) (by kernel_rfl) (fun _ _ _ h => h) (Or.inl ⟨by rfl, ?_⟩) hHeld ?_
          rotate_left
          · (intro W hSw; (try dsimp only at hSw); go_simp; all_goals (with_reducible rfl))
          simp only [List.getElem_toArray, List.getElem_cons_zero, List.getElem_cons_succ, Act.put, List.setIfInBounds_toArray, List.set_cons_zero, List.set_cons_succ]
          refine wpAnyH_take (i := 2) (v := ?_) rfl (by kernel_rfl) (by kernel_rfl) (by kernel_rfl) (fun _ _ _ h => h) (Or.inl ⟨by rfl, ?_⟩) hHeld ?_
          rotate_left
          · (intro W hSw; (try dsimp only at hSw); go_simp; all_goals (with_reducible rfl))
          simp only [List.getElem_toArray, List.getElem_cons_zero, List.getElem_cons_succ, Act.put, List.setIfInBounds_toArray, List.set_cons_zero, List.set_cons_succ]
          refine wpAnyH_take (i := 3) (v := ?_) rfl (by kernel_rfl) (by kernel_rfl) (by kernel_rfl) (fun _ _ _ h => h) (Or.inl ⟨by rfl, ?_⟩) hHeld ?_
          rotate_left
          · (intro W hSw; (try dsimp only at hSw); go_simp; all_goals (with_reducible rfl))
          simp only [List.getElem_toArray, List.getElem_cons_zero, List.getElem_cons_succ, Act.put, List.setIfInBounds_toArray, List.set_cons_zero, List.set_cons_succ]
          refine wpAnyH_take (i := 4) (v := ?_) rfl (by kernel_rfl) (by kernel_rfl) (by kernel_rfl) (fun _ _ _ h => h) (Or.inl ⟨by rfl, ?_⟩) hHeld ?_
          rotate_left
          · (intro W hSw; (try dsimp only at hSw); go_simp; all_goals (with_reducible rfl))
          simp only [List.getElem_toArray, List.getElem_cons_zero, List.getElem_cons_succ, Act.put, List.setIfInBounds_toArray, List.set_cons_zero, List.set_cons_succ]
          refine wpAnyH_take (i := 6) (v := ?_) rfl (by kernel_rfl) (by kernel_rfl) (by kernel_rfl) (fun _ _ _ h => h) (Or.inl ⟨by rfl, ?_⟩) hHeld ?_
          rotate_left
          · (intro W hSw; (try dsimp only at hSw); go_simp; all_goals (with_reducible rfl))
          simp only [List.getElem_toArray, List.getElem_cons_zero, List.getElem_cons_succ, Act.put, List.setIfInBounds_toArray, List.set_cons_zero, List.set_cons_succ]
          refine wpAnyH_take (i := 7) (v := ?_) rfl (by kernel_rfl) (by kernel_rfl) (by kernel_rfl) (fun _ _ _ h => h) (Or.inl ⟨by rfl, ?_⟩) hHeld ?_
          rotate_left
          · (intro W hSw; (try dsimp only at hSw); go_simp; all_goals (with_reducible rfl))
          simp only [List.getElem_toArray, List.getElem_cons_zero, List.getElem_cons_succ, Act.put, List.setIfInBounds_toArray, List.set_cons_zero, List.set_cons_succ]
          refine wpAnyH_take (i := 8) (v := ?_) rfl (by kernel_rfl) (by kernel_rfl) (by kernel_rfl) (fun _ _ _ h => h) (Or.inl ⟨by rfl, ?_⟩) hHeld ?_
          rotate_left
          · (intro W hSw; (try dsimp only at hSw); go_simp; all_goals (with_reducible rfl))
          simp only [List.getElem_toArray, List.getElem_cons_zero, List.getElem_cons_succ, Act.put, List.setIfInBounds_toArray, List.set_cons_zero, List.set_cons_succ]
          refine wpAnyH_take (i := 9) (v := ?_) rfl (by kernel_rfl) (by kernel_rfl) (by kernel_rfl) (fun _ _ _ h => h) (Or.inl ⟨by rfl, ?_⟩) hHeld ?_
          rotate_left
          · (intro W hSw; (try dsimp only at hSw); go_simp; all_goals (with_reducible rfl))
          simp only [List.getElem_toArray, List.getElem_cons_zero, List.getElem_cons_succ, Act.put, List.setIfInBounds_toArray, List.set_cons_zero, List.set_cons_succ]
          refine wpAnyH_take (i := 10) (v := ?_) rfl (by kernel_rfl) (by kernel_rfl) (by kernel_rfl) (fun _ _ _ h => h) (Or.inl ⟨by rfl, ?_⟩) hHeld ?_
          rotate_left
          · (intro W hSw; (try dsimp only at hSw); go_simp; all_goals (with_reducible rfl))
          simp only [List.getElem_toArray, List.getElem_cons_zero, List.getElem_cons_succ, Act.put, List.setIfInBounds_toArray, List.set_cons_zero, List.set_cons_succ]
          refine wpAnyH_ready (rs := [5]) (by kernel_rfl) (by simp) ?_
          refine AllReadyH.cons rfl (fun K hK => ?_) AllReadyH.nil
          simp only [List.getElem_toArray, List.getElem_cons_zero, List.getElem_cons_succ]
          go_simp
          refine (has_s p os d wr _ HSTr.out hHeld).mono ?_
          rintro e y ⟨rfl, hSy⟩
          try go_wp2_with fail
          refine hK.out _ _ hSy (fun hHeld => ?_)
          clear hK K
          refine wpAnyH_ready (rs := [11]) (by kernel_rfl) (by simp) ?_
          refine AllReadyH.cons rfl (fun K hK => ?_) AllReadyH.nil
          simp only [List.getElem_toArray, List.getElem_cons_zero, List.getElem_cons_succ]
          go_simp
          refine (rhas_s ao os.length co os d wr _ HGOr.out (by omega) hHeld).mono ?_
          rintro e y2 ⟨rfl, hSz⟩
          try go_wp2_with fail
          refine hK.out _ _ hSz (fun hHeld => ?_)
          clear hK K
          refine wpAnyH_take (i := 12) (v := ?_) rfl (by kernel_rfl) (by kernel_rfl) (by kernel_rfl) (fun _ _ _ h => h) (Or.inl ⟨by rfl, ?_⟩) hHeld ?_
          rotate_left
          · (intro W hSw; (try dsimp only at hSw); go_simp; all_goals (with_reducible rfl))
          simp only [List.getElem_toArray, List.getElem_cons_zero, List.getElem_cons_succ, Act.put, List.setIfInBounds_toArray, List.set_cons_zero, List.set_cons_succ]
          refine wpAnyH_done (by kernel_rfl) ?_ _
          refine NoPanic.normal ?_
          have HBy : Hid (Below w7.heap.size w7 y2) := step HBr.out hSz.2.out
          clear hSy hSz hS0
          go_wp2_with fail
          go_roundw
          case rel => exact ⟨k + 1, by go_num, by omega, HBy.out⟩
          case measure => simp [intOf]; omega
        · have h3i : ¬ (k : Int) < 300 := by omega
          go_wp2_with fail
          go_ret
          exact ⟨rfl, step HB7.out HBr.out⟩
      · have hki : ¬ (k : Int) < zs.length := by omega
        go_wp2_with fail
        go_ret
        exact ⟨rfl, step HB7.out HBr.out⟩
  · refine (of_bad (some ⟨w1.heap.size, 0, none⟩) ps.length (ps.length + 12) ps w2 (in_ls HV2.out) hl9 ta).mono ?_
    rintro e w3 ⟨rfl, hb3⟩
    have HV3 : Hid (Va w3 w1.heap.size 24 (rowS (ps ++ mkS 12)).toArray) := HV2.out.after hb3
    have HB3 : Hid (Below w.heap.size w w3) := step HB2.out hb3
    clear hb3 HV2 HB2
    go_wp2_with fail
    refine (rof_bad a ps.length cap ps w3 (HL.out.after HB3.out) hl9 ta).mono ?_
    rintro e w4 ⟨rfl, hb4⟩
    have HV4 : Hid (Va w4 w1.heap.size 24 (rowS (ps ++ mkS 12)).toArray) := HV3.out.after hb4
    have HB4 : Hid (Below w.heap.size w w4) := step HB3.out hb4
    have hE := ofE_ne ps
    clear hb4 HV3 HB3 ta
    generalize ofE ps = E at *
    have hEb : (E == 0) = false := by simpa using hE
    have hEE : (E == E) = true := by simp
    go_wp2_with fail
    refine (keptS_any a ps.length cap w1.heap.size ps w4 (HL.out.after HB4.out) HV4.out hl9).mono ?_
    rintro e w5 ⟨rfl, hb5⟩
    have HV5 : Hid (Va w5 w1.heap.size 24 (rowS (ps ++ mkS 12)).toArray) := HV4.out.after hb5
    have HB5 : Hid (Below w.heap.size w w5) := step HB4.out hb5
    clear hb5 HV4 HB4
    go_wp2_with fail
    refine (overS_any ps.length w1.heap.size (ps ++ mkS 12) w5 HV5.out (by rw [List.length_append, mkS_length]) hl9).mono ?_
    rintro e w6 ⟨rfl, hb6, hk6⟩
    have HB6 : Hid (Below w.heap.size w w6) := HB5.out.trans (hb6.mono HS1.out)
    clear hb6 hk6 HV5 HB5
    go_wp2_with fail
    go_ret
    exact ⟨rfl, HB6.out⟩
end Go.Proofs.Ytiabjlaganmloaa
