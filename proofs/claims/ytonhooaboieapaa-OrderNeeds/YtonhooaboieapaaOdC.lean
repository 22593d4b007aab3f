/-
  order: the search from one node.
-/
import Derived.Test.YtonhooaboieapaaOd9
import Derived.Deep.LoopGhost
import Derived.WalkMore
namespace Go.Proofs.Ytonhooaboieapaa
open Go.RowKit Go.Shelf
set_option linter.unusedVariables false
set_option linter.unusedSimpArgs false
variable {n b0 : Nat} {w wr w' : World} {P : Tpp} {dv ov dv' ov' : Value} {M M' : Tmm} {N : Nat → List Nat} {segs : List (Nat × List Nat)}

theorem upf_id {β : Type} (f : Nat → β) (i : Nat) : upf f i (f i) = f := by
  funext k
  unfold upf
  by_cases e : k = i
  · rw [if_pos e, e]
  · rw [if_neg e]
theorem St.with (h : St N n b0 w wr P dv ov M segs) (s : Se n b0 w w' P dv ov M) : St N n b0 w w' P dv ov M segs := ⟨s, h.tj, h.dn, h.op, h.iso, h.vis⟩
/-- One more is come to. -/
theorem St.push {x : Nat} {gone' : Nat → Nat} (h : St N n b0 w wr P dv ov M segs) (hx : x < n) (h0 : M.came x = 0)
    (s : Se n b0 w w' P dv' ov' ⟨gone', upf M.came x (M.many + 1), upf M.early x (M.many + 1), M.many + 1, M.dn ++ [x], M.op ++ [x], upf M.isO x true, M.least⟩)
    (t : Tj N n (upf M.came x (M.many + 1)) (upf M.early x (M.many + 1)) gone' (M.many + 1) (segs ++ [(x, [])]) M.least) :
    St N n b0 w w' P dv' ov' ⟨gone', upf M.came x (M.many + 1), upf M.early x (M.many + 1), M.many + 1, M.dn ++ [x], M.op ++ [x], upf M.isO x true, M.least⟩ (segs ++ [(x, [])]) := by
  refine ⟨s, t, by show M.dn ++ [x] = _; rw [h.dn, dnl_snoc], by show M.op ++ [x] = _; rw [h.op, opl_snoc], fun y hy => ?_, ?_⟩
  · show upf M.isO x true y = _
    rw [opl_snoc]
    by_cases e : y = x
    · subst e
      rw [upf_self, decide_eq_true (by simp)]
    · rw [upf_ne _ _ e, h.iso y hy]
      by_cases e2 : y ∈ opl segs
      · rw [decide_eq_true e2, decide_eq_true (List.mem_append_left _ e2)]
      · rw [decide_eq_false e2, decide_eq_false (fun h3 => by rcases List.mem_append.1 h3 with h3 | h3; exact e2 h3; simp at h3; exact e h3)]
  · show visN n (upf M.came x (M.many + 1)) = M.many + 1
    rw [vis_more hx h0, h.vis]
theorem came_up {f : Nat → Nat} {s m : Nat} {C : Nat → Prop} (h : ∀ x, C x → f x ≠ 0) : ∀ x, C x ∨ x = s → upf f s (m + 1) x ≠ 0 := fun x hx => by
  by_cases e : x = s
  · rw [e, upf_self]; omega
  · rw [upf_ne _ _ e]
    rcases hx with hx | hx
    · exact h x hx
    · exact absurd hx e
theorem came_on {f : Nat → Nat} {y m : Nat} {C : Nat → Prop} (h : ∀ x, C x → f x ≠ 0) : ∀ x, C x → upf f y (m + 1) x ≠ 0 := fun x hx => came_up h x (.inl hx)
set_option maxRecDepth 20000 in
set_option maxHeartbeats 16000000 in
theorem from_any (hn : n ≤ 4096) (h : St N n b0 w wr P dv ov M []) (hR : Rw n w b0 N) (hl6 : ∀ p, (N p).length ≤ 65536) (hN : ∀ x y, y ∈ N x → x < n ∧ y < n) (s : Nat) (hs : s < n) (hs0 : M.came s = 0) :
    Calls Try.prog 37 #[.pointer (some ⟨P.p, 0, none⟩), .int .i64 (s : Int)] wr fun e w' => (∃ u, e = .returned u) ∧ ∃ dv' ov' M', St N n b0 w w' P dv' ov' M' [] ∧ ∀ x, M.came x ≠ 0 ∨ x = s → M'.came x ≠ 0 := by
  have HT : Hid (St N n b0 w wr P dv ov M []) := h
  have HRr : Hid (Rw n w b0 N) := hR
  have HL6 : Hid (∀ p, (N p).length ≤ 65536) := hl6
  have HNn : Hid (∀ x y, y ∈ N x → x < n ∧ y < n) := hN
  have hvn := visN_le n M.came
  rw [h.vis] at hvn
  have HGo : Hid (∀ (W : World) (dv ov : Value) (M : Tmm) (x : Nat), Se n b0 w W P dv ov M → x < n → M.many ≤ 5000 ∧ M.dn.length ≤ 5000 ∧ M.op.length ≤ 5000 → Calls Try.prog 48 #[.pointer (some ⟨P.p, 0, none⟩), .int .i64 (x : Int)] W fun e w' => (∃ u, e = .returned u) ∧ ∃ dv' ov', Se n b0 w w' P dv' ov' ⟨M.gone, upf M.came x (M.many + 1), upf M.early x (M.many + 1), M.many + 1, M.dn ++ [x], M.op ++ [x], upf M.isO x true, M.least⟩) := fun W dv ov M x hS hx hb => goDown_any hS x hx (by omega) (by omega) (by omega)
  have HBo : Hid (∀ (W : World) (dv ov : Value) (M : Tmm) (segs : List (Nat × List Nat)), St N n b0 w W P dv ov M segs → M.many ≤ 5000 ∧ M.dn.length ≤ 5000 ∧ M.op.length ≤ 5000) := fun W dv ov M segs hS => by
    have h1 := visN_le n M.came
    rw [hS.vis] at h1
    have h2 := hS.tj.few
    have h3 := dnl_le segs
    rw [hS.dn, hS.op]
    exact ⟨by omega, by omega, by omega⟩
  have HS0 : Hid (M.came s = 0 ∧ s < n) := ⟨hs0, hs⟩
  clear h hR hl6 hN hs0 hs hvn
  go_enter Try.func37, Try.ntmps37
  go_wp2_with fail
  go_step3
  go_wp2_with (go_at_call 48; refine (HGo.out wr dv ov M s HT.out.se HS0.out.2 (HBo.out _ _ _ _ _ HT.out)).mono ?_; rintro e w1 ⟨⟨u1, rfl⟩, dv1, ov1, hS1⟩; have HT1 : Hid (St N n b0 w w1 P dv1 ov1 ⟨M.gone, upf M.came s (M.many + 1), upf M.early s (M.many + 1), M.many + 1, M.dn ++ [s], M.op ++ [s], upf M.isO s true, M.least⟩ [(s, [])]) := HT.out.push (segs := []) HS0.out.2 HS0.out.1 hS1 (HT.out.tj.first HS0.out.2 HS0.out.1); have HC1 : Hid (∀ x, M.came x ≠ 0 ∨ x = s → upf M.came s (M.many + 1) x ≠ 0) := came_up (fun _ h => h); clear hS1)
  go_step3
  go_wp2_with fail
  have HG0 : Hid True := trivial
  clear HS0 HG0
  go_loopg [] (2 * (n - (M.many + 1)) + 1) (fun g wz => ∃ (dv ov : Value) (M2 : Tmm) (segs : List (Nat × List Nat)), Hid (St N n b0 w wz P dv ov M2 segs) ∧ Hid (∀ x, M.came x ≠ 0 ∨ x = s → M2.came x ≠ 0) ∧ Hid (g = 2 * (n - M2.many) + (dnl segs).length))
  case atStart => exact ⟨_, _, _, _, HT1.out, HC1.out, rfl⟩
  case round =>
    clear HT1 HC1
    obtain ⟨dv, ov, M2, segs, HT, HC, HG⟩ := hrel
    rcases List.eq_nil_or_concat segs with hsg | ⟨pre, sg, hsg⟩
    · subst hsg
      have hdv : ∃ a c, dv = .slice a 0 c := by
        obtain ⟨a, c, e, -, -, -⟩ := HT.out.se.dg.shape
        rw [ints_length, HT.out.dn] at e
        exact ⟨a, c, e⟩
      obtain ⟨a, c, rfl⟩ := hdv
      have c5 := HT.out.se.f5
      go_wp2_with fail
      rw [Exit.noGoto_normal]
      go_end0
      exact ⟨⟨_, rfl⟩, _, _, M2, HT.out, HC.out⟩
    · obtain ⟨d, q⟩ := sg
      have hsg2 : segs = pre ++ [(d, q)] := by rw [hsg]; simp
      subst hsg2
      clear hsg
      obtain ⟨ad, cd, hdv, hcap, -, hsh⟩ := HT.out.se.dg.shape
      obtain ⟨g, rfl⟩ : ∃ g, ad = some ⟨g, 0, none⟩ := by
        rcases hsh with ⟨-, e, -⟩ | h'
        · rw [HT.out.dn, dnl_snoc] at e; simp [ints] at e
        · exact h'
      obtain ⟨D, hD⟩ : ∃ D, D = (dnl pre).length := ⟨_, rfl⟩
      have hDl : (ints M2.dn).length = D + 1 := by rw [ints_length, HT.out.dn, dnl_snoc, hD]; simp
      rw [hDl] at hdv
      subst hdv
      obtain ⟨T, hT⟩ : ∃ T, T = D + 1 := ⟨_, rfl⟩
      rw [← hT] at HT
      have hTn : T ≤ 4096 := by
        have h1 := dnl_le (pre ++ [(d, q)])
        have h2 := HT.out.tj.few
        rw [dnl_snoc, List.length_append] at h1
        simp only [List.length_cons, List.length_nil] at h1
        omega
      have HTD : Hid (T = D + 1 ∧ D = (dnl pre).length) := ⟨hT, hD⟩
      have hw1 : IntKind.i64.wrap ((T : Int) - 1) = (D : Int) := by rw [IntKind.wrap_i64]; omega
      have h1T : 1 ≤ (T : Int) := by omega
      have h0T : 0 < (T : Int) := by omega
      have h0N : 0 < T := by omega
      have hDi : (D : Int) < (T : Int) := by omega
      have hdn : d < n := HT.out.tj.inn d (by rw [opl_snoc]; simp)
      have c5 := HT.out.se.f5
      have cg : wr.cell? ⟨g, D, none⟩ = some (.int .i64 (d : Int)) := by
        have h9 := HT.out.se.dg
        rw [HT.out.dn] at h9
        rw [show T = (ints (dnl (pre ++ [(d, q)]))).length by rw [ints_length, dnl_snoc, HTD.out.1, HTD.out.2]; simp] at h9
        have h8 := h9.toLe.li
        rw [ints_length] at h8
        obtain ⟨b9, o9, e9, c9⟩ := Li.node h8 (i := D) (by rw [dnl_snoc, hD]; simp)
        cases e9
        rw [Nat.zero_add, dnl_snoc, hD] at c9
        rw [hD, c9]
        simp [List.getD_eq_getElem?_getD]
      clear hsh hcap hDl hT hD
      go_wp2_with fail
      go_quiet (fail)
      refine nameW (Q := fun W => Exit.then _ _ _ _ W) (fun W2 hW2 => ?_)
      have HT2 : Hid (St N n b0 w W2 P (.slice (some ⟨g, 0, none⟩) T cd) ov M2 (pre ++ [(d, q)])) := by
        have h9 := HT.out.with (HT.out.se.drw nq)
        rw [← hW2] at h9
        exact h9
      clear hW2 c5 cg HT hw1
      go_wp2_with fail
      obtain ⟨a, c, ck0, hLd0⟩ := HRr.out.cell hdn
      have HLd : Hid (Li w a (N d).length (ints (N d))) := hLd0
      have HCk : Hid (∀ W, Below w.heap.size w W → W.cell? ⟨b0, d, none⟩ = some (.slice a (N d).length c)) := fun W hb => (hb.cell (p := ⟨b0, d, none⟩) HRr.out.lt).trans ck0
      have hl6 := HL6.out d
      have hdi : (d : Int) < n := by omega
      have HM2 : Hid (M2.many = M2.many ∧ gk = 2 * (n - M2.many) + (D + 1)) := ⟨rfl, by
        have := HG.out
        rw [dnl_snoc, List.length_append, ← HTD.out.2] at this
        exact this⟩
      clear ck0 hLd0 HG
      have HT2' : Hid (∃ dv, St N n b0 w W2 P dv ov M2 (pre ++ [(d, q)])) := ⟨_, HT2.out⟩
      have hgl := HT2.out.tj.gle d
      clear HT2
      go_loopg [] ((N d).length - M2.gone d) (fun g2 wz => ∃ (dv ov : Value) (M3 : Tmm), Hid (St N n b0 w wz P dv ov M3 (pre ++ [(d, q)])) ∧ Hid (M3.came = M2.came ∧ M3.many = M2.many) ∧ Hid (g2 = (N d).length - M3.gone d))
      case atStart => exact (fun ⟨dv, h⟩ => ⟨dv, ov, M2, h, ⟨rfl, rfl⟩, rfl⟩) HT2'.out
      case round =>
        clear HT2' hgl
        rename_i gk0 wr0
        obtain ⟨dv, ov, M3, HT, HE3, HG2⟩ := hrel
        obtain ⟨k, hk⟩ : ∃ k, M3.gone d = k := ⟨_, rfl⟩
        have HK : Hid (M3.gone d = k) := hk
        have hkl : k ≤ (N d).length := by rw [← hk]; exact HT.out.tj.gle d
        have c0 := HT.out.se.f0
        have c1 := HT.out.se.f1
        have ck := HCk.out _ HT.out.se.below
        have cgd := HT.out.se.ga.cell hdn
        rw [hk] at cgd
        clear hk
        rcases Nat.lt_or_ge k (N d).length with hlt | hge
        · have hki : (k : Int) < ((N d).length : Int) := by omega
          go_wp2_with fail
          go_quiet (fail)
          refine nameW (Q := fun W => Exit.then _ _ _ _ W) (fun W3 hW3 => ?_)
          have HT3 : Hid (St N n b0 w W3 P dv ov M3 (pre ++ [(d, q)])) := by
            have h9 := HT.out.with (HT.out.se.drw nq)
            rw [← hW3] at h9
            exact h9
          clear hW3 c0 c1 ck cgd HT
          have c0 := HT3.out.se.f0
          have c1 := HT3.out.se.f1
          have ck := HCk.out _ HT3.out.se.below
          have cgd := HT3.out.se.ga.cell hdn
          rw [HK.out] at cgd
          have hyg : (N d)[k]? = some ((N d).getD k 0) := by rw [List.getD_eq_getElem?_getD, List.getElem?_eq_getElem hlt]; rfl
          obtain ⟨b9, o9, rfl, c9⟩ := Li.node (HLd.out.after HT3.out.se.below) hlt
          have hyn := (HNn.out d _ (List.mem_of_getElem? hyg)).2
          have HY : Hid ((N d)[k]? = some ((N d).getD k 0)) := hyg
          clear hyg
          generalize (N d).getD k 0 = y at *
          have hyi : (y : Int) < n := by omega
          go_wp2_with fail
          go_quiet (fail)
          refine nameW (Q := fun W => Exit.then _ _ _ _ W) (fun W4 hW4 => ?_)
          have HT4 : Hid (St N n b0 w W4 P dv ov M3 (pre ++ [(d, q)])) := by
            have h9 := HT3.out.with (HT3.out.se.drw nq)
            rw [← hW4] at h9
            exact h9
          clear hW4 c0 c1 ck cgd c9 HT3
          have c1 := HT4.out.se.f1
          have cgd := HT4.out.se.ga.cell hdn
          have fgd := Fv.frozen HT4.out.se.ga d
          rw [HK.out] at cgd
          have hw2 : IntKind.i64.wrap ((k : Int) + 1) = (k : Int) + 1 := by rw [IntKind.wrap_i64]; omega
          have HS5 : Hid (Se n b0 w (W4.setCell ⟨P.gg, d, none⟩ (.int .i64 ((k : Int) + 1))) P dv ov ⟨upf M3.gone d (k + 1), M3.came, M3.early, M3.many, M3.dn, M3.op, M3.isO, M3.least⟩) := HT4.out.se.setGone d (k + 1) (by omega)
          have c2 := HS5.out.f2
          have cy := HS5.out.ca.cell hyn
          have HYk : Hid ((N d)[M3.gone d]? = some y) := by show _ = _; rw [HK.out]; exact HY.out
          simp only at cy
          by_cases hy0 : M3.came y = 0
          · rw [hy0] at cy
            have HY0 : Hid (M3.came y = 0) := hy0
            clear hy0
            go_wp2_with fail
            refine (HGo.out _ dv ov _ y HS5.out hyn (by have h9 := HBo.out _ _ _ _ _ HT4.out; exact h9)).mono ?_
            rintro e w6 ⟨⟨u6, rfl⟩, dv6, ov6, hS6⟩
            have HT6 : Hid (St N n b0 w w6 P dv6 ov6 ⟨upf M3.gone d (k + 1), upf M3.came y (M3.many + 1), upf M3.early y (M3.many + 1), M3.many + 1, M3.dn ++ [y], M3.op ++ [y], upf M3.isO y true, M3.least⟩ (pre ++ [(d, q)] ++ [(y, [])])) := HT4.out.push (gone' := upf M3.gone d (k + 1)) hyn HY0.out hS6 (by have h9 := HT4.out.tj.goOn HNn.out HYk.out HY0.out; rw [HK.out] at h9; exact h9)
            clear hS6
            go_wp2_with fail
            go_roundg (2 * (n - (M3.many + 1)) + (D + 2))
            case measure =>
              have h1 := HM2.out.2
              have h2 := HE3.out.2
              have h3 := visN_le n (upf M3.came y (M3.many + 1))
              rw [vis_more hyn HY0.out, HT4.out.vis] at h3
              omega
            case rel => exact ⟨dv6, ov6, _, _, HT6.out, came_on (by rw [HE3.out.1]; exact HC.out), by
              show _ = _
              rw [dnl_snoc, dnl_snoc, List.length_append, List.length_append, ← HTD.out.2]; rfl⟩
          · have hyi0 : ¬ ((M3.came y : Nat) : Int) = 0 := by omega
            have HY0 : Hid (M3.came y ≠ 0) := hy0
            have c7 := HS5.out.f7
            have d7 := HS5.out.ia.cell hyn
            have hiso := HT4.out.iso y hyn
            simp only at d7
            by_cases hyo : y ∈ opl (pre ++ [(d, q)])
            · rw [hiso, decide_eq_true hyo] at d7
              have HYo : Hid (y ∈ opl (pre ++ [(d, q)])) := hyo
              clear hy0 hiso hyo
              go_wp2_with fail
              refine nameW (Q := fun W => Code.wp _ _ _ _ W) (fun W5 hW5 => ?_)
              rw [← hW5] at HS5
              clear hW5 c1 c2 c7 cgd fgd d7 cy
              have c2 := HS5.out.f2
              have c4 := HS5.out.f4
              have cy := HS5.out.ca.cell hyn
              have de := HS5.out.ea.cell hdn
              have fe := Fv.frozen HS5.out.ea d
              simp only at cy de
              go_region
              refine nameW (Q := fun W => Exit.inBlock _ _ _ _ W) (fun W6 hW6 => ?_)
              have HS6 : Hid (Se n b0 w W6 P dv ov ⟨upf M3.gone d (k + 1), M3.came, upf M3.early d (min (M3.early d) (M3.came y)), M3.many, M3.dn, M3.op, M3.isO, M3.least⟩) := by
                have h9 := (HS5.out.setEarly d (min (M3.early d) (M3.came y)) (u := min (M3.early d : Int) (M3.came y)) (by omega)).drew1
                rw [← hW6] at h9
                exact h9
              clear hW6
              go_wp2_with fail
              go_roundg ((N d).length - (k + 1))
              case measure =>
                have h1 := HG2.out
                rw [HK.out] at h1
                omega
              case rel =>
                refine ⟨dv, ov, _, ⟨HS6.out, ?_, HT4.out.dn, HT4.out.op, HT4.out.iso, HT4.out.vis⟩, HE3.out, ?_⟩
                · have h9 := HT4.out.tj.seen HYk.out HY0.out (Nat.min_le_left _ (M3.came y)) (fun _ => Nat.min_le_right _ _) (by
                    rcases Nat.le_total (M3.early d) (M3.came y) with h8 | h8
                    · exact .inl (Nat.min_eq_left h8)
                    · exact .inr ⟨HYo.out, Nat.min_eq_right h8⟩)
                  rw [HK.out] at h9
                  exact h9
                · show _ = (N d).length - upf M3.gone d (k + 1) d
                  rw [upf_self]
            · rw [hiso, decide_eq_false hyo] at d7
              have HYo : Hid (y ∉ opl (pre ++ [(d, q)])) := hyo
              clear hy0 hiso hyo
              go_wp2_with fail
              go_roundg ((N d).length - (k + 1))
              case measure =>
                have h1 := HG2.out
                rw [HK.out] at h1
                omega
              case rel =>
                refine ⟨dv, ov, _, ⟨HS5.out, ?_, HT4.out.dn, HT4.out.op, HT4.out.iso, HT4.out.vis⟩, HE3.out, ?_⟩
                · have h9 := HT4.out.tj.seen HYk.out HY0.out (Nat.le_refl _) (fun h => absurd h HYo.out) (.inl rfl)
                  rw [upf_id, HK.out] at h9
                  exact h9
                · show _ = (N d).length - upf M3.gone d (k + 1) d
                  rw [upf_self]
        · obtain rfl : k = (N d).length := by omega
          go_wp2_with fail
          go_quiet (fail)
          refine nameW (Q := fun W => Exit.then _ _ _ _ W) (fun W3 hW3 => ?_)
          have HT3 : Hid (St N n b0 w W3 P dv ov M3 (pre ++ [(d, q)])) := by
            have h9 := HT.out.with (HT.out.se.drw nq)
            rw [← hW3] at h9
            exact h9
          clear hW3 c0 c1 ck cgd HT
          have hCB := comeBack_any hn HT3.out HRr.out HL6.out HK.out
          go_wp2_with (go_at_call 49; refine hCB.mono ?_; rintro e w6 ⟨⟨u6, rfl⟩, dv6, ov6, M6, sg6, hT6, hm6, hd6, hc6⟩; have HT6 : Hid (St N n b0 w w6 P dv6 ov6 M6 sg6) := hT6; have HM6 : Hid (M6.many = M3.many ∧ (dnl sg6).length + 1 = (dnl (pre ++ [(d, q)])).length ∧ M6.came = M3.came) := ⟨hm6, hd6, hc6⟩; clear hT6 hm6 hd6 hc6 hCB)
          go_roundg (2 * (n - M6.many) + (dnl sg6).length)
          case measure =>
            have h1 := HM2.out.2
            have h2 := HE3.out.2
            obtain ⟨h3, h4, -⟩ := HM6.out
            rw [dnl_snoc, List.length_append, ← HTD.out.2] at h4
            simp only [List.length_cons, List.length_nil] at h4
            omega
          case rel => exact ⟨dv6, ov6, M6, sg6, HT6.out, by rw [HM6.out.2.2, HE3.out.1]; exact HC.out, rfl⟩
end Go.Proofs.Ytonhooaboieapaa
