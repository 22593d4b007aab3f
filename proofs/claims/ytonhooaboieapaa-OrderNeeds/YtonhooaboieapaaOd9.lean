/-
  order: the search, as its numbers and its memory go together; comeBack.
-/
import Derived.Test.YtonhooaboieapaaOd8
import Derived.Test.YtonhooaboieapaaOrS
namespace Go.Proofs.Ytonhooaboieapaa
open Go.RowKit Go.Shelf
set_option linter.unusedVariables false
set_option linter.unusedSimpArgs false
variable {n b0 : Nat} {w wr w' : World} {P : Tpp} {dv ov dv' ov' : Value} {M M' : Tmm} {N : Nat → List Nat}

theorem countP_more {p q : Nat → Bool} {x : Nat} (hp : p x = false) (hq : q x = true) (he : ∀ y, y ≠ x → q y = p y) : ∀ (l : List Nat), l.Nodup → x ∈ l → l.countP q = l.countP p + 1
  | [], _, h => by cases h
  | y :: l, hn, h => by
    obtain ⟨h1, h2⟩ := List.nodup_cons.1 hn
    rw [List.countP_cons, List.countP_cons]
    by_cases e : y = x
    · subst e
      have : l.countP q = l.countP p := List.countP_congr (fun z hz => by rw [he z (fun e => h1 (e ▸ hz))])
      rw [this, hp, hq]; simp
    · have hx : x ∈ l := by
        rcases List.mem_cons.1 h with h | h
        · exact absurd h.symm e
        · exact h
      rw [countP_more hp hq he l h2 hx, he y e]
      omega
/-- How many were come to. -/
def visN (n : Nat) (came : Nat → Nat) : Nat := (List.range n).countP (fun x => decide (came x ≠ 0))
theorem visN_le (n : Nat) (came : Nat → Nat) : visN n came ≤ n := by
  have := List.countP_le_length (p := fun x => decide (came x ≠ 0)) (l := List.range n)
  rw [List.length_range] at this
  exact this
theorem vis_more {came : Nat → Nat} {x m : Nat} (hx : x < n) (h0 : came x = 0) : visN n (upf came x (m + 1)) = visN n came + 1 := by
  refine countP_more (x := x) (by simp [h0]) (by simp [upf_self]) (fun y hy => by rw [upf_ne _ _ hy]) _ List.nodup_range (List.mem_range.2 hx)
/-- Memory and numbers. -/
structure St (N : Nat → List Nat) (n b0 : Nat) (w wr : World) (P : Tpp) (dv ov : Value) (M : Tmm) (segs : List (Nat × List Nat)) : Prop where
  se : Se n b0 w wr P dv ov M
  tj : Tj N n M.came M.early M.gone M.many segs M.least
  dn : M.dn = dnl segs
  op : M.op = opl segs
  iso : ∀ x, x < n → M.isO x = decide (x ∈ opl segs)
  vis : visN n M.came = M.many
theorem dnl_le (segs : List (Nat × List Nat)) : (dnl segs).length ≤ (opl segs).length := by
  induction segs with
  | nil => simp [dnl, opl]
  | cons s l ih =>
    have e1 : (dnl (s :: l)).length = (dnl l).length + 1 := by simp [dnl]
    have e2 : (opl (s :: l)).length = s.2.length + 1 + (opl l).length := by simp [opl]; omega
    omega
theorem Tj.few {came early gone : Nat → Nat} {many : Nat} {segs : List (Nat × List Nat)} {least : Int} (h : Tj N n came early gone many segs least) : (opl segs).length ≤ n := few_nat h.nodup h.inn
set_option maxRecDepth 20000 in
set_option maxHeartbeats 8000000 in
theorem comeBack_any (hn : n ≤ 4096) {pre : List (Nat × List Nat)} {d : Nat} {q : List Nat} (h : St N n b0 w wr P dv ov M (pre ++ [(d, q)])) (hR : Rw n w b0 N) (hl6 : ∀ p, (N p).length ≤ 65536) (hf : M.gone d = (N d).length) :
    Calls Try.prog 49 #[.pointer (some ⟨P.p, 0, none⟩), .int .i64 (d : Int)] wr fun e w' => (∃ u, e = .returned u) ∧ ∃ dv' ov' M' segs', St N n b0 w w' P dv' ov' M' segs' ∧ M'.many = M.many ∧ (dnl segs').length + 1 = (dnl (pre ++ [(d, q)])).length ∧ M'.came = M.came := by
  have HT : Hid (St N n b0 w wr P dv ov M (pre ++ [(d, q)])) := h
  have HRr : Hid (Rw n w b0 N) := hR
  have HF : Hid (M.gone d = (N d).length) := hf
  have hl := hl6 d
  have hdn : d < n := h.tj.inn d (by rw [opl_snoc]; simp)
  obtain ⟨ad, cd, hdv, hcap, -, hsh⟩ := h.se.dg.shape
  obtain ⟨g, rfl⟩ : ∃ g, ad = some ⟨g, 0, none⟩ := by
    rcases hsh with ⟨-, e, -⟩ | h'
    · rw [h.dn, dnl_snoc] at e; simp [ints] at e
    · exact h'
  obtain ⟨D, hD⟩ : ∃ D, D = (dnl pre).length := ⟨_, rfl⟩
  have hDl : (ints M.dn).length = D + 1 := by rw [ints_length, h.dn, dnl_snoc, hD]; simp
  rw [hDl] at hdv hcap
  subst hdv
  obtain ⟨T, hT⟩ : ∃ T, T = D + 1 := ⟨_, rfl⟩
  rw [← hT] at h hcap HT
  have hTn : T ≤ 4096 := by
    have h1 := dnl_le (pre ++ [(d, q)])
    have h2 := h.tj.few
    rw [dnl_snoc, List.length_append] at h1
    simp only [List.length_cons, List.length_nil] at h1
    omega
  have HTD : Hid (T = D + 1 ∧ D = (dnl pre).length) := ⟨hT, hD⟩
  have hw1 : IntKind.i64.wrap ((T : Int) - 1) = (D : Int) := by rw [IntKind.wrap_i64]; omega
  have hDc : (D : Int) ≤ (cd : Int) := by omega
  have hD0 : (0 : Int) ≤ (D : Int) := by omega
  have c5 := h.se.f5
  have f5 := h.se.st.frozen 5
  clear h hR hf hsh hDl hT hD
  go_enter Try.func49, Try.ntmps49
  go_wp2_with fail
  go_region
  refine nameW (Q := fun W => Exit.then _ _ _ _ W) (fun W1 hW1 => ?_)
  have HS1 : Hid (Se n b0 w W1 P (.slice (some ⟨g, 0, none⟩) D cd) ov ⟨M.gone, M.came, M.early, M.many, dnl pre, M.op, M.isO, M.least⟩) := by
    have h9 := (HT.out.se.cutDn (k := D) (by rw [HT.out.dn, dnl_snoc, List.length_append, HTD.out.2]; simp)).drew1
    rw [← hW1] at h9
    rw [show M.dn.take D = dnl pre by rw [HT.out.dn, dnl_snoc, HTD.out.2]; simp] at h9
    exact h9
  clear hW1 c5 f5 hw1 hDc
  have c2 := HS1.out.f2
  have c4 := HS1.out.f4
  have d2 := HS1.out.ca.cell hdn
  have d4 := HS1.out.ea.cell hdn
  have hdi : (d : Int) < n := by omega
  go_wp2_with fail
  go_quiet (fail)
  refine nameW (Q := fun W => Exit.then _ _ _ _ W) (fun W2 hW2 => ?_)
  have HS2 : Hid (Se n b0 w W2 P (.slice (some ⟨g, 0, none⟩) D cd) ov ⟨M.gone, M.came, M.early, M.many, dnl pre, M.op, M.isO, M.least⟩) := by
    have h9 := HS1.out.drw nq
    rw [← hW2] at h9
    exact h9
  clear hW2 c2 c4 d2 d4 HS1
  by_cases he : M.early d = M.came d
  · have HE : Hid (M.early d = M.came d) := he
    have heb : (((M.early d : Nat) : Int) == ((M.came d : Nat) : Int)) = true := by rw [he]; simp
    have hCK := closeKnot_any N (opl pre) d q (by rw [HT.out.op, opl_snoc]) HS2.out HRr.out hl (by rw [HT.out.op]; exact HT.out.tj.nodup) (by rw [HT.out.op]; exact HT.out.tj.inn) (by have h1 := HT.out.tj.few; rw [← HT.out.op] at h1; show M.op.length ≤ _; omega)
    clear he
    go_wp2_with (go_at_call 63; refine hCK.mono ?_; rintro e w3 ⟨⟨u3, rfl⟩, ov3, l3, hls, hS3⟩; have HL3 : Hid (LsK N d q M.least l3) := hls; have HS3 : Hid (Se n b0 w w3 P (.slice (some ⟨g, 0, none⟩) D cd) ov3 ⟨M.gone, M.came, M.early, M.many, dnl pre, opl pre, clr (d :: q) M.isO, l3⟩) := hS3; clear hls hS3 hCK)
    refine bodyPost_ret (results_none rfl _ _ _) rfl ?_
    refine ⟨⟨_, rfl⟩, _, _, _, pre, ⟨HS3.out, ?_, rfl, rfl, fun x hx => ?_, HT.out.vis⟩, rfl, by rw [dnl_snoc]; simp, rfl⟩
    · refine HT.out.tj.close HF.out HE.out ?_
      rcases HL3.out with ⟨h1, h2⟩ | ⟨h1, m, ⟨h2, h3⟩, h4⟩
      · rw [h2]
        exact HT.out.tj.lst.congr (fun x => ⟨fun h => by
          rcases h with h | h
          · exact h
          · exact absurd h.2 h1, fun h => .inl h⟩)
      · rw [h4]
        exact HT.out.tj.lst.or ⟨h2, h1⟩ (fun x hx => h3 x hx.1)
    · show clr (d :: q) M.isO x = _
      have hnd := HT.out.tj.nodup
      rw [opl_snoc] at hnd
      have h9 := HT.out.iso x hx
      rw [opl_snoc] at h9
      unfold clr
      by_cases e1 : x ∈ d :: q
      · rw [if_pos e1, decide_eq_false (fun e2 => (List.nodup_append.1 hnd).2.2 x e2 x e1 rfl)]
      · rw [if_neg e1, h9]
        by_cases e2 : x ∈ opl pre
        · rw [decide_eq_true e2, decide_eq_true (List.mem_append_left _ e2)]
        · rw [decide_eq_false e2, decide_eq_false (fun e3 => by rcases List.mem_append.1 e3 with e3 | e3; exact e2 e3; exact e1 e3)]
  · have HE : Hid (¬ M.early d = M.came d) := he
    have heb : (((M.early d : Nat) : Int) == ((M.came d : Nat) : Int)) = false := by
      simp only [beq_eq_false_iff_ne, ne_eq]
      omega
    obtain ⟨pre', e, r, rfl⟩ : ∃ pre' e r, pre = pre' ++ [(e, r)] := by
      rcases List.eq_nil_or_concat pre with h | ⟨p', s, h⟩
      · exfalso
        subst h
        exact he (HT.out.tj.only)
      · exact ⟨p', s.1, s.2, by rw [h]; simp⟩
    have hDe : D = (dnl pre').length + 1 := by rw [HTD.out.2, dnl_snoc]; simp
    obtain ⟨E, hE⟩ : ∃ E, E = (dnl pre').length := ⟨_, rfl⟩
    have HEl : Hid (E = (dnl pre').length) := hE
    have hen : e < n := HT.out.tj.inn e (by rw [opl_snoc, opl_snoc]; simp)
    have hDE : D = E + 1 := by rw [hE]; exact hDe
    have h1D : 1 ≤ (D : Int) := by omega
    have hD4 : D ≤ 4096 := by have := HTD.out.1; omega
    have hw2 : IntKind.i64.wrap ((D : Int) - 1) = (E : Int) := by rw [IntKind.wrap_i64]; omega
    have HDE : Hid (D = E + 1) := hDE
    clear hDe
    have c5 := HS2.out.f5
    have cg : W2.cell? ⟨g, E, none⟩ = some (.int .i64 (e : Int)) := by
      have h9 := HS2.out.dg
      rw [show D = (ints (dnl (pre' ++ [(e, r)]))).length by rw [ints_length]; exact HTD.out.2] at h9
      have h8 := h9.toLe.li
      rw [ints_length] at h8
      obtain ⟨b9, o9, e9, c9⟩ := Li.node h8 (i := E) (by rw [dnl_snoc, hE]; simp)
      cases e9
      rw [Nat.zero_add, dnl_snoc, hE] at c9
      rw [hE, c9]
      simp [List.getD_eq_getElem?_getD]
    have hEi : (E : Int) < (D : Int) := by omega
    have hei : (e : Int) < n := by omega
    clear he hE hDE
    go_wp2_with fail
    go_quiet (fail)
    refine nameW (Q := fun W => Exit.then _ _ _ _ W) (fun W3 hW3 => ?_)
    have HS3 : Hid (Se n b0 w W3 P (.slice (some ⟨g, 0, none⟩) D cd) ov ⟨M.gone, M.came, M.early, M.many, dnl (pre' ++ [(e, r)]), M.op, M.isO, M.least⟩) := by
      have h9 := HS2.out.drw nq
      rw [← hW3] at h9
      exact h9
    clear hW3 c5 cg HS2
    have c4 := HS3.out.f4
    have dd := HS3.out.ea.cell hdn
    have de := HS3.out.ea.cell hen
    have fe := Fv.frozen HS3.out.ea e
    have hdi : (d : Int) < n := by omega
    simp only at dd de fe
    go_wp2_with fail
    go_region
    refine nameW (Q := fun W => _) (fun W4 hW4 => ?_)
    have HS4 : Hid (Se n b0 w W4 P (.slice (some ⟨g, 0, none⟩) D cd) ov ⟨M.gone, M.came, upf M.early e (min (M.early e) (M.early d)), M.many, dnl (pre' ++ [(e, r)]), M.op, M.isO, M.least⟩) := by
      have h9 := (HS3.out.setEarly e (min (M.early e) (M.early d)) (u := min (M.early e : Int) (M.early d)) (by omega)).drew1
      rw [← hW4] at h9
      exact h9
    clear hW4
    go_end0
    have e1 : dnl (pre' ++ [(e, r ++ d :: q)]) = dnl (pre' ++ [(e, r)]) := by rw [dnl_snoc, dnl_snoc]
    refine ⟨⟨_, rfl⟩, _, _, _, pre' ++ [(e, r ++ d :: q)], ⟨HS4.out, HT.out.tj.back HF.out HE.out, e1.symm, by rw [← opl_two]; exact HT.out.op, fun x hx => ?_, HT.out.vis⟩, rfl, by rw [e1, dnl_snoc (pre' ++ [(e, r)])]; simp, rfl⟩
    rw [← opl_two]; exact HT.out.iso x hx
end Go.Proofs.Ytonhooaboieapaa
