/-
  order: closeKnot, comeBack.
-/
import Derived.Test.YtonhooaboieapaaOd7
import Derived.Test.YtonhooaboieapaaShelf
namespace Go.Proofs.Ytonhooaboieapaa
open Go.RowKit Go.Shelf
set_option linter.unusedVariables false
set_option linter.unusedSimpArgs false
variable {n b0 : Nat} {w wr w' : World} {P : Tpp} {dv ov dv' ov' : Value} {M M' : Tmm}

theorem Li.far {w : World} {g o len : Nat} {l : List Int} (h : Li w (some ⟨g, o, none⟩) len l) {p : Addr} (hp : g ≠ p.block) (v : Value) : Li (w.setCell p v) (some ⟨g, o, none⟩) len l :=
  (h.le.kept (fun _ b off e _ => heap_setCell_other w p b v (by cases e; exact hp))).li
theorem Li.drop {w : World} {b o n : Nat} {l : List Int} (h : Li w (some ⟨b, o, none⟩) n l) {k : Nat} (hk : k ≤ n) : Li w (some ⟨b, o + k, none⟩) (n - k) (l.drop k) := by
  refine ⟨by rw [List.length_drop, h.1], fun h0 => ⟨b, o + k, rfl, fun i hi => ?_⟩⟩
  obtain ⟨b', o', e, hc⟩ := h.2 (by omega)
  cases e
  rw [show o + k + i = o + (k + i) by omega, hc (k + i) (by omega), List.getD_eq_getElem?_getD, List.getD_eq_getElem?_getD, List.getElem?_drop]
theorem contains_any {w : World} {a : Option Addr} {c : Nat} {l : List Nat} (h : Li w a l.length (ints l)) (hl : l.length ≤ 1000000000) (x : Nat) :
    Calls Try.prog 70 #[.slice a l.length c, .int .i64 (x : Int)] w fun e w' => e = .returned (.bool (decide (x ∈ l))) ∧ w' = w := by
  rcases Nat.eq_zero_or_pos l.length with h0 | h0
  · have e : l = [] := List.length_eq_zero_iff.1 h0
    subst e
    simpa using Try.slices_Contains_int_empty a c (x : Int) w
  · obtain ⟨b, off, rfl, hc⟩ := h.2 h0
    refine (Try.slices_Contains_int b off l.length c (ints l) (x : Int) w (by rw [ints_length]; exact Nat.le_refl _) (by omega) (fun j hj => ?_)).mono ?_
    · rw [ints_length] at hj
      rw [hc j hj, ints_getD hj, ints_getD hj]
    · rintro e w' ⟨rfl, rfl⟩
      refine ⟨?_, rfl⟩
      congr 2
      rw [← ints_length, List.take_length]
      by_cases e : x ∈ l
      · rw [decide_eq_true e]
        simp only [ints, List.contains_eq_mem, decide_eq_true_eq]
        exact List.mem_map.2 ⟨x, e, rfl⟩
      · rw [decide_eq_false e]
        simp only [ints, List.contains_eq_mem, List.mem_map, decide_eq_false_iff_not, not_exists, not_and]
        intro y hy e2
        have : y = x := by omega
        exact e (this ▸ hy)
theorem foldl_min : ∀ (l : List Int) (a : Int), l.foldl min a ≤ a ∧ (∀ x ∈ l, l.foldl min a ≤ x) ∧ (l.foldl min a = a ∨ l.foldl min a ∈ l)
  | [], a => ⟨Int.le_refl _, by simp, .inl rfl⟩
  | y :: l, a => by
    obtain ⟨h1, h2, h3⟩ := foldl_min l (min a y)
    simp only [List.foldl_cons]
    refine ⟨by omega, fun x hx => ?_, ?_⟩
    · simp only [List.mem_cons] at hx
      rcases hx with rfl | hx
      · omega
      · exact h2 x hx
    · rcases h3 with h3 | h3
      · rcases Int.le_total a y with h4 | h4
        · left; rw [h3]; omega
        · right; rw [h3, Int.min_eq_right h4]; simp
      · right; exact List.mem_cons_of_mem _ h3
/-- The least of a list. -/
def LsM (l : List Nat) (m : Nat) : Prop := m ∈ l ∧ ∀ x ∈ l, m ≤ x
theorem min_any {w : World} {a : Option Addr} {c : Nat} {l : List Nat} (h : Li w a l.length (ints l)) (h0 : 0 < l.length) (hl : l.length ≤ 1000000000) :
    Calls Try.prog 71 #[.slice a l.length c] w fun e w' => ∃ m : Nat, e = .returned (.int .i64 (m : Int)) ∧ LsM l m ∧ w' = w := by
  obtain ⟨b, off, rfl, hc⟩ := h.2 h0
  refine (Try.slices_Min_int b off l.length c (ints l) w h0 (by rw [ints_length]; exact Nat.le_refl _) (by omega) (fun j hj => ?_)).mono ?_
  · rw [ints_length] at hj
    rw [hc j hj, ints_getD hj, ints_getD hj]
  · rintro e w' ⟨rfl, rfl⟩
    obtain ⟨h1, h2, h3⟩ := foldl_min (ints l) ((ints l).headD 0)
    have hm : Lib.minOf ((ints l).take l.length) ∈ ints l ∧ ∀ x ∈ ints l, Lib.minOf ((ints l).take l.length) ≤ x := by
      rw [← ints_length, List.take_length]
      unfold Lib.minOf
      refine ⟨?_, h2⟩
      rcases h3 with h3 | h3
      · rw [h3]
        cases l with
        | nil => simp at h0
        | cons y l => simp [ints]
      · exact h3
    obtain ⟨hm1, hm2⟩ := hm
    obtain ⟨m, hmm, e⟩ := List.mem_map.1 hm1
    refine ⟨m, by rw [← e], ⟨hmm, fun x hx => ?_⟩, rfl⟩
    have := hm2 (x : Int) (List.mem_map.2 ⟨x, hx, rfl⟩)
    rw [← e] at this
    omega
/-- These are closed. -/
def clr (l : List Nat) (f : Nat → Bool) : Nat → Bool := fun k => if k ∈ l then false else f k
theorem clr_nil (f : Nat → Bool) : clr [] f = f := by funext k; simp [clr]
theorem clr_snoc (l : List Nat) (x : Nat) (f : Nat → Bool) : clr (l ++ [x]) f = upf (clr l f) x false := by
  funext k
  unfold clr upf
  by_cases e : k = x
  · subst e; simp
  · by_cases e2 : k ∈ l
    · simp [e, e2]
    · simp [e, e2]
/-- The least node on a ring, behind one more knot. -/
def LsK (N : Nat → List Nat) (d : Nat) (q : List Nat) (l l' : Int) : Prop := (¬ Kn N d q ∧ l' = l) ∨ (Kn N d q ∧ ∃ m : Nat, LsM (d :: q) m ∧ l' = if l = -1 ∨ (m : Int) < l then (m : Int) else l)
set_option maxRecDepth 20000 in
set_option maxHeartbeats 8000000 in
theorem closeKnot_any (N : Nat → List Nat) (A : List Nat) (d : Nat) (q : List Nat) (hM : M.op = A ++ d :: q) (h : Se n b0 w wr P dv ov M) (hR : Rw n w b0 N) (hl6 : (N d).length ≤ 65536) (hnd : M.op.Nodup) (hlt : ∀ x ∈ M.op, x < n) (hop : M.op.length ≤ 1000000) :
    Calls Try.prog 63 #[.pointer (some ⟨P.p, 0, none⟩), .int .i64 (d : Int)] wr fun e w' => (∃ u, e = .returned u) ∧ ∃ ov' l', LsK N d q M.least l' ∧ Se n b0 w w' P dv ov' ⟨M.gone, M.came, M.early, M.many, M.dn, A, clr (d :: q) M.isO, l'⟩ := by
  obtain ⟨ao, co, hov, hcap, -, hsh⟩ := h.og.shape
  obtain ⟨g, rfl⟩ : ∃ g, ao = some ⟨g, 0, none⟩ := by
    rcases hsh with ⟨-, e, -⟩ | h
    · rw [hM] at e; simp [ints] at e
    · exact h
  subst hov
  obtain ⟨T, hT⟩ : ∃ T, T = M.op.length := ⟨_, rfl⟩
  obtain ⟨L, hL⟩ : ∃ L, L = A.length := ⟨_, rfl⟩
  obtain ⟨Z, hZ⟩ : ∃ Z, T = Z + 1 := ⟨T - 1, by rw [hT, hM]; simp; omega⟩
  have hTL : T = L + (q.length + 1) := by rw [hT, hL, hM]; simp
  rw [show (ints M.op).length = T by rw [ints_length, hT]] at h hcap
  have HS : Hid (Se n b0 w wr P dv (.slice (some ⟨g, 0, none⟩) T co) M) := h
  have HRr : Hid (Rw n w b0 N) := hR
  have HM : Hid (M.op = A ++ d :: q) := hM
  have HND : Hid (M.op.Nodup) := hnd
  have HLt : Hid (∀ x ∈ M.op, x < n) := hlt
  have HTL : Hid (T = L + (q.length + 1)) := hTL
  have HT : Hid (T = M.op.length ∧ L = A.length) := ⟨hT, hL⟩
  have c6 := h.f6
  have f6 := h.st.frozen 6
  have hT6 : T ≤ 1000000 := by omega
  have HLi : Hid (Li wr (some ⟨g, 0, none⟩) M.op.length (ints M.op)) := by
    have := h.og
    rw [show T = (ints M.op).length by rw [ints_length, hT]] at this
    have := this.toLe.li
    rwa [ints_length] at this
  have HGb : Hid (g ≠ P.p ∧ g ≠ P.gi) := ⟨fun e => h.ne.2.2.2.2.1 (by rw [← e]; rfl), fun e => h.ne.2.2.2.2.2 (by rw [← e]; rfl)⟩
  have hw1 : IntKind.i64.wrap ((T : Int) - 1) = (Z : Int) := by rw [IntKind.wrap_i64]; omega
  have hxn : d < n := hlt d (by rw [hM]; simp)
  have hLT : L < T := by omega
  have HZ : Hid (T = Z + 1) := hZ
  have hLZ : L ≤ Z := by omega
  clear h hR hM hnd hlt hsh hop hZ hTL hT hL
  go_enter Try.func63, Try.ntmps63
  go_wp2_with fail
  go_loopw [4] (fun v wz => ∃ k : Nat, v = .int .i64 k ∧ L ≤ k ∧ k < T ∧ Hid (wz = wr)) (fun v _ => ((intOf v).toNat : Nat))
  case atStart => exact ⟨Z, rfl, hLZ, by have := HZ.out; omega, rfl⟩
  case round =>
    obtain ⟨k, rfl, hk1, hk2, hwz⟩ := hrel
    obtain rfl := hwz.out
    have cx : wr.cell? ⟨g, k, none⟩ = some (.int .i64 ((M.op.getD k 0 : Nat) : Int)) := by
      obtain ⟨b9, o9, e9, c9⟩ := Li.node HLi.out (i := k) (by rw [← HT.out.1]; exact hk2)
      cases e9
      rwa [Nat.zero_add] at c9
    have hki : (k : Int) < (T : Int) := by omega
    have hget : M.op.getD k 0 = (d :: q).getD (k - L) 0 := by
      rw [HM.out, List.getD_eq_getElem?_getD, List.getElem?_append_right (by rw [← HT.out.2]; exact hk1), ← HT.out.2, ← List.getD_eq_getElem?_getD]
    have hnq : d ∉ q := by
      have := HND.out
      rw [HM.out] at this
      exact (List.nodup_cons.1 (List.nodup_append.1 this).2.1).1
    by_cases hkL : k = L
    · subst hkL
      rw [hget, Nat.sub_self] at cx
      simp only [List.getD_cons_zero] at cx
      clear hget hnq hki
      have hk0 : (k : Int) < (T : Int) := by omega
      have hkc : (k : Int) ≤ (co : Int) := by omega
      have hkz : ¬ k = co := by omega
      have hkz2 : ¬ co = k := by omega
      go_wp2_with fail
      refine nameW (Q := fun W => Code.wp _ _ _ _ W) (fun W1 hW1 => ?_)
      obtain ⟨Q, hQ⟩ : ∃ Q, T - k = Q := ⟨_, rfl⟩
      rw [hQ]
      have HQ : Hid (Q = q.length + 1) := by have := HTL.out; show Q = _; omega
      have HS1 : Hid (Se n b0 w W1 P dv (.slice (some ⟨g, 0, none⟩) k co) ⟨M.gone, M.came, M.early, M.many, M.dn, A, clr [] M.isO, M.least⟩) := by
        have h9 := HS.out.cutOp (k := k) (by rw [← HT.out.1]; omega)
        rw [show M.op.take k = A by rw [HM.out, HT.out.2, List.take_left']; rfl] at h9
        show Se _ _ _ _ _ _ _ _
        rw [hW1, clr_nil]
        exact h9
      have HK1 : Hid (Li W1 (some ⟨g, k, none⟩) Q (ints (d :: q))) := by
        have h9 := (HLi.out.drop (k := k) (by rw [← HT.out.1]; omega)).far (p := ⟨P.p, 6, none⟩) HGb.out.1 (.slice (some ⟨g, 0, none⟩) k co)
        rw [← hW1, Nat.zero_add, ← HT.out.1, hQ] at h9
        rwa [show (ints M.op).drop k = ints (d :: q) by rw [HM.out, HT.out.2]; simp [ints]] at h9
      have HLd : Hid (∀ x ∈ d :: q, x < n) := fun x hx => HLt.out x (by rw [HM.out]; exact List.mem_append_right _ hx)
      have HQ6 : Hid (Q ≤ 1000000) := by show Q ≤ _; omega
      have HT' : Hid (T - k = Q) := hQ
      clear hW1 cx c6 f6 HS HLi HT HM HND HLt HTL hQ hkz hkz2 hkc hk0
      go_loopw [43] (fun u wz => ∃ j : Nat, u = .int .i64 j ∧ j ≤ Q ∧ Hid (Li wz (some ⟨g, k, none⟩) Q (ints (d :: q))) ∧ Hid (Se n b0 w wz P dv (.slice (some ⟨g, 0, none⟩) k co) ⟨M.gone, M.came, M.early, M.many, M.dn, A, clr ((d :: q).take j) M.isO, M.least⟩)) (fun u _ => (Q - (intOf u).toNat : Nat))
      case atStart => exact ⟨0, rfl, Nat.zero_le _, HK1.out, HS1.out⟩
      case round =>
        clear HK1 HS1
        obtain ⟨j, rfl, hj, HK, HS⟩ := hrel
        have hQ6 := HQ6.out
        rcases Nat.lt_or_ge j Q with hlt | hge
        · have hji : (j : Int) < Q := by omega
          have hjl : j < (d :: q).length := by rw [List.length_cons, ← HQ.out]; exact hlt
          obtain ⟨b9, o9, e9, c9⟩ := Li.node (l := d :: q) (by have := HK.out; rw [HQ.out] at this; exact this) hjl
          cases e9
          have HTk : Hid ((d :: q).take (j + 1) = (d :: q).take j ++ [(d :: q).getD j 0]) := take_snoc 0 hjl
          have hxn : (d :: q).getD j 0 < n := HLd.out _ (by rw [List.getD_eq_getElem?_getD, List.getElem?_eq_getElem hjl]; exact List.getElem_mem _)
          generalize (d :: q).getD j 0 = x at *
          have hxi : (x : Int) < n := by omega
          have c7 := HS.out.f7
          have d7 := HS.out.ia.cell hxn
          have e7 := Fv.frozen HS.out.ia x
          have HS2 : Hid (Se n b0 w (wr.setCell ⟨P.gi, x, none⟩ (.bool false)) P dv (.slice (some ⟨g, 0, none⟩) k co) ⟨M.gone, M.came, M.early, M.many, M.dn, A, clr ((d :: q).take (j + 1)) M.isO, M.least⟩) := by
            have h9 := HS.out.setIs x false
            show Se _ _ _ _ _ _ _ _
            rw [HTk.out, clr_snoc]
            exact h9
          have HK2 : Hid (Li (wr.setCell ⟨P.gi, x, none⟩ (.bool false)) (some ⟨g, k, none⟩) Q (ints (d :: q))) := HK.out.far (p := ⟨P.gi, x, none⟩) HGb.out.2 _
          clear hjl
          go_wp2_with fail
          go_roundw
          case rel => exact ⟨j + 1, rfl, by omega, HK2.out, HS2.out⟩
          case measure => simp [intOf]; omega
        · obtain rfl : j = Q := by omega
          clear hge hj
          have HS' : Hid (Se n b0 w wr P dv (.slice (some ⟨g, 0, none⟩) k co) ⟨M.gone, M.came, M.early, M.many, M.dn, A, clr (d :: q) M.isO, M.least⟩) := by
            have h9 := HS.out
            rwa [List.take_of_length_le (by rw [List.length_cons, ← HQ.out]; exact Nat.le_refl _)] at h9
          have HK' : Hid (Li wr (some ⟨g, k, none⟩) (d :: q).length (ints (d :: q))) := by
            have h9 := HK.out
            rwa [show j = (d :: q).length by rw [HQ.out]; rfl] at h9
          clear HS HK
          have HS := HS'
          have HK := HK'
          clear HS' HK'
          obtain ⟨Q, hQj⟩ : ∃ Q, Q = j := ⟨_, rfl⟩
          subst hQj
          have hq6 : q.length + 1 ≤ 1000000 := by have := HQ.out; have := HQ6.out; omega
          by_cases hq : q = []
          · have hQ1 : Q = 1 := by rw [HQ.out, hq]; rfl
            have HQ1 : Hid (Q = 1) := hQ1
            obtain ⟨a, c, ck0, hLd⟩ := HRr.out.cell hxn
            have ck := (HS.out.below.cell (p := ⟨b0, d, none⟩) HRr.out.lt).trans ck0
            have c0 := HS.out.f0
            have hdi : (d : Int) < n := by omega
            have hCo := contains_any (c := c) (hLd.after HS.out.below) (by omega) d
            clear ck0 hLd
            by_cases hdN : d ∈ N d
            · have HKn : Hid (Kn N d q) := .inr hdN
              rw [decide_eq_true hdN] at hCo
              clear hdN
              subst hQ1
              have hMi := min_any (c := co - k) HK.out (by simp) (by simp; omega)
              rw [show (d :: q).length = 1 by have := HQ.out; simp; omega] at hMi
              go_wp2_with (go_at_call 70; refine hCo.mono ?_; rintro e w9 ⟨rfl, hw9⟩; rw [hw9]; clear hw9 w9 hCo)
              refine hMi.mono ?_
              rintro e w9 ⟨m, rfl, hls, hw9⟩
              rw [hw9]
              clear hw9 w9 hMi
              have HLs : Hid (LsM (d :: q) m) := hls
              clear hls
              have c8 := HS.out.f8
              have f8 := HS.out.st.frozen 8
              by_cases h1 : M.least = -1
              · rw [h1] at c8
                have HS9 : Hid (Se n b0 w (wr.setCell ⟨P.p, 8, none⟩ (.int .i64 (m : Int))) P dv (.slice (some ⟨g, 0, none⟩) k co) ⟨M.gone, M.came, M.early, M.many, M.dn, A, clr (d :: q) M.isO, (m : Int)⟩) := HS.out.setLeast (m : Int)
                have H1 : Hid (M.least = -1) := h1
                clear h1
                go_wp2_with fail
                go_end0
                exact ⟨⟨_, rfl⟩, _, (m : Int), .inr ⟨HKn.out, m, HLs.out, by rw [if_pos (.inl H1.out)]⟩, HS9.out⟩
              · by_cases h2 : (m : Int) < M.least
                · have HS9 : Hid (Se n b0 w (wr.setCell ⟨P.p, 8, none⟩ (.int .i64 (m : Int))) P dv (.slice (some ⟨g, 0, none⟩) k co) ⟨M.gone, M.came, M.early, M.many, M.dn, A, clr (d :: q) M.isO, (m : Int)⟩) := HS.out.setLeast (m : Int)
                  have H2 : Hid ((m : Int) < M.least) := h2
                  go_wp2_with fail
                  go_end0
                  exact ⟨⟨_, rfl⟩, _, (m : Int), .inr ⟨HKn.out, m, HLs.out, by rw [if_pos (.inr H2.out)]⟩, HS9.out⟩
                · have h2d : decide ((m : Int) < M.least) = false := decide_eq_false h2
                  have h2e : M.least ≤ (m : Int) := by omega
                  have H2 : Hid (¬ (M.least = -1 ∨ (m : Int) < M.least)) := fun h => by
                    rcases h with h | h
                    · exact h1 h
                    · exact h2 h
                  go_wp2_with fail
                  go_end0
                  exact ⟨⟨_, rfl⟩, _, M.least, .inr ⟨HKn.out, m, HLs.out, by rw [if_neg H2.out]⟩, HS.out⟩
            · have HKn : Hid (¬ Kn N d q) := fun h => by
                rcases h with h | h
                · exact h hq
                · exact hdN h
              rw [decide_eq_false hdN] at hCo
              clear hdN
              subst hQ1
              go_wp2_with (go_at_call 70; refine hCo.mono ?_; rintro e w9 ⟨rfl, hw9⟩; rw [hw9]; clear hw9 w9 hCo)
              refine bodyPost_ret (results_none rfl _ _ _) rfl ?_
              exact ⟨⟨_, rfl⟩, _, M.least, .inl ⟨HKn.out, rfl⟩, HS.out⟩
          · have HKn : Hid (Kn N d q) := .inl hq
            have hQ1 : ¬ (Q : Int) = 1 := by
              have := HQ.out
              have : 0 < q.length := List.length_pos_iff.2 hq
              omega
            have hQ2 : ¬ Q = 1 := by omega
            have hMi := min_any (c := co - k) HK.out (by simp) (by simp; omega)
            rw [show (d :: q).length = Q by rw [HQ.out]; rfl] at hMi
            go_wp2_with fail
            refine hMi.mono ?_
            rintro e w9 ⟨m, rfl, hls, hw9⟩
            rw [hw9]
            clear hw9 w9 hMi
            have HLs : Hid (LsM (d :: q) m) := hls
            clear hls
            have c8 := HS.out.f8
            have f8 := HS.out.st.frozen 8
            by_cases h1 : M.least = -1
            · rw [h1] at c8
              have HS9 : Hid (Se n b0 w (wr.setCell ⟨P.p, 8, none⟩ (.int .i64 (m : Int))) P dv (.slice (some ⟨g, 0, none⟩) k co) ⟨M.gone, M.came, M.early, M.many, M.dn, A, clr (d :: q) M.isO, (m : Int)⟩) := HS.out.setLeast (m : Int)
              have H1 : Hid (M.least = -1) := h1
              clear h1
              go_wp2_with fail
              go_end0
              exact ⟨⟨_, rfl⟩, _, (m : Int), .inr ⟨HKn.out, m, HLs.out, by rw [if_pos (.inl H1.out)]⟩, HS9.out⟩
            · by_cases h2 : (m : Int) < M.least
              · have HS9 : Hid (Se n b0 w (wr.setCell ⟨P.p, 8, none⟩ (.int .i64 (m : Int))) P dv (.slice (some ⟨g, 0, none⟩) k co) ⟨M.gone, M.came, M.early, M.many, M.dn, A, clr (d :: q) M.isO, (m : Int)⟩) := HS.out.setLeast (m : Int)
                have H2 : Hid ((m : Int) < M.least) := h2
                go_wp2_with fail
                go_end0
                exact ⟨⟨_, rfl⟩, _, (m : Int), .inr ⟨HKn.out, m, HLs.out, by rw [if_pos (.inr H2.out)]⟩, HS9.out⟩
              · have h2d : decide ((m : Int) < M.least) = false := decide_eq_false h2
                have h2e : M.least ≤ (m : Int) := by omega
                have H2 : Hid (¬ (M.least = -1 ∨ (m : Int) < M.least)) := fun h => by
                  rcases h with h | h
                  · exact h1 h
                  · exact h2 h
                go_wp2_with fail
                go_end0
                exact ⟨⟨_, rfl⟩, _, M.least, .inr ⟨HKn.out, m, HLs.out, by rw [if_neg H2.out]⟩, HS.out⟩
    · have hne : ¬ ((M.op.getD k 0 : Nat) : Int) = (d : Int) := by
        intro e
        rw [hget] at e
        obtain ⟨j, hj⟩ : ∃ j, k - L = j + 1 := ⟨k - L - 1, by omega⟩
        rw [hj, List.getD_cons_succ] at e
        have hjl : j < q.length := by have := HTL.out; omega
        apply hnq
        have e2 : q.getD j 0 = d := by omega
        rw [← e2, List.getD_eq_getElem?_getD, List.getElem?_eq_getElem hjl]
        exact List.getElem_mem _
      have hw2 : IntKind.i64.wrap ((k : Int) - 1) = ((k - 1 : Nat) : Int) := by rw [IntKind.wrap_i64]; omega
      clear hget hnq
      generalize M.op.getD k 0 = y at *
      go_wp2_with fail
      go_roundw
      case rel => exact ⟨k - 1, rfl, by omega, by omega, trivial⟩
      case measure => simp [intOf]; omega
end Go.Proofs.Ytonhooaboieapaa
