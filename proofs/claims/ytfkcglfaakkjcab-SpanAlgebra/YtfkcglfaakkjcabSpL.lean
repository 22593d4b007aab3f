/-
  What the statements without the document share: small, in, fewest, CopySpans.
-/
import Derived.Test.YtfkcglfaakkjcabSp9
import Derived.Test.YtfkcglfaakkjcabSpF
namespace Go.Proofs.Ytfkcglfaakkjcab
open Go.RowKit Go.Shelf
set_option linter.unusedVariables false

/-- Few spans, each of which may be. -/
def Sml (ps : List Pr) : Prop := ps.length ≤ 500 ∧ ∀ p ∈ ps, May p
noncomputable def smB (ps : List Pr) : Bool := @decide (Sml ps) (Classical.propDecidable _)
theorem smB_true {ps : List Pr} (h : Sml ps) : smB ps = true := @decide_eq_true _ (Classical.propDecidable _) h
theorem smB_false {ps : List Pr} (h : ¬ Sml ps) : smB ps = false := @decide_eq_false _ (Classical.propDecidable _) h
theorem getD_mem {ps : List Pr} {k : Nat} (h : k < ps.length) : ps.getD k (0, 0) ∈ ps := by
  rw [List.getD_eq_getElem?_getD, List.getElem?_eq_getElem h]
  exact List.getElem_mem _
set_option maxHeartbeats 1000000 in
theorem small_any (a : Option Addr) (len cap : Nat) (ps : List Pr) (w : World) (h : Ls w a len ps) (hl : len ≤ 9000000000000) :
    Calls Try.prog 8 #[.slice a len cap] w fun e w' => e = .returned (.bool (smB ps)) ∧ Below w.heap.size w w' := by
  have HL : Hid (Ls w a len ps) := h
  have hpl := h.1
  clear h
  by_cases h5 : 500 < len
  · rw [smB_false (fun hs => by have := hs.1; omega)]
    have h5z : (500 : Int) < len := by omega
    go_enter Try.func8, Try.ntmps8
    go_wp2_with fail
    go_ret
    exact ⟨rfl, Below.refl _ _⟩
  · have h5z : ¬ (500 : Int) < len := by omega
    go_enter Try.func8, Try.ntmps8
    go_wp2_with fail
    go_loopw [3] (fun i wr => ∃ k : Nat, k ≤ len ∧ i = .int .i64 (k : Int) ∧ Below w.heap.size w wr ∧ Hid (∀ j, j < k → May (ps.getD j (0, 0)))) (fun i _ => len - (intOf i).toNat)
    case atStart => exact ⟨0, Nat.zero_le _, rfl, Below.refl _ _, fun j hj => absurd hj (Nat.not_lt_zero _)⟩
    case round =>
      obtain ⟨k, hk, rfl, hB, hI⟩ := hrel
      by_cases hlt : k < len
      · have hkz : (k : Int) < len := by omega
        obtain ⟨b, off, rfl, hc⟩ := (HL.out.after hB).2 (by omega)
        have c0 := (hc k hlt).1
        have c1 := (hc k hlt).2
        have hck := fun W => check_any (ps.getD k (0, 0)).1 (ps.getD k (0, 0)).2 W
        have hs := hB.size
        by_cases hm : May (ps.getD k (0, 0))
        · rw [show chk ((ps.getD k (0, 0)).1, (ps.getD k (0, 0)).2) = 0 from chk_ok hm] at hck
          have HI : Hid (∀ j, j < k + 1 → May (ps.getD j (0, 0))) := fun j hj => by
            by_cases h' : j = k
            · rw [h']; exact hm
            · exact hI.out j (by omega)
          clear hc hI hm
          generalize (ps.getD k (0, 0)).1 = x0 at *
          generalize (ps.getD k (0, 0)).2 = x1 at *
          go_wp2_with (go_at_call 29; refine (hck _).mono ?_; rintro e w' ⟨rfl, rfl⟩)
          exact ⟨⟨k + 1, by omega, by go_num, hB.alloc hs _, HI⟩, by simp [intOf]; omega⟩
        · rw [show chk ((ps.getD k (0, 0)).1, (ps.getD k (0, 0)).2) = 110 from chk_no hm] at hck
          have HE : Hid (smB ps = false) := smB_false (fun hs => hm (hs.2 _ (getD_mem (by omega))))
          clear hc hI hm
          generalize (ps.getD k (0, 0)).1 = x0 at *
          generalize (ps.getD k (0, 0)).2 = x1 at *
          go_wp2_with (go_at_call 29; refine (hck _).mono ?_; rintro e w' ⟨rfl, rfl⟩)
          go_ret
          exact ⟨by rw [HE.out]; rfl, hB.alloc hs _⟩
      · have hkz : ¬ (k : Int) < len := by omega
        have HE : Hid (smB ps = true) := smB_true ⟨by omega, fun p hp => by
          obtain ⟨i, hi, rfl⟩ := List.mem_iff_getElem.1 hp
          have := hI.out i (by omega)
          rwa [List.getD_eq_getElem?_getD, List.getElem?_eq_getElem hi] at this⟩
        clear hI
        go_wp2_with fail
        go_ret
        exact ⟨by rw [HE.out]; rfl, hB⟩
set_option maxHeartbeats 1000000 in
theorem in_any (a : Option Addr) (len cap : Nat) (ps : List Pr) (d : Int) (w : World) (h : Ls w a len ps) (hl : len ≤ 9000000000000) :
    Calls Try.prog 15 #[.slice a len cap, .int .i64 d] w fun e w' => e = .returned (.bool (inB ps d)) ∧ w' = w := by
  have HL : Hid (Ls w a len ps) := h
  have hpl := h.1
  clear h
  go_enter Try.func15, Try.ntmps15
  go_wp2_with fail
  go_loopw [5] (fun i wr => ∃ k : Nat, k ≤ len ∧ i = .int .i64 (k : Int) ∧ wr = w ∧ Hid (∀ j, j < k → ¬ ((ps.getD j (0, 0)).1 ≤ d ∧ d < (ps.getD j (0, 0)).2))) (fun i _ => len - (intOf i).toNat)
  case atStart => exact ⟨0, Nat.zero_le _, rfl, rfl, fun j hj => absurd hj (Nat.not_lt_zero _)⟩
  case round =>
    obtain ⟨k, hk, rfl, rfl, hI⟩ := hrel
    by_cases hlt : k < len
    · have hkz : (k : Int) < len := by omega
      obtain ⟨b, off, rfl, hc⟩ := HL.out.2 (by omega)
      have c0 := (hc k hlt).1
      have c1 := (hc k hlt).2
      have HY : Hid ((ps.getD k (0, 0)).1 ≤ d ∧ d < (ps.getD k (0, 0)).2 → inB ps d = true) := fun h' => inB_true ⟨_, getD_mem (by omega), h'⟩
      have HN : Hid (¬ ((ps.getD k (0, 0)).1 ≤ d ∧ d < (ps.getD k (0, 0)).2) → ∀ j, j < k + 1 → ¬ ((ps.getD j (0, 0)).1 ≤ d ∧ d < (ps.getD j (0, 0)).2)) := fun h' j hj => by
        by_cases h2 : j = k
        · rw [h2]; exact h'
        · exact hI.out j (by omega)
      clear hc hI
      generalize (ps.getD k (0, 0)).1 = x0 at *
      generalize (ps.getD k (0, 0)).2 = x1 at *
      by_cases h1 : x0 ≤ d
      · by_cases h2 : d < x1
        · have HE : Hid (inB ps d = true) := HY.out ⟨h1, h2⟩
          clear HY HN
          go_wp2_with fail
          go_ret
          exact ⟨by rw [HE.out]; rfl, rfl⟩
        · have HE : Hid _ := HN.out (fun h' => h2 h'.2)
          clear HY HN
          go_wp2_with fail
          exact ⟨⟨k + 1, by omega, by go_num, trivial, HE⟩, by simp [intOf]; omega⟩
      · have HE : Hid _ := HN.out (fun h' => h1 h'.1)
        clear HY HN
        go_wp2_with fail
        exact ⟨⟨k + 1, by omega, by go_num, trivial, HE⟩, by simp [intOf]; omega⟩
    · have hkz : ¬ (k : Int) < len := by omega
      have HE : Hid (inB ps d = false) := inB_false (fun ⟨p, hp, h1, h2⟩ => by
        obtain ⟨i, hi, rfl⟩ := List.mem_iff_getElem.1 hp
        have := hI.out i (by omega)
        rw [List.getD_eq_getElem?_getD, List.getElem?_eq_getElem hi] at this
        exact this ⟨h1, h2⟩)
      clear hI
      go_wp2_with fail
      go_ret
      exact ⟨by rw [HE.out]; rfl, rfl⟩
set_option maxHeartbeats 2000000 in
theorem lfew_any (a : Option Addr) (len cap : Nat) (ps : List Pr) (w : World) (h : Ls w a len ps) (hf : Few ps) (hl : len ≤ 1000000) :
    Calls Try.prog 19 #[.slice a len cap] w fun e w' => e = .returned (.bool true) ∧ Below w.heap.size w w' := by
  have HL : Hid (Ls w a len ps) := h
  have hpl := h.1
  have HF : Hid (∀ k, k < len → 0 ≤ (ps.getD k (0, 0)).1 ∧ (ps.getD k (0, 0)).1 < (ps.getD k (0, 0)).2 ∧ (ps.getD k (0, 0)).2 ≤ 3652059 ∧ (0 < k → (ps.getD (k - 1) (0, 0)).2 < (ps.getD k (0, 0)).1)) := fun k hk => by
    have h1 := hf.1 _ (getD_mem (show k < ps.length by omega))
    unfold May at h1
    refine ⟨h1.1, h1.2.1, h1.2.2, fun h0 => ?_⟩
    have := List.pairwise_iff_getElem.1 hf.2 (k - 1) k (by omega) (by omega) (by omega)
    rw [List.getD_eq_getElem?_getD, List.getD_eq_getElem?_getD, List.getElem?_eq_getElem (by omega), List.getElem?_eq_getElem (by omega)]
    exact this
  clear h hf
  go_enter Try.func19, Try.ntmps19
  go_wp2_with fail
  go_loopw [3] (fun i wr => ∃ k q : Nat, k ≤ len ∧ i = .int .i64 (k : Int) ∧ wr = w.drewN q) (fun i _ => len - (intOf i).toNat)
  case atStart => exact ⟨0, 0, Nat.zero_le _, rfl, rfl⟩
  case round =>
    obtain ⟨k, q, hk, rfl, rfl⟩ := hrel
    by_cases hlt : k < len
    · have hkz : (k : Int) < len := by omega
      obtain ⟨b, off, rfl, hc⟩ := HL.out.2 (by omega)
      have c0 := (hc k hlt).1
      have c1 := (hc k hlt).2
      obtain ⟨h1, h2, h3, h4⟩ := HF.out k hlt
      have g1 : ¬ (ps.getD k (0, 0)).1 < 0 := by omega
      have g2 : ¬ (ps.getD k (0, 0)).2 ≤ (ps.getD k (0, 0)).1 := by omega
      have g3 : ¬ 3652059 < (ps.getD k (0, 0)).2 := by omega
      rcases Nat.eq_zero_or_pos k with h0 | h0
      · subst h0
        clear hc h1 h2 h3 h4
        generalize (ps.getD 0 (0, 0)).1 = x0 at *
        generalize (ps.getD 0 (0, 0)).2 = x1 at *
        simp only [Nat.zero_mul, Nat.add_zero] at c0 c1
        have t1 : decide (x0 < 0) = false := decide_eq_false g1
        have t2 : decide (x1 ≤ x0) = false := decide_eq_false g2
        have t3 : decide (3652059 < x1) = false := decide_eq_false g3
        clear g1 g2 g3
        go_wp2_with fail
        go_quiet (fail)
        go_wp2_with fail
        exact ⟨⟨1, q + nq, by omega, by go_num, rfl⟩, by simp [intOf]; omega⟩
      · have d1 := (hc (k - 1) (by omega)).2
        have g4 : ¬ (ps.getD k (0, 0)).1 ≤ (ps.getD (k - 1) (0, 0)).2 := by have := h4 h0; omega
        have e1 : ((k : Int) - 1).toNat = k - 1 := by omega
        have e2 : 0 < (k : Int) := by omega
        have e3 : 1 ≤ (k : Int) := by omega
        have e4 : (k : Int) - 1 < len := by omega
        clear hc h1 h2 h3 h4
        generalize (ps.getD k (0, 0)).1 = x0 at *
        generalize (ps.getD k (0, 0)).2 = x1 at *
        generalize (ps.getD (k - 1) (0, 0)).2 = z1 at *
        have t1 : decide (x0 < 0) = false := decide_eq_false g1
        have t2 : decide (x1 ≤ x0) = false := decide_eq_false g2
        have t3 : decide (3652059 < x1) = false := decide_eq_false g3
        have t4 : decide (x0 ≤ z1) = false := decide_eq_false g4
        have t5 : decide (0 < k) = true := decide_eq_true h0
        have t6 : decide ((0 : Int) < (k : Int)) = true := decide_eq_true e2
        clear g1 g2 g3 g4
        go_wp2_with fail
        go_quiet (fail)
        go_wp2_with fail
        exact ⟨⟨k + 1, q + nq, by omega, by go_num, rfl⟩, by simp [intOf]; omega⟩
    · have hkz : ¬ (k : Int) < len := by omega
      go_wp2_with fail
      go_ret
      exact ⟨rfl, below_drewN (Below.refl _ _) _⟩
/-- append of a list that is read elsewhere. -/
theorem wpList_appL {ops : Array Oper} {rest : List Oper} {o : Oper} {a : Act} {w : World} {Q : Exit → Act → World → Prop} (hgd : o.guard = none) (s x : Operand)
    (ho : o.op = .call { callee := .builtin .append, args := #[s, x], argTypes := #[22, 22] })
    (B : Nat) (v : Value) (ps : List Pr) (hs : a.eval s = v) (hg : Gs w B v ps) (ad : Addr) (m c : Nat) (qs : List Pr) (hx : a.eval x = .slice (some ad) m c) (hq : Ls w (some ad) m qs)
    (hb : ps.length + m ≤ 8796093022208) (hB : B ≤ w.heap.size)
    (h : ∀ v' w', Gs w' B v' (ps ++ qs) → w.grownBy w' v.ownBlock → wpList Try.prog ops Q rest (a.put o.dst v') w') : wpList Try.prog ops Q (o :: rest) a w := by
  obtain ⟨i0, hi, hz0, hz1, hz2⟩ := info_parts infoS
  refine wpList_append_own w hgd s x _ ho B 35 i0 (.agg #[.int .i64 0, .int .i64 0]) 2 16 Try.underlying22 hi hz0 hz1 hz2 rfl (by decide) v ps.length (rowS ps) hs hg ad m c (rowS qs) hx (by rw [rowS_length, hq.1]) (fun j u hj => ?_) (rowS_one _) (by unfold maxLen; omega) (by omega) hB ?_
  · have hj' : j < qs.length * 2 := by
      rcases Nat.lt_or_ge j (rowS qs).length with h' | h'
      · rwa [rowS_length] at h'
      · rw [List.getElem?_eq_none h'] at hj; cases hj
    obtain ⟨b, off, e, hc⟩ := hq.2 (by have := hq.1; omega)
    cases e
    rw [Addr.add_lit]
    rcases Nat.mod_two_eq_zero_or_one j with e | e
    · have c0 := (hc (j / 2) (by have := hq.1; omega)).1
      have r0 := rowS_get0 qs (j / 2) (by omega)
      rw [show (j / 2) * 2 = j by omega] at c0 r0
      rw [hj] at r0; cases r0; exact c0
    · have c0 := (hc (j / 2) (by have := hq.1; omega)).2
      have r0 := rowS_get1 qs (j / 2) (by omega)
      rw [show (j / 2) * 2 + 1 = j by omega] at r0
      rw [show off + (j / 2) * 2 + 1 = off + j by omega] at c0
      rw [hj] at r0; cases r0; exact c0
  · intro v' w' h2 h3 _
    refine h v' w' ?_ h3
    show World.ownsRow _ _ _ _ _ _ _
    rw [List.length_append, rowS_append, hq.1]
    exact h2
set_option maxHeartbeats 1000000 in
theorem copy_any (a : Option Addr) (len cap : Nat) (ps : List Pr) (w : World) (h : Ls w a len ps) (hn : a = none → len = 0 ∧ cap = 0) (hl : len ≤ 8796093022208) :
    Calls Try.prog 10 #[.slice a len cap] w fun e w' => ∃ v, e = .returned v ∧ Gs w' w.heap.size v ps ∧ Below w.heap.size w w' := by
  cases a with
  | none =>
    obtain ⟨rfl, rfl⟩ := hn rfl
    have hp : ps = [] := List.length_eq_zero_iff.1 h.1
    subst hp
    go_enter Try.func10, Try.ntmps10
    go_wp2_with fail
    go_ret
    exact ⟨_, rfl, Gs.nil _ _, Below.refl _ _⟩
  | some ad =>
    have HL : Hid (Ls w (some ad) len ps) := h
    clear h hn
    go_enter Try.func10, Try.ntmps10
    go_wp2_with (at_builtin; refine wpList_appL rfl _ _ rfl w.heap.size _ [] rfl (Gs.nil _ _) ad len cap ps rfl HL.out (by simpa using hl) (Nat.le_refl _) ?_; intro v1 w1 hg hgr; obtain ⟨a2, c2, rfl, -, -, -⟩ := hg.shape)
    go_ret
    exact ⟨_, rfl, by simpa using hg, (Below.refl _ _).grown hgr (Nat.le_refl _) (fun k hk => by cases hk)⟩
end Go.Proofs.Ytfkcglfaakkjcab
