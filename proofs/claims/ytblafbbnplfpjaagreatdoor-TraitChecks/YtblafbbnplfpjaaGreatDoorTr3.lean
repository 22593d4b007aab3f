/-
  traits.Check.
-/
import Derived.Test.YtblafbbnplfpjaaGreatDoorTr2
import Derived.Laws.EntriesVeiled
namespace Go.Proofs.YtblafbbnplfpjaaGreatDoor
open Go.RowKit Go.Shelf
set_option linter.unusedVariables false

/-- What Check answers. -/
noncomputable def ckE (ns : List Nd) : Int := open Classical in if Cond wdB ns then 0 else 131
theorem ckE_ok {ns : List Nd} (h : Cond wdB ns) : ckE ns = 0 := if_pos h
theorem ckE_no {ns : List Nd} (h : ¬ Cond wdB ns) : ckE ns = 131 := if_neg h
theorem ckE_iff (ns : List Nd) : ckE ns = 0 ↔ Cond wdB ns := by
  constructor
  · intro h
    rcases Classical.em (Cond wdB ns) with h' | h'
    · exact h'
    · rw [ckE_no h'] at h; cases h
  · exact ckE_ok
theorem cond_tree {ns : List Nd} (h0 : ns ≠ []) (h : Cond wdB ns) : ns.length ≤ 64 ∧ ∃ n k, ns = (Fo.cons n k .nil).flat ∧ (Fo.cons n k .nil).Ok wdB 0 1 := h.resolve_left h0
set_option maxHeartbeats 4000000 in
theorem check13 (ns : List Nd) (a : Option Addr) (cap : Nat) (w : World) (hL : Le elN w a ns.length ns) (h64 : ∀ n ∈ ns, N64 n) :
    Calls Tryz.prog 8 #[.slice a ns.length cap] w fun e w' => e = .returned (.int .i64 (ckE ns)) ∧ Below w.heap.size w w' := by
  rcases Nat.eq_zero_or_pos ns.length with h0 | h0
  · have HE : Hid (ckE ns = 0) := ckE_ok (.inl (List.length_eq_zero_iff.1 h0))
    generalize ckE ns = E at *
    clear h64 hL
    generalize ns.length = N at *
    subst h0
    go_enter Tryz.func8, Tryz.ntmps8
    go_wp2_with fail
    go_ret
    exact ⟨by rw [HE.out]; rfl, (Below.refl _ _).alloc (Nat.le_refl _) _⟩
  · have hne : ns ≠ [] := fun h => by rw [h] at h0; exact absurd h0 (Nat.lt_irrefl _)
    have hz : ((ns.length : Int) == 0) = false := by simp; omega
    rcases Nat.lt_or_ge 64 ns.length with h1 | h1
    · have HE : Hid (ckE ns = 131) := ckE_no (fun h => by have := (cond_tree hne h).1; omega)
      have h1' : (64 : Int) < ns.length := by omega
      generalize ckE ns = E at *
      clear h64 hL
      generalize ns.length = N at *
      go_enter Tryz.func8, Tryz.ntmps8
      go_wp2_with fail
      go_ret
      exact ⟨by rw [HE.out]; rfl, (Below.refl _ _).alloc (Nat.le_refl _) _⟩
    · have h1' : ¬ (64 : Int) < ns.length := by omega
      obtain ⟨E, hE⟩ : ∃ E, ckE ns = E := ⟨_, rfl⟩
      have HE : Hid (ckE ns = E) := hE
      rw [hE]
      clear hE
      have HL : Hid (Le elN w a ns.length ns) := hL
      have H6 : Hid (∀ n ∈ ns, N64 n) := h64
      clear hL h64
      have B0 : Below w.heap.size w w := Below.refl _ _
      go_enter Tryz.func8, Tryz.ntmps8
      go_upto_region 7 with fail
      refine ent3 w _ _ _ _ _ _ (Q := fun W => Code.wp _ _ _ _ W) ?_
      intro W1 hb hs V0 V1 V2
      replace B0 := step B0 hb
      have c0 := V0.cell
      have c1 := V1.cell
      have c2 := V2.cell
      have f2 := V2.frozen 0
      have L1 := HL.out.after hb
      have hlt := fun b off (h : a = some ⟨b, off, none⟩) => (by subst h; exact HL.out.lt h0 : b < w.heap.size)
      clear hb
      go_upto_region 8 with fail
      refine st1 V2 _ (Q := fun W => Code.wp _ _ _ _ W) ?_
      intro W2 hv hg hs2
      have C2 : Cs ns a cap (w.heap.size + 1) w.heap.size (w.heap.size + 1 + 1) W2 0 :=
        ⟨V1.gr hg (by omega), V0.gr hg (by omega), hv, L1.grown hg (fun _ b off h => by have := hlt b off h; omega), by omega, by omega, fun b off h => by have := hlt b off h; omega, h1, Nat.zero_le _⟩
      have B2 : Below w.heap.size w W2 := B0.trans (gr_to hg (by omega) (by omega))
      have HB2 : Hid (Below w.heap.size w W2) := B2
      have hs3 : w.heap.size + 3 ≤ W2.heap.size := by omega
      have d2 := hv.cell
      clear V0 V1 V2 c0 c1 c2 f2 L1 hv hg hs hs2 B0 B2 hlt
      have C9 : Calls Tryz.prog 25 #[.int .i64 0, .int .i64 1, pt1 (w.heap.size + 1), pt1 w.heap.size, pt1 (w.heap.size + 1 + 1)] W2 (PsE ns (w.heap.size + 1) 0 1 0 W2) := passes_any ns a cap _ _ _ H6.out 16 1 rfl 0 0 W2 C2
      have HC2 : Hid (Cs ns a cap (w.heap.size + 1) w.heap.size (w.heap.size + 1 + 1) W2 0) := C2
      clear C2
      go_wp2_with fail
      refine C9.mono ?_
      rintro e W3 ⟨ok, p', rfl, hr, hle, hv, hg⟩
      have B3 : Below w.heap.size w W3 := HB2.out.trans (gr_to hg (by omega) (by omega))
      have e0 := (HC2.out.nds.gr hg HC2.out.n1).cell
      have e1 := hv.cell
      have HR : Hid (PsR ns 0 1 0 ok p') := hr
      clear hr hg hv C9 HC2 HB2
      cases ok with
      | false =>
        go_wp2_with fail
        go_ret
        refine ⟨?_, B3⟩
        rw [← HE.out, ckE_no]
        · rfl
        · intro h
          obtain ⟨-, n, k, e, hok⟩ := cond_tree hne h
          exact HR.out.2 rfl n k [] (by rw [List.drop_zero, List.append_nil]; exact e) hok
      | true =>
        rcases Nat.lt_or_ge p' ns.length with hlt | hge
        · have hlt' : (p' : Int) < ns.length := by omega
          go_wp2_with fail
          go_ret
          refine ⟨?_, B3⟩
          rw [← HE.out, ckE_no]
          · rfl
          · intro h
            obtain ⟨-, n, k, e, hok⟩ := cond_tree hne h
            obtain ⟨m, j, hok2, e2⟩ := HR.out.1 rfl
            rw [List.drop_zero, e] at e2
            have := (flat_inj _ _ _ _ _ _ [] (ns.drop p') hok hok2 rfl (by rw [List.append_nil]; rw [← e] at e2 ⊢; exact e2)).2
            have h9 := congrArg List.length this
            simp only [List.length_nil, List.length_drop] at h9
            omega
        · have hlt' : ¬ (p' : Int) < ns.length := by omega
          go_wp2_with fail
          go_ret
          refine ⟨?_, B3⟩
          rw [← HE.out, ckE_ok]
          · rfl
          · obtain ⟨m, j, hok2, e2⟩ := HR.out.1 rfl
            rw [List.drop_zero, List.drop_of_length_le hge, List.append_nil] at e2
            exact .inr ⟨h1, m, j, e2, hok2⟩
end Go.Proofs.YtblafbbnplfpjaaGreatDoor
