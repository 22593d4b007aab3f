/-
  order: slices.Repeat of one number, stepsTo.
-/
import Derived.Test.YtonhooaboieapaaOdE
import Derived.Test.YtonhooaboieapaaOrB
import Derived.Laws.CopyOwn
namespace Go.Proofs.Ytonhooaboieapaa
open Go.RowKit Go.Shelf
set_option linter.unusedVariables false
set_option linter.unusedSimpArgs false

/-- The first so many are the number. -/
def rp (n k : Nat) (x : Int) : List Value := List.replicate k (.int .i64 x) ++ List.replicate (n - k) (.int .i64 0)
theorem rp_length {n k : Nat} {x : Int} (h : k ≤ n) : (rp n k x).length = n := by simp [rp]; omega
theorem rp_splice {n k m : Nat} {x : Int} (h : k + m ≤ n) : splice (rp n k x) k (List.replicate m (.int .i64 x)) = rp n (k + m) x := by
  unfold splice rp
  rw [List.take_append_of_le_length (by simp), List.take_of_length_le (by simp), List.length_replicate, List.drop_append, List.length_replicate, List.drop_eq_nil_of_le (by simp), List.nil_append, List.drop_replicate, show n - k - (k + m - k) = n - (k + m) by omega, ← List.append_assoc, List.replicate_append_replicate]
theorem rp_all {n : Nat} {w : World} {g x : Nat} (h : w.heap[g]? = some (.cells (rp n n (x : Int)).toArray 3 (0, 0))) : Fn n w g (fun _ => x) := by
  unfold Fn Fv Va
  rw [h]
  congr 3
  unfold rp
  rw [Nat.sub_self, List.replicate_zero, List.append_nil]
  apply List.ext_getElem?
  intro k
  by_cases hk : k < n <;> simp [hk, iv]
set_option maxRecDepth 20000 in
set_option maxHeartbeats 8000000 in
theorem repeat_any {w : World} {b : Nat} (x : Nat) (h : Va w b 3 #[.int .i64 (x : Int)]) (n : Nat) (h1 : 1 ≤ n) (hn : n ≤ 4096) :
    Calls Try.prog 50 #[.slice (some ⟨b, 0, none⟩) 1 1, .int .i64 (n : Int)] w fun e w' => e = .returned (.slice (some ⟨w.heap.size, 0, none⟩) n n) ∧ Fn n w' w.heap.size (fun _ => x) ∧ Below w.heap.size w w' := by
  have hM := Try.bits_Mul 1 n (by omega) (by omega) w
  rw [show 1 * n / 18446744073709551616 = 0 by omega, show 1 * n % 18446744073709551616 = n by omega] at hM
  have hwu : IntKind.u64.wrap (n : Int) = (n : Int) := by rw [IntKind.wrap_u64]; omega
  have hwi : IntKind.i64.wrap (n : Int) = (n : Int) := by rw [IntKind.wrap_i64]; omega
  have hm := fun W => make_int n (by omega) W
  have h0i : ¬ (n : Int) < 0 := by omega
  have hbig : ¬ (9223372036854775807 : Int) < (n : Int) := by omega
  have HVb : Hid (Va w b 3 #[.int .i64 (x : Int)]) := h
  have hlt := h.lt
  clear h
  go_enter Try.func50, Try.ntmps50
  go_wp2_with (first
    | (go_at_call 64; refine hM.mono ?_; rintro e w1 ⟨rfl, hw1⟩; rw [hw1]; clear hw1 w1)
    | (refine wpList_copy_splice rfl (.tmp 31) (.tmp 32) 23 23 rfl 3 Try.underlying23 (by kernel_rfl) _ _ _ _ _ _ rfl rfl w.heap.size 0 (rp n 0 (x : Int)) 3 ?hg (List.replicate 1 (.int .i64 (x : Int))) ?hn ?hpos ?hfit ?hv w.heap.size w ?hb ?hBg ?_))
  case hg =>
    have := Va.new w 3 (Array.replicate n (.int .i64 0))
    unfold Va at this
    simpa [rp] using this
  case hn => simp [Nat.min_def]; omega
  case hpos =>
    intro j v hj
    have hj0 : j = 0 := by
      have := (List.getElem?_eq_some_iff.1 hj).1
      simpa using this
    subst hj0
    cases hj
    exact HVb.out.cell
  case hfit => rw [rp_length (by omega)]; simp; omega
  case hv => intro v hv; simp at hv; subst hv; rfl
  case hb => exact (Below.refl _ _).alloc (Nat.le_refl _) _
  case hBg => exact Nat.le_refl _
  intro w2 hg2 hb2
  have HG2 : Hid (w2.heap[w.heap.size]? = some (.cells (rp n 1 (x : Int)).toArray 3 (0, 0))) := by
    have := hg2.out
    rw [show [Value.int .i64 (x : Int)] = List.replicate 1 (.int .i64 (x : Int)) from rfl, rp_splice (n := n) (k := 0) (m := 1) (by omega), Nat.zero_add] at this
    exact this
  have HB2 : Hid (Below w.heap.size w w2) := hb2
  clear hg2 hb2 hM hm HVb
  try simp only [List.length_replicate]
  go_wp2_with fail
  go_loopw [8] (fun v wz => ∃ k : Nat, v = .int .i64 k ∧ 1 ≤ k ∧ k ≤ n ∧ Hid (wz.heap[w.heap.size]? = some (.cells (rp n k (x : Int)).toArray 3 (0, 0))) ∧ Hid (Below w.heap.size w wz)) (fun v _ => (n - (intOf v).toNat : Nat))
  case atStart => exact ⟨1, rfl, Nat.le_refl _, h1, HG2.out, HB2.out⟩
  case round =>
    clear HG2 HB2
    obtain ⟨k, rfl, hk1, hk2, HG, HB⟩ := hrel
    rcases Nat.lt_or_ge k n with hlt2 | hge
    · have hki : (k : Int) < n := by omega
      have hkl : (k : Int) ≤ n := by omega
      have hkz : ¬ k = n := by omega
      have hnk : ¬ n = k := by omega
      obtain ⟨m, hmm⟩ : ∃ m, m = Nat.min k (n - k) := ⟨_, rfl⟩
      have HMm : Hid (m = Nat.min k (n - k)) := hmm
      have hm1 : 1 ≤ m ∧ k + m ≤ n ∧ m ≤ k := by rw [hmm]; simp only [Nat.min_def]; split <;> omega
      have hwk : IntKind.i64.wrap ((k : Int) + (m : Int)) = ((k + m : Nat) : Int) := by rw [IntKind.wrap_i64]; omega
      clear hmm
      go_wp2_with fail
      refine wp_region_noPanic ?_
      refine wp_region_held_drew (S := (fun W => True)) (by kernel_rfl) trivial (fun hHeld => ?_)
      have HGd : Hid (wr.drew.heap[w.heap.size]? = some (.cells (rp n k (x : Int)).toArray 3 (0, 0))) := HG.out
      have HBd : Hid (Below w.heap.size w wr.drew) := HB.out.drew
      obtain ⟨xd, hxd⟩ : ∃ xd, xd = wr.drew := ⟨_, rfl⟩
      rw [← hxd] at HGd HBd ⊢
      clear hxd HG HB
      refine wpAnyH_take (i := 0) (v := ?_) rfl (by kernel_rfl) (by kernel_rfl) (by kernel_rfl) (fun _ _ _ h => h) (Or.inl ⟨by rfl, ?_⟩) hHeld ?_
      rotate_left
      · (intro W hSw; (try dsimp only at hSw); go_simp; all_goals (with_reducible rfl))
      simp only [List.getElem_toArray, List.getElem_cons_zero, Act.put, List.setIfInBounds_toArray, List.set_cons_zero, List.set_cons_succ]
      refine wpAnyH_take (i := 1) (v := ?_) rfl (by kernel_rfl) (by kernel_rfl) (by kernel_rfl) (fun _ _ _ h => h) (Or.inl ⟨by rfl, ?_⟩) hHeld ?_
      rotate_left
      · (intro W hSw; (try dsimp only at hSw); go_simp; all_goals (with_reducible rfl))
      simp only [List.getElem_toArray, List.getElem_cons_zero, List.getElem_cons_succ, Act.put, List.setIfInBounds_toArray, List.set_cons_zero, List.set_cons_succ]
      refine wpAnyH_take (i := 2) (v := ?_) rfl (by kernel_rfl) (by kernel_rfl) (by kernel_rfl) (fun _ _ _ h => h) (Or.inl ⟨by rfl, ?_⟩) hHeld ?_
      rotate_left
      · (intro W hSw; (try dsimp only at hSw); go_simp; all_goals (with_reducible rfl))
      simp only [List.getElem_toArray, List.getElem_cons_zero, List.getElem_cons_succ, Act.put, List.setIfInBounds_toArray, List.set_cons_zero, List.set_cons_succ]
      refine wpAnyH_take (i := 3) (v := ?_) rfl (by kernel_rfl) (by kernel_rfl) (by kernel_rfl) (fun _ _ _ h => h) (Or.inl ⟨by rfl, ?_⟩) hHeld ?_
      rotate_left
      · (intro W hSw; (try dsimp only at hSw); go_simp; all_goals (with_reducible rfl))
      simp only [List.getElem_toArray, List.getElem_cons_zero, List.getElem_cons_succ, Act.put, List.setIfInBounds_toArray, List.set_cons_zero, List.set_cons_succ]
      refine wpAnyH_take (i := 4) (v := ?_) rfl (by kernel_rfl) (by kernel_rfl) (by kernel_rfl) (fun _ _ _ h => h) (Or.inl ⟨by rfl, ?_⟩) hHeld ?_
      rotate_left
      · (intro W hSw; (try dsimp only at hSw); go_simp; all_goals (with_reducible rfl))
      simp only [List.getElem_toArray, List.getElem_cons_zero, List.getElem_cons_succ, Act.put, List.setIfInBounds_toArray, List.set_cons_zero, List.set_cons_succ]
      refine wpAnyH_take (i := 5) (v := ?_) rfl (by kernel_rfl) (by kernel_rfl) (by kernel_rfl) (fun _ _ _ h => h) (Or.inl ⟨by rfl, ?_⟩) hHeld ?_
      rotate_left
      · (intro W hSw; (try dsimp only at hSw); go_simp; all_goals (with_reducible rfl))
      simp only [List.getElem_toArray, List.getElem_cons_zero, List.getElem_cons_succ, Act.put, List.setIfInBounds_toArray, List.set_cons_zero, List.set_cons_succ]
      refine wpAnyH_take (i := 6) (v := ?_) rfl (by kernel_rfl) (by kernel_rfl) (by kernel_rfl) (fun _ _ _ h => h) (Or.inl ⟨by rfl, ?_⟩) hHeld ?_
      rotate_left
      · (intro W hSw; (try dsimp only at hSw); go_simp; all_goals (with_reducible rfl))
      simp only [List.getElem_toArray, List.getElem_cons_zero, List.getElem_cons_succ, Act.put, List.setIfInBounds_toArray, List.set_cons_zero, List.set_cons_succ]
      refine wpAnyH_ready (rs := [7]) (by kernel_rfl) (by simp) ?_
      refine AllReadyH.cons rfl (fun K hK => ?_) AllReadyH.nil
      simp only [List.getElem_toArray, List.getElem_cons_zero, List.getElem_cons_succ]
      refine step_copy_splice (o := { dst := some 45, op := .call { callee := .builtin .copy, args := #[.tmp 41, .tmp 44], argTypes := #[23, 23] }, type := 3, pos := "slices.go:528", after := #[{ on := 3, ground := .data }, { on := 6, ground := .data }], guard := none }) rfl (.tmp 41) (.tmp 44) 23 23 rfl 3 Try.underlying23 (by kernel_rfl) _ _ _ _ _ _ rfl rfl w.heap.size k (rp n k (x : Int)) 3 HGd.out (List.replicate m (.int .i64 (x : Int))) ?hn ?hpos ?hfit ?hv w.heap.size w HBd.out (Nat.le_refl _) ?_
      case hn => rw [List.length_replicate]; exact HMm.out
      case hpos =>
        intro _
        refine ⟨rfl, _, rfl, fun j v hj => ?_⟩
        have hjl := (List.getElem?_eq_some_iff.1 hj).1
        rw [List.length_replicate] at hjl
        have hv : v = .int .i64 (x : Int) := by
          rw [List.getElem?_replicate, if_pos hjl] at hj; cases hj; rfl
        have hV : Va xd w.heap.size 3 (rp n k (x : Int)).toArray := HGd.out
        rw [Addr.add_lit, Nat.zero_add, hV.cellAt j, hv]
        unfold rp
        rw [List.getElem?_toArray, List.getElem?_append_left (by simp; omega), List.getElem?_replicate, if_pos (by omega)]
      case hfit => rw [rp_length hk2, List.length_replicate]; omega
      case hv => intro v hv; simp at hv; obtain ⟨-, rfl⟩ := hv; rfl
      intro w3 hg3 hb3
      have HG3 : Hid (w3.heap[w.heap.size]? = some (.cells (rp n (k + m) (x : Int)).toArray 3 (0, 0))) := by
        have := hg3.out
        rw [rp_splice hm1.2.1] at this
        exact this
      have HB3 : Hid (Below w.heap.size w w3) := hb3
      clear hg3 hb3 HGd HBd
      simp only [List.length_replicate, Act.put, List.setIfInBounds_toArray, List.set_cons_zero, List.set_cons_succ]
      refine hK.out _ _ trivial (fun hHeld => ?_)
      clear hK K
      refine wpAnyH_take (i := 8) (v := ?_) rfl (by kernel_rfl) (by kernel_rfl) (by kernel_rfl) (fun _ _ _ h => h) (Or.inl ⟨by rfl, ?_⟩) hHeld ?_
      rotate_left
      · (intro W hSw; (try dsimp only at hSw); go_simp; all_goals (with_reducible rfl))
      simp only [List.getElem_toArray, List.getElem_cons_zero, List.getElem_cons_succ, Act.put, List.setIfInBounds_toArray, List.set_cons_zero, List.set_cons_succ]
      refine wpAnyH_take (i := 9) (v := ?_) rfl (by kernel_rfl) (by kernel_rfl) (by kernel_rfl) (fun _ _ _ h => h) (Or.inl ⟨by rfl, ?_⟩) hHeld ?_
      rotate_left
      · (intro W hSw; (try dsimp only at hSw); go_simp; all_goals (with_reducible rfl))
      simp only [List.getElem_toArray, List.getElem_cons_zero, List.getElem_cons_succ, Act.put, List.setIfInBounds_toArray, List.set_cons_zero, List.set_cons_succ]
      refine wpAnyH_done (by kernel_rfl) ?_ _
      refine NoPanic.normal ?_
      clear hHeld
      go_wp2_with fail
      exact ⟨⟨k + m, by push_cast; rfl, by omega, by omega, HG3.out, HB3.out⟩, by simp [intOf]; omega⟩
    · obtain rfl : k = n := by omega
      clear hge
      go_wp2_with fail
      go_ret
      exact ⟨rfl, rp_all HG.out, HB.out⟩
theorem nameB {w : World} {Q : World → Prop} (h : ∀ W, W = w → Q W) : Q w := h w rfl
/-- The search in breadth in memory: the steps, and the list. -/
structure Bm (n : Nat) (w wr : World) (gs : Nat) (st : Nat → Nat) (v : Value) (Q : List Nat) : Prop where
  st : Fn n wr gs st
  q : Ge elI wr w.heap.size v (ints Q)
  ap : v.ownBlock ≠ some gs
  lo : w.heap.size ≤ gs
  below : Below w.heap.size w wr
theorem Bm.put {n : Nat} {w wr : World} {gs : Nat} {st : Nat → Nat} {v : Value} {Q : List Nat} (h : Bm n w wr gs st v Q) (y m : Nat) {u : Int} (hu : u = (m : Int)) : Bm n w (wr.setCell ⟨gs, y, none⟩ (.int .i64 u)) gs (upf st y m) v Q := by
  subst hu
  exact ⟨Fn.set h.st y m, h.q.far (p := ⟨gs, y, none⟩) h.ap _, h.ap, h.lo, h.below.setCell (p := ⟨gs, y, none⟩) h.lo _⟩
theorem Bm.grow {n : Nat} {w wr w1 : World} {gs : Nat} {st : Nat → Nat} {v v' : Value} {Q Q' : List Nat} {o : Obj} (h : Bm n w wr gs st v Q) (hg : (wr.alloc o).grownBy w1 v.ownBlock) (h1 : Ge elI w1 w.heap.size v' (ints Q')) (ho : v'.ownBlock = v.ownBlock ∨ v'.ownBlock = some (wr.alloc o).heap.size) : Bm n w w1 gs st v' Q' := by
  have hgs : gs < wr.heap.size := Fv.lt h.st
  have hle := h.below.size
  refine ⟨Fv.kept h.st ((hg.block _ (by simp; omega) (fun e => h.ap e.symm)).trans (Below.heap_alloc _ _ _ hgs)), h1, ?_, h.lo, ?_⟩
  · rcases ho with e | e
    · rw [e]; exact h.ap
    · rw [e]; intro e2; have := Option.some.inj e2; simp at this; omega
  · exact (h.below.alloc hle o).trans ((Below.refl _ _).grown hg (by simp; omega) (fun b hb => by have := h.q.block b hb; omega))
set_option maxRecDepth 20000 in
set_option maxHeartbeats 8000000 in
theorem stepsTo_any (n : Nat) (hn : n ≤ 4096) (b0 : Nat) (N : Nat → List Nat) (w : World) (h : Rw n w b0 N) (hl : ∀ p, (N p).length ≤ 65536) (hN : ∀ x y, y ∈ N x → x < n ∧ y < n) (t : Nat) (ht : t < n) :
    Calls Try.prog 38 #[.int .i64 (t : Int), .slice (some ⟨b0, 0, none⟩) n n] w fun e w' => (∃ gs st, e = .returned (.slice (some ⟨gs, 0, none⟩) n n) ∧ Fn n w' gs st ∧ w.heap.size ≤ gs ∧ Stp N n t st) ∧ Below w.heap.size w w' := by
  have HTu := turned_any n hn b0 N w h hl hN
  have HR : Hid (Rw n w b0 N) := h
  have HLe : Hid (∀ p, (N p).length ≤ 65536) := hl
  have HNn : Hid (∀ x y, y ∈ N x → x < n ∧ y < n) := hN
  have hti : (t : Int) < n := by omega
  have h1 : 1 ≤ n := by omega
  clear h hl hN
  go_enter Try.func38, Try.ntmps38
  go_wp2_with (go_at_call 34; refine HTu.mono ?_; rintro e w1 ⟨f, T, rfl, hD, hTn, hTl⟩; have HRT : Hid (Rw n w1 w.heap.size T) := hD.rows; have HTn : Hid (Tn N n T) := hTn; have HTl : Hid (∀ x, (T x).length ≤ 300000000) := hTl; have HB1 : Hid (Below w.heap.size w w1) := hD.below; clear hD hTn hTl HTu)
  refine ent1 w1 _ _ (Q := fun W => Calls _ _ _ W _) ?_
  intro W2 hB2 hs2 V2
  refine (repeat_any n V2 n h1 hn).mono ?_
  rintro e w3 ⟨rfl, hF3, hB3⟩
  have HF3 : Hid (Fn n w3 W2.heap.size (fun _ => n)) := hF3
  have HB3 : Hid (Below w1.heap.size w1 w3) := step hB2 hB3
  have hsz : w1.heap.size ≤ W2.heap.size := hB2.size
  obtain ⟨gs, hgs⟩ : ∃ gs, gs = W2.heap.size := ⟨_, rfl⟩
  rw [← hgs] at HF3 ⊢
  rw [← hgs] at hsz
  clear hF3 hB3 hB2 hs2 V2 hgs
  have ct := HF3.out.cell ht
  have ft := Fv.frozen HF3.out t
  have HF4 : Hid (Fn n (w3.setCell ⟨gs, t, none⟩ (.int .i64 0)) gs (upf (fun _ => n) t 0)) := Fn.set HF3.out t 0
  have HB4 : Hid (Below w1.heap.size w1 (w3.setCell ⟨gs, t, none⟩ (.int .i64 0))) := HB3.out.setCell (p := ⟨gs, t, none⟩) hsz _
  have hg4 : gs < w3.heap.size := Fv.lt HF3.out
  go_wp2_with fail
  refine nameB (Q := fun W => Code.wp _ _ _ _ W) (fun W5 hW5 => ?_)
  have HM0 : Hid (Bm n w1 W5 gs (upf (fun _ => n) t 0) (.slice (some ⟨w3.heap.size, 0, none⟩) 1 1) [t]) := by
    have hsz3 := HB3.out.size
    have V5 : Va W5 w3.heap.size 3 #[.int .i64 (t : Int)] := by
      have := Va.new (w3.setCell ⟨gs, t, none⟩ (.int .i64 0)) 3 #[.int .i64 (t : Int)]
      rw [World.size_setCell] at this
      rw [hW5]; exact this
    refine ⟨by rw [hW5]; exact Va.old HF4.out _, Ge.of (E := elI) V5 hsz3 rfl rfl (by decide), fun e => ?_, hsz, by rw [hW5]; exact HB4.out.alloc HB4.out.size _⟩
    have e2 : some w3.heap.size = some gs := e
    have := Option.some.inj e2
    omega
  have HF0 : Hid (Bf N n t (upf (fun _ => n) t 0) [t] 0) := Bf.start ht
  clear hW5 HF4 HB4 HF3 ct ft hg4
  go_loopw [7, 8] (fun v i wz => ∃ (k : Nat) (st : Nat → Nat) (Q : List Nat), i = .int .i64 k ∧ k ≤ Q.length ∧ Hid (Bm n w1 wz gs st v Q) ∧ Hid (Bf N n t st Q k)) (fun _ i _ => (n + 1 - (intOf i).toNat : Nat))
  case atStart => exact ⟨0, _, _, rfl, by simp, HM0.out, HF0.out⟩
  case round =>
    clear HM0 HF0
    obtain ⟨k, st, Q, rfl, hk, HM, HF⟩ := hrel
    obtain ⟨av, cv, rfl, -, -, hsh⟩ := HM.out.q.shape
    have hQl : (ints Q).length = Q.length := ints_length Q
    rw [hQl] at HM ⊢
    have hQn := HF.out.few
    rcases Nat.lt_or_ge k Q.length with hlt | hge
    · have hki : (k : Int) < (Q.length : Int) := by omega
      have HQ : Hid (Li wr av Q.length (ints Q)) := by
        have h9 := HM.out.q
        rw [← hQl] at h9
        have h8 := h9.toLe.li
        rwa [hQl] at h8
      obtain ⟨bq, oq, rfl, cq⟩ := Li.node HQ.out hlt
      have hug : Q[k]? = some (Q.getD k 0) := by rw [List.getD_eq_getElem?_getD, List.getElem?_eq_getElem hlt]; rfl
      have HU : Hid (Q[k]? = some (Q.getD k 0)) := hug
      have hun := HF.out.lt _ (List.mem_of_getElem? hug)
      clear hug
      generalize Q.getD k 0 = u at *
      have hui : (u : Int) < n := by omega
      obtain ⟨ax, cx2, cx0, hLx⟩ := HRT.out.cell hun
      have HLx : Hid (Li w1 ax (T u).length (ints (T u))) := hLx
      have cx := (HM.out.below.cell (p := ⟨w.heap.size, u, none⟩) HRT.out.lt).trans cx0
      have htl := HTl.out u
      clear hLx cx0 HQ hsh
      go_wp2_with fail
      have HI0 : Hid (∀ y ∈ (T u).take 0, y ∈ Q) := fun y hy => by simp at hy
      have HM1 : Hid (∃ v, v = Value.slice (some ⟨bq, oq, none⟩) Q.length cv ∧ Bm n w1 wr gs st v Q) := ⟨_, rfl, HM.out⟩
      have HF1 : Hid (Bf N n t st Q k) := HF.out
      clear HM HF cq cx
      go_loopw [7, 38] (fun v i wz => ∃ (j : Nat) (st : Nat → Nat) (Q : List Nat), i = .int .i64 j ∧ j ≤ (T u).length ∧ Hid (Bm n w1 wz gs st v Q) ∧ Hid (Bf N n t st Q k) ∧ Hid (Q[k]? = some u) ∧ Hid (∀ y ∈ (T u).take j, y ∈ Q)) (fun _ i _ => ((T u).length - (intOf i).toNat : Nat))
      case atStart => exact (fun ⟨v, e, h⟩ => ⟨0, st, Q, rfl, Nat.zero_le _, (by rw [← e]; exact h), HF1.out, HU.out, HI0.out⟩) HM1.out
      case round =>
        clear HM1 HF1 HI0 HU hlt hk hki hQl hQn
        obtain ⟨j, st, Q, rfl, hj, HM, HF, HU, HI⟩ := hrel
        obtain ⟨av, cv, rfl, -, -, -⟩ := HM.out.q.shape
        have hQl : (ints Q).length = Q.length := ints_length Q
        rw [hQl] at HM ⊢
        have hQn := HF.out.few
        rcases Nat.lt_or_ge j (T u).length with hlt | hge
        · have hji : (j : Int) < ((T u).length : Int) := by omega
          obtain ⟨b9, o9, rfl, c9⟩ := Li.node (HLx.out.after HM.out.below) hlt
          have hyg : (T u)[j]? = some ((T u).getD j 0) := by rw [List.getD_eq_getElem?_getD, List.getElem?_eq_getElem hlt]; rfl
          have HTk : Hid ((T u).take (j + 1) = (T u).take j ++ [(T u).getD j 0]) := take_snoc 0 hlt
          obtain ⟨hyn, huy⟩ := HTn.out.mem.1 (List.mem_of_getElem? hyg)
          clear hyg
          generalize (T u).getD j 0 = y at *
          have HUy : Hid (u ∈ N y) := huy
          have hyi : (y : Int) < n := by omega
          have cy := HM.out.st.cell hyn
          by_cases hyQ : y ∈ Q
          · have hne : ¬ ((st y : Nat) : Int) = (n : Int) := by
              have := HF.out.sml hyQ; omega
            have HI2 : Hid (∀ z ∈ (T u).take (j + 1), z ∈ Q) := fun z hz => by
              rw [HTk.out] at hz
              rcases List.mem_append.1 hz with h1 | h1
              · exact HI.out z h1
              · simp only [List.mem_singleton] at h1; rw [h1]; exact hyQ
            clear hyQ huy
            generalize st y = sy at *
            go_wp2_with fail
            go_roundw
            case rel => exact ⟨j + 1, st, Q, rfl, by omega, HM.out, HF.out, HU.out, HI2.out⟩
            case measure => simp [intOf]; omega
          · have hyN := HF.out.out y hyQ
            rw [hyN] at cy
            have hkl := (List.getElem?_eq_some_iff.1 HU.out).1
            have hkQ : (k : Int) < (Q.length : Int) := by omega
            have HQ : Hid (Li wr av Q.length (ints Q)) := by
              have h9 := HM.out.q
              rw [← hQl] at h9
              have h8 := h9.toLe.li
              rwa [hQl] at h8
            obtain ⟨bq2, oq2, rfl, cq⟩ := Li.node HQ.out hkl
            have hQu : Q.getD k 0 = u := by rw [List.getD_eq_getElem?_getD, HU.out]; rfl
            rw [hQu] at cq
            have cu := HM.out.st.cell hun
            have fy := Fv.frozen HM.out.st y
            have hsu := HF.out.sml (List.mem_of_getElem? HU.out)
            have hw1 : IntKind.i64.wrap (((st u : Nat) : Int) + 1) = ((st u : Nat) : Int) + 1 := by rw [IntKind.wrap_i64]; omega
            have HF2 : Hid (Bf N n t (upf st y (st u + 1)) (Q ++ [y]) k) := HF.out.put HU.out HUy.out hyn hyQ
            have HM2 : Hid (Bm n w1 (wr.setCell ⟨gs, y, none⟩ (.int .i64 (((st u : Nat) : Int) + 1))) gs (upf st y (st u + 1)) (.slice (some ⟨bq2, oq2, none⟩) Q.length cv) Q) := HM.out.put y (st u + 1) (by omega)
            have HU2 : Hid ((Q ++ [y])[k]? = some u) := by show _ = _; rw [List.getElem?_append_left hkl]; exact HU.out
            have HI2 : Hid (∀ z ∈ (T u).take (j + 1), z ∈ Q ++ [y]) := fun z hz => by
              rw [HTk.out] at hz
              rcases List.mem_append.1 hz with h1 | h1
              · exact List.mem_append_left _ (HI.out z h1)
              · exact List.mem_append_right _ h1
            have HLn : Hid ((ints Q).length + 1 ≤ 1000000000000) := by show _ ≤ _; rw [hQl]; omega
            have HZ : Hid (w1.heap.size ≤ (wr.setCell ⟨gs, y, none⟩ (.int .i64 (((st u : Nat) : Int) + 1))).heap.size) := HM2.out.below.size
            have HN : Hid (Le elI ((wr.setCell ⟨gs, y, none⟩ (.int .i64 (((st u : Nat) : Int) + 1))).alloc (.cells #[.int .i64 (y : Int)] 3)) (some ⟨wr.heap.size, 0, none⟩) 1 [(y : Int)]) := by
              have := Va.new (wr.setCell ⟨gs, y, none⟩ (.int .i64 (((st u : Nat) : Int) + 1))) 3 #[.int .i64 (y : Int)]
              rw [World.size_setCell] at this
              exact Le.one this rfl
            have HG : Hid (Ge elI (wr.setCell ⟨gs, y, none⟩ (.int .i64 (((st u : Nat) : Int) + 1))) w1.heap.size (.slice (some ⟨bq2, oq2, none⟩) Q.length cv) (ints Q)) := HM2.out.q
            have HQl : Hid (Q.length = (ints Q).length) := hQl.symm
            clear hyQ huy hyN HQ hQu hkl hQl
            go_wp2_with (at_builtin; refine wpList_appE rfl _ _ _ rfl elI rfl w1.heap.size _ (ints Q) rfl (HG.out.al _) wr.heap.size 0 1 1 [(y : Int)] rfl HN.out HLn.out (by have := HZ.out; simp at this ⊢; omega) ?_; intro v5 w5 hg5 hgr5 hob5; have HM5 : Hid (Bm n w1 w5 gs (upf st y (st u + 1)) v5 (Q ++ [y])) := HM2.out.grow hgr5 (by rw [ints_snoc]; exact hg5) hob5; obtain ⟨a5, k5, e5, -, -, -⟩ := hg5.shape; rw [List.length_append, ← HQl.out] at e5; replace e5 : v5 = .slice a5 (Q.length + 1) k5 := e5; subst e5; clear hg5 hgr5 hob5)
            go_roundw
            case rel => exact ⟨j + 1, _, Q ++ [y], rfl, by omega, HM5.out, HF2.out, HU2.out, HI2.out⟩
            case measure => simp [intOf]; omega
        · obtain rfl : j = (T u).length := by omega
          have HF2 : Hid (Bf N n t st Q (k + 1)) := HF.out.next HU.out (fun y hy => HI.out y (by rw [List.take_length]; exact HTn.out.mem.2 ⟨(HNn.out y u hy).1, hy⟩))
          have hkl := (List.getElem?_eq_some_iff.1 HU.out).1
          clear hge hj
          go_wp2_with fail
          go_roundw
          case rel => exact ⟨k + 1, st, Q, rfl, by omega, HM.out, HF2.out⟩
          case measure => simp [intOf]; omega
    · obtain rfl : k = Q.length := by omega
      clear hge hk
      go_wp2_with fail
      go_ret
      exact ⟨⟨gs, st, rfl, HM.out.st, Nat.le_trans HB1.out.size HM.out.lo, HF.out.stp⟩, HB1.out.trans (HM.out.below.mono HB1.out.size)⟩
end Go.Proofs.Ytonhooaboieapaa
