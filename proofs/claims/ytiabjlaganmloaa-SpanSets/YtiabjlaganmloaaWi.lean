/-
  The pieces of a set that lie in a span, as an iterator.
-/
import Derived.Test.YtiabjlaganmloaaSpQ
import Derived.Test.YtiabjlaganmloaaUn
namespace Go.Proofs.Ytiabjlaganmloaa
open Go.RowKit Go.Shelf
set_option linter.unusedVariables false
attribute [local go_sem] Oper.semAt_some

theorem pcs_get (x : Pr) : ∀ (l : List Pr) (k : Nat), k < (pcs x l).length → k < l.length ∧ mtB x (l.getD k (0, 0)) = true ∧ (pcs x l).getD k (0, 0) = mt x (l.getD k (0, 0))
  | [], k, h => by simp [pcs] at h
  | y :: l, k, h => by
    unfold pcs at h ⊢
    by_cases hm : mtB x y = true
    · rw [if_pos hm] at h ⊢
      cases k with
      | zero => exact ⟨by simp, hm, rfl⟩
      | succ k =>
        have := pcs_get x l k (by simpa using h)
        simpa using this
    · rw [if_neg hm] at h; simp at h
theorem pcs_stop (x : Pr) : ∀ (l : List Pr), (pcs x l).length < l.length → mtB x (l.getD (pcs x l).length (0, 0)) = false
  | [], h => by simp at h
  | y :: l, h => by
    unfold pcs at h ⊢
    by_cases hm : mtB x y = true
    · rw [if_pos hm] at h ⊢
      have := pcs_stop x l (by simpa using h)
      simpa using this
    · rw [if_neg hm]
      simpa using hm
theorem mtP_of {x y : Pr} (h : mtB x y = true) : mtP x y = mt x y := by unfold mtP; rw [h]; rfl
/-- What a round keeps: what lay below n₀, and the span's box. -/
def Kw (n₀ Bx : Nat) (W W' : World) : Prop := Below n₀ W W' ∧ ∀ cs, Va W Bx 24 cs → Va W' Bx 24 cs
theorem Kw.refl (n₀ Bx : Nat) (W : World) : Kw n₀ Bx W W := ⟨Below.refl _ _, fun _ h => h⟩
theorem kw_t {n₀ Bx : Nat} {A B C : World} (h : Kw n₀ Bx A B) (k : Kw n₀ Bx B C) : Kw n₀ Bx A C := ⟨h.1.trans k.1, fun v x => k.2 v (h.2 v x)⟩
theorem kw_b {n₀ Bx : Nat} {w : World} (hn : n₀ ≤ w.heap.size) (W : World) (l : Nat) (o o' : Obj) (hl : w.heap.size ≤ l) (h : W.heap[l]? = some o) (hc : o.isCells = false) (hw : o.isWalk = false) : Kw n₀ Bx W (W.putObj l o') :=
  ⟨belowK_b hn W l o o' hl h hc hw, fun v x => x.own (grownBy_putObj' W l o') (fun r e => by cases e; exact ⟨_, h, hc⟩)⟩
theorem kw_below {n₀ Bx : Nat} {W W' : World} (hn : n₀ ≤ W.heap.size) (h : Below W.heap.size W W') : Kw n₀ Bx W W' := ⟨h.mono hn, fun cs v => v.after h⟩

theorem Ls.dropN {w : World} {a : Option Addr} {len : Nat} {ps : List Pr} (h : Ls w a len ps) {r : Nat} (hr : r ≤ len) : Ls w (Option.map (fun x => x.add (r * 2)) a) (len - r) (ps.drop r) := by
  refine ⟨by rw [List.length_drop, h.1], fun h0 => ?_⟩
  obtain ⟨b, off, rfl, hc⟩ := h.2 (by omega)
  refine ⟨b, off + r * 2, ?_, fun i hi => ?_⟩
  · simp only [Option.map_some, Option.some.injEq]
    exact Go.WideShapes.add_plain _ _ _
  · have h1 := hc (r + i) (by omega)
    have e : (ps.drop r).getD i (0, 0) = ps.getD (r + i) (0, 0) := by rw [List.getD_eq_getElem?_getD, List.getElem?_drop, ← List.getD_eq_getElem?_getD]
    rw [e, show off + r * 2 + i * 2 = off + (r + i) * 2 by omega]
    exact h1
set_option maxRecDepth 100000 in
set_option maxHeartbeats 4000000 in
theorem within1_in (n : Nat) (hn : 1 ≤ n) (l Bs Bx n₀ ps : Nat) (x0 x1 : Int) (ys : List Pr) (a : Option Addr) (cap : Nat) (hfy : Few ys) (hlen : ys.length ≤ 1000000) (hcap : ys.length ≤ cap) (han : a = none → cap = 0) (hlow : lowA n₀ a ys.length) (J Jx : List Nat → World → Prop)
    (hJb : ∀ s W W', J s W → Below W.heap.size W W' → J s W')
    (hY : ∀ pre (x : Nat) W, J pre W → pre.length < (wth (x0, x1) ys).length → YieldAt Fence.wide (n - 1) Try.prog l #[sv (wth (x0, x1) ys) x] W fun e W' =>
      (e = .returned (.bool true) ∧ J (pre ++ [x]) W' ∧ Kw n₀ Bx W W') ∨ (e = .returned (.bool false) ∧ Jx (pre ++ [x]) W'))
    (W : World) (hn₀ : n₀ ≤ W.heap.size) (hBs : W.cell? ⟨Bs, 0, none⟩ = some (.pointer (some ⟨ps, 0, none⟩))) (hBx : Va W Bx 24 #[.int .i64 x0, .int .i64 x1]) (hps : Va W ps 94 #[.slice a ys.length cap, .bool true]) (hc : Ls W a ys.length ys) (h0 : J [] W) :
    CallsIn Fence.wide n Try.prog 77 #[.func (.yield l) #[] #[], .pointer (some ⟨Bs, 0, none⟩), .pointer (some ⟨Bx, 0, none⟩)] W fun e W' => (∃ v, e = .returned v) ∧
      ((∃ zs, zs = List.range (wth (x0, x1) ys).length ∧ J zs W') ∨ (∃ pre, (∃ k, k ≤ (wth (x0, x1) ys).length ∧ pre = List.range k) ∧ Jx pre W')) := by
  have q0 := hBx.c0
  have lx := list_any ps a ys.length cap true W hps
  have rx := reaching_any a ys.length cap ys x0 W hfy hc hlen
  refine callsIn_of_wp Try.func77 rfl trivial ?_ rfl
  simp only [Try.ntmps77, List.size_toArray, List.length_cons, List.length_nil, Nat.reduceAdd, Nat.reduceSub, Array.replicate_succ, Array.replicate_zero, List.push_toArray, List.append_toArray, List.nil_append, List.cons_append]
  have HY : Hid _ := hY
  have HJ : Hid _ := hJb
  have HRK : Hid (∀ k, Rc ys x0 k → k = rk ys x0) := fun k hk => rc_unique hk (rk_rc hfy x0)
  clear hY hJb
  have hw : wth (x0, x1) ys = pcs (x0, x1) (ys.drop (rk ys x0)) := rfl
  rw [hw]
  have HYW : Hid (∀ pre (x : Nat) W, J pre W → pre.length < (pcs (x0, x1) (ys.drop (rk ys x0))).length → YieldAt Fence.wide (n - 1) Try.prog l #[sv (pcs (x0, x1) (ys.drop (rk ys x0))) x] W fun e W' =>
      (e = .returned (.bool true) ∧ J (pre ++ [x]) W' ∧ Kw n₀ Bx W W') ∨ (e = .returned (.bool false) ∧ Jx (pre ++ [x]) W')) := by rw [← hw]; exact HY.out
  have HPL : Hid ((pcs (x0, x1) (ys.drop (rk ys x0))).length ≤ (ys.drop (rk ys x0)).length) := pcs_length _ _
  have HPG : Hid (∀ k, k < (pcs (x0, x1) (ys.drop (rk ys x0))).length → _) := fun k hk => pcs_get (x0, x1) (ys.drop (rk ys x0)) k hk
  have HPS : Hid _ := pcs_stop (x0, x1) (ys.drop (rk ys x0))
  have HDL : Hid ((ys.drop (rk ys x0)).length = ys.length - rk ys x0) := List.length_drop
  clear hw HY
  generalize hrr : rk ys x0 = R at *
  generalize hL : ys.drop R = L at *
  generalize hps' : pcs (x0, x1) L = Q at *
  have HLD : Hid (R ≤ ys.length → ∀ W', Ls W' a ys.length ys → Ls W' (Option.map (fun x => x.add (R * 2)) a) (ys.length - R) L) := fun hR W' h => by rw [← hL]; exact h.dropN hR
  clear hps' hL hrr
  by_cases hcr : cap = R
  · subst hcr
    gi_wp2_with (first
      | (refine ⟨trivial, ?_⟩; gi_at_call 52; refine (callsIn_wide.2 lx).mono ?_; rintro e w1 ⟨rfl, hw1⟩; rw [hw1]; clear hw1 w1)
      | (refine ⟨trivial, ?_⟩; gi_at_call 53; refine (callsIn_wide.2 rx).mono ?_; rintro e w2 ⟨r, rfl, hr, hb2⟩; have hre : r = cap := HRK.out r hr.out; rw [hre]; rw [hre] at hr; have hrl := hr.out.1; clear hr hre))
    have hel : ys.length = cap := by omega
    gi_loopw [18] (fun i wr => i = .int .i64 0 ∧ wr = w2) (fun _ _ => 0)
    case atStart => exact ⟨rfl, rfl⟩
    case round =>
      obtain ⟨rfl, rfl⟩ := hrel
      have hz : ¬ ((0 : Int) < ((ys.length - cap : Nat) : Int)) := by omega
      have hQ : Q.length = 0 := by have := HPL.out; have := HDL.out; omega
      gi_wp2
      go_end0
      exact ⟨⟨_, rfl⟩, .inl (HJ.out _ _ _ h0 hb2)⟩
  · gi_wp2_with (first
      | (refine ⟨trivial, ?_⟩; gi_at_call 52; refine (callsIn_wide.2 lx).mono ?_; rintro e w1 ⟨rfl, hw1⟩; rw [hw1]; clear hw1 w1)
      | (refine ⟨trivial, ?_⟩; gi_at_call 53; refine (callsIn_wide.2 rx).mono ?_; rintro e w2 ⟨r, rfl, hr, hb2⟩; have hre : r = R := HRK.out r hr.out; rw [hre]; rw [hre] at hr; have hrl := hr.out.1; clear hr hre))
    have HLS : Hid (Ls w2 (Option.map (fun x => x.add (R * 2)) a) (ys.length - R) L) := HLD.out hrl w2 (hc.after hb2)
    have hlL := HDL.out
    have h02 := HJ.out _ _ _ h0 hb2
    have V2 := hBx.after hb2
    have hn2 : n₀ ≤ w2.heap.size := Nat.le_trans hn₀ hb2.size
    have hlow2 : lowA n₀ (Option.map (fun x => x.add (R * 2)) a) (ys.length - R) := fun h0 b off e => by
      cases a with
      | none => cases e
      | some ad =>
        obtain ⟨b', off', e', -⟩ := hc.2 (by omega)
        cases e'
        have e2 : b = b' := by simpa [Go.WideShapes.add_plain] using (congrArg (fun o : Option Addr => o.map Addr.block) e).symm
        rw [e2]
        exact hlow (by omega) b' off' rfl
    clear hBs hBx hps hc h0 q0 lx rx HRK HLD hb2 han hcr hlow
    generalize Option.map (fun x => x.add (R * 2)) a = a2 at *
    generalize hNL : ys.length - R = N at *
    have hN6 : N ≤ 1000000 := by omega
    clear hNL
    gi_loopw [18] (fun i wr => ∃ k : Nat, k ≤ Q.length ∧ i = .int .i64 (k : Int) ∧ J (List.range k) wr ∧ Kw n₀ Bx w2 wr ∧ n₀ ≤ wr.heap.size) (fun i _ => N - (intOf i).toNat)
    case atStart => exact ⟨0, Nat.zero_le _, by go_num, by simpa using h02, Kw.refl _ _ _, hn2⟩
    case round =>
      obtain ⟨k, hk, rfl, hJs, hKw, hnr⟩ := hrel
      by_cases hlt : k < N
      · have hkz : (k : Int) < N := by omega
        obtain ⟨b, off, rfl, hcc⟩ := (HLS.out.below hKw.1 hlow2).2 (by omega)
        have c0 := (hcc k hlt).1
        have c1 := (hcc k hlt).2
        have V3 := hKw.2 _ V2
        have u0 := V3.c0
        have u1 := V3.c1
        have lu := V3.lt
        have mm := fun W => meet_any (x0, x1) (L.getD k (0, 0)) W
        dsimp only at mm
        have HKK : Hid (Kw n₀ Bx w2 wr) := hKw
        clear hcc hKw
        by_cases hkQ : k < Q.length
        · obtain ⟨g1, g2, g3⟩ := HPG.out k hkQ
          rw [g2, mtP_of g2, ← g3] at mm
          have HY1 : Hid (∀ W, J (List.range k) W → _) := fun W hJ => HYW.out (List.range k) k W hJ (by rw [List.length_range]; exact hkQ)
          unfold sv at HY1
          clear g1 g2 g3
          generalize (L.getD k (0, 0)).1 = y0 at *
          generalize (L.getD k (0, 0)).2 = y1 at *
          generalize (Q.getD k (0, 0)).1 = z0 at *
          generalize (Q.getD k (0, 0)).2 = z1 at *
          gi_wp2_with (refine ⟨trivial, ?_⟩; gi_at_call 9; refine (callsIn_wide.2 (mm _)).mono ?_; rintro e w3 ⟨rfl, hb3⟩; have hb4 : Below wr.heap.size wr (w3.alloc (.cells #[.int .i64 z0, .int .i64 z1] 24)) := (((Below.refl _ _).alloc (Nat.le_refl _) _).trans (hb3.mono (by simp))).alloc (by have := hb3.size; simp at this; omega) _; obtain ⟨fn, tmps, assign, body, hy, hR⟩ := HY1.out _ (HJ.out _ _ _ hJs hb4))
          refine hR.mono ?_
          rintro e W3 (⟨rfl, hJ3, hk3⟩ | ⟨rfl, hJx3⟩)
          · have hkw : Kw n₀ Bx wr W3 := kw_t (kw_below hnr hb4) hk3
            gi_wp2
            go_roundw
            case rel => exact ⟨k + 1, by omega, by go_num, by rw [List.range_succ]; exact hJ3, kw_t HKK.out hkw, Nat.le_trans hnr hkw.1.size⟩
            case measure => simp [intOf]; omega
          · gi_wp2
            refine bodyPost_ret (results_none rfl _ _ _) rfl ?_
            exact ⟨⟨_, rfl⟩, .inr ⟨_, ⟨k + 1, by omega, by rw [List.range_succ]⟩, hJx3⟩⟩
        · have hQ : Q.length = k := by omega
          have g2 : mtB (x0, x1) (L.getD k (0, 0)) = false := by have := HPS.out (by omega); rwa [hQ] at this
          rw [g2] at mm
          have HQ : Hid (Q.length = k) := hQ
          clear g2 hQ hkQ
          generalize (L.getD k (0, 0)).1 = y0 at *
          generalize (L.getD k (0, 0)).2 = y1 at *
          generalize (mtP (x0, x1) (L.getD k (0, 0))).1 = z0 at *
          generalize (mtP (x0, x1) (L.getD k (0, 0))).2 = z1 at *
          gi_wp2_with (refine ⟨trivial, ?_⟩; gi_at_call 9; refine (callsIn_wide.2 (mm _)).mono ?_; rintro e w3 ⟨rfl, hb3⟩)
          have hb4 : Below wr.heap.size wr (w3.alloc (.cells #[.int .i64 z0, .int .i64 z1] 24)) := (((Below.refl _ _).alloc (Nat.le_refl _) _).trans (hb3.mono (by simp))).alloc (by have := hb3.size; simp at this; omega) _
          refine ⟨(fun f e => by cases e), ?_⟩
          gi_wp2
          refine bodyPost_ret (results_none rfl _ _ _) rfl ?_
          refine ⟨⟨_, rfl⟩, .inl ?_⟩
          rw [HQ.out]
          exact ⟨_, rfl, HJ.out _ _ _ hJs hb4⟩
      · have hkz : ¬ (k : Int) < N := by omega
        have hQ : Q.length = k := by have := HPL.out; omega
        gi_wp2
        go_end0
        exact ⟨⟨_, rfl⟩, .inl hJs⟩
/-- The pieces of a set that lie in a span: what within hands back gives them. -/
theorem within_stops (n : Nat) (hn : 1 ≤ n) (Bs Bx n₀ ps : Nat) (x0 x1 : Int) (ys : List Pr) (w : World) (hn₀ : n₀ ≤ w.heap.size) (hp0 : ps < n₀) (hBs : Va w Bs 34 #[.pointer (some ⟨ps, 0, none⟩)]) (hBx : Va w Bx 24 #[.int .i64 x0, .int .i64 x1]) (a : Option Addr) (cap : Nat) (hps : Va w ps 94 #[.slice a ys.length cap, .bool true]) (hc : Ls w a ys.length ys) (hfy : Few ys) (hlen : ys.length ≤ 1000000) (hcap : ys.length ≤ cap) (han : a = none → cap = 0) (hlow : lowA n₀ a ys.length) :
    SeqStopsK Fence.wide n Try.prog 77 #[.pointer (some ⟨Bs, 0, none⟩), .pointer (some ⟨Bx, 0, none⟩)] (fun x : Nat => #[sv (wth (x0, x1) ys) x]) (Kw n₀ Bx) (fun zs => zs = List.range (wth (x0, x1) ys).length) (fun pre => ∃ k, k ≤ (wth (x0, x1) ys).length ∧ pre = List.range k) (wth (x0, x1) ys).length w := fun l J Jx W hW hJ _ hY h0 =>
  within1_in n hn l Bs Bx n₀ ps x0 x1 ys a cap hfy hlen hcap han hlow J Jx (fun s W W' h hb => hJ s W _ none h ⟨hb.os, hb.tape, hb.output, hb.size, fun k hk _ => hb.block k hk⟩ (fun r e => by cases e)) (fun pre x W h hp => hY pre x W h hp) W (Nat.le_trans hn₀ hW.size) (hBs.after hW).cell (hBx.after hW) (hps.after hW) (hc.after hW) h0
theorem within_any (p : Nat) (x0 x1 : Int) (w : World) :
    Calls Try.prog 55 #[.pointer (some ⟨p, 0, none⟩), .agg #[.int .i64 x0, .int .i64 x1]] w fun e w' => e = .returned (.func (.func 77) #[] #[.pointer (some ⟨w.heap.size, 0, none⟩), .pointer (some ⟨w.heap.size + 1, 0, none⟩)]) ∧ w' = (w.alloc (.cells #[.pointer (some ⟨p, 0, none⟩)] 34)).alloc (.cells #[.int .i64 x0, .int .i64 x1] 24) := by
  go_enter Try.func55, Try.ntmps55
  go_wp2_with fail
  go_ret
  exact ⟨rfl, rfl⟩
end Go.Proofs.Ytiabjlaganmloaa
