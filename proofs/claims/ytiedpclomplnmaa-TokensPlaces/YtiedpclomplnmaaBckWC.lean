/-
  tokens: the walk of TokensBack.
-/
import Derived.Test.YtiedpclomplnmaaTc5
import Derived.Test.YtiedpclomplnmaaTc6
namespace Go.Proofs.Ytiedpclomplnmaa
open Go.RowKit Go.Shelf
set_option linter.unusedVariables false

theorem nT_cut : ∀ (f : Nat) {s : List UInt8} {l c : Nat} {ts : List Tk}, s.length ≤ f → cu s l c = .ok ts → nT ts ≤ 2 * s.length + 1 := by
  intro f
  induction f with
  | zero =>
    intro s l c ts h e
    obtain rfl : s = [] := List.length_eq_zero_iff.1 (by omega)
    rw [cu_nil] at e; cases e; simp [nT]
  | succ f ih =>
    intro s l c ts h e
    cases s with
    | nil => rw [cu_nil] at e; cases e; simp [nT]
    | cons b t =>
      simp only [List.length_cons] at h ⊢
      rw [cu_cons] at e
      split at e
      · have := ih (by omega) e; omega
      · split at e
        · have := ih (by omega) e; omega
        · split at e
          · have := ih (by simp; omega) e
            simp only [List.length_drop] at this; omega
          · split at e
            · cases e
            · rename_i hb
              have hpos := bad_pos hb
              have hle := lx_le (b :: t)
              cases hr : cu ((b :: t).drop (lx (b :: t)).2) l (c + (lx (b :: t)).2) with
              | no x y => rw [hr] at e; simp [Cr.pre] at e
              | ok us =>
                rw [hr] at e
                simp only [Cr.pre, List.singleton_append, Cr.ok.injEq] at e
                subst e
                simp only [List.length_cons] at hle
                have := ih (by simp only [List.length_drop, List.length_cons]; omega) hr
                simp only [List.length_drop, List.length_cons] at this
                have e2 : nT (⟨(lx (b :: t)).1, (b :: t).take (lx (b :: t)).2, l, c⟩ :: us) = ((b :: t).take (lx (b :: t)).2).length + 1 + nT us := by simp [nT]
                rw [e2, List.length_take, List.length_cons]
                omega
theorem cut_ok (s : List UInt8) (ts : List Tk) (w : World) (h : s.length ≤ 65536) (hT : cu s 1 1 = .ok ts) : Calls Try.prog 14 #[sv s] w fun e w' => ∃ g cap, e = .returned (.tuple #[.slice (some ⟨g, 0, none⟩) ts.length cap, .agg #[.int .i64 0, .int .i64 0, .int .i64 0]]) ∧ Gt w' w.heap.size (.slice (some ⟨g, 0, none⟩) ts.length cap) ts ∧ Below w.heap.size w w' := by
  have hne := ok_ne _ (Nat.le_refl _) hT
  refine (cut_any s w h).mono ?_
  rintro e w' ⟨hb, ⟨ts', v, hT', rfl, hg⟩ | ⟨l', c', hT', -⟩⟩
  · rw [hT] at hT'; cases hT'
    obtain ⟨a, cap, rfl, -, -, ⟨-, h0, -⟩ | ⟨g, rfl⟩⟩ := hg.shape
    · exact absurd h0 hne
    · exact ⟨g, cap, rfl, hg, hb⟩
  · rw [hT] at hT'; cases hT'
/-- What Cut answers, told by what the text is. -/
theorem cut_cases (s : List UInt8) (w : World) : (Calls Try.prog 14 #[sv s] w fun e w' => ∃ x y z : Int, x ≠ 0 ∧ e = .returned (.tuple #[.slice none 0 0, .agg #[.int .i64 x, .int .i64 y, .int .i64 z]]) ∧ Below w.heap.size w w') ∨
    (∃ ts, ts ≠ [] ∧ nT ts ≤ 200000 ∧ s.length ≤ 65536 ∧ cu s 1 1 = .ok ts ∧ Calls Try.prog 14 #[sv s] w fun e w' => ∃ g cap, e = .returned (.tuple #[.slice (some ⟨g, 0, none⟩) ts.length cap, .agg #[.int .i64 0, .int .i64 0, .int .i64 0]]) ∧ Gt w' w.heap.size (.slice (some ⟨g, 0, none⟩) ts.length cap) ts ∧ Below w.heap.size w w') := by
  rcases Nat.lt_or_ge 65536 s.length with h | h
  · left
    refine (cut_long s w h).mono ?_
    rintro e w' ⟨rfl, hb⟩
    exact ⟨3, 1, 1, by omega, rfl, hb⟩
  · cases hT : cu s 1 1 with
    | no l c =>
      left
      refine (cut_any s w h).mono ?_
      rintro e w' ⟨hb, ⟨ts, v, hT', -, -⟩ | ⟨l', c', hT', rfl⟩⟩
      · rw [hT] at hT'; cases hT'
      · exact ⟨120, l', c', by omega, rfl, hb⟩
    | ok ts =>
      right
      have hne := ok_ne _ (Nat.le_refl _) hT
      have hnt := nT_cut _ (Nat.le_refl _) hT
      exact ⟨ts, hne, by omega, h, rfl, cut_ok s ts w h hT⟩
theorem len_nT (ts : List Tk) : ts.length ≤ nT ts := by
  induction ts with
  | nil => exact Nat.zero_le _
  | cons t ts ih => simp [nT] at ih ⊢; omega
theorem set3_name (w : World) (b : Nat) (x y z : Value) {Q : World → Prop} (h : ∀ W, (∀ k, k ≠ b → W.heap[k]? = w.heap[k]?) → (∀ n, n ≤ b → Below n w W) → Q W) : Q (((w.setCell ⟨b, 0, none⟩ x).setCell ⟨b, 1, none⟩ y).setCell ⟨b, 2, none⟩ z) := by
  refine h _ (fun k hk => ?_) (fun n hn => (((Below.refl _ _).setCell (p := ⟨b, 0, none⟩) hn _).setCell (p := ⟨b, 1, none⟩) hn _).setCell (p := ⟨b, 2, none⟩) hn _)
  rw [heap_setCell_other _ _ k _ (by show k ≠ b; exact hk), heap_setCell_other _ _ k _ (by show k ≠ b; exact hk), heap_setCell_other _ _ k _ (by show k ≠ b; exact hk)]
theorem Gt.cellsA {w : World} {B g n cap : Nat} {ps : List Tk} (h : Gt w B (.slice (some ⟨g, 0, none⟩) n cap) ps) (i : Nat) (hi : i < ps.length) : w.cell? ⟨g, i * 4, none⟩ = some (.int .i64 (ps.getD i tk0).kd) ∧ w.cell? ⟨g, i * 4 + 1, none⟩ = some (sv (ps.getD i tk0).tx) ∧ w.cell? ⟨g, i * 4 + 2, none⟩ = some (.int .i64 (ps.getD i tk0).ln) ∧ w.cell? ⟨g, i * 4 + 3, none⟩ = some (.int .i64 (ps.getD i tk0).co) :=
  ⟨(h.cells i hi 0 (by omega)).1, (h.cells i hi 1 (by omega)).1, (h.cells i hi 2 (by omega)).1, (h.cells i hi 3 (by omega)).1⟩
set_option maxHeartbeats 2000000 in
set_option maxRecDepth 20000 in
theorem tback_walk (s : List UInt8) (w : World) : Calls Try.prog 5 #[sv s] w fun e w' => e = .returned (.bool true) ∧ Below w.heap.size w w' := by
  go_enter Try.func5, Try.ntmps5
  go_wp2_with fail
  refine (awake_any w).mono ?_
  rintro e w1 ⟨rfl, hb1⟩
  have HB1 : Hid (Below w.heap.size w w1) := hb1
  clear hb1
  go_wp2_with fail
  rcases cut_cases s w1 with hc | ⟨ts, hne, hnt, hsl, hcu, hc⟩
  · refine hc.mono ?_
    rintro e w2 ⟨x, y, z, hx, rfl, hb2⟩
    have HB2 : Hid (Below w.heap.size w w2) := step HB1.out hb2
    have hxb : (x == 0) = false := by simpa using hx
    clear hc hb2 HB1
    go_wp2_with fail
    go_ret
    exact ⟨rfl, HB2.out.alloc HB2.out.size _⟩
  · refine hc.mono ?_
    rintro e w2 ⟨g, cap, rfl, hg2, hb2⟩
    have HG2 : Hid (Gt w2 w1.heap.size (.slice (some ⟨g, 0, none⟩) ts.length cap) ts) := hg2
    have HB2 : Hid (Below w.heap.size w w2) := step HB1.out hb2
    have HC : Hid (cu s 1 1 = .ok ts ∧ s.length ≤ 65536 ∧ ts ≠ [] ∧ nT ts ≤ 1000000) := ⟨hcu, hsl, hne, by omega⟩
    clear hc hg2 hb2 HB1 hcu hsl hne hnt
    go_wp2_with fail
    refine ent1 w2 _ _ (Q := fun W => Calls _ _ _ W _) ?_
    intro W2 hB2 hs2 V2
    have HGL : Hid (g < w2.heap.size) := HG2.out.lt g rfl
    have HWL : Hid (w.heap.size ≤ w2.heap.size) := HB2.out.size
    have HG3 : Hid (Gt W2 w1.heap.size (.slice (some ⟨g, 0, none⟩) ts.length cap) ts) := HG2.out.after hB2
    have HV2 : Hid (Va W2 w2.heap.size 29 #[.int .i64 0, .int .i64 0, .int .i64 0]) := V2
    have HB3 : Hid (Below w.heap.size w W2) := step HB2.out hB2
    clear hB2 hs2 V2 HG2 HB2
    refine (joined_any w1.heap.size g ts.length cap ts W2 HG3.out HC.out.2.2.1 HC.out.2.2.2).mono ?_
    rintro e w3 ⟨rfl, hb3⟩
    have HG4 : Hid (Gt w3 w1.heap.size (.slice (some ⟨g, 0, none⟩) ts.length cap) ts) := HG3.out.after hb3
    have HV3 : Hid (Va w3 w2.heap.size 29 #[.int .i64 0, .int .i64 0, .int .i64 0]) := HV2.out.after hb3
    have HB4 : Hid (Below w.heap.size w w3) := step HB3.out hb3
    clear hb3 HG3 HV2 HB3
    obtain ⟨us, hus, hal⟩ := back _ 1 (Nat.le_refl _) HC.out.1
    have hjl := jn_len ts
    have HJ : Hid ((jn ts).length ≤ 1000000) := Nat.le_trans hjl HC.out.2.2.2
    clear hjl
    generalize jn ts = J at *
    rcases Nat.lt_or_ge 65536 J.length with hJ | hJ
    · have hJi : (65536 : Int) < J.length := by omega
      go_wp2_with fail
      go_ret
      exact ⟨rfl, HB4.out⟩
    · have hJi : (J.length : Int) ≤ 65536 := by omega
      go_wp2_with fail
      refine (cut_ok J us w3 hJ hus).mono ?_
      rintro e w4 ⟨g5, cap5, rfl, hg5, hb5⟩
      have hul := hal.length
      have HA : Hid (Alike 1 ts us) := hal
      have HG5 : Hid (Gt w4 w3.heap.size (.slice (some ⟨g5, 0, none⟩) us.length cap5) us) := hg5
      have HG6 : Hid (Gt w4 w1.heap.size (.slice (some ⟨g, 0, none⟩) ts.length cap) ts) := HG4.out.after hb5
      have V4 := HV3.out.after hb5
      have HV4 : Hid (Va w4 w2.heap.size 29 #[.int .i64 0, .int .i64 0, .int .i64 0]) := V4
      have HB5 : Hid (Below w.heap.size w w4) := step HB4.out hb5
      have HZ : Hid (w2.heap.size < g5) := by have h1 := hg5.block g5 rfl; have h2 := HV3.out.lt; show _ < _; omega
      have f0 := V4.frozen 0
      have f1 := V4.frozen 1
      have f2 := V4.frozen 2
      have c0 : w4.cell? ⟨w2.heap.size, 0, none⟩ = some (.int .i64 0) := V4.cellAt 0
      have c1 : w4.cell? ⟨w2.heap.size, 1, none⟩ = some (.int .i64 0) := V4.cellAt 1
      have c2 : w4.cell? ⟨w2.heap.size, 2, none⟩ = some (.int .i64 0) := V4.cellAt 2
      have hlt4 := V4.lt
      rw [hul] at HG5
      have hul2 : Hid (us.length = ts.length) := hul
      clear hg5 hb5 HG4 HV3 HB4 hal V4 hus
      rw [hul]
      clear hul
      go_wp2_with fail
      refine set3_name w4 w2.heap.size _ _ _ (Q := fun W => Code.wp _ _ _ _ W) ?_
      intro W5 hk5 hb5
      have HG7 : Hid (Gt W5 w3.heap.size (.slice (some ⟨g5, 0, none⟩) ts.length cap5) us) := HG5.out.kept (fun k hk => hk5 k (by have := HZ.out; injection hk with e; have e2 : g5 = k := e; omega))
      have HG8 : Hid (Gt W5 w1.heap.size (.slice (some ⟨g, 0, none⟩) ts.length cap) ts) := HG6.out.kept (fun k hk => hk5 k (by have := HGL.out; injection hk with e; have e2 : g = k := e; omega))
      have HB6 : Hid (Below w.heap.size w W5) := HB5.out.trans (hb5 _ HWL.out)
      clear hk5 hb5 HG5 HG6 HV4 HB5 f0 f1 f2 c0 c1 c2 hlt4 HZ HGL HWL
      go_loopw [7] (fun i wr => ∃ k : Nat, i = .int .i64 k ∧ k ≤ ts.length ∧ Hid (Dr W5 wr)) (fun i _ => (ts.length - (intOf i).toNat : Nat))
      case atStart => exact ⟨0, rfl, Nat.zero_le _, Dr.refl _⟩
      case round =>
        obtain ⟨k, rfl, hk, HD⟩ := hrel
        rcases Nat.lt_or_ge k ts.length with hlt | hge
        · have hki : (k : Int) < ts.length := by omega
          have htl := len_nT ts
          have htl2 := HC.out.2.2.2
          have hk9 : k + 1 ≤ 1000001 := by omega
          clear htl htl2
          have hku : k < us.length := by have := hul2.out; omega
          obtain ⟨a0, a1, a2, -⟩ := (HG7.out.after (HD.out.below _)).cellsA k hku
          obtain ⟨b0, b1, -, -⟩ := (HG8.out.after (HD.out.below _)).cellsA k hlt
          obtain ⟨e1, e2, e3⟩ := HA.out.at k tk0 hlt
          rw [e1] at a0; rw [e2] at a1; rw [e3] at a2
          clear e1 e2 e3 hku
          generalize (ts.getD k tk0).kd = X0 at *
          generalize (ts.getD k tk0).tx = X1 at *
          have hx1 : (X1 == X1) = true := by simp
          have hx0 : ((X0 : Int) == X0) = true := by simp
          go_wp2_with fail
          go_quiet (fail)
          go_wp2_with fail
          go_roundw
          case rel => exact ⟨k + 1, rfl, by omega, HD.out.dr _⟩
          case measure => simp [intOf]; omega
        · obtain rfl : k = ts.length := by omega
          clear hge
          go_wp2_with fail
          go_ret
          exact ⟨rfl, HB6.out.trans (HD.out.below _)⟩
theorem sv_of (s : ByteArray) : Value.string s = sv s.data.toList := by simp [sv]
theorem tback_w (s : ByteArray) (w : World) (hb : s.data.toList.length ≤ 140737488351232) : Calls Try.prog 5 #[.string s] w fun e w' => e = .returned (.bool true) ∧ Below w.heap.size w w' := by
  rw [sv_of]; exact tback_walk s.data.toList w
end Go.Proofs.Ytiedpclomplnmaa
