/-
  juris: Path and the iterator that it answers.
-/
import Derived.Test.YtfmbloagmeodeaaJu3
import Derived.Test.YtfmbloagmeodeaaJuO
namespace Go.Proofs.Ytfmbloagmeodeaa
open Go.RowKit Go.Shelf
set_option linter.unusedVariables false
attribute [local go_sem] Oper.semAt_some

/-- The next place, or -1. -/
def nx : Option Nat → Int
  | some y => y
  | none => -1
/-- A list of places, each the parent of the one ahead; s is the first, or -1. -/
structure Ptc (ps : List Int) (s : Int) (P : List Nat) : Prop where
  lt : ∀ x ∈ P, x < ps.length
  start : s = nx P[0]?
  next : ∀ k x, P[k]? = some x → ps.getD x (-1) = nx P[k + 1]?
  mu : ∃ μ : Int → Nat, ∀ k x, P[k]? = some x → μ (nx P[k + 1]?) < μ (nx P[k]?)
theorem Ptc.nil (ps : List Int) : Ptc ps (-1) [] := ⟨fun x h => (by cases h), rfl, fun k x h => (by simp at h), fun _ => 0, fun k x h => (by simp at h)⟩
theorem pth_lt {ps : List Int} (hT : Tre ps) {i : Nat} (hi : i < ps.length) : ∀ x ∈ pth ps ps.length i, x < ps.length := by
  obtain ⟨d, hd, hD⟩ := hT.dee hi
  intro x hx
  exact ((pth_mem hD (by omega)).1 hx).lt hT.1 hi
theorem Ptc.tree {ps : List Int} (hT : Tre ps) {i : Nat} (hi : i < ps.length) : Ptc ps i (pth ps ps.length i) := by
  obtain ⟨d, hd, hD⟩ := hT.dee hi
  have hg : ∀ k, (pth ps ps.length i)[k]? = ups ps k i := fun k => pth_get hD (by omega)
  have hlt := pth_lt hT hi
  have hn : ∀ k x, (pth ps ps.length i)[k]? = some x → pa ps x = (pth ps ps.length i)[k + 1]? := fun k x hk => by
    rw [hg] at hk
    rw [hg, ups_succ, hk]; rfl
  refine ⟨hlt, by rw [hg]; rfl, fun k x hk => ?_, fun v => if v < 0 then 0 else (pth ps ps.length v.toNat).length, fun k x hk => ?_⟩
  · have hx := hlt x (List.mem_of_getElem? hk)
    have := hn k x hk
    cases hq : (pth ps ps.length i)[k + 1]? with
    | none => rw [hq] at this; exact ((getD_of_pa hT.1 hx).1).1 this
    | some y => rw [hq] at this; exact (pa_getD this).2
  · have hx := hlt x (List.mem_of_getElem? hk)
    have := hn k x hk
    rw [hk]
    obtain ⟨e, he, hE⟩ := hT.dee hx
    have h1 := pth_len hE (show e ≤ ps.length by omega)
    show _ < if (x : Int) < 0 then 0 else (pth ps ps.length (x : Int).toNat).length
    rw [if_neg (by omega), Int.toNat_natCast, h1]
    cases hq : (pth ps ps.length i)[k + 1]? with
    | none => show (if (-1 : Int) < 0 then 0 else _) < _; rw [if_pos (by decide)]; omega
    | some y =>
      rw [hq] at this
      have hy := (hT.1).pa this
      obtain ⟨e2, he2, hE2⟩ := hT.dee hy
      have h2 := pth_len hE2 (show e2 ≤ ps.length by omega)
      have h3 := hE.unique (hE2.kid this)
      show (if (y : Int) < 0 then 0 else (pth ps ps.length (y : Int).toNat).length) < _
      rw [if_neg (by omega), Int.toNat_natCast, h2]; omega
/-- The path of a number: none, if it is no place. -/
def pthZ (ps : List Int) (i : Int) : List Nat := if plB ps.length i then pth ps ps.length i.toNat else []
/-- Where a path begins. -/
def stZ (n : Nat) (i : Int) : Int := if plB n i then i else -1
theorem ptc_any {ps : List Int} (hT : Tre ps) (i : Int) : Ptc ps (stZ ps.length i) (pthZ ps i) := by
  unfold stZ pthZ
  cases hp : plB ps.length i with
  | false => exact Ptc.nil ps
  | true =>
    simp only [if_true]
    have h : 0 ≤ i ∧ i < ps.length := by simpa [plB] using hp
    obtain ⟨k, rfl⟩ : ∃ k : Nat, i = k := ⟨i.toNat, by omega⟩
    simp only [Int.toNat_natCast]
    exact Ptc.tree hT (by omega)
theorem tre_nil : Tre [] := ⟨fun i k h => by simp at h, fun i h => by simp at h⟩
/-- The iterator over a path. -/
def itp (Bi Bp : Nat) : Value := .func (.func 48) #[] #[.pointer (some ⟨Bi, 0, none⟩), .pointer (some ⟨Bp, 0, none⟩)]
/-- A place. -/
abbrev Pc (ps : List Int) := { x : Nat // x < ps.length }
/-- The places' numbers. -/
def vals {ps : List Int} (l : List (Pc ps)) : List Nat := l.map (fun x => x.1)
theorem vals_snoc {ps : List Int} (l : List (Pc ps)) (x : Pc ps) : vals (l ++ [x]) = vals l ++ [x.1] := by simp [vals]
theorem vals_length {ps : List Int} (l : List (Pc ps)) : (vals l).length = l.length := by simp [vals]
theorem path_any {w : World} {q a : Option Addr} {len cap : Nat} {ps : List Int} {m : Bool} (h : Tv w q a len cap ps m) (i : Int) :
    Calls Try.prog 39 #[.pointer q, .int .i64 i] w fun e w' => e = .returned (itp w.heap.size (w.heap.size + 1)) ∧ Va w' w.heap.size 3 #[.int .i64 (stZ len i)] ∧ Va w' (w.heap.size + 1) 22 #[.slice a len cap] ∧ Below w.heap.size w w' ∧ w'.heap.size = w.heap.size + 2 := by
  have h1 := list_any (h.after ((Below.refl _ w).alloc (Nat.le_refl _) (.cells #[.int .i64 i] 3)))
  unfold itp stZ
  clear h
  have h2 := fun W => isPlace_any a len cap i W
  cases hp : plB len i with
  | true =>
    rw [hp] at h2
    clear hp
    go_enter Try.func39, Try.ntmps39
    go_wp2_with (first
      | (go_at_call 33; refine h1.mono ?_; rintro e w1 ⟨rfl, rfl⟩)
      | (go_at_call 43; refine (h2 _).mono ?_; rintro e w1 ⟨rfl, rfl⟩))
    refine ent2 w _ _ _ _ (Q := fun W => bodyPost _ _ _ _ _ W) ?_
    intro W0 hB0 hs0 V0 V1
    go_ret
    exact ⟨rfl, V0, V1, hB0, hs0⟩
  | false =>
    rw [hp] at h2
    clear hp
    go_enter Try.func39, Try.ntmps39
    go_wp2_with (first
      | (go_at_call 33; refine h1.mono ?_; rintro e w1 ⟨rfl, rfl⟩)
      | (go_at_call 43; refine (h2 _).mono ?_; rintro e w1 ⟨rfl, rfl⟩))
    refine ent2 w _ _ _ _ (Q := fun W => bodyPost _ _ _ _ _ W) ?_
    intro W0 hB0 hs0 V0 V1
    go_ret
    exact ⟨rfl, V0, V1, hB0, hs0⟩
/-- What lies below a number stays, and one block besides. -/
def Kp2 (n₀ B : Nat) (W W' : World) : Prop := Below n₀ W W' ∧ W'.heap[B]? = W.heap[B]?
theorem kp2_t {n₀ B : Nat} {X Y Z : World} (h : Kp2 n₀ B X Y) (g : Kp2 n₀ B Y Z) : Kp2 n₀ B X Z := ⟨h.1.trans g.1, g.2.trans h.2⟩
theorem Kp2.refl (n₀ B : Nat) (W : World) : Kp2 n₀ B W W := ⟨Below.refl _ _, rfl⟩
theorem Kp2.set {n₀ B : Nat} (W : World) {p : Addr} (hp : n₀ ≤ p.block) (hB : B ≠ p.block) (v : Value) : Kp2 n₀ B W (W.setCell p v) := ⟨(Below.refl n₀ W).setCell hp v, heap_setCell_other W p B v hB⟩
theorem kp2_b {n₀ B : Nat} {w : World} (hn : n₀ ≤ w.heap.size) (hB : B < w.heap.size) (W : World) (l : Nat) (o o' : Obj) (hl : w.heap.size ≤ l) (ho : W.heap[l]? = some o) (hc : o.isCells = false) (hw : o.isWalk = false) : Kp2 n₀ B W (W.putObj l o') := by
  refine ⟨belowK_b hn W l o o' hl ho hc hw, ?_⟩
  have := (belowK_b (n₀ := w.heap.size) (w := w) (Nat.le_refl _) W l o o' hl ho hc hw).block B hB
  exact this
set_option maxRecDepth 100000 in
set_option maxHeartbeats 2000000 in
theorem path1_in (F : Fence) (n : Nat) (hf : F.fn 48) (hro : F.round = none) (hn : 1 ≤ n) (l Bi Bp n₀ : Nat) (a : Option Addr) (cap : Nat) (ps : List Int) (s : Int) (P : List Nat) (hP : Ptc ps s P) (hlen : ps.length ≤ 1000000) (hlow : lowA n₀ a ps.length) (J Jx : List (Pc ps) → World → Prop)
    (hY : ∀ pre (x : Pc ps) W, J pre W → pre.length < P.length → YieldAt F (n - 1) Try.prog l #[.int .i64 (x.1 : Int)] W fun e W' =>
      (e = .returned (.bool true) ∧ J (pre ++ [x]) W' ∧ Kp2 n₀ Bp W W') ∨ (e = .returned (.bool false) ∧ Jx (pre ++ [x]) W'))
    (W : World) (hVi : W.cell? ⟨Bi, 0, none⟩ = some (.int .i64 s)) (hVp : Va W Bp 22 #[.slice a ps.length cap]) (hc : Li W a ps.length ps) (h0 : J [] W) :
    CallsIn F n Try.prog 48 #[.func (.yield l) #[] #[], .pointer (some ⟨Bi, 0, none⟩), .pointer (some ⟨Bp, 0, none⟩)] W fun e W' => (∃ v, e = .returned v) ∧
      ((∃ ys, vals ys = P ∧ J ys W') ∨ (∃ pre, vals pre <+: P ∧ Jx pre W')) := by
  obtain ⟨μ, hμ⟩ := hP.mu
  refine callsIn_of_wp Try.func48 rfl hf ?_ hro
  simp only [Try.ntmps48, List.size_toArray, List.length_cons, List.length_nil, Nat.reduceAdd, Nat.reduceSub, Array.replicate_succ, Array.replicate_zero, List.push_toArray, List.append_toArray, List.nil_append, List.cons_append]
  gi_wp2
  gi_loopw [4] (fun v wr => ∃ (k : Nat) (pre : List (Pc ps)), v = .int .i64 (nx P[k]?) ∧ vals pre = P.take k ∧ k ≤ P.length ∧ J pre wr ∧ Kp2 n₀ Bp W wr)
    (fun v _ => μ (intOf v))
  case atStart => exact ⟨0, [], by rw [hP.start], rfl, Nat.zero_le _, h0, Kp2.refl _ _ _⟩
  case round =>
    obtain ⟨k, pre, rfl, hpre, hk, hJs, hnx⟩ := hrel
    cases hx : P[k]? with
    | none =>
      have hkl : k = P.length := by
        rcases Nat.lt_or_ge k P.length with h' | h'
        · rw [List.getElem?_eq_getElem h'] at hx; cases hx
        · omega
      have HE : Hid (vals pre = P) := by show _ = _; rw [hpre, hkl, List.take_length]
      clear hpre hP hμ hY hkl
      simp only [nx]
      gi_wp2
      refine ⟨fun _ h => (by cases h), ?_⟩
      gi_wp2
      go_end0
      exact ⟨⟨_, rfl⟩, .inl ⟨pre, HE.out, hJs⟩⟩
    | some x =>
      have hxl := hP.lt x (List.mem_of_getElem? hx)
      have hkl : k < P.length := by
        rcases Nat.lt_or_ge k P.length with h' | h'
        · exact h'
        · rw [List.getElem?_eq_none h'] at hx; cases hx
      obtain ⟨fn, tmps, assign, body, hy, hR⟩ := hY pre ⟨x, hxl⟩ wr hJs (by rw [← vals_length, hpre, List.length_take]; omega)
      have HN : Hid (ps.getD x (-1) = nx P[k + 1]?) := hP.next k x hx
      have HM : Hid (μ (nx P[k + 1]?) < μ x) := by have := hμ k x hx; rw [hx] at this; exact this
      have HT : Hid (vals (pre ++ [⟨x, hxl⟩]) = P.take (k + 1)) := by
        show _ = _
        rw [vals_snoc, hpre, List.take_succ_eq_append_getElem hkl]
        rw [List.getElem?_eq_getElem hkl] at hx
        rw [Option.some.inj hx]
      have HT2 : Hid (P.take (k + 1) <+: P) := List.take_prefix _ _
      have HB : Hid (Kp2 n₀ Bp W wr) := hnx
      have HC : Hid (Li wr a ps.length ps) := hc.below hnx.1 hlow
      have HVp : Hid (Va wr Bp 22 #[.slice a ps.length cap]) := hnx.2.trans hVp
      have hxi : (x : Int) < ps.length := by omega
      have hx1 : ¬ (x : Int) = -1 := by omega
      clear hpre hP hμ hY hx hnx hc hVp
      simp only [nx]
      gi_wp2
      refine hR.mono ?_
      rintro e W3 (⟨rfl, hJ3, hk3⟩ | ⟨rfl, hJx3⟩)
      · have c0 := (show Va W3 Bp 22 #[.slice a ps.length cap] from hk3.2.trans HVp.out).cell
        obtain ⟨b, off, rfl, c1⟩ := (HC.out.below hk3.1 hlow).at hxl
        rw [HN.out] at c1
        have HB3 : Hid (Kp2 n₀ Bp W W3) := kp2_t HB.out hk3
        clear hR
        gi_wp2
        go_roundw
        case rel => exact ⟨k + 1, _, rfl, HT.out, by omega, hJ3, HB3.out⟩
        case measure => exact HM.out
      · gi_wp2
        go_end0
        exact ⟨⟨_, rfl⟩, .inr ⟨_, by rw [HT.out]; exact HT2.out, hJx3⟩⟩
/-- Path hands back a value that gives the places of the path, one behind the other. -/
theorem path_stops (F : Fence) (n : Nat) (hf : F.fn 48) (hro : F.round = none) (hn : 1 ≤ n) (Bi Bp n₀ : Nat) (a : Option Addr) (cap : Nat) (ps : List Int) (s : Int) (P : List Nat) (hP : Ptc ps s P) (hlen : ps.length ≤ 1000000) (w : World) (hlow : lowA n₀ a ps.length) (hn₀ : n₀ ≤ w.heap.size)
    (hVi : Va w Bi 3 #[.int .i64 s]) (hVp : Va w Bp 22 #[.slice a ps.length cap]) (hc : Li w a ps.length ps) :
    SeqStopsK F n Try.prog 48 #[.pointer (some ⟨Bi, 0, none⟩), .pointer (some ⟨Bp, 0, none⟩)] (fun x : Pc ps => #[.int .i64 (x.1 : Int)]) (Kp2 n₀ Bp) (fun ys => vals ys = P) (fun pre => vals pre <+: P) P.length w := fun l J Jx W hW hJ _ hY h0 =>
  path1_in F n hf hro hn l Bi Bp n₀ a cap ps s P hP hlen hlow J Jx (fun pre x W h hp => hY pre x W h hp) W (hVi.after hW).cell (hVp.after hW) (hc.after hW) h0
end Go.Proofs.Ytfmbloagmeodeaa
