/-
  order: what the statements themselves reckon: arcs copied, within, leads, places, lists held one against the other; awake.
-/
import Derived.Test.YtonhooaboieapaaOdL
import Derived.Test.YtonhooaboieapaaOd5
import Derived.Laws.StructEq
namespace Go.Proofs.Ytonhooaboieapaa
open Go.RowKit Go.Shelf
set_option linter.unusedVariables false
set_option linter.unusedSimpArgs false

theorem wpList_appA {ops : Array Oper} {rest : List Oper} {o : Oper} {a : Act} {w : World} {Q : Exit → Act → World → Prop} (hgd : o.guard = none) (s x : Operand)
    (ho : o.op = .call { callee := .builtin .append, args := #[s, x], argTypes := #[22, 22] })
    (hs : a.eval s = .slice none 0 0) (b off m c : Nat) (ys : List Pr) (hx : a.eval x = .slice (some ⟨b, off, none⟩) m c) (hy : La w (some ⟨b, off, none⟩) m ys) (hb : m ≤ 8796093022208)
    (h : ∀ v' w', Ge elA w' w.heap.size v' ys → w.grownBy w' none → wpList Try.prog ops Q rest (a.put o.dst v') w') : wpList Try.prog ops Q (o :: rest) a w := by
  refine wpList_plain hgd fun K hK => ?_
  obtain ⟨i0, hi, hz0, hz1, hz2⟩ := info_parts infoA
  obtain ⟨v', w', hr, h2, h3, -, h5⟩ := run_append_own_at (P := Try.prog) (w := w) w.heap.size 22 o.type 38 i0 (.agg #[.int .i64 0, .int .i64 0]) 2 16 Try.underlying22 hi hz0 hz1 hz2 rfl (by decide) (.slice none 0 0) 0 [] (Ge.nil (E := elA) w w.heap.size) ⟨b, off, none⟩ m c (rowE elA ys) (by rw [rowE_length, hy.1]; rfl) (Le.news hy) (rowE_one elA _) (by unfold maxLen; omega) (by omega) (Nat.le_refl _)
  unfold Oper.wp execOp
  simp only [ho, resolve, invoke, builtin, Sem.run_bind, Sem.run_pure, Result.andThen_ok, List.map_toArray, List.map_cons, List.map_nil, hs, hx, hr]
  refine hK _ _ (h v' w' ?_ h3)
  have h6 : World.ownsRow w' w.heap.size 38 2 v' m (rowE elA ys) := by simpa using h2
  show World.ownsRow _ _ _ _ _ _ _
  rw [hy.1]
  exact h6
set_option maxHeartbeats 2000000 in
theorem ocopyA (a : Option Addr) (len cap : Nat) (ys : List Pr) (w : World) (h : La w a len ys) (hn : a = none → len = 0 ∧ cap = 0) (hl : len ≤ 8796093022208) :
    Calls Try.prog 15 #[.slice a len cap] w fun e w' => (∃ a' c', e = .returned (.slice a' len c') ∧ La w' a' len ys) ∧ Below w.heap.size w w' := by
  have hlen := h.1
  cases a with
  | none =>
    obtain ⟨rfl, rfl⟩ := hn rfl
    have hp : ys = [] := List.length_eq_zero_iff.1 h.1
    subst hp
    go_enter Try.func15, Try.ntmps15
    go_wp2_with fail
    go_ret
    first
      | exact ⟨⟨_, _, rfl, Le.nil _ _⟩, Below.refl _ _⟩
      | exact ⟨⟨_, ⟨_, rfl⟩, Le.nil _ _⟩, Below.refl _ _⟩
  | some ad =>
    rcases Nat.eq_zero_or_pos len with h0 | h0
    · subst h0
      have hp : ys = [] := List.length_eq_zero_iff.1 h.1
      subst hp
      have HL : Hid (La w (some ⟨0, 0, none⟩) 0 []) := Le.nil _ _
      clear h hn
      go_enter Try.func15, Try.ntmps15
      go_wp2_with fail
      go_ret
      first
        | exact ⟨⟨_, _, rfl, Le.nil _ _⟩, Below.refl _ _⟩
        | exact ⟨⟨_, ⟨_, rfl⟩, Le.nil _ _⟩, Below.refl _ _⟩
    · obtain ⟨b, off, e⟩ := Le.ex h h0
      cases e
      have HL : Hid (La w (some ⟨b, off, none⟩) len ys) := h
      clear h hn
      go_enter Try.func15, Try.ntmps15
      go_wp2_with (at_builtin; refine wpList_appA rfl _ _ rfl rfl b off len cap ys rfl HL.out hl ?_; intro v1 w1 hg hgr; obtain ⟨a2, c2, rfl, -, -, -⟩ := hg.shape; have HG : Hid (La w1 a2 ys.length ys) := hg.toLe; have HB : Hid (Below w.heap.size w w1) := (Below.refl _ _).grown hgr (Nat.le_refl _) (fun k hk => by cases hk); clear hg hgr; rw [hlen] at HG ⊢)
      go_ret
      first
        | exact ⟨⟨_, _, rfl, HG.out⟩, HB.out⟩
        | exact ⟨⟨_, ⟨_, rfl⟩, HG.out⟩, HB.out⟩
set_option maxHeartbeats 4000000 in
theorem owithin (n : Int) (a : Option Addr) (len cap : Nat) (xs : List Pr) (w : World) (h : La w a len xs) :
    Calls Try.prog 17 #[.int .i64 n, .slice a len cap] w fun e w' => e = .returned (.bool (decide (ckE n xs = 0))) ∧ w' = w := by
  have hl := h.1
  have HL : Hid (La w a len xs) := h
  clear h
  by_cases h0 : n < 0
  · have HE : Hid (decide (ckE n xs = 0) = false) := decide_eq_false (by unfold ckE; rw [if_pos (.inl h0)]; decide)
    go_enter Try.func17, Try.ntmps17
    go_wp2_with fail
    go_ret
    exact ⟨by rw [HE.out]; rfl, rfl⟩
  have h0d : decide (n < 0) = false := decide_eq_false h0
  by_cases h1 : 4096 < n
  · have HE : Hid (decide (ckE n xs = 0) = false) := decide_eq_false (by unfold ckE; rw [if_pos (.inr h1)]; decide)
    go_enter Try.func17, Try.ntmps17
    go_wp2_with fail
    go_ret
    exact ⟨by rw [HE.out]; rfl, rfl⟩
  have h1d : decide (4096 < n) = false := decide_eq_false h1
  by_cases h2 : 65536 < len
  · have h2i : (65536 : Int) < len := by omega
    have HE : Hid (decide (ckE n xs = 0) = false) := decide_eq_false (by unfold ckE; rw [if_neg (by omega), if_pos (by omega)]; decide)
    go_enter Try.func17, Try.ntmps17
    go_wp2_with fail
    go_ret
    exact ⟨by rw [HE.out]; rfl, rfl⟩
  have h2i : ¬ (65536 : Int) < len := by omega
  have HE : Hid (decide (ckE n xs = 0) = xs.all (okA n)) := by
    show decide (ckE n xs = 0) = _
    unfold ckE
    rw [if_neg (by omega), if_neg (by omega)]
    cases xs.all (okA n) <;> decide
  have HLn : Hid (xs.length = len) := hl
  have hl6 : len ≤ 65536 := by omega
  clear hl
  go_enter Try.func17, Try.ntmps17
  go_wp2_with fail
  go_loopw [5] (fun j wz => ∃ k : Nat, j = .int .i64 k ∧ k ≤ len ∧ Hid ((xs.take k).all (okA n) = true) ∧ Hid (wz = w)) (fun j _ => (len - (intOf j).toNat : Nat))
  case atStart => exact ⟨0, rfl, Nat.zero_le _, rfl, rfl⟩
  case round =>
    obtain ⟨k, rfl, hk, HA, hwz⟩ := hrel
    obtain rfl := hwz.out
    rcases Nat.lt_or_ge k len with hlt | hge
    · have hki : (k : Int) < len := by omega
      obtain ⟨b, off, rfl, c0, c1⟩ := HL.out.arc hlt
      have HT : Hid (xs.take (k + 1) = xs.take k ++ [xs.getD k (0, 0)]) := take_snoc _ (by rw [HLn.out]; exact hlt)
      have HF : Hid (okA n (xs.getD k (0, 0)) = false → xs.all (okA n) = false) := fun hno => by
        rw [List.all_eq_false]
        refine ⟨xs.getD k (0, 0), ?_, by rw [hno]; decide⟩
        rw [List.getD_eq_getElem?_getD, List.getElem?_eq_getElem (by rw [HLn.out]; exact hlt)]; exact List.getElem_mem _
      generalize xs.getD k (0, 0) = p at *
      obtain ⟨x, y⟩ := p
      simp only at c0 c1
      by_cases a1 : x < 0
      · have a1d := decide_eq_true a1
        have HNo : Hid (xs.all (okA n) = false) := HF.out (by unfold okA ndB; simp; omega)
        go_wp2_with fail
        go_ret
        exact ⟨by rw [HE.out, HNo.out]; rfl, rfl⟩
      have a1d := decide_eq_false a1
      by_cases a2 : n ≤ x
      · have a2d := decide_eq_true a2
        have HNo : Hid (xs.all (okA n) = false) := HF.out (by unfold okA ndB; simp; omega)
        go_wp2_with fail
        go_ret
        exact ⟨by rw [HE.out, HNo.out]; rfl, rfl⟩
      have a2d := decide_eq_false a2
      by_cases a3 : y < 0
      · have a3d := decide_eq_true a3
        have HNo : Hid (xs.all (okA n) = false) := HF.out (by unfold okA ndB; simp; omega)
        go_wp2_with fail
        go_ret
        exact ⟨by rw [HE.out, HNo.out]; rfl, rfl⟩
      have a3d := decide_eq_false a3
      by_cases a4 : n ≤ y
      · have a4d := decide_eq_true a4
        have HNo : Hid (xs.all (okA n) = false) := HF.out (by unfold okA ndB; simp; omega)
        go_wp2_with fail
        go_ret
        exact ⟨by rw [HE.out, HNo.out]; rfl, rfl⟩
      have a4d := decide_eq_false a4
      have HY : Hid (okA n (x, y) = true) := by show _ = _; unfold okA ndB; simp; omega
      go_wp2_with fail
      go_roundw
      case rel => exact ⟨k + 1, rfl, by omega, by
        show (xs.take (k + 1)).all _ = true
        rw [HT.out, List.all_append, HA.out, List.all_cons, List.all_nil, HY.out]; rfl, trivial⟩
      case measure => simp [intOf]; omega
    · obtain rfl : k = len := by omega
      clear hge hk
      go_wp2_with fail
      go_ret
      refine ⟨?_, rfl⟩
      have := HA.out
      rw [List.take_of_length_le (by rw [HLn.out]; exact Nat.le_refl _)] at this
      rw [HE.out, this]; rfl
theorem eqlA (x y u v : Int) (w : World) : Sem.run Try.prog (binOp .eql 38 (.agg #[.int .i64 x, .int .i64 y]) (.agg #[.int .i64 u, .int .i64 v])) w = .ok (.bool (decide (x = u ∧ y = v))) w := by
  have u3 := Try.underlying3
  have a3 := Try.isAgg3
  have z3 := Try.sizeOf3
  have hS : Try.prog.underlying 38 = some (.struct (Try.prog.fieldsOf 38)) := by kernel_rfl
  have hp : Try.prog.stoodInHeld 38 = false := by kernel_rfl
  rw [run_eql_struct, show (10000 : Nat) = 9999 + 1 from rfl, run_equalIn_agg w 9999 38 _ _ hS hp]
  simp only [Program.fieldsOf, Try.underlying38]
  go_simp
  by_cases h1 : x = u <;> by_cases h2 : y = v <;> simp [h1, h2]
set_option maxHeartbeats 2000000 in
theorem osame (l : List Int) (a1 : Option Addr) (c1 : Nat) (a2 : Option Addr) (c2 : Nat) (w : World) (h1 : Li w a1 l.length l) (h2 : Li w a2 l.length l) (hl : l.length ≤ 1000000000000) :
    Calls Try.prog 14 #[.slice a1 l.length c1, .slice a2 l.length c2] w fun e w' => e = .returned (.bool true) ∧ Below w.heap.size w w' := by
  have H1 : Hid (Li w a1 l.length l) := h1
  have H2 : Hid (Li w a2 l.length l) := h2
  clear h1 h2
  go_enter Try.func14, Try.ntmps14
  go_wp2_with fail
  go_loopw [5] (fun j wr => ∃ i : Nat, j = .int .i64 i ∧ i ≤ l.length ∧ Hid (Below w.heap.size w wr)) (fun j _ => (l.length - (intOf j).toNat : Nat))
  case atStart => exact ⟨0, rfl, Nat.zero_le _, Below.refl _ _⟩
  case round =>
    obtain ⟨i, rfl, hi, HB⟩ := hrel
    rcases Nat.lt_or_ge i l.length with hlt | hge
    · have hii : (i : Int) < l.length := by omega
      obtain ⟨b1, o1, rfl, k1⟩ := (H1.out.after HB.out).at hlt
      obtain ⟨b2, o2, rfl, k2⟩ := (H2.out.after HB.out).at hlt
      generalize l.getD i (-1) = x at *
      go_wp2_with fail
      go_quiet (fail)
      refine nameW (Q := fun W => Exit.then _ _ _ _ W) (fun wq hwq => ?_)
      have HBq : Hid (Below w.heap.size w wq) := by rw [hwq]; exact below_drewN HB.out _
      clear hwq HB k1 k2
      go_wp2_with fail
      go_roundw
      case rel => exact ⟨i + 1, rfl, by omega, HBq.out⟩
      case measure => simp [intOf]; omega
    · obtain rfl : i = l.length := by omega
      clear hge hi
      go_wp2_with fail
      go_ret
      exact ⟨rfl, HB.out⟩
/-- Each stands once: its place. -/
def Plc (out : List Nat) (k : Nat) (pl : Nat → Nat) : Prop := (∀ i x, i < k → out[i]? = some x → pl x = i + 1) ∧ ∀ x, x ∉ out.take k → pl x = 0
end Go.Proofs.Ytonhooaboieapaa
