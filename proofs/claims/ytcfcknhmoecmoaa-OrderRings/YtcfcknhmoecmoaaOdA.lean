/-
  order: what the statements themselves reckon: arcs copied, within, leads, places, lists held one against the other; awake.
-/
import Derived.Test.YtcfcknhmoecmoaaOdL
import Derived.Test.YtcfcknhmoecmoaaOd5
import Derived.Laws.StructEq
namespace Go.Proofs.Ytcfcknhmoecmoaa
open Go.RowKit Go.Shelf
set_option linter.unusedVariables false
set_option linter.unusedSimpArgs false

theorem wpList_appA {ops : Array Oper} {rest : List Oper} {o : Oper} {a : Act} {w : World} {Q : Exit → Act → World → Prop} (hgd : o.guard = none) (s x : Operand)
    (ho : o.op = .call { callee := .builtin .append, args := #[s, x], argTypes := #[22, 22] })
    (hs : a.eval s = .slice none 0 0) (b off m c : Nat) (ys : List Pr) (hx : a.eval x = .slice (some ⟨b, off, none⟩) m c) (hy : La w (some ⟨b, off, none⟩) m ys) (hb : m ≤ 8796093022208)
    (h : ∀ v' w', Ge elA w' w.heap.size v' ys → w.grownBy w' none → wpList Try.prog ops Q rest (a.put o.dst v') w') : wpList Try.prog ops Q (o :: rest) a w := by
  refine wpList_plain hgd fun K hK => ?_
  obtain ⟨i0, hi, hz0, hz1, hz2⟩ := info_parts infoA
  obtain ⟨v', w', hr, h2, h3, -, h5⟩ := run_append_own_at (P := Try.prog) (w := w) w.heap.size 22 o.type 40 i0 (.agg #[.int .i64 0, .int .i64 0]) 2 16 Try.underlying22 hi hz0 hz1 hz2 rfl (by decide) (.slice none 0 0) 0 [] (Ge.nil (E := elA) w w.heap.size) ⟨b, off, none⟩ m c (rowE elA ys) (by rw [rowE_length, hy.1]; rfl) (Le.news hy) (rowE_one elA _) (by unfold maxLen; omega) (by omega) (Nat.le_refl _)
  unfold Oper.wp execOp
  simp only [ho, resolve, invoke, builtin, Sem.run_bind, Sem.run_pure, Result.andThen_ok, List.map_toArray, List.map_cons, List.map_nil, hs, hx, hr]
  refine hK _ _ (h v' w' ?_ h3)
  have h6 : World.ownsRow w' w.heap.size 40 2 v' m (rowE elA ys) := by simpa using h2
  show World.ownsRow _ _ _ _ _ _ _
  rw [hy.1]
  exact h6
set_option maxHeartbeats 2000000 in
theorem ocopyA (a : Option Addr) (len cap : Nat) (ys : List Pr) (w : World) (h : La w a len ys) (hn : a = none → len = 0 ∧ cap = 0) (hl : len ≤ 8796093022208) :
    Calls Try.prog 23 #[.slice a len cap] w fun e w' => (∃ a' c', e = .returned (.slice a' len c') ∧ La w' a' len ys) ∧ Below w.heap.size w w' := by
  have hlen := h.1
  cases a with
  | none =>
    obtain ⟨rfl, rfl⟩ := hn rfl
    have hp : ys = [] := List.length_eq_zero_iff.1 h.1
    subst hp
    go_enter Try.func23, Try.ntmps23
    go_wp2_with fail
    go_ret
    first
      | exact ⟨⟨_, _, rfl, Le.nil _ _⟩, Below.refl _ _⟩
      | exact ⟨⟨_, ⟨_, rfl⟩, Le.nil _ _⟩, Below.refl _ _⟩
  | some ad =>
    rcases Nat.eq_zero_or_pos len with h0 | h0
    · subst h0
      have hp : ys = [] := List.length_eq_zero_iff.1 h.1
      subst hp
      have HL : Hid (La w (some ⟨0, 0, none⟩) 0 []) := Le.nil _ _
      clear h hn
      go_enter Try.func23, Try.ntmps23
      go_wp2_with fail
      go_ret
      first
        | exact ⟨⟨_, _, rfl, Le.nil _ _⟩, Below.refl _ _⟩
        | exact ⟨⟨_, ⟨_, rfl⟩, Le.nil _ _⟩, Below.refl _ _⟩
    · obtain ⟨b, off, e⟩ := Le.ex h h0
      cases e
      have HL : Hid (La w (some ⟨b, off, none⟩) len ys) := h
      clear h hn
      go_enter Try.func23, Try.ntmps23
      go_wp2_with (at_builtin; refine wpList_appA rfl _ _ rfl rfl b off len cap ys rfl HL.out hl ?_; intro v1 w1 hg hgr; obtain ⟨a2, c2, rfl, -, -, -⟩ := hg.shape; have HG : Hid (La w1 a2 ys.length ys) := hg.toLe; have HB : Hid (Below w.heap.size w w1) := (Below.refl _ _).grown hgr (Nat.le_refl _) (fun k hk => by cases hk); clear hg hgr; rw [hlen] at HG ⊢)
      go_ret
      first
        | exact ⟨⟨_, _, rfl, HG.out⟩, HB.out⟩
        | exact ⟨⟨_, ⟨_, rfl⟩, HG.out⟩, HB.out⟩
set_option maxHeartbeats 4000000 in
theorem owithin (n : Int) (a : Option Addr) (len cap : Nat) (xs : List Pr) (w : World) (h : La w a len xs) :
    Calls Try.prog 24 #[.int .i64 n, .slice a len cap] w fun e w' => e = .returned (.bool (decide (ckE n xs = 0))) ∧ w' = w := by
  have hl := h.1
  have HL : Hid (La w a len xs) := h
  clear h
  by_cases h0 : n < 0
  · have HE : Hid (decide (ckE n xs = 0) = false) := decide_eq_false (by unfold ckE; rw [if_pos (.inl h0)]; decide)
    go_enter Try.func24, Try.ntmps24
    go_wp2_with fail
    go_ret
    exact ⟨by rw [HE.out]; rfl, rfl⟩
  have h0d : decide (n < 0) = false := decide_eq_false h0
  by_cases h1 : 4096 < n
  · have HE : Hid (decide (ckE n xs = 0) = false) := decide_eq_false (by unfold ckE; rw [if_pos (.inr h1)]; decide)
    go_enter Try.func24, Try.ntmps24
    go_wp2_with fail
    go_ret
    exact ⟨by rw [HE.out]; rfl, rfl⟩
  have h1d : decide (4096 < n) = false := decide_eq_false h1
  by_cases h2 : 65536 < len
  · have h2i : (65536 : Int) < len := by omega
    have HE : Hid (decide (ckE n xs = 0) = false) := decide_eq_false (by unfold ckE; rw [if_neg (by omega), if_pos (by omega)]; decide)
    go_enter Try.func24, Try.ntmps24
    go_wp2_with fail
    go_ret
    exact ⟨by rw [HE.out]; rfl, rfl⟩
  have h2i : ¬ (65536 : Int) < len := by omega
  have HE : Hid (decide (ckE n xs = 0) = xs.all (okA n)) := by
    show decide (ckE n xs = 0) = _
    unfold ckE
    rw [if_neg (by omega), if_neg (by omega)]
    cases xs.all (okA n) <;> decide
  have HLn : Hid (xs.length = len) := hl
  have hl6 : len ≤ 65536 := by omega
  clear hl
  go_enter Try.func24, Try.ntmps24
  go_wp2_with fail
  go_loopw [5] (fun j wz => ∃ k : Nat, j = .int .i64 k ∧ k ≤ len ∧ Hid ((xs.take k).all (okA n) = true) ∧ Hid (wz = w)) (fun j _ => (len - (intOf j).toNat : Nat))
  case atStart => exact ⟨0, rfl, Nat.zero_le _, rfl, rfl⟩
  case round =>
    obtain ⟨k, rfl, hk, HA, hwz⟩ := hrel
    obtain rfl := hwz.out
    rcases Nat.lt_or_ge k len with hlt | hge
    · have hki : (k : Int) < len := by omega
      obtain ⟨b, off, rfl, c0, c1⟩ := HL.out.arc hlt
      have HT : Hid (xs.take (k + 1) = xs.take k ++ [xs.getD k (0, 0)]) := take_snoc _ (by rw [HLn.out]; exact hlt)
      have HF : Hid (okA n (xs.getD k (0, 0)) = false → xs.all (okA n) = false) := fun hno => by
        rw [List.all_eq_false]
        refine ⟨xs.getD k (0, 0), ?_, by rw [hno]; decide⟩
        rw [List.getD_eq_getElem?_getD, List.getElem?_eq_getElem (by rw [HLn.out]; exact hlt)]; exact List.getElem_mem _
      generalize xs.getD k (0, 0) = p at *
      obtain ⟨x, y⟩ := p
      simp only at c0 c1
      by_cases a1 : x < 0
      · have a1d := decide_eq_true a1
        have HNo : Hid (xs.all (okA n) = false) := HF.out (by unfold okA ndB; simp; omega)
        go_wp2_with fail
        go_ret
        exact ⟨by rw [HE.out, HNo.out]; rfl, rfl⟩
      have a1d := decide_eq_false a1
      by_cases a2 : n ≤ x
      · have a2d := decide_eq_true a2
        have HNo : Hid (xs.all (okA n) = false) := HF.out (by unfold okA ndB; simp; omega)
        go_wp2_with fail
        go_ret
        exact ⟨by rw [HE.out, HNo.out]; rfl, rfl⟩
      have a2d := decide_eq_false a2
      by_cases a3 : y < 0
      · have a3d := decide_eq_true a3
        have HNo : Hid (xs.all (okA n) = false) := HF.out (by unfold okA ndB; simp; omega)
        go_wp2_with fail
        go_ret
        exact ⟨by rw [HE.out, HNo.out]; rfl, rfl⟩
      have a3d := decide_eq_false a3
      by_cases a4 : n ≤ y
      · have a4d := decide_eq_true a4
        have HNo : Hid (xs.all (okA n) = false) := HF.out (by unfold okA ndB; simp; omega)
        go_wp2_with fail
        go_ret
        exact ⟨by rw [HE.out, HNo.out]; rfl, rfl⟩
      have a4d := decide_eq_false a4
      have HY : Hid (okA n (x, y) = true) := by show _ = _; unfold okA ndB; simp; omega
      go_wp2_with fail
      go_roundw
      case rel => exact ⟨k + 1, rfl, by omega, by
        show (xs.take (k + 1)).all _ = true
        rw [HT.out, List.all_append, HA.out, List.all_cons, List.all_nil, HY.out]; rfl, trivial⟩
      case measure => simp [intOf]; omega
    · obtain rfl : k = len := by omega
      clear hge hk
      go_wp2_with fail
      go_ret
      refine ⟨?_, rfl⟩
      have := HA.out
      rw [List.take_of_length_le (by rw [HLn.out]; exact Nat.le_refl _)] at this
      rw [HE.out, this]; rfl
theorem eqlA (x y u v : Int) (w : World) : Sem.run Try.prog (binOp .eql 40 (.agg #[.int .i64 x, .int .i64 y]) (.agg #[.int .i64 u, .int .i64 v])) w = .ok (.bool (decide (x = u ∧ y = v))) w := by
  have u3 := Try.underlying3
  have a3 := Try.isAgg3
  have z3 := Try.sizeOf3
  have hS : Try.prog.underlying 40 = some (.struct (Try.prog.fieldsOf 40)) := by kernel_rfl
  have hp : Try.prog.stoodInHeld 40 = false := by kernel_rfl
  rw [run_eql_struct, show (10000 : Nat) = 9999 + 1 from rfl, run_equalIn_agg w 9999 40 _ _ hS hp]
  simp only [Program.fieldsOf, Try.underlying40]
  go_simp
  by_cases h1 : x = u <;> by_cases h2 : y = v <;> simp [h1, h2]
set_option maxHeartbeats 4000000 in
theorem oleads (a : Option Addr) (len cap : Nat) (xs : List Pr) (x y : Int) (w : World) (h : La w a len xs) (hl8 : len ≤ 8796093022208) :
    Calls Try.prog 26 #[.slice a len cap, .int .i64 x, .int .i64 y] w fun e w' => e = .returned (.bool (decide ((x, y) ∈ xs))) ∧ w' = w := by
  have HLn : Hid (xs.length = len) := h.1
  have HL : Hid (La w a len xs) := h
  have ea := eqlA
  clear h
  go_enter Try.func26, Try.ntmps26
  go_wp2_with fail
  go_loopw [7] (fun j wz => ∃ k : Nat, j = .int .i64 k ∧ k ≤ len ∧ Hid ((x, y) ∉ xs.take k) ∧ Hid (wz = w)) (fun j _ => (len - (intOf j).toNat : Nat))
  case atStart => exact ⟨0, rfl, Nat.zero_le _, fun h => by simp at h, rfl⟩
  case round =>
    obtain ⟨k, rfl, hk, HA, hwz⟩ := hrel
    obtain rfl := hwz.out
    rcases Nat.lt_or_ge k len with hlt | hge
    · have hki : (k : Int) < len := by omega
      obtain ⟨b, off, rfl, c0, c1⟩ := HL.out.arc hlt
      have HT : Hid (xs.take (k + 1) = xs.take k ++ [xs.getD k (0, 0)]) := take_snoc _ (by rw [HLn.out]; exact hlt)
      have HM : Hid (xs.getD k (0, 0) ∈ xs) := by
        show _ ∈ _
        rw [List.getD_eq_getElem?_getD, List.getElem?_eq_getElem (by rw [HLn.out]; exact hlt)]; exact List.getElem_mem _
      generalize xs.getD k (0, 0) = p at *
      obtain ⟨u, v⟩ := p
      simp only at c0 c1
      by_cases he : u = x ∧ v = y
      · have hed := decide_eq_true he
        have HIn : Hid ((x, y) ∈ xs) := by obtain ⟨rfl, rfl⟩ := he; exact HM.out
        clear he
        go_wp2_with fail
        go_ret
        exact ⟨by rw [decide_eq_true HIn.out]; rfl, rfl⟩
      · have hed := decide_eq_false he
        have HNo : Hid ((x, y) ∉ xs.take (k + 1)) := fun h9 => by
          rw [HT.out] at h9
          rcases List.mem_append.1 h9 with h9 | h9
          · exact HA.out h9
          · simp only [List.mem_singleton, Prod.mk.injEq] at h9
            exact he ⟨h9.1.symm, h9.2.symm⟩
        clear he
        go_wp2_with fail
        go_roundw
        case rel => exact ⟨k + 1, rfl, by omega, HNo.out, trivial⟩
        case measure => simp [intOf]; omega
    · obtain rfl : k = len := by omega
      clear hge hk
      go_wp2_with fail
      go_ret
      refine ⟨?_, rfl⟩
      have := HA.out
      rw [List.take_of_length_le (by rw [HLn.out]; exact Nat.le_refl _)] at this
      rw [decide_eq_false this]; rfl
set_option maxHeartbeats 2000000 in
theorem osame (l : List Int) (a1 : Option Addr) (c1 : Nat) (a2 : Option Addr) (c2 : Nat) (w : World) (h1 : Li w a1 l.length l) (h2 : Li w a2 l.length l) (hl : l.length ≤ 1000000000000) :
    Calls Try.prog 15 #[.slice a1 l.length c1, .slice a2 l.length c2] w fun e w' => e = .returned (.bool true) ∧ Below w.heap.size w w' := by
  have H1 : Hid (Li w a1 l.length l) := h1
  have H2 : Hid (Li w a2 l.length l) := h2
  clear h1 h2
  go_enter Try.func15, Try.ntmps15
  go_wp2_with fail
  go_loopw [5] (fun j wr => ∃ i : Nat, j = .int .i64 i ∧ i ≤ l.length ∧ Hid (Below w.heap.size w wr)) (fun j _ => (l.length - (intOf j).toNat : Nat))
  case atStart => exact ⟨0, rfl, Nat.zero_le _, Below.refl _ _⟩
  case round =>
    obtain ⟨i, rfl, hi, HB⟩ := hrel
    rcases Nat.lt_or_ge i l.length with hlt | hge
    · have hii : (i : Int) < l.length := by omega
      obtain ⟨b1, o1, rfl, k1⟩ := (H1.out.after HB.out).at hlt
      obtain ⟨b2, o2, rfl, k2⟩ := (H2.out.after HB.out).at hlt
      generalize l.getD i (-1) = x at *
      go_wp2_with fail
      go_quiet (fail)
      refine nameW (Q := fun W => Exit.then _ _ _ _ W) (fun wq hwq => ?_)
      have HBq : Hid (Below w.heap.size w wq) := by rw [hwq]; exact below_drewN HB.out _
      clear hwq HB k1 k2
      go_wp2_with fail
      go_roundw
      case rel => exact ⟨i + 1, rfl, by omega, HBq.out⟩
      case measure => simp [intOf]; omega
    · obtain rfl : i = l.length := by omega
      clear hge hi
      go_wp2_with fail
      go_ret
      exact ⟨rfl, HB.out⟩
/-- Each stands once: its place. -/
def Plc (out : List Nat) (k : Nat) (pl : Nat → Nat) : Prop := (∀ i x, i < k → out[i]? = some x → pl x = i + 1) ∧ ∀ x, x ∉ out.take k → pl x = 0
set_option maxRecDepth 20000 in
set_option maxHeartbeats 8000000 in
theorem oplaces (n : Nat) (hn : n ≤ 4096) (a : Option Addr) (c : Nat) (out : List Nat) (w : World) (h : Li w a n (ints out)) (hl : out.length = n) (hnd : out.Nodup) (hlt : ∀ x ∈ out, x < n) :
    Calls Try.prog 25 #[.int .i64 (n : Int), .slice a n c] w fun e w' => (∃ g pl, e = .returned (.tuple #[.slice (some ⟨g, 0, none⟩) n n, .bool true]) ∧ Fn n w' g pl ∧ w.heap.size ≤ g ∧ Plc out n pl) ∧ Below w.heap.size w w' := by
  have HL : Hid (Li w a n (ints out)) := h
  have HOl : Hid (out.length = n) := hl
  have HND : Hid (out.Nodup) := hnd
  have HLt : Hid (∀ x ∈ out, x < n) := hlt
  have hm := fun W => make_int n (by omega) W
  clear h hl hnd hlt
  go_enter Try.func25, Try.ntmps25
  go_wp2_with fail
  refine ent1 w _ _ (Q := fun W => Code.wp _ _ _ _ W) ?_
  intro W0 hB0 hs0 V0
  have HF0 : Hid (Fn n W0 w.heap.size (fun _ => 0)) := Fn.noughts (by simpa using V0)
  have HB0 : Hid (Below w.heap.size w W0) := hB0
  have HP0 : Hid (Plc out 0 (fun _ => 0)) := ⟨fun i x hi => absurd hi (by omega), fun x _ => rfl⟩
  clear V0 hB0 hs0 hm
  go_wp2_with fail
  go_loopw [7] (fun j wz => ∃ (k : Nat) (pl : Nat → Nat), j = .int .i64 k ∧ k ≤ n ∧ Hid (Fn n wz w.heap.size pl) ∧ Hid (Plc out k pl) ∧ Hid (Below w.heap.size w wz)) (fun j _ => (n - (intOf j).toNat : Nat))
  case atStart => exact ⟨0, _, rfl, Nat.zero_le _, HF0.out, HP0.out, HB0.out⟩
  case round =>
    clear HF0 HB0 HP0
    obtain ⟨k, pl, rfl, hk, HF, HP, HB⟩ := hrel
    rcases Nat.lt_or_ge k n with hlt | hge
    · have hki : (k : Int) < n := by omega
      have hko : k < out.length := by rw [HOl.out]; exact hlt
      obtain ⟨b, off, rfl, ck⟩ := Li.node (by have := HL.out.after HB.out; rw [← HOl.out] at this; exact this) hko
      have hxg : out[k]? = some (out.getD k 0) := by rw [List.getD_eq_getElem?_getD, List.getElem?_eq_getElem hko]; rfl
      have HT : Hid (out.take (k + 1) = out.take k ++ [out.getD k 0]) := take_snoc 0 hko
      have hxn := HLt.out _ (List.mem_of_getElem? hxg)
      have HX : Hid (out[k]? = some (out.getD k 0)) := hxg
      have hnot : out.getD k 0 ∉ out.take k := by
        intro hm
        have h9 := List.nodup_iff_count.1 HND.out (out.getD k 0)
        have h8 : (out.take (k + 1)).count (out.getD k 0) ≤ out.count (out.getD k 0) := (List.take_sublist _ _).count_le _
        rw [HT.out, List.count_append, List.count_singleton_self] at h8
        have := List.count_pos_iff.2 hm
        omega
      have hp0 := HP.out.2 _ hnot
      clear hxg hko
      generalize out.getD k 0 = x at *
      have HNt : Hid (x ∉ out.take k) := hnot
      have cp := HF.out.cell hxn
      rw [hp0] at cp
      have fp := Fv.frozen HF.out x
      have hxi : (x : Int) < n := by omega
      have hx0 : ¬ (x : Int) < 0 := by omega
      have hxd : decide ((n : Int) ≤ x) = false := decide_eq_false (by omega)
      have hw1 : IntKind.i64.wrap ((k : Int) + 1) = (k : Int) + 1 := by rw [IntKind.wrap_i64]; omega
      have HF2 : Hid (Fn n (wr.setCell ⟨w.heap.size, x, none⟩ (.int .i64 ((k : Int) + 1))) w.heap.size (upf pl x (k + 1))) := by
        have := Fn.set HF.out x (k + 1)
        show Fn _ _ _ _
        simpa using this
      have HP2 : Hid (Plc out (k + 1) (upf pl x (k + 1))) := by
        refine ⟨fun i y hi hy => ?_, fun y hy => ?_⟩
        · by_cases e : i = k
          · subst e
            rw [HX.out] at hy; cases hy
            rw [upf_self]
          · have hyx : y ≠ x := by
              intro e2
              subst e2
              apply HNt.out
              rw [List.mem_iff_getElem?]
              exact ⟨i, by rw [List.getElem?_take_of_lt (by omega)]; exact hy⟩
            rw [upf_ne _ _ hyx]
            exact HP.out.1 i y (by omega) hy
        · rw [HT.out] at hy
          have h1 : y ∉ out.take k := fun e => hy (List.mem_append_left _ e)
          have h2 : y ≠ x := fun e => hy (by rw [e]; simp)
          rw [upf_ne _ _ h2]
          exact HP.out.2 y h1
      have HB2 : Hid (Below w.heap.size w (wr.setCell ⟨w.heap.size, x, none⟩ (.int .i64 ((k : Int) + 1)))) := HB.out.setCell (p := ⟨w.heap.size, x, none⟩) (Nat.le_refl _) _
      clear hnot hp0
      go_wp2_with fail
      go_roundw
      case rel => exact ⟨k + 1, _, rfl, by omega, HF2.out, HP2.out, HB2.out⟩
      case measure => simp [intOf]; omega
    · obtain rfl : k = n := by omega
      clear hge hk
      go_wp2_with fail
      go_ret2
      exact ⟨⟨w.heap.size, pl, rfl, HF.out, Nat.le_refl _, HP.out⟩, HB.out⟩
end Go.Proofs.Ytcfcknhmoecmoaa
