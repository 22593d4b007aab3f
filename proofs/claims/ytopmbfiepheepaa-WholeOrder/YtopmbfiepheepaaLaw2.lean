/-
  What the laws of layer nat ask again and again: copies, whether a number has these limbs, the number of a list.
-/
import Derived.Test.YtopmbfiepheepaaGrow
import Derived.Test.YtopmbfiepheepaaOnly
import Derived.Test.YtopmbfiepheepaaVals2
namespace Go.Proofs.Ytopmbfiepheepaa
open Go.RowKit Go.Shelf

/-- append of any list that can be read to one of the call's own, at a plain statement. -/
theorem wpList_app_some {ops : Array Oper} {rest : List Oper} {o : Oper} {a : Act} {w : World} {Q : Exit → Act → World → Prop} (hgd : o.guard = none) (s x : Operand)
    (ho : o.op = .call { callee := .builtin .append, args := #[s, x], argTypes := #[22, 22] })
    (B : Nat) (v : Value) (cs : List Int) (hs : a.eval s = v) (hg : Gr w B v cs) (ad : Addr) (m c : Nat) (news : List Int) (hx : a.eval x = .slice (some ad) m c) (hn : Sl w (some ad) m news)
    (hb : cs.length + m ≤ 17592186044416) (hB : B ≤ w.heap.size)
    (h : ∀ v' w', Hid (Gr w' B v' (cs ++ news)) → Below B w w' → wpList Try.prog ops Q rest (a.put o.dst v') w') : wpList Try.prog ops Q (o :: rest) a w := by
  obtain ⟨i0, hi, hz0, hz1, hz2⟩ := info_parts info8
  refine wpList_append_own w hgd s x _ ho B 23 i0 (.int .u64 0) 1 8 Try.underlying22 hi hz0 hz1 hz2 rfl (by decide) v cs.length (row cs) hs hg ad m c (row news) hx (by rw [row_length, hn.1, Nat.mul_one]) ?_ (row_one _) (by unfold maxLen; omega) (by omega) hB ?_
  · intro j u hu
    have hj : j < news.length := by
      rcases Nat.lt_or_ge j (row news).length with h' | h'
      · rw [row_length] at h'; exact h'
      · rw [List.getElem?_eq_none h'] at hu; cases hu
    obtain ⟨b, off, e, hc⟩ := hn.2.2 (by have := hn.1; omega)
    cases e
    rw [row_getElem? _ _ hj] at hu
    cases hu
    rw [addr_add]
    exact hc j (by have := hn.1; omega)
  · intro v' w' h2 h3 _
    refine h v' w' ?_ ((Below.refl B w).grown h3 hB hg.block)
    show Gr w' B v' (cs ++ news)
    unfold Gr
    rw [List.length_append, hn.1, row_append]
    exact h2

set_option maxHeartbeats 400000 in
theorem rlong_any (a : Option Addr) (len cap : Nat) (zs : List Int) (w : World) (h : Sl w a len zs) (hl : len ≤ 40000000000000) :
    Calls Try.prog 67 #[.slice a len cap] w fun e w' => e = .returned (.bool (decide (4096 < (usedN zs : Int)))) ∧ w' = w := by
  obtain ⟨hz, hL, hc⟩ := h
  by_cases h0 : len = 0
  · subst h0
    have e0 : usedN zs = 0 := by have := usedN_le zs; omega
    rw [e0]
    go_enter Try.func67, Try.ntmps67
    go_wp2_with fail
    refine wp_loop_rounds 1 ?_
    rw [rounds_succ]
    go_wp2_with fail
    go_ret
    exact ⟨rfl, rfl⟩
  · obtain ⟨b, off, rfl, hcell⟩ := hc (by omega)
    go_enter Try.func67, Try.ntmps67
    go_wp2_with fail
    go_loop [3] (fun i => ∃ k : Nat, k ≤ len ∧ i = .int .i64 k ∧ Hid (∀ j, k ≤ j → j < len → zs.getD j 0 = 0)) (fun i => (intOf i).toNat)
    case atStart => exact ⟨len, Nat.le_refl _, rfl, fun j h1 h2 => absurd h1 (by omega)⟩
    case round =>
      obtain ⟨k, hk, rfl, hI⟩ := hrel
      by_cases hlt : 0 < k
      · have hcx := hcell (k - 1) (by omega)
        have ex : ((k : Int) - 1).toNat = k - 1 := by omega
        obtain ⟨x, hx⟩ : ∃ x, zs.getD (k - 1) 0 = x := ⟨_, rfl⟩
        rw [hx] at hcx
        have HX : Hid (zs.getD (k - 1) 0 = x) := hx
        clear hx
        by_cases hx0 : x = 0
        · have g1 : (x == 0) = true := by simp [hx0]
          have HX0 : Hid (x = 0) := hx0
          clear hx0
          go_wp2_with fail
          go_round
          case rel =>
            refine ⟨k - 1, by omega, by rw [show ((k - 1 : Nat) : Int) = (k : Int) - 1 by omega], ?_⟩
            intro j h1 h2
            by_cases hj : j = k - 1
            · rw [hj, HX.out, HX0.out]
            · exact hI.out j (by omega) h2
          case measure => simp [intOf]; omega
        · have g1 : (x == 0) = false := by simp [hx0]
          have hu : usedN zs = k := usedN_eq (by omega) (fun i h1 h2 => hI.out i h1 (by omega)) (.inr (by rw [HX.out]; exact hx0))
          have HU : Hid (usedN zs = k) := hu
          clear hu hx0
          go_wp2_with fail
          go_ret
          exact ⟨by rw [HU.out]; rfl, rfl⟩
      · obtain rfl : k = 0 := by omega
        have hu : usedN zs = 0 := usedN_eq (by omega) (fun i h1 h2 => hI.out i (by omega) (by omega)) (.inl rfl)
        have HU : Hid (usedN zs = 0) := hu
        clear hu
        go_wp2_with fail
        go_ret
        exact ⟨by rw [HU.out]; rfl, rfl⟩

set_option maxHeartbeats 400000 in
theorem rtrim_any (a : Option Addr) (len cap : Nat) (zs : List Int) (w : World) (h : Sl w a len zs) (hn : a = none → len = 0 ∧ cap = 0) (hl : len ≤ 17592186044416) (hcap : len ≤ cap) :
    Calls Try.prog 51 #[.slice a len cap] w fun e w' => ∃ a' c', e = .returned (.slice a' (usedN zs) c') ∧ Sl w' a' (usedN zs) (zs.take (usedN zs)) ∧ usedN zs ≤ c' ∧ Below w.heap.size w w' := by
  have HSL : Hid (Sl w a len zs) := h
  obtain ⟨hz, hL, hc⟩ := h
  by_cases h0 : len = 0
  · subst h0
    have e0 : usedN zs = 0 := by have := usedN_le zs; omega
    rw [e0]
    cases a with
    | none =>
      obtain ⟨-, rfl⟩ := hn rfl
      go_enter Try.func51, Try.ntmps51
      go_wp2_with fail
      refine wp_loop_rounds 1 ?_
      rw [rounds_succ]
      go_wp2_with fail
      go_ret
      exact ⟨none, 0, rfl, ⟨rfl, Limbs.nil, fun h => absurd h (by decide)⟩, Nat.le_refl _, Below.refl _ _⟩
    | some ad =>
      have hsl : Sl w (some ad) 0 [] := ⟨rfl, Limbs.nil, fun h => absurd h (by decide)⟩
      go_enter Try.func51, Try.ntmps51
      go_wp2_with fail
      refine wp_loop_rounds 1 ?_
      rw [rounds_succ]
      go_wp2_with (at_builtin; refine wpList_app_some rfl (.tmp 19) (.tmp 22) rfl w.heap.size _ [] rfl (Gr.nil _ _) ad 0 cap [] rfl hsl (by simp) (Nat.le_refl _) ?_; intro v1 w1 hG hb)
      go_ret
      obtain ⟨a1, c1, e1, hc1, hs1⟩ := Gr.sl (by simpa using hG.out) Limbs.nil
      exact ⟨a1, c1, congrArg _ e1, hs1, hc1, hb⟩
  · obtain ⟨b, off, rfl, hcell⟩ := hc (by omega)
    go_enter Try.func51, Try.ntmps51
    go_wp2_with fail
    go_loop [3] (fun i => ∃ k : Nat, k ≤ len ∧ i = .int .i64 k ∧ Hid (∀ j, k ≤ j → j < len → zs.getD j 0 = 0)) (fun i => (intOf i).toNat)
    case atStart => exact ⟨len, Nat.le_refl _, rfl, fun j h1 h2 => absurd h1 (by omega)⟩
    case round =>
      obtain ⟨k, hk, rfl, hI⟩ := hrel
      by_cases hlt : 0 < k
      · have hcx := hcell (k - 1) (by omega)
        have ex : ((k : Int) - 1).toNat = k - 1 := by omega
        obtain ⟨x, hx⟩ : ∃ x, zs.getD (k - 1) 0 = x := ⟨_, rfl⟩
        rw [hx] at hcx
        have HX : Hid (zs.getD (k - 1) 0 = x) := hx
        clear hx
        by_cases hx0 : x = 0
        · have g1 : (x == 0) = true := by simp [hx0]
          have HX0 : Hid (x = 0) := hx0
          clear hx0
          go_wp2_with fail
          go_round
          case rel =>
            refine ⟨k - 1, by omega, by rw [show ((k - 1 : Nat) : Int) = (k : Int) - 1 by omega], ?_⟩
            intro j h1 h2
            by_cases hj : j = k - 1
            · rw [hj, HX.out, HX0.out]
            · exact hI.out j (by omega) h2
          case measure => simp [intOf]; omega
        · have g1 : (x == 0) = false := by simp [hx0]
          have hu : usedN zs = k := usedN_eq (by omega) (fun i h1 h2 => hI.out i h1 (by omega)) (.inr (by rw [HX.out]; exact hx0))
          have HU : Hid (usedN zs = k) := hu
          clear hu hx0
          have hsl := HSL.out.take (m := k) (by omega)
          go_wp2_with (at_builtin; refine wpList_app_some rfl (.tmp 19) (.tmp 22) rfl w.heap.size _ [] rfl (Gr.nil _ _) ⟨b, off, none⟩ k cap (zs.take k) rfl hsl (by simp <;> omega) (Nat.le_refl _) ?_; intro v1 w1 hG hb)
          go_ret
          obtain ⟨a1, c1, e1, hc1, hs1⟩ := Gr.sl (by simpa using hG.out) (hL.take k)
          rw [List.length_take, Nat.min_eq_left (by omega)] at e1 hc1 hs1
          exact ⟨a1, c1, by rw [HU.out]; exact congrArg _ e1, by rw [HU.out]; exact hs1, by rw [HU.out]; exact hc1, hb⟩
      · obtain rfl : k = 0 := by omega
        have hu : usedN zs = 0 := usedN_eq (by omega) (fun i h1 h2 => hI.out i (by omega) (by omega)) (.inl rfl)
        have HU : Hid (usedN zs = 0) := hu
        clear hu
        have hsl := HSL.out.take (m := 0) (by omega)
        go_wp2_with (at_builtin; refine wpList_app_some rfl (.tmp 19) (.tmp 22) rfl w.heap.size _ [] rfl (Gr.nil _ _) ⟨b, off, none⟩ 0 cap (zs.take 0) rfl hsl (by simp <;> omega) (Nat.le_refl _) ?_; intro v1 w1 hG hb)
        go_ret
        obtain ⟨a1, c1, e1, hc1, hs1⟩ := Gr.sl (by simpa using hG.out) (hL.take 0)
        rw [List.length_take, Nat.min_eq_left (by omega)] at e1 hc1 hs1
        exact ⟨a1, c1, by rw [HU.out]; exact congrArg _ e1, by rw [HU.out]; exact hs1, by rw [HU.out]; exact hc1, hb⟩
end Go.Proofs.Ytopmbfiepheepaa
