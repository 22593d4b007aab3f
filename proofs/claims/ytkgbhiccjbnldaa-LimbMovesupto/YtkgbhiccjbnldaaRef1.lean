/-
  The document's answers: Cut, digit, Digits, for every list: digits to the base 2^32.
-/
import Derived.Test.YtkgbhiccjbnldaaLists
import Derived.Test.YtkgbhiccjbnldaaNumsH
import Derived.Deep.RegionLaw
import Derived.Deep.AppendLies
namespace Go.Proofs.Ytkgbhiccjbnldaa
open Go.RowKit Go.Shelf

theorem ret_sl {a : Option Addr} {k m c : Nat} (h : k = m) : Ending.returned (.slice a k c) = .returned (.slice a m c) := by rw [h]

set_option maxHeartbeats 400000 in
theorem cutr_any (a : Option Addr) (len cap : Nat) (zs : List Int) (w : World) (h : Sl w a len zs) (hl : len ≤ 40000000000000) (hcap : len ≤ cap) :
    Calls Try.prog 61 #[.slice a len cap] w fun e w' => e = .returned (.slice a (usedN zs) cap) ∧ w' = w := by
  obtain ⟨hz, hL, hc⟩ := h
  by_cases h0 : len = 0
  · subst h0
    have e0 : usedN zs = 0 := by have := usedN_le zs; omega
    rw [e0]
    cases a with
    | none =>
      go_enter Try.func61, Try.ntmps61
      go_wp2_with fail
      refine wp_loop_rounds 1 ?_
      rw [rounds_succ]
      go_wp2_with fail
      go_ret
      exact ⟨rfl, rfl⟩
    | some a =>
      go_enter Try.func61, Try.ntmps61
      go_wp2_with fail
      refine wp_loop_rounds 1 ?_
      rw [rounds_succ]
      go_wp2_with fail
      go_ret
      exact ⟨rfl, rfl⟩
  · obtain ⟨b, off, rfl, hcell⟩ := hc (by omega)
    go_enter Try.func61, Try.ntmps61
    go_wp2_with fail
    go_loop [3] (fun i => ∃ k : Nat, k ≤ len ∧ i = .int .i64 k ∧ Hid (∀ j, k ≤ j → j < len → zs.getD j 0 = 0)) (fun i => (intOf i).toNat)
    case atStart => exact ⟨len, Nat.le_refl _, rfl, fun j h1 h2 => absurd h1 (by omega)⟩
    case round =>
      obtain ⟨k, hk, rfl, hI⟩ := hrel
      by_cases hlt : 0 < k
      · have hcx := hcell (k - 1) (by omega)
        have ex : ((k : Int) - 1).toNat = k - 1 := by omega
        obtain ⟨x, hx⟩ : ∃ x, zs.getD (k - 1) 0 = x := ⟨_, rfl⟩
        rw [hx] at hcx
        have HX : Hid (zs.getD (k - 1) 0 = x) := hx
        clear hx
        by_cases hx0 : x = 0
        · have g1 : (x == 0) = true := by simp [hx0]
          have HX0 : Hid (x = 0) := hx0
          clear hx0
          go_wp2_with fail
          go_round
          case rel =>
            refine ⟨k - 1, by omega, by rw [show ((k - 1 : Nat) : Int) = (k : Int) - 1 by omega], ?_⟩
            intro j h1 h2
            by_cases hj : j = k - 1
            · rw [hj, HX.out, HX0.out]
            · exact hI.out j (by omega) h2
          case measure => simp [intOf]; omega
        · have g1 : (x == 0) = false := by simp [hx0]
          have hu : usedN zs = k := usedN_eq (by omega) (fun i h1 h2 => hI.out i h1 (by omega)) (.inr (by rw [HX.out]; exact hx0))
          have HU : Hid (usedN zs = k) := hu
          clear hu hx0
          go_wp2_with fail
          go_ret
          exact ⟨ret_sl HU.out.symm, rfl⟩
      · obtain rfl : k = 0 := by omega
        have hu : usedN zs = 0 := usedN_eq (by omega) (fun i h1 h2 => hI.out i (by omega) (by omega)) (.inl rfl)
        have HU : Hid (usedN zs = 0) := hu
        clear hu
        go_wp2_with fail
        go_ret
        exact ⟨ret_sl HU.out.symm, rfl⟩

theorem digit_any (a : Option Addr) (len cap : Nat) (zs : List Int) (i : Int) (w : World) (h : Sl w a len zs) (hi : 0 ≤ i) :
    Calls Try.prog 63 #[.slice a len cap, .int .i64 i] w fun e w' => e = .returned (.int .u64 (zs.getD i.toNat 0)) ∧ w' = w := by
  obtain ⟨hz, hL, hc⟩ := h
  obtain ⟨k, rfl⟩ := Int.eq_ofNat_of_zero_le hi
  rw [Int.toNat_natCast]
  by_cases hlt : k < len
  · obtain ⟨b, off, rfl, hcell⟩ := hc (by omega)
    have hcx := hcell k hlt
    clear hc hcell
    generalize zs.getD k 0 = z at hcx ⊢
    go_enter Try.func63, Try.ntmps63
    go_wp2_with fail
    go_ret
    exact ⟨rfl, rfl⟩
  · have e0 : zs.getD k 0 = 0 := by rw [List.getD_eq_getElem?_getD, List.getElem?_eq_none (by omega)]; rfl
    rw [e0]
    go_enter Try.func63, Try.ntmps63
    go_wp2_with fail
    go_ret
    exact ⟨rfl, rfl⟩

/-- A list that grows in memory of the call's own. -/
def Gr (w : World) (B : Nat) (v : Value) (cs : List Int) : Prop := w.ownsRow B 26 1 v cs.length (row cs)

theorem Gr.sl {w : World} {B : Nat} {v : Value} {cs : List Int} (h : Gr w B v cs) (hL : Limbs cs) : ∃ a cap, v = .slice a cs.length cap ∧ cs.length ≤ cap ∧ Sl w a cs.length cs := by
  obtain ⟨h1, h2 | ⟨g, cap, cur, rfl, hB, hh, hc, hm, hs, ht⟩⟩ := h
  · obtain ⟨rfl, h0⟩ := h2
    refine ⟨none, 0, by rw [h0], by omega, rfl, hL, fun h => ?_⟩
    omega
  · refine ⟨_, cap, rfl, hc, rfl, hL, fun _ => ⟨g, 0, rfl, fun i hi => ?_⟩⟩
    have hr := row_getElem? cs i hi
    rw [← ht, Nat.mul_one, List.getElem?_take_of_lt hi] at hr
    rw [Nat.zero_add]
    simp only [World.cell?, hh]
    simpa using hr
theorem Gr.nil (w : World) (B : Nat) : Gr w B (.slice none 0 0) [] := ⟨rfl, .inl ⟨rfl, rfl⟩⟩
theorem Gr.block {w : World} {B : Nat} {v : Value} {cs : List Int} (h : Gr w B v cs) : ∀ k, v.ownBlock = some k → B ≤ k := by
  obtain ⟨h1, h2 | ⟨g, cap, cur, rfl, hB, hh, hc, hm, hs, ht⟩⟩ := h
  · obtain ⟨rfl, h0⟩ := h2
    intro k hk; cases hk
  · intro k hk; cases hk; exact hB
theorem row_append (a b : List Int) : row (a ++ b) = row a ++ row b := by simp [row]
theorem info8 : (Try.prog.info? 26).map (fun i => (i.zero, i.size, i.bytes)) = some (some (.int .u64 0), 1, 8) := by kernel_rfl

/-- append, one step of a region that draws its order. -/
theorem step_app {ops : Array Oper} {o : Oper} {a : Act} {w : World} {K : Act → World → Prop} {Q : Exit → Act → World → Prop} {E : Prop} (hgd : o.guard = none) (s x : Operand)
    (ho : o.op = .call { callee := .builtin .append, args := #[s, x], argTypes := #[22, 22] })
    (B : Nat) (v : Value) (cs : List Int) (hs : a.eval s = v) (hg : Gr w B v cs) (g m c : Nat) (news : List Int) (hx : a.eval x = .slice (some ⟨g, 0, none⟩) m c) (hl : news.length = m) (hn : Own w g news)
    (hb : cs.length + m ≤ 17592186044416) (hB : B ≤ w.heap.size)
    (h : ∀ v' w', Gr w' B v' (cs ++ news) → Below B w w' → K (a.put o.dst v') w') : if Region.wanted o (yielded ops a.tmps) = true then Oper.wp Try.prog o a w K Q else E := by
  have hw : Region.wanted o (yielded ops a.tmps) = true := by simp [Region.wanted, hgd]
  rw [if_pos hw]
  obtain ⟨i0, hi, hz0, hz1, hz2⟩ := info_parts info8
  refine wp_append_own w s x _ ho B 26 i0 (.int .u64 0) 1 8 Try.underlying22 hi hz0 hz1 hz2 rfl (by decide) v cs.length (row cs) hs hg ⟨g, 0, none⟩ m c (row news) hx (by rw [row_length, hl, Nat.mul_one]) ?_ ?_ (by unfold maxLen; omega) (by omega) hB ?_
  · intro j u hu
    have hj : j < news.length := by
      rcases Nat.lt_or_ge j (row news).length with h' | h'
      · rw [row_length] at h'; exact h'
      · rw [List.getElem?_eq_none h'] at hu; cases hu
    rw [row_getElem? _ _ hj] at hu
    cases hu
    rw [addr_add, Nat.zero_add]
    exact hn.cell j hj
  · intro v hv
    simp only [row, List.mem_map] at hv
    obtain ⟨x, -, rfl⟩ := hv
    rfl
  · intro v' w' h2 h3 _
    refine h v' w' ?_ ((Below.refl B w).grown h3 hB hg.block)
    unfold Gr
    rw [List.length_append, hl, row_append]
    exact h2
/-- append, at a plain statement. -/
theorem wpList_app {ops : Array Oper} {rest : List Oper} {o : Oper} {a : Act} {w : World} {Q : Exit → Act → World → Prop} (hgd : o.guard = none) (s x : Operand)
    (ho : o.op = .call { callee := .builtin .append, args := #[s, x], argTypes := #[22, 22] })
    (B : Nat) (v : Value) (cs : List Int) (hs : a.eval s = v) (hg : Gr w B v cs) (g m c : Nat) (news : List Int) (hx : a.eval x = .slice (some ⟨g, 0, none⟩) m c) (hl : news.length = m) (hn : Own w g news)
    (hb : cs.length + m ≤ 17592186044416) (hB : B ≤ w.heap.size)
    (h : ∀ v' w', Hid (Gr w' B v' (cs ++ news)) → Below B w w' → wpList Try.prog ops Q rest (a.put o.dst v') w') : wpList Try.prog ops Q (o :: rest) a w := by
  refine wpList_plain hgd fun K hK => ?_
  have hst := step_app (ops := ops) (o := o) (a := a) (w := w) (K := K) (Q := Q) (E := True) hgd s x ho B v cs hs hg g m c news hx hl hn hb hB (fun v' w' h1 h2 => hK _ _ (h v' w' h1 h2))
  have hw : Region.wanted o (yielded ops a.tmps) = true := by simp [Region.wanted, hgd]
  rw [if_pos hw] at hst
  exact hst
theorem Gr.alloc {w : World} {B : Nat} {v : Value} {cs : List Int} (h : Gr w B v cs) (o : Obj) : Gr (w.alloc o) B v cs := World.ownsRow.alloc h o
theorem Gr.drew {w : World} {B : Nat} {v : Value} {cs : List Int} (h : Gr w B v cs) : Gr w.drew B v cs := h
end Go.Proofs.Ytkgbhiccjbnldaa
