/-
  The document's answers: low, digit, halves: a list of limbs as digits to the base 2^32.
-/
import Derived.Test.YtkfpblonjinfmaaLaw2
import Derived.Test.YtkfpblonjinfmaaNumsH
namespace Go.Proofs.Ytkfpblonjinfmaa
open Go.RowKit Go.Shelf

set_option maxHeartbeats 400000 in
theorem cutr_any (a : Option Addr) (len cap : Nat) (zs : List Int) (w : World) (h : Sl w a len zs) (hl : len ≤ 40000000000000) (hcap : len ≤ cap) :
    Calls Try.prog 72 #[.slice a len cap] w fun e w' => e = .returned (.slice a (usedN zs) cap) ∧ w' = w := by
  obtain ⟨hz, hL, hc⟩ := h
  by_cases h0 : len = 0
  · subst h0
    have e0 : usedN zs = 0 := by have := usedN_le zs; omega
    rw [e0]
    cases a with
    | none =>
      go_enter Try.func72, Try.ntmps72
      go_wp2_with fail
      refine wp_loop_rounds 1 ?_
      rw [rounds_succ]
      go_wp2_with fail
      go_ret
      exact ⟨rfl, rfl⟩
    | some a =>
      go_enter Try.func72, Try.ntmps72
      go_wp2_with fail
      refine wp_loop_rounds 1 ?_
      rw [rounds_succ]
      go_wp2_with fail
      go_ret
      exact ⟨rfl, rfl⟩
  · obtain ⟨b, off, rfl, hcell⟩ := hc (by omega)
    go_enter Try.func72, Try.ntmps72
    go_wp2_with fail
    go_loop [3] (fun i => ∃ k : Nat, k ≤ len ∧ i = .int .i64 k ∧ Hid (∀ j, k ≤ j → j < len → zs.getD j 0 = 0)) (fun i => (intOf i).toNat)
    case atStart => exact ⟨len, Nat.le_refl _, rfl, fun j h1 h2 => absurd h1 (by omega)⟩
    case round =>
      obtain ⟨k, hk, rfl, hI⟩ := hrel
      by_cases hlt : 0 < k
      · have hcx := hcell (k - 1) (by omega)
        have ex : ((k : Int) - 1).toNat = k - 1 := by omega
        obtain ⟨x, hx⟩ : ∃ x, zs.getD (k - 1) 0 = x := ⟨_, rfl⟩
        rw [hx] at hcx
        have HX : Hid (zs.getD (k - 1) 0 = x) := hx
        clear hx
        by_cases hx0 : x = 0
        · have g1 : (x == 0) = true := by simp [hx0]
          have HX0 : Hid (x = 0) := hx0
          clear hx0
          go_wp2_with fail
          go_round
          case rel =>
            refine ⟨k - 1, by omega, by rw [show ((k - 1 : Nat) : Int) = (k : Int) - 1 by omega], ?_⟩
            intro j h1 h2
            by_cases hj : j = k - 1
            · rw [hj, HX.out, HX0.out]
            · exact hI.out j (by omega) h2
          case measure => simp [intOf]; omega
        · have g1 : (x == 0) = false := by simp [hx0]
          have hu : usedN zs = k := usedN_eq (by omega) (fun i h1 h2 => hI.out i h1 (by omega)) (.inr (by rw [HX.out]; exact hx0))
          have HU : Hid (usedN zs = k) := hu
          clear hu hx0
          go_wp2_with fail
          go_ret
          exact ⟨ret_sl HU.out.symm, rfl⟩
      · obtain rfl : k = 0 := by omega
        have hu : usedN zs = 0 := usedN_eq (by omega) (fun i h1 h2 => hI.out i (by omega) (by omega)) (.inl rfl)
        have HU : Hid (usedN zs = 0) := hu
        clear hu
        go_wp2_with fail
        go_ret
        exact ⟨ret_sl HU.out.symm, rfl⟩

theorem digit_any (a : Option Addr) (len cap : Nat) (zs : List Int) (i : Int) (w : World) (h : Sl w a len zs) (hi : 0 ≤ i) :
    Calls Try.prog 56 #[.slice a len cap, .int .i64 i] w fun e w' => e = .returned (.int .u64 (zs.getD i.toNat 0)) ∧ w' = w := by
  obtain ⟨hz, hL, hc⟩ := h
  obtain ⟨k, rfl⟩ := Int.eq_ofNat_of_zero_le hi
  rw [Int.toNat_natCast]
  by_cases hlt : k < len
  · obtain ⟨b, off, rfl, hcell⟩ := hc (by omega)
    have hcx := hcell k hlt
    clear hc hcell
    generalize zs.getD k 0 = z at hcx ⊢
    go_enter Try.func56, Try.ntmps56
    go_wp2_with fail
    go_ret
    exact ⟨rfl, rfl⟩
  · have e0 : zs.getD k 0 = 0 := by rw [List.getD_eq_getElem?_getD, List.getElem?_eq_none (by omega)]; rfl
    rw [e0]
    go_enter Try.func56, Try.ntmps56
    go_wp2_with fail
    go_ret
    exact ⟨rfl, rfl⟩

/-- append, at a plain statement. -/
theorem wpList_app {ops : Array Oper} {rest : List Oper} {o : Oper} {a : Act} {w : World} {Q : Exit → Act → World → Prop} (hgd : o.guard = none) (s x : Operand)
    (ho : o.op = .call { callee := .builtin .append, args := #[s, x], argTypes := #[22, 22] })
    (B : Nat) (v : Value) (cs : List Int) (hs : a.eval s = v) (hg : Gr w B v cs) (g m c : Nat) (news : List Int) (hx : a.eval x = .slice (some ⟨g, 0, none⟩) m c) (hl : news.length = m) (hn : Own w g news)
    (hb : cs.length + m ≤ 17592186044416) (hB : B ≤ w.heap.size)
    (h : ∀ v' w', Hid (Gr w' B v' (cs ++ news)) → Below B w w' → wpList Try.prog ops Q rest (a.put o.dst v') w') : wpList Try.prog ops Q (o :: rest) a w := by
  refine wpList_plain hgd fun K hK => ?_
  have hst := step_app (ops := ops) (o := o) (a := a) (w := w) (K := K) (Q := Q) (E := True) hgd s x ho B v cs hs hg g m c news hx hl hn hb hB (fun v' w' h1 h2 => hK _ _ (h v' w' h1 h2))
  have hw : Region.wanted o (yielded ops a.tmps) = true := by simp [Region.wanted, hgd]
  rw [if_pos hw] at hst
  exact hst
theorem Gr.alloc {w : World} {B : Nat} {v : Value} {cs : List Int} (h : Gr w B v cs) (o : Obj) : Gr (w.alloc o) B v cs := World.ownsRow.alloc h o
theorem Gr.drew {w : World} {B : Nat} {v : Value} {cs : List Int} (h : Gr w B v cs) : Gr w.drew B v cs := h
/-- What holds behind k limbs. -/
def GInv (zs cs : List Int) (k : Nat) : Prop := cs.length = 2 * k ∧ H.Limbs cs ∧ H.num cs = num (zs.take k)
theorem ginv_step {zs cs : List Int} {k : Nat} (h : Limbs zs) (I : GInv zs cs k) : GInv zs (cs ++ [zs.getD k 0 % 4294967296, zs.getD k 0 / 4294967296]) (k + 1) := by
  obtain ⟨i1, i2, i3⟩ := I
  have b := h.getD k
  refine ⟨by simp; omega, i2.append ?_, ?_⟩
  · intro z hz
    simp only [List.mem_cons, List.not_mem_nil, or_false] at hz
    rcases hz with rfl | rfl <;> omega
  · rw [H.num_append, i1, H.pw_two, num_take_succ, i3]
    have : H.num [zs.getD k 0 % 4294967296, zs.getD k 0 / 4294967296] = zs.getD k 0 := by simp only [H.num]; omega
    rw [this]

/-- A list of digits is answered, trimmed, of that number. -/
def DRes (w w' : World) (e : Ending) (N : Int) (bound : Nat) : Prop :=
  ∃ a m c ds, e = .returned (.slice a m c) ∧ m ≤ c ∧ m ≤ bound ∧ Sl w' a m ds ∧ H.Limbs ds ∧ usedN ds = m ∧ H.num ds = N ∧ Below w.heap.size w w'

set_option maxHeartbeats 1000000 in
theorem digits_any (a : Option Addr) (la ca : Nat) (zs : List Int) (w : World) (h : Sl w a la zs) (hl : la ≤ 8000000000000) :
    Calls Try.prog 55 #[.slice a la ca] w fun e w' => DRes w w' e (num zs) (2 * la) := by
  have hz := h.1
  have hL := h.2.1
  go_enter Try.func55, Try.ntmps55
  go_wp2_with fail
  go_loopw [3, 4] (fun v i wr => ∃ (k : Nat) (cs : List Int), k ≤ la ∧ i = .int .i64 k ∧ Hid (GInv zs cs k) ∧ Hid (Gr wr w.heap.size v cs) ∧ Below w.heap.size w wr) (fun _ i _ => la - (intOf i).toNat)
  case atStart => exact ⟨0, [], Nat.zero_le _, rfl, ⟨rfl, H.Limbs.nil, rfl⟩, Gr.nil _ _, Below.refl _ _⟩
  case round =>
    obtain ⟨k, cs, hk, rfl, hI, hG, hb⟩ := hrel
    by_cases hlt : k < la
    · have hs := h.below hb (Nat.le_refl _)
      obtain ⟨b, off, rfl, hcell⟩ := hs.2.2 (by omega)
      have hcx := hcell k hlt
      have hstep := ginv_step hL hI.out
      have hw := hL.getD k
      obtain ⟨x, hx⟩ : ∃ x, zs.getD k 0 = x := ⟨_, rfl⟩
      rw [hx] at hcx hstep hw
      obtain ⟨x1, x2⟩ := hw
      obtain ⟨d0, hd0⟩ : ∃ d, x % 4294967296 = d := ⟨_, rfl⟩
      obtain ⟨d1, hd1⟩ : ∃ d, x / 4294967296 = d := ⟨_, rfl⟩
      rw [hd0, hd1] at hstep
      have e1 : x.tmod 4294967296 = d0 := by rw [Int.tmod_eq_emod_of_nonneg x1, hd0]
      have e2 : IntKind.u64.wrap (x.tdiv 4294967296) = d1 := by rw [Int.tdiv_eq_ediv_of_nonneg x1, IntKind.wrap_u64]; omega
      have HS : Hid (GInv zs (cs ++ [d0, d1]) (k + 1)) := hstep
      have hcl : cs.length ≤ 2 * k := by have := hI.out.1; omega
      clear hs hcell hx hstep hd0 hd1
      go_wp2_with fail
      go_region_law (refine step_app rfl (.tmp 11) (.tmp 22) rfl w.heap.size u3 cs (by simp [Act.eval]) (by exact hG.out.alloc _) wr.heap.size 2 2 [d0, d1] (by simp [Act.eval]) rfl (by exact heap_alloc_new _ _) (by omega) (by have := hb.size; simp; omega) ?_; intro v1 w1 hG1 hb1)
      all_goals
        have hb2 : Below w.heap.size w w1 := ((hb.alloc hb.size _).drew).trans hb1
        have HG1 : Hid (Gr w1 w.heap.size v1 (cs ++ [d0, d1])) := hG1
        clear hG1 hb1
        go_wp2_with fail
        go_roundw
        case rel => exact ⟨k + 1, _, by omega, by go_num, HS, HG1, hb2⟩
        case measure => simp [intOf]; omega
    · obtain rfl : k = la := by omega
      obtain ⟨i1, i2, i3⟩ := hI.out
      rw [List.take_of_length_le (by omega)] at i3
      obtain ⟨aa, cap, hv, hcap, hsl⟩ := hG.out.sl i2.up
      have hu := usedN_le cs
      have hle : cs.length ≤ 2 * k := by omega
      rw [hv]
      clear hG hv i1
      go_wp2_with fail
      refine (cutr_any aa cs.length cap cs _ hsl (by omega) hcap).mono ?_
      rintro e w2 ⟨rfl, rfl⟩
      go_wp2_with fail
      go_ret
      exact ⟨aa, usedN cs, cap, cs.take (usedN cs), rfl, by omega, by omega, hsl.take hu, i2.take _, usedN_take cs (Nat.le_refl _), by rw [H.num_take_used cs (Nat.le_refl _)]; exact i3, hb⟩
end Go.Proofs.Ytkfpblonjinfmaa
