/-
  The document's answers: a list of limbs moved by any number of binary digits.
-/
import Derived.Test.YtkgbhiccjbnldaaRefM
namespace Go.Proofs.Ytkgbhiccjbnldaa
open Go.RowKit Go.Shelf

theorem gr_of_own {w : World} {B g : Nat} {cs : List Int} (h : Own w g cs) (hB : B ≤ g) (hl : cs.length ≤ 9223372036854775807) : Gr w B (.slice (some ⟨g, 0, none⟩) cs.length cs.length) cs := by
  refine ⟨by rw [row_length, Nat.mul_one], .inr ⟨g, cs.length, (row cs).toArray, rfl, hB, h, Nat.le_refl _, by unfold maxLen; omega, by simp [row_length], ?_⟩⟩
  rw [Nat.mul_one]
  exact List.take_of_length_le (by rw [row_length]; exact Nat.le_refl _)
/-- append of a list that is read elsewhere, at a plain statement. -/
theorem wpList_app_sl {ops : Array Oper} {rest : List Oper} {o : Oper} {a : Act} {w : World} {Q : Exit → Act → World → Prop} (hgd : o.guard = none) (s x : Operand)
    (ho : o.op = .call { callee := .builtin .append, args := #[s, x], argTypes := #[22, 22] })
    (B : Nat) (v : Value) (cs : List Int) (hs : a.eval s = v) (hg : Gr w B v cs) (b off m c : Nat) (news : List Int) (hx : a.eval x = .slice (some ⟨b, off, none⟩) m c) (hn : Sl w (some ⟨b, off, none⟩) m news)
    (hb : cs.length + m ≤ 17592186044416) (hB : B ≤ w.heap.size)
    (h : ∀ v' w', Hid (Gr w' B v' (cs ++ news)) → Below B w w' → wpList Try.prog ops Q rest (a.put o.dst v') w') : wpList Try.prog ops Q (o :: rest) a w := by
  obtain ⟨i0, hi, hz0, hz1, hz2⟩ := info_parts info8
  refine wpList_append_own w hgd s x _ ho B 26 i0 (.int .u64 0) 1 8 Try.underlying22 hi hz0 hz1 hz2 rfl (by decide) v cs.length (row cs) hs hg ⟨b, off, none⟩ m c (row news) hx (by rw [row_length, hn.1, Nat.mul_one]) ?_ (row_one _) (by unfold maxLen; omega) (by omega) hB ?_
  · intro j u hu
    have e : news.take m = news := List.take_of_length_le (by rw [hn.1]; exact Nat.le_refl _)
    rw [← e] at hu
    exact src_row hn (Nat.le_refl _) j u hu
  · intro v' w' h2 h3 _
    refine h v' w' ?_ ((Below.refl B w).grown h3 hB hg.block)
    show Gr w' B v' (cs ++ news)
    unfold Gr
    rw [List.length_append, hn.1, row_append]
    exact h2

theorem rleft_neg (a : Option Addr) (la ca : Nat) (t : Int) (w : World) (ht : t < 0) :
    Calls Try.prog 36 #[.slice a la ca, .int .i64 t] w fun e w' => e = .returned (.tuple #[.slice none 0 0, .int .i64 2]) ∧ w' = w := by
  go_enter Try.func36, Try.ntmps36
  go_wp2_with fail
  go_ret2
  exact ⟨rfl, rfl⟩
theorem rright_neg (a : Option Addr) (la ca : Nat) (t : Int) (w : World) (ht : t < 0) :
    Calls Try.prog 37 #[.slice a la ca, .int .i64 t] w fun e w' => e = .returned (.tuple #[.slice none 0 0, .int .i64 2]) ∧ w' = w := by
  go_enter Try.func37, Try.ntmps37
  go_wp2_with fail
  go_ret2
  exact ⟨rfl, rfl⟩
theorem rleft_none (a : Option Addr) (la ca : Nat) (xs : List Int) (t : Int) (w : World) (ha : Sl w a la xs) (h1 : la ≤ 8000000000000) (ht : 0 ≤ t) (hu : usedN xs = 0) :
    Calls Try.prog 36 #[.slice a la ca, .int .i64 t] w fun e w' => e = .returned (.tuple #[.slice none 0 0, .int .i64 0]) ∧ Below w.heap.size w w' := by
  have BB := rbits_any a la ca xs w ha h1
  rw [bits_nought hu] at BB
  go_enter Try.func36, Try.ntmps36
  go_wp2_with fail
  refine BB.mono ?_
  rintro e w' ⟨rfl, hb⟩
  go_wp2_with fail
  go_ret2
  exact ⟨rfl, hb⟩
theorem rleft_long (a : Option Addr) (la ca : Nat) (xs : List Int) (t : Int) (w : World) (ha : Sl w a la xs) (h1 : la ≤ 8000000000000) (ht : 0 ≤ t) (hu : 0 < usedN xs) (hlong : 262144 < bitsN xs + t) :
    Calls Try.prog 36 #[.slice a la ca, .int .i64 t] w fun e w' => e = .returned (.tuple #[.slice none 0 0, .int .i64 3]) ∧ Below w.heap.size w w' := by
  have BB := rbits_any a la ca xs w ha h1
  have hbd := bitsN_bd ha.2.1 hu
  have hul := usedN_le xs
  have hz := ha.1
  obtain ⟨q, hq⟩ : ∃ q, bitsN xs = q := ⟨_, rfl⟩
  rw [hq] at BB hbd hlong
  have g1 : (q == 0) = false := by simp; omega
  have g2 : q ≤ 1280000000000000 := by omega
  have g3 : 0 ≤ q := by omega
  clear hq hbd
  by_cases c1 : 262144 < t
  · clear hlong
    go_enter Try.func36, Try.ntmps36
    go_wp2_with fail
    refine BB.mono ?_
    rintro e w' ⟨rfl, hb⟩
    go_wp2_with fail
    go_ret2
    exact ⟨rfl, hb⟩
  · go_enter Try.func36, Try.ntmps36
    go_wp2_with fail
    refine BB.mono ?_
    rintro e w' ⟨rfl, hb⟩
    go_wp2_with fail
    go_ret2
    exact ⟨rfl, hb⟩

theorem p2_half {s : Nat} (h : s ≤ 31) : (0 : Int) < 2 ^ s ∧ (2 : Int) ^ s < 4294967296 := by
  have h1 := p2_pos s
  have h2 := p2_mono h
  have h3 : (2 : Int) ^ 31 = 2147483648 := by decide
  exact ⟨h1, by omega⟩
theorem left_num (N : Int) (p s t : Nat) (ht : t = 32 * p + s) : N * H.pw p * 2 ^ s = N * 2 ^ t := by
  rw [Hpw_eq, Int.mul_assoc, ← Int.pow_add, ht]
theorem Hnum_up (p : Nat) (ds : List Int) : H.num (List.replicate p 0 ++ ds) = H.num ds * H.pw p := by
  rw [H.num_append, H.num_zeros, List.length_replicate, Int.zero_add]

set_option maxHeartbeats 1000000 in
theorem rleft_ok (a : Option Addr) (la ca : Nat) (xs : List Int) (t : Nat) (w : World) (ha : Sl w a la xs) (h1 : la ≤ 2000000000000) (hu : 0 < usedN xs) (hfit : bitsN xs + t ≤ 262144) :
    Calls Try.prog 36 #[.slice a la ca, .int .i64 t] w fun e w' =>
      ∃ a' m c zs, e = .returned (.tuple #[.slice a' m c, .int .i64 0]) ∧ m ≤ c ∧ m ≤ 2 * la + 20000 ∧ Sl w' a' m zs ∧ usedN zs = m ∧ num zs = num xs * 2 ^ t ∧ Below w.heap.size w w' := by
  have BB := rbits_any a la ca xs w ha (by omega)
  have hbd := bitsN_bd ha.2.1 hu
  have hne : num xs ≠ 0 := fun e => by have := (num_eq_zero ha.2.1).1 e; omega
  have HNE : Hid (num xs ≠ 0) := hne
  obtain ⟨q, hq⟩ : ∃ q, bitsN xs = q := ⟨_, rfl⟩
  rw [hq] at BB hbd hfit
  have g1 : (q == 0) = false := by simp; omega
  have g3 : 0 < q := by omega
  have htb : t ≤ 262144 := by omega
  have c1 : ¬ 262144 < (t : Int) := by omega
  have c2 : ¬ 262144 < q + (t : Int) := by omega
  obtain ⟨p, hp⟩ : ∃ p, t / 32 = p := ⟨_, rfl⟩
  obtain ⟨s, hs⟩ : ∃ s, t % 32 = s := ⟨_, rfl⟩
  have ep : (t : Int) / 32 = p := by omega
  have es : (t : Int) % 32 = s := by omega
  have hpb : p ≤ 8192 := by omega
  have HT : Hid (t = 32 * p + s) := by show t = 32 * p + s; omega
  have hs31 : s ≤ 31 := by omega
  have m1 : min s 64 = s := by omega
  obtain ⟨pp1, pp2⟩ := p2_half hs31
  obtain ⟨PP, hPP⟩ : ∃ q : Int, (2 : Int) ^ s = q := ⟨_, rfl⟩
  have HPP : Hid ((2 : Int) ^ s = PP) := hPP
  rw [hPP] at pp1 pp2
  have hwr : IntKind.u64.wrap ((2 : Int) ^ s) = PP := by rw [hPP, IntKind.wrap_u64]; omega
  have hmk := make_row p (by omega)
  clear hq hbd hfit hne hp hs hPP hu
  go_enter Try.func36, Try.ntmps36
  go_wp2_with fail
  refine BB.mono ?_
  rintro e w1 ⟨rfl, hb1⟩
  replace ha := ha.below hb1 (Nat.le_refl _)
  clear BB
  go_wp2_with fail
  have hbm : Below w1.heap.size w1 (w1.alloc (.cells (row (List.replicate p 0)).toArray 26)) := (Below.refl _ _).alloc (Nat.le_refl _) _
  have O1 : Own (w1.alloc (.cells (row (List.replicate p 0)).toArray 26)) w1.heap.size (List.replicate p 0) := heap_alloc_new _ _
  replace ha := ha.below hbm (Nat.le_refl _)
  have B1 := step hb1 hbm
  refine (digits_any a la ca xs _ ha (by omega)).mono ?_
  rintro e w2 ⟨a2, m2, c2, d2, rfl, k2, l2, t2, L2, u2, n2, b2⟩
  replace O1 := O1.below b2 (by simp)
  have B2 := step B1 b2
  have hm2 : 0 < m2 := by
    rcases Nat.eq_zero_or_pos m2 with h | h
    · exact absurd (n2.symm.trans ((H.num_eq_zero L2).2 (by rw [u2, h]))) HNE.out
    · exact h
  obtain ⟨b2b, o2b, rfl, -⟩ := t2.2.2 hm2
  have N2 : Hid (H.num d2 = num xs) := n2
  have hlr : (List.replicate p (0 : Int)).length = p := by simp
  have G1 := gr_of_own (B := w.heap.size) O1 hb1.size (by rw [hlr]; omega)
  rw [hlr] at G1
  have HG1 : Hid (Gr w2 w.heap.size (.slice (some ⟨w1.heap.size, 0, none⟩) p p) (List.replicate p 0)) := G1
  have HLR : Hid ((List.replicate p (0 : Int)).length = p) := hlr
  have HT2 : Hid (Sl w2 (some ⟨b2b, o2b, none⟩) m2 d2) := t2
  clear n2 u2 b2 hbm O1 G1 hlr hmk ha hb1 B1 t2
  go_wp2_with (at_builtin; refine wpList_app_sl rfl (.tmp 25) (.tmp 27) rfl w.heap.size _ (List.replicate p 0) rfl HG1.out b2b o2b m2 c2 d2 rfl HT2.out (by rw [HLR.out]; omega) B2.size ?_; intro v1 w3 hG3 hb3)
  have B3 : Below w.heap.size w w3 := B2.trans hb3
  have L3 : H.Limbs (List.replicate p 0 ++ d2) := (H.Limbs.zeros p).append L2
  obtain ⟨a3, c3, hv3, hc3, t3⟩ := hG3.out.sl L3.up
  have hl3 : (List.replicate p (0 : Int) ++ d2).length = p + m2 := by rw [List.length_append, HLR.out, HT2.out.1]
  rw [hl3] at hv3 hc3 t3
  rw [hv3]
  have N3 : Hid (H.num (List.replicate p 0 ++ d2) = num xs * H.pw p) := by show _ = _; rw [Hnum_up, N2.out]
  clear hv3 hG3 hb3 hl3 HG1 HT2 B2
  go_wp2_with fail
  have tP := sl_news w3 [PP] (limbs1 ⟨by omega, by omega⟩)
  have hbP : Below w3.heap.size w3 (w3.alloc (.cells (row [PP]).toArray 26)) := (Below.refl _ _).alloc (Nat.le_refl _) _
  replace t3 := t3.below hbP (Nat.le_refl _)
  have LP : H.Limbs [PP] := fun z hz => by rw [List.mem_singleton.1 hz]; exact ⟨by omega, pp2⟩
  have B4 := step B3 hbP
  refine (product_any a3 (some ⟨w3.heap.size, 0, none⟩) (p + m2) c3 1 1 _ [PP] _ t3 tP L3 LP (by omega) (by omega)).mono ?_
  rintro e w5 ⟨a5, m5, c5, d5, rfl, k5, l5, t5, L5, -, n5, b5⟩
  have B5 := step B4 b5
  have N5 : Hid (H.num d5 = num xs * 2 ^ t) := by
    show _ = _
    rw [n5, N3.out, ← left_num (num xs) p s t HT.out, HPP.out]
    simp [H.num]
  clear n5 b5 tP t3 hbP B4 B3
  go_wp2_with fail
  refine (limbsr_any a5 m5 c5 d5 _ t5 L5 (by omega)).mono ?_
  rintro e w6 ⟨a6, m6, c6, d6, rfl, k6, l6, t6, u6, n6, b6⟩
  have N6 : Hid (num d6 = num xs * 2 ^ t) := n6.trans N5.out
  clear n6
  go_wp2_with fail
  go_ret2
  exact ⟨a6, m6, c6, d6, rfl, k6, by omega, t6, u6, N6.out, step B5 b6⟩
end Go.Proofs.Ytkgbhiccjbnldaa
