/-
  The statements' own ratio of layer 6: of any sign and two lists the program's number and the document's.
-/
import Derived.Test.YtebbblhafjaaiaaGreatDoorMgAa
import Derived.Test.YtebbblhafjaaiaaGreatDoorMgAj
import Derived.Test.YtebbblhafjaaiaaGreatDoorMgAh
import Derived.Test.YtebbblhafjaaiaaGreatDoorMgAk
namespace Go.Proofs.YtebbblhafjaaiaaGreatDoor
open Go.RowKit Go.Shelf
set_option linter.unusedVariables false
/-- What ratio answers. -/
def RaR (neg : Bool) (un ud : Nat) (e : Ending) (w' : World) : Prop :=
  (¬ (un ≤ 1024 ∧ ud ≤ 1024 ∧ 0 < ud) ∧ e = .returned (.tuple #[.agg #[.bool false, .slice none 0 0, .slice none 0 0], .agg #[.bool false, .slice none 0 0, .slice none 0 0], .bool false])) ∨
  ((un ≤ 1024 ∧ ud ≤ 1024 ∧ 0 < ud) ∧ ∃ s a l c zs b m d ds v an ln cn xs ad ld cd ys, e = .returned (.tuple #[.agg #[.bool s, .slice a l c, .slice b m d], .agg #[.bool neg, .slice an ln cn, .slice ad ld cd], .bool true]) ∧ Rt w' s a l c zs b m d ds v ∧ Sl w' an ln xs ∧ Sl w' ad ld ys ∧ ln ≤ cn ∧ ld ≤ cd ∧ ln ≤ un ∧ ld ≤ ud ∧ num ys ≠ 0 ∧ v = Rat.divInt (iv neg xs) (num ys))
theorem results_rrt {fn : Func} {i j k b b2 : Nat} {x y z x2 y2 z2 : Value} {tmps : Array Value} {w : World} (h : fn.results = #[.cell i 45, .cell j 37, .tmp k]) (hi : tmps.getD i undef = .pointer (some ⟨b, 0, none⟩)) (hj : tmps.getD j undef = .pointer (some ⟨b2, 0, none⟩)) (hv : Va w b 45 #[x, y, z]) (hv2 : Va w b2 37 #[x2, y2, z2]) :
    (results fn tmps).run Tryz.prog w = .ok (.tuple #[.agg #[x, y, z], .agg #[x2, y2, z2], tmps.getD k undef]) w := by
  have c := hv.d0; have d := hv.d1; have e := hv.d2
  have c2 := hv2.d0; have d2 := hv2.d1; have e2 := hv2.d2
  rw [Array.getD_eq_getD_getElem?] at hi hj
  simp [results, h, hi, hj, c, d, e, c2, d2, e2, go_sem]
theorem two_set {w : World} {b b2 : Nat} {t t2 : TypeId} {x y z x2 y2 z2 : Value} (V2 : Va w b t #[x, y, z]) (V3 : Va w b2 t2 #[x2, y2, z2]) (hne : b ≠ b2) (x' y' z' x3 y3 z3 : Value) :
    Va ((((((w.setCell ⟨b, 0, none⟩ x').setCell ⟨b, 1, none⟩ y').setCell ⟨b, 2, none⟩ z').setCell ⟨b2, 0, none⟩ x3).setCell ⟨b2, 1, none⟩ y3).setCell ⟨b2, 2, none⟩ z3) b t #[x', y', z'] ∧
    Va ((((((w.setCell ⟨b, 0, none⟩ x').setCell ⟨b, 1, none⟩ y').setCell ⟨b, 2, none⟩ z').setCell ⟨b2, 0, none⟩ x3).setCell ⟨b2, 1, none⟩ y3).setCell ⟨b2, 2, none⟩ z3) b2 t2 #[x3, y3, z3] := by
  refine sto3 V2 x' y' z' (Q := fun W => Va (((W.setCell ⟨b2, 0, none⟩ x3).setCell ⟨b2, 1, none⟩ y3).setCell ⟨b2, 2, none⟩ z3) b t #[x', y', z'] ∧ Va (((W.setCell ⟨b2, 0, none⟩ x3).setCell ⟨b2, 1, none⟩ y3).setCell ⟨b2, 2, none⟩ z3) b2 t2 #[x3, y3, z3]) ?_
  intro W V' oth far
  have V3' := oth _ _ _ (Ne.symm hne) V3
  refine sto3 V3' x3 y3 z3 (Q := fun W => Va W b t #[x', y', z'] ∧ Va W b2 t2 #[x3, y3, z3]) ?_
  intro W2 V'' oth2 far2
  exact ⟨oth2 _ _ _ hne V', V''⟩

theorem Sl.fr6 {w w' : World} {a : Option Addr} {n : Nat} {zs : List Int} (h : Sl w a n zs) (hk : 0 < n → ∀ p, a = some p → w'.heap[p.block]? = w.heap[p.block]?) : Sl w' a n zs := by
  obtain ⟨h1, h2, h3⟩ := h
  refine ⟨h1, h2, fun h0 => ?_⟩
  obtain ⟨b, off, rfl, hc⟩ := h3 h0
  refine ⟨b, off, rfl, fun i hi => ?_⟩
  rw [← hc i hi]
  exact World.cell?_of_block (w := w) (hk h0 ⟨b, off, none⟩ rfl)
set_option maxHeartbeats 1000000 in
theorem rtrim_new6 (a : Option Addr) (len cap : Nat) (zs : List Int) (w : World) (h : Sl w a len zs) (hn : a = none → len = 0 ∧ cap = 0) (hl : len ≤ 17592186044416) (hcap : len ≤ cap) :
    Calls Tryz.prog 24 #[.slice a len cap] w fun e w' => ∃ a' c', e = .returned (.slice a' (usedN zs) c') ∧ Sl w' a' (usedN zs) (zs.take (usedN zs)) ∧ usedN zs ≤ c' ∧ (a' = none → usedN zs = 0 ∧ c' = 0) ∧ (0 < usedN zs → ∀ p, a' = some p → w.heap.size ≤ p.block) ∧ Below w.heap.size w w' := by
  have HSL : Hid (Sl w a len zs) := h
  obtain ⟨hz, hL, hc⟩ := h
  by_cases h0 : len = 0
  · subst h0
    have e0 : usedN zs = 0 := by have := usedN_le zs; omega
    rw [e0]
    cases a with
    | none =>
      obtain ⟨-, rfl⟩ := hn rfl
      go_enter Tryz.func24, Tryz.ntmps24
      go_wp2_with fail
      refine wp_loop_rounds 1 ?_
      rw [rounds_succ]
      go_wp2_with fail
      go_ret
      exact ⟨none, 0, rfl, ⟨rfl, Limbs.nil, fun h => absurd h (by decide)⟩, Nat.le_refl _, (fun _ => ⟨trivial, rfl⟩), (fun h => absurd h (by decide)), Below.refl _ _⟩
    | some ad =>
      have hsl : Sl w (some ad) 0 [] := ⟨rfl, Limbs.nil, fun h => absurd h (by decide)⟩
      go_enter Tryz.func24, Tryz.ntmps24
      go_wp2_with fail
      refine wp_loop_rounds 1 ?_
      rw [rounds_succ]
      go_wp2_with (at_builtin; refine wpList_app_some rfl (.tmp 19) (.tmp 22) rfl w.heap.size _ [] rfl (Gr.nil _ _) ad 0 cap [] rfl hsl (by simp) (Nat.le_refl _) ?_; intro v1 w1 hG hb)
      go_ret
      obtain ⟨a1, c1, gm, e1, hc1, hs1, hgm, hn1, hb1⟩ := Gr.parts (by simpa using hG.out) Limbs.nil
      exact ⟨a1, c1, congrArg _ e1, hs1, hc1, (fun h => ⟨trivial, (hn1 h).2⟩), (fun h => absurd h (by decide)), hb⟩
  · obtain ⟨b, off, rfl, hcell⟩ := hc (by omega)
    go_enter Tryz.func24, Tryz.ntmps24
    go_wp2_with fail
    go_loop [3] (fun i => ∃ k : Nat, k ≤ len ∧ i = .int .i64 k ∧ Hid (∀ j, k ≤ j → j < len → zs.getD j 0 = 0)) (fun i => (intOf i).toNat)
    case atStart => exact ⟨len, Nat.le_refl _, rfl, fun j h1 h2 => absurd h1 (by omega)⟩
    case round =>
      obtain ⟨k, hk, rfl, hI⟩ := hrel
      by_cases hlt : 0 < k
      · have hcx := hcell (k - 1) (by omega)
        have ex : ((k : Int) - 1).toNat = k - 1 := by omega
        obtain ⟨x, hx⟩ : ∃ x, zs.getD (k - 1) 0 = x := ⟨_, rfl⟩
        rw [hx] at hcx
        have HX : Hid (zs.getD (k - 1) 0 = x) := hx
        clear hx
        by_cases hx0 : x = 0
        · have g1 : (x == 0) = true := by simp [hx0]
          have HX0 : Hid (x = 0) := hx0
          clear hx0
          go_wp2_with fail
          go_round
          case rel =>
            refine ⟨k - 1, by omega, by rw [show ((k - 1 : Nat) : Int) = (k : Int) - 1 by omega], ?_⟩
            intro j h1 h2
            by_cases hj : j = k - 1
            · rw [hj, HX.out, HX0.out]
            · exact hI.out j (by omega) h2
          case measure => simp [intOf]; omega
        · have g1 : (x == 0) = false := by simp [hx0]
          have hu : usedN zs = k := usedN_eq (by omega) (fun i h1 h2 => hI.out i h1 (by omega)) (.inr (by rw [HX.out]; exact hx0))
          have HU : Hid (usedN zs = k) := hu
          clear hu hx0
          have hsl := HSL.out.take (m := k) (by omega)
          go_wp2_with (at_builtin; refine wpList_app_some rfl (.tmp 19) (.tmp 22) rfl w.heap.size _ [] rfl (Gr.nil _ _) ⟨b, off, none⟩ k cap (zs.take k) rfl hsl (by simp <;> omega) (Nat.le_refl _) ?_; intro v1 w1 hG hb)
          go_ret
          obtain ⟨a1, c1, gm, e1, hc1, hs1, hgm, hn1, hb1⟩ := Gr.parts (by simpa using hG.out) (hL.take k)
          rw [List.length_take, Nat.min_eq_left (by omega)] at e1 hc1 hs1 hn1 hb1
          exact ⟨a1, c1, by rw [HU.out]; exact congrArg _ e1, by rw [HU.out]; exact hs1, by rw [HU.out]; exact hc1, by rw [HU.out]; exact hn1, by rw [HU.out]; exact (fun h p hp => by rw [(hb1 h).1] at hp; cases hp; exact hgm), hb⟩
      · obtain rfl : k = 0 := by omega
        have hu : usedN zs = 0 := usedN_eq (by omega) (fun i h1 h2 => hI.out i (by omega) (by omega)) (.inl rfl)
        have HU : Hid (usedN zs = 0) := hu
        clear hu
        have hsl := HSL.out.take (m := 0) (by omega)
        go_wp2_with (at_builtin; refine wpList_app_some rfl (.tmp 19) (.tmp 22) rfl w.heap.size _ [] rfl (Gr.nil _ _) ⟨b, off, none⟩ 0 cap (zs.take 0) rfl hsl (by simp <;> omega) (Nat.le_refl _) ?_; intro v1 w1 hG hb)
        go_ret
        obtain ⟨a1, c1, gm, e1, hc1, hs1, hgm, hn1, hb1⟩ := Gr.parts (by simpa using hG.out) (hL.take 0)
        rw [List.length_take, Nat.min_eq_left (by omega)] at e1 hc1 hs1 hn1 hb1
        exact ⟨a1, c1, by rw [HU.out]; exact congrArg _ e1, by rw [HU.out]; exact hs1, by rw [HU.out]; exact hc1, by rw [HU.out]; exact hn1, by rw [HU.out]; exact (fun h p hp => by rw [(hb1 h).1] at hp; cases hp; exact hgm), hb⟩
theorem step_app_sl {ops : Array Oper} {o : Oper} {a : Act} {w : World} {K : Act → World → Prop} {Q : Exit → Act → World → Prop} {E : Prop} (hgd : o.guard = none) (s x : Operand)
    (ho : o.op = .call { callee := .builtin .append, args := #[s, x], argTypes := #[35, 35] })
    (B : Nat) (v : Value) (cs : List Int) (hs : a.eval s = v) (hg : Gr w B v cs) (b off m c : Nat) (news : List Int) (hx : a.eval x = .slice (some ⟨b, off, none⟩) m c) (hn : Sl w (some ⟨b, off, none⟩) m news)
    (hb : cs.length + m ≤ 17592186044416) (hB : B ≤ w.heap.size)
    (h : ∀ v' w', Gr w' B v' (cs ++ news) → w.grownBy w' v.ownBlock → K (a.put o.dst v') w') : if Region.wanted o (yielded ops a.tmps) = true then Oper.wp Tryz.prog o a w K Q else E := by
  have hw : Region.wanted o (yielded ops a.tmps) = true := by simp [Region.wanted, hgd]
  rw [if_pos hw]
  obtain ⟨i0, hi, hz0, hz1, hz2⟩ := info_parts info8
  refine wp_append_own w s x _ ho B 94 i0 (.int .u64 0) 1 8 Tryz.underlying35 hi hz0 hz1 hz2 rfl (by decide) v cs.length (row cs) hs hg ⟨b, off, none⟩ m c (row news) hx (by rw [row_length, hn.1, Nat.mul_one]) ?_ (row_one _) (by unfold maxLen; omega) (by omega) hB ?_
  · intro j u hu
    have e : news.take m = news := List.take_of_length_le (by rw [hn.1]; exact Nat.le_refl _)
    rw [← e] at hu
    exact src_row hn (Nat.le_refl _) j u hu
  · intro v' w' h2 h3 _
    refine h v' w' ?_ h3
    show Gr w' B v' (cs ++ news)
    unfold Gr
    rw [List.length_append, hn.1, row_append]
    exact h2
theorem Sl.grw {w w' : World} {a : Option Addr} {n g : Nat} {zs : List Int} (h : Sl w a n zs) (hg : w.grownBy w' (some g)) (hne : 0 < n → ∀ p, a = some p → p.block ≠ g) : Sl w' a n zs :=
  Sl.fr6 h (fun h0 p hp => hg.block p.block (h.lt h0 hp) (fun e => hne h0 p hp (Option.some.inj e)))
theorem Va.grw {w w' : World} {g b : Nat} {t : TypeId} {cs : Array Value} (h : Va w b t cs) (hg : w.grownBy w' (some g)) (hne : b ≠ g) : Va w' b t cs := by
  unfold Va at *
  rw [hg.block b (by rcases Nat.lt_or_ge b w.heap.size with h' | h'; exact h'; rw [Array.getElem?_eq_none h'] at h; cases h) (fun e => hne (Option.some.inj e))]
  exact h
theorem grw_to {w w' : World} {g B : Nat} (h : w.grownBy w' (some g)) (hB : B ≤ g) (hs : B ≤ w.heap.size) : Below B w w' := ⟨h.os, h.tape, h.output, h.size, fun k hk => h.block k (by omega) (fun e => by cases e; omega)⟩
theorem gr_single {w : World} {g B : Nat} {x : Int} (V : Va w g 94 #[.int .u64 x]) (hB : B ≤ g) : Gr w B (.slice (some ⟨g, 0, none⟩) 1 1) [x] :=
  ⟨rfl, .inr ⟨g, 1, #[.int .u64 x], rfl, hB, V, Nat.le_refl _, by decide, rfl, rfl⟩⟩
theorem copyl6 (a : Option Addr) (la ca : Nat) (zs : List Int) (w : World) (h : Sl w a la zs) (hl : la ≤ 17592186044416) :
    Calls Tryz.prog 66 #[.slice a la ca] w fun e w' => ∃ a' c', e = .returned (.slice a' la c') ∧ Sl w' a' la zs ∧ la ≤ c' ∧ Below w.heap.size w w' := by
  have hL := h.2.1
  have hz := h.1
  cases a with
  | none =>
    obtain rfl : la = 0 := by
      rcases Nat.eq_zero_or_pos la with h0 | h0
      · exact h0
      · obtain ⟨bb, off, e, -⟩ := h.2.2 h0; cases e
    have hz : zs = [] := List.eq_nil_of_length_eq_zero h.1
    subst hz
    go_enter Tryz.func66, Tryz.ntmps66
    go_wp2_with fail
    go_ret
    exact ⟨_, _, rfl, h, Nat.zero_le _, Below.refl _ _⟩
  | some ad =>
    have HSL : Hid (Sl w (some ad) la zs) := h
    have HLL : Hid (Limbs zs ∧ zs.length = la) := ⟨hL, hz⟩
    clear h hL hz
    go_enter Tryz.func66, Tryz.ntmps66
    go_wp2_with (at_builtin; refine wpList_app_some rfl (.tmp 4) (.tmp 5) rfl w.heap.size _ [] rfl (Gr.nil _ _) ad la ca zs rfl HSL.out (by simpa using hl) (Nat.le_refl _) ?_; intro v1 w1 hG hb)
    go_ret
    have hG2 : Gr w1 w.heap.size v1 zs := by simpa using hG.out
    obtain ⟨a1, c1, e1, h1, h2⟩ := hG2.sl HLL.out.1
    rw [HLL.out.2] at e1 h1 h2
    subst e1
    exact ⟨a1, c1, rfl, h2, h1, hb⟩
theorem short_div {xs ys : List Int} (hx : Limbs xs) (hy : Limbs ys) (l1 : xs.length ≤ 1024) (l2 : ys.length ≤ 1024) (neg : Bool) (h0 : num ys ≠ 0) : Short (Rat.divInt (iv neg xs) (num ys)) := by
  have b1 : num xs < pw 1024 := Int.lt_of_lt_of_le (num_lt hx) (pw_mono l1)
  have b2 : num ys < pw 1024 := Int.lt_of_lt_of_le (num_lt hy) (pw_mono l2)
  have n1 := num_nonneg hx
  have n2 := num_nonneg hy
  have e1 : ((iv neg xs).natAbs : Int) = num xs := by unfold iv; cases neg <;> simp <;> omega
  generalize iv neg xs = x at *
  generalize num ys = y at *
  unfold Short
  rw [Rat.num_divInt, Rat.den_divInt, if_neg h0]
  have g1 : ((y.sign * x) / (y.gcd x : Nat)).natAbs ≤ x.natAbs := by
    have hd : ((y.gcd x : Nat) : Int) ∣ y.sign * x := Int.dvd_mul_of_dvd_right (Int.gcd_dvd_right ..)
    rw [Int.natAbs_ediv_of_dvd hd, Int.natAbs_mul, Int.natAbs_sign_of_ne_zero h0, Nat.one_mul]
    exact Nat.div_le_self _ _
  have g2 := Nat.div_le_self y.natAbs (y.gcd x)
  exact ⟨Int.lt_of_le_of_lt (by omega) b1, Int.lt_of_le_of_lt (by omega) b2⟩
theorem ra_fit {x y x' y' : Int} {er : Int} {v : Rat} (h : RA (Rat.divInt x y) er v) (hx : x = x') (hy : y = y') (hs : Short (Rat.divInt x' y')) : er = 0 ∧ v = Rat.divInt x' y' := by
  subst hx hy
  rcases h with ⟨-, h1, h2⟩ | ⟨h1, -⟩
  · exact ⟨h1, h2⟩
  · exact absurd hs h1
theorem iv_num {s : Bool} {xs ys : List Int} (h : num xs = num ys) : iv s xs = iv s ys := by unfold iv; rw [h]
theorem va_other {w : World} {b c : Nat} {t t' : TypeId} {cs cs' : Array Value} (h : Va w b t cs) (e : c = b) (ht : t' ≠ t) : ¬ Va w c t' cs' := by
  intro h'
  subst e
  unfold Va at h h'
  rw [h] at h'
  simp at h'
  exact ht h'.2.symm
theorem one_more {zd : List Int} (h : Limbs zd) : num ([1] ++ zd.take 60) ≠ 0 ∧ Limbs ([1] ++ zd.take 60) := by
  have hL : Limbs (zd.take 60) := fun z hz => h z (List.mem_of_mem_take hz)
  refine ⟨?_, fun z hz => ?_⟩
  · have := num_nonneg hL
    simp only [List.singleton_append, num]
    omega
  · rcases List.mem_append.1 hz with h' | h'
    · rw [List.mem_singleton.1 h']; exact ⟨by decide, by decide⟩
    · exact hL z h'
set_option maxHeartbeats 1000000 in
set_option maxRecDepth 8000 in
theorem ratio6 (neg : Bool) (a0 a1 : Option Addr) (l0 k0 l1 k1 : Nat) (z0 z1 : List Int) (w : World) (h0 : Sl w a0 l0 z0) (h1 : Sl w a1 l1 z1) (c0 : l0 ≤ k0) (c1 : l1 ≤ k1) (t0 : l0 ≤ 17592186044416) (t1 : l1 ≤ 17592186044416) :
    Calls Tryz.prog 23 #[.agg #[.bool neg, .slice a0 l0 k0, .slice a1 l1 k1]] w fun e w' => RaR neg (usedN z0) (usedN z1) e w' ∧ Below w.heap.size w w' := by
  (obtain ⟨ln, hln⟩ : ∃ ln, usedN z0 = ln := ⟨_, rfl⟩); (obtain ⟨ld, hld⟩ : ∃ ld, usedN z1 = ld := ⟨_, rfl⟩); rw [hln, hld]; have HL : Hid (usedN z0 = ln ∧ usedN z1 = ld) := ⟨hln, hld⟩; clear hln hld; have B0 : Below w.heap.size w w := Below.refl _ _
  go_enter Tryz.func23, Tryz.ntmps23
  (go_wp2_with fail); refine ent3 w _ _ _ _ _ _ (Q := fun W => Code.wp Tryz.prog _ _ _ W) ?_; intro x1 hb hs_x1 V1 V2 V3; replace h0 := Sl.after hb h0; replace h1 := Sl.after hb h1; replace B0 := step B0 hb; clear hb hs_x1; refine wp_region_noPanic ?_; replace V1 : Va x1.drew _ _ _ := V1; replace V2 : Va x1.drew _ _ _ := V2; replace V3 : Va x1.drew _ _ _ := V3; replace B0 := Below.drew B0; refine wp_region_held_drew (S := (fun W => W.cell? ⟨w.heap.size, 0, none⟩ = some (.bool neg) ∧ W.cell? ⟨w.heap.size, 1, none⟩ = some (.slice a0 l0 k0) ∧ W.cell? ⟨w.heap.size, 2, none⟩ = some (.slice a1 l1 k1))) (by kernel_rfl) ⟨V1.d0, V1.d1, V1.d2⟩ (fun hHeld => ?_); (obtain ⟨x2, hxd⟩ : ∃ xd, xd = x1.drew := ⟨_, rfl⟩); rw [← hxd] at V1 V2 V3 B0 hHeld ⊢; (replace h0 : Sl x2 a0 l0 z0 := by rw [hxd]; exact h0); (replace h1 : Sl x2 a1 l1 z1 := by rw [hxd]; exact h1); clear hxd; refine tk 0 rfl hHeld ?_; simp only [gA, gB, Act.put, gD, gE, gF]; refine tk 1 rfl hHeld ?_
  simp only [gA, gB, gC, Act.put, gD, gE, gF]; refine tk 3 rfl hHeld ?_; simp only [gA, gB, gC, Act.put, gD, gE, gF]; refine tk 4 rfl hHeld ?_; simp only [gA, gB, gC, Act.put, gD, gE, gF]; refine wpAnyH_ready (rs := [2]) (by kernel_rfl) (by simp) ?_; refine AllReadyH.cons rfl (fun K hK => ?_) AllReadyH.nil; simp only [gA, gB, gC]; (go_simp); refine (rtrim_m a0 l0 k0 z0 _ h0 t0 c0).mono ?_; rintro e x3 ⟨a2, c2, rfl, h2, hc2, hb⟩; replace V1 := Va.after hb V1; replace V2 := Va.after hb V2; replace V3 := Va.after hb V3; replace B0 := step B0 hb; replace h1 := Sl.after hb h1; clear hb h0; (try go_wp2_with fail); refine hK.out _ _ ⟨V1.d0, V1.d1, V1.d2⟩ (fun hHeld => ?_); clear hK K; refine wpAnyH_ready (rs := [5]) (by kernel_rfl) (by simp) ?_; refine AllReadyH.cons rfl (fun K hK => ?_) AllReadyH.nil; simp only [gA, gB, gC]; (go_simp); refine (rtrim_m a1 l1 k1 z1 _ h1 t1 c1).mono ?_; rintro e x4 ⟨a3, c3, rfl, h3, hc3, hb⟩; replace V1 := Va.after hb V1
  replace V2 := Va.after hb V2; replace V3 := Va.after hb V3; replace B0 := step B0 hb; replace h2 := Sl.after hb h2; clear hb h1; (try go_wp2_with fail); refine hK.out _ _ ⟨V1.d0, V1.d1, V1.d2⟩ (fun hHeld => ?_); clear hK K; refine tk 6 rfl hHeld ?_; simp only [gA, gB, gC, Act.put, gD, gE, gF]; refine tk 7 rfl hHeld ?_; simp only [gA, gB, gC, Act.put, gD, gE, gF]; refine wpAnyH_done (by kernel_rfl) ?_ _; refine NoPanic.normal ?_; clear hHeld; have u2 := usedN_take z0 (Nat.le_refl (usedN z0)); have u3 := usedN_take z1 (Nat.le_refl (usedN z1)); (obtain ⟨zn, hzn⟩ : ∃ zn, z0.take (usedN z0) = zn := ⟨_, rfl⟩); (obtain ⟨zd, hzd⟩ : ∃ zd, z1.take (usedN z1) = zd := ⟨_, rfl⟩); rw [hzn] at h2 u2; rw [hzd] at h3 u3; rw [HL.out.1] at h2 hc2 u2 ⊢; rw [HL.out.2] at h3 hc3 u3 ⊢; clear hzn hzd t0 t1 c0 c1; have HA2 : Hid (Sl x4 a2 ln zn ∧ usedN zn = ln) := ⟨h2, u2⟩; have HA3 : Hid (Sl x4 a3 ld zd ∧ usedN zd = ld) := ⟨h3, u3⟩; clear h2 h3 u2 u3 HL
  by_cases g1 : 1024 < ln
  · have g1i : (1024 : Int) < ln := by omega
    have g1n : decide (1024 < ln) = true := decide_eq_true g1; have c_V2 := V2.d0; have f0_V2 := V2.frozen 0; have d_V2 := V2.d1; have f1_V2 := V2.frozen 1; have e_V2 := V2.d2; have f2_V2 := V2.frozen 2; have l_V2 := V2.lt; have m_V2 := Nat.le_of_lt l_V2; have c_V3 := V3.d0; have f0_V3 := V3.frozen 0; have d_V3 := V3.d1; have f1_V3 := V3.frozen 1; have e_V3 := V3.d2; have f2_V3 := V3.frozen 2; have l_V3 := V3.lt; have m_V3 := Nat.le_of_lt l_V3; (go_wp2_with fail); have T2 := two_set V2 V3 (by omega) (.bool false) (.slice none 0 0) (.slice none 0 0) (.bool false) (.slice none 0 0) (.slice none 0 0); refine bodyPost_ret (results_rrt rfl rfl rfl T2.1 T2.2) rfl ?_; exact ⟨.inl ⟨by omega, rfl⟩, belo3 (belo3 B0 (Nat.le_succ _) _ _ _) (by omega) _ _ _⟩
  (have g1i : ¬ (1024 : Int) < ln := by omega); have g1n : decide (1024 < ln) = false := decide_eq_false g1
  by_cases g2 : 1024 < ld
  · have g2i : (1024 : Int) < ld := by omega
    have g2n : decide (1024 < ld) = true := decide_eq_true g2; have c_V2 := V2.d0; have f0_V2 := V2.frozen 0; have d_V2 := V2.d1; have f1_V2 := V2.frozen 1; have e_V2 := V2.d2; have f2_V2 := V2.frozen 2; have l_V2 := V2.lt; have m_V2 := Nat.le_of_lt l_V2; have c_V3 := V3.d0; have f0_V3 := V3.frozen 0; have d_V3 := V3.d1; have f1_V3 := V3.frozen 1; have e_V3 := V3.d2; have f2_V3 := V3.frozen 2; have l_V3 := V3.lt; have m_V3 := Nat.le_of_lt l_V3; (go_wp2_with fail); have T2 := two_set V2 V3 (by omega) (.bool false) (.slice none 0 0) (.slice none 0 0) (.bool false) (.slice none 0 0) (.slice none 0 0); refine bodyPost_ret (results_rrt rfl rfl rfl T2.1 T2.2) rfl ?_; exact ⟨.inl ⟨by omega, rfl⟩, belo3 (belo3 B0 (Nat.le_succ _) _ _ _) (by omega) _ _ _⟩
  (have g2i : ¬ (1024 : Int) < ld := by omega); have g2n : decide (1024 < ld) = false := decide_eq_false g2
  by_cases g3 : ld = 0
  · subst g3
    have c_V2 := V2.d0; have f0_V2 := V2.frozen 0; have d_V2 := V2.d1; have f1_V2 := V2.frozen 1; have e_V2 := V2.d2; have f2_V2 := V2.frozen 2; have l_V2 := V2.lt; have m_V2 := Nat.le_of_lt l_V2; have c_V3 := V3.d0; have f0_V3 := V3.frozen 0; have d_V3 := V3.d1; have f1_V3 := V3.frozen 1; have e_V3 := V3.d2; have f2_V3 := V3.frozen 2; have l_V3 := V3.lt; have m_V3 := Nat.le_of_lt l_V3; (go_wp2_with fail); have T2 := two_set V2 V3 (by omega) (.bool false) (.slice none 0 0) (.slice none 0 0) (.bool false) (.slice none 0 0) (.slice none 0 0); refine bodyPost_ret (results_rrt rfl rfl rfl T2.1 T2.2) rfl ?_; exact ⟨.inl ⟨by omega, rfl⟩, belo3 (belo3 B0 (Nat.le_succ _) _ _ _) (by omega) _ _ _⟩
  (have g3i : ¬ (ld : Int) = 0 := by omega); (have g3b : ((ld : Int) == 0) = false := by simp; omega); have HOK : Hid (ln ≤ 1024 ∧ ld ≤ 1024 ∧ 0 < ld) := ⟨by omega, by omega, by omega⟩; (have hnz : num zd ≠ 0 := by rw [Ne, num_eq_zero HA3.out.1.2.1, HA3.out.2]; exact g3); have HNZ : Hid (num zd ≠ 0) := hnz; clear hnz; (obtain ⟨F, hF⟩ : ∃ F, (decide (60 < ln) && decide (60 < ld)) = F := ⟨_, rfl⟩); have HF : Hid ((decide (60 < ln) && decide (60 < ld)) = F) := hF; clear hF
  go_upto_region 4 with fail
  go_cut [41] (fun s41 wx => s41 = .bool F ∧ wx = x4)
  case first =>
    by_cases g4 : 60 < ln
    · have g4i : (60 : Int) < ln := by omega
      have g4n : decide (60 < ln) = true := decide_eq_true g4
      by_cases g5 : 60 < ld
      · have g5i : (60 : Int) < ld := by omega
        have g5n : decide (60 < ld) = true := decide_eq_true g5; (obtain rfl : F = true := by rw [← HF.out, g4n, g5n]; rfl); (go_wp2_with fail)
        go_meet
        exact ⟨rfl, rfl⟩
      · have g5i : ¬ (60 : Int) < ld := by omega
        have g5n : decide (60 < ld) = false := decide_eq_false g5; (obtain rfl : F = false := by rw [← HF.out, g4n, g5n]; rfl); (go_wp2_with fail)
        go_meet
        exact ⟨rfl, rfl⟩
    · have g4i : ¬ (60 : Int) < ln := by omega
      have g4n : decide (60 < ln) = false := decide_eq_false g4; (obtain rfl : F = false := by rw [← HF.out, g4n]; rfl); (go_wp2_with fail)
      go_meet
      exact ⟨rfl, rfl⟩
  case rest =>
    obtain ⟨rfl, hwx⟩ := hcut; rw [hwx]; clear hwx
    go_upto_if 41 with fail
    go_cut [5, 6] (fun s5 s6 wx => ∃ (an ad : Option Addr) (nl nc dl dc : Nat) (xs ys : List Int), s5 = .slice an nl nc ∧ s6 = .slice ad dl dc ∧ Hid (Sl wx an nl xs ∧ Sl wx ad dl ys) ∧ Hid ((nl ≤ nc ∧ dl ≤ dc) ∧ (nl ≤ ln ∧ dl ≤ ld) ∧ num ys ≠ 0) ∧ Hid (Va wx w.heap.size 58 #[.bool neg, .slice a0 l0 k0, .slice a1 l1 k1]) ∧ Hid (Va wx (w.heap.size + 1) 45 #[.bool false, .slice none 0 0, .slice none 0 0]) ∧ Hid (Va wx (w.heap.size + 1 + 1) 37 #[.bool false, .slice none 0 0, .slice none 0 0]) ∧ Hid (Below w.heap.size w wx))
    case first =>
      cases F
      ·
        (go_wp2_with fail)
        go_meet
        exact ⟨_, _, _, _, _, _, zn, zd, rfl, rfl, ⟨HA2.out.1, HA3.out.1⟩, ⟨⟨hc2, hc3⟩, ⟨Nat.le_refl _, Nat.le_refl _⟩, HNZ.out⟩, V1, V2, V3, B0⟩
      · have g45 : 60 < ln ∧ 60 < ld := by have := HF.out; simpa using this
        obtain ⟨g4, g5⟩ := g45; obtain ⟨h2, u2⟩ := HA2.out; obtain ⟨h3, u3⟩ := HA3.out; have hzl : zd.length = ld := h3.1; obtain ⟨b2, o2, e2, -⟩ := h2.2.2 (by omega); obtain ⟨b3, o3, e3, -⟩ := h3.2.2 (by omega); subst e2; subst e3; replace h2 := Sl.take h2 (show 60 ≤ ln by omega); replace h3 := Sl.take h3 (show 60 ≤ ld by omega); have hom := one_more HA3.out.1.2.1; have HOM : Hid (num ([1] ++ zd.take 60) ≠ 0 ∧ Limbs ([1] ++ zd.take 60)) := hom; clear HA2 HA3 u2 u3 hom; (have q2 : (60 : Int) ≤ c2 := by omega); (have q3 : (60 : Int) ≤ c3 := by omega); (go_wp2_with fail); refine wp_region_noPanic ?_; replace V1 : Va x4.drew _ _ _ := V1; replace V2 : Va x4.drew _ _ _ := V2; replace V3 : Va x4.drew _ _ _ := V3; replace B0 := Below.drew B0; refine wp_region_held_drew (S := (fun _ => True)) (by kernel_rfl) trivial (fun hHeld => ?_); (obtain ⟨x5, hxd⟩ : ∃ xd, xd = x4.drew := ⟨_, rfl⟩); rw [← hxd] at V1 V2 V3 B0 ⊢; (replace h2 : Sl x5 (some ⟨b2, o2, none⟩) 60 (zn.take 60) := by rw [hxd]; exact h2)
        (replace h3 : Sl x5 (some ⟨b3, o3, none⟩) 60 (zd.take 60) := by rw [hxd]; exact h3); clear hxd; refine tk 0 rfl hHeld ?_; simp only [gA, gB, Act.put, gD, gE, gF]; refine tk 1 rfl hHeld ?_; simp only [gA, gB, gC, Act.put, gD, gE, gF]; refine tk 4 rfl hHeld ?_; simp only [gA, gB, gC, Act.put, gD, gE, gF]; refine tk 5 rfl hHeld ?_; simp only [gA, gB, gC, Act.put, gD, gE, gF]; refine wpAnyH_ready (rs := [2, 3]) (by kernel_rfl) (by simp) ?_; refine AllReadyH.cons rfl (fun K hK => ?_) (AllReadyH.cons rfl (fun K hK => ?_) AllReadyH.nil)
        ·
          simp only [gA, gB, gC]; (go_simp); refine (rtrim_new6 (some ⟨b2, o2, none⟩) 60 c2 (zn.take 60) _ h2 (fun h => by cases h) (by omega) (by omega)).mono ?_; rintro e x6 ⟨a6, c6, rfl, h6, hc6, -, hn6, hb⟩; replace V1 := Va.after hb V1; replace V2 := Va.after hb V2; replace V3 := Va.after hb V3; replace B0 := step B0 hb; replace h3 := Sl.after hb h3; clear hb h2; (try go_wp2_with fail); refine hK.out _ _ trivial (fun hHeld => ?_); clear hK K; refine wpAnyH_ready (rs := [3]) (by kernel_rfl) (by simp) ?_; refine AllReadyH.cons rfl (fun K hK => ?_) AllReadyH.nil; simp only [gA, gB, gC]; (go_simp); have h6o := h6; have hgB := V3.lt; refine ent1 x6 _ _ (Q := fun V => K _ V) ?_; intro x7 hb hs7 VG; (have hs8 : x6.heap.size < x7.heap.size := by omega); clear hs7; replace V1 := Va.after hb V1; replace V2 := Va.after hb V2; replace V3 := Va.after hb V3; replace B0 := step B0 hb; replace h3 := Sl.after hb h3; replace h6 := Sl.after hb h6; clear hb; refine hK.out _ _ trivial (fun hHeld => ?_)
          clear hK K; (have h6n : ∀ p, 0 < usedN (zn.take 60) → a6 = some p → p.block ≠ x6.heap.size := fun p h0 hp => by have := h6o.lt h0 hp; omega); refine wpAnyH_ready (rs := [6]) (by kernel_rfl) (by simp) ?_; refine AllReadyH.cons rfl (fun K hK => ?_) AllReadyH.nil; simp only [gA, gB, gC]; refine step_app_sl (o := { dst := some 48, op := .call { callee := .builtin .append, args := #[.tmp 45, .tmp 47], argTypes := #[35, 35] }, type := 35, pos := "law.go:36", after := #[{ on := 3, ground := .data }, { on := 5, ground := .data }, { on := 2, ground := .chain }], guard := none }) rfl (.tmp 45) (.tmp 47) rfl (w.heap.size + 1 + 1 + 1) (.slice (some ⟨x6.heap.size, 0, none⟩) 1 1) [1] rfl (gr_single VG (by omega)) b3 o3 60 c3 (zd.take 60) rfl h3 (by simp) (by have := VG.lt; omega) ?_; intro v8 x8 hG8 hg8; replace hg8 : x7.grownBy x8 (some x6.heap.size) := hg8; replace V1 := V1.grw hg8 (by omega); replace V2 := V2.grw hg8 (by omega)
          replace V3 := V3.grw hg8 (by omega); replace h6 := h6.grw hg8 (fun h0 p hp => h6n p h0 hp); replace B0 := B0.trans (grw_to hg8 (by omega) B0.size); obtain ⟨a8, c8, rfl, hc8, h8⟩ := hG8.sl HOM.out.2; clear hg8 hG8 h3 VG h6n; (have h61 : ([1] ++ zd.take 60).length = 61 := by rw [List.length_append, List.length_take]; have := g5; have := hzl; simp; omega); rw [h61] at hc8 h8; rw [h61]; simp only [Act.put, gD, gE, gF]; refine hK.out _ _ trivial (fun hHeld => ?_); clear hK K; refine wpAnyH_ready (rs := [7]) (by kernel_rfl) (by simp) ?_; refine AllReadyH.cons rfl (fun K hK => ?_) AllReadyH.nil; simp only [gA, gB, gC]; (go_simp); refine (rtrim_m a8 61 c8 ([1] ++ zd.take 60) _ h8 (by omega) hc8).mono ?_; rintro e x9 ⟨a9, c9, rfl, h9, hc9, hb⟩; replace V1 := Va.after hb V1; replace V2 := Va.after hb V2; replace V3 := Va.after hb V3; replace B0 := step B0 hb; replace h6 := Sl.after hb h6; clear hb h8; (try go_wp2_with fail); refine hK.out _ _ trivial (fun hHeld => ?_)
          clear hK K; refine tk 8 rfl hHeld ?_; simp only [gA, gB, gC, Act.put, gD, gE, gF]; refine tk 9 rfl hHeld ?_; simp only [gA, gB, gC, Act.put, gD, gE, gF]; refine wpAnyH_done (by kernel_rfl) ?_ _; refine NoPanic.normal ?_; clear hHeld; have q6 : usedN (zn.take 60) ≤ 60 := Nat.le_trans (usedN_le _) (by rw [List.length_take]; omega); have q9 : usedN ([1] ++ zd.take 60) ≤ 61 := Nat.le_trans (usedN_le _) (by omega); (have n9 : num (([1] ++ zd.take 60).take (usedN ([1] ++ zd.take 60))) ≠ 0 := by rw [num_take_used _ (Nat.le_refl _)]; exact HOM.out.1); (try go_wp2_with fail)
          go_meet
          exact ⟨_, _, _, _, _, _, _, _, rfl, rfl, ⟨h6, h9⟩, ⟨⟨hc6, hc9⟩, ⟨Nat.le_trans q6 (by omega), Nat.le_trans q9 (by omega)⟩, n9⟩, V1, V2, V3, B0⟩
        ·
          simp only [gA, gB, gC]; (go_simp); have hgB := V3.lt; refine ent1 x5 _ _ (Q := fun V => K _ V) ?_; intro x7 hb hs7 VG; (have hs8 : x5.heap.size < x7.heap.size := by omega); clear hs7; replace V1 := Va.after hb V1; replace V2 := Va.after hb V2; replace V3 := Va.after hb V3; replace B0 := step B0 hb; replace h3 := Sl.after hb h3; replace h2 := Sl.after hb h2; clear hb; refine hK.out _ _ trivial (fun hHeld => ?_); clear hK K; refine wpAnyH_ready (rs := [2]) (by kernel_rfl) (by simp) ?_; refine AllReadyH.cons rfl (fun K hK => ?_) AllReadyH.nil; simp only [gA, gB, gC]; (go_simp); refine (rtrim_new6 (some ⟨b2, o2, none⟩) 60 c2 (zn.take 60) _ h2 (fun h => by cases h) (by omega) (by omega)).mono ?_; rintro e x6 ⟨a6, c6, rfl, h6, hc6, -, hn6, hb⟩; replace V1 := Va.after hb V1; replace V2 := Va.after hb V2; replace V3 := Va.after hb V3; replace B0 := step B0 hb; replace h3 := Sl.after hb h3; replace VG := Va.after hb VG; clear hb h2; (try go_wp2_with fail)
          refine hK.out _ _ trivial (fun hHeld => ?_); clear hK K; (have h6n : ∀ p, 0 < usedN (zn.take 60) → a6 = some p → p.block ≠ x5.heap.size := fun p h0 hp => by have := hn6 h0 p hp; omega); refine wpAnyH_ready (rs := [6]) (by kernel_rfl) (by simp) ?_; refine AllReadyH.cons rfl (fun K hK => ?_) AllReadyH.nil; simp only [gA, gB, gC]; refine step_app_sl (o := { dst := some 48, op := .call { callee := .builtin .append, args := #[.tmp 45, .tmp 47], argTypes := #[35, 35] }, type := 35, pos := "law.go:36", after := #[{ on := 3, ground := .data }, { on := 5, ground := .data }, { on := 2, ground := .chain }], guard := none }) rfl (.tmp 45) (.tmp 47) rfl (w.heap.size + 1 + 1 + 1) (.slice (some ⟨x5.heap.size, 0, none⟩) 1 1) [1] rfl (gr_single VG (by omega)) b3 o3 60 c3 (zd.take 60) rfl h3 (by simp) (by have := VG.lt; omega) ?_; intro v8 x8 hG8 hg8; replace hg8 : x6.grownBy x8 (some x5.heap.size) := hg8; replace V1 := V1.grw hg8 (by omega)
          replace V2 := V2.grw hg8 (by omega); replace V3 := V3.grw hg8 (by omega); replace h6 := h6.grw hg8 (fun h0 p hp => h6n p h0 hp); replace B0 := B0.trans (grw_to hg8 (by omega) B0.size); obtain ⟨a8, c8, rfl, hc8, h8⟩ := hG8.sl HOM.out.2; clear hg8 hG8 h3 VG h6n; (have h61 : ([1] ++ zd.take 60).length = 61 := by rw [List.length_append, List.length_take]; have := g5; have := hzl; simp; omega); rw [h61] at hc8 h8; rw [h61]; simp only [Act.put, gD, gE, gF]; refine hK.out _ _ trivial (fun hHeld => ?_); clear hK K; refine wpAnyH_ready (rs := [7]) (by kernel_rfl) (by simp) ?_; refine AllReadyH.cons rfl (fun K hK => ?_) AllReadyH.nil; simp only [gA, gB, gC]; (go_simp); refine (rtrim_m a8 61 c8 ([1] ++ zd.take 60) _ h8 (by omega) hc8).mono ?_; rintro e x9 ⟨a9, c9, rfl, h9, hc9, hb⟩; replace V1 := Va.after hb V1; replace V2 := Va.after hb V2; replace V3 := Va.after hb V3; replace B0 := step B0 hb; replace h6 := Sl.after hb h6; clear hb h8; (try go_wp2_with fail)
          refine hK.out _ _ trivial (fun hHeld => ?_); clear hK K; refine tk 8 rfl hHeld ?_; simp only [gA, gB, gC, Act.put, gD, gE, gF]; refine tk 9 rfl hHeld ?_; simp only [gA, gB, gC, Act.put, gD, gE, gF]; refine wpAnyH_done (by kernel_rfl) ?_ _; refine NoPanic.normal ?_; clear hHeld; have q6 : usedN (zn.take 60) ≤ 60 := Nat.le_trans (usedN_le _) (by rw [List.length_take]; omega); have q9 : usedN ([1] ++ zd.take 60) ≤ 61 := Nat.le_trans (usedN_le _) (by omega); (have n9 : num (([1] ++ zd.take 60).take (usedN ([1] ++ zd.take 60))) ≠ 0 := by rw [num_take_used _ (Nat.le_refl _)]; exact HOM.out.1); (try go_wp2_with fail)
          go_meet
          exact ⟨_, _, _, _, _, _, _, _, rfl, rfl, ⟨h6, h9⟩, ⟨⟨hc6, hc9⟩, ⟨Nat.le_trans q6 (by omega), Nat.le_trans q9 (by omega)⟩, n9⟩, V1, V2, V3, B0⟩
    case rest =>
      clear V1 V2 V3 B0 HA2 HA3 HNZ HF hc2 hc3 g1 g2 g3 g1i g1n g2i g2n g3i g3b; obtain ⟨an, ad, nl, nc, dl, dc, xs, ys, rfl, rfl, HS, HN, HV1, HV2, HV3, HB⟩ := hcut; have V1 := HV1.out; have V2 := HV2.out; have V3 := HV3.out; have B0 := HB.out; obtain ⟨hx, hy⟩ := HS.out; obtain ⟨⟨hxc, hyc⟩, ⟨hx1, hy1⟩, hy0⟩ := HN.out; obtain ⟨ok1, ok2, ok3⟩ := HOK.out; have HY0 : Hid (num ys ≠ 0) := hy0; clear HV1 HV2 HV3 HB HS HN hy0; (go_wp2_with fail); (obtain ⟨az, haz⟩ : ∃ az, a1 = az := ⟨_, rfl⟩); rw [haz] at V1; clear haz; refine (copyl6 an nl nc xs _ hx (by omega)).mono ?_; rintro e y1 ⟨a1, c1, rfl, h1, hc1, hb⟩; replace V1 := Va.after hb V1; replace V2 := Va.after hb V2; replace V3 := Va.after hb V3; replace B0 := step B0 hb; replace hx := Sl.after hb hx; replace hy := Sl.after hb hy; clear hb; (go_wp2_with fail); refine (of_ok a1 nl c1 xs _ h1 (by omega) hc1 (Nat.le_trans (usedN_le _) (by rw [h1.1]; omega))).mono ?_; rintro e y2 ⟨g2, l2, k2, z2, rfl, -, n2, e2, hb⟩
      replace V1 := Va.after hb V1; replace V2 := Va.after hb V2; replace V3 := Va.after hb V3; replace B0 := step B0 hb; replace hx := Sl.after hb hx; replace hy := Sl.after hb hy; clear hb h1; (go_wp2_with fail); refine ent1 y2 _ _ (Q := fun W => Calls Tryz.prog _ _ W _) ?_; intro y3 hb hs3 W1; replace V1 := Va.after hb V1; replace V2 := Va.after hb V2; replace V3 := Va.after hb V3; replace B0 := step B0 hb; replace hx := Sl.after hb hx; replace hy := Sl.after hb hy; replace n2 := Nt.after hb n2; clear hb hs3; refine (copyl6 ad dl dc ys _ hy (by omega)).mono ?_; rintro e y4 ⟨a3, c3, rfl, h3, hc3, hb⟩; replace V1 := Va.after hb V1; replace V2 := Va.after hb V2; replace V3 := Va.after hb V3; replace B0 := step B0 hb; replace hx := Sl.after hb hx; replace hy := Sl.after hb hy; replace W1 := Va.after hb W1; replace n2 := Nt.after hb n2; clear hb; (go_wp2_with fail); refine (of_ok a3 dl c3 ys _ h3 (by omega) hc3 (Nat.le_trans (usedN_le _) (by rw [h3.1]; omega))).mono ?_
      rintro e y5 ⟨g4, l4, k4, z4, rfl, -, n4, e4, hb⟩; replace V1 := Va.after hb V1; replace V2 := Va.after hb V2; replace V3 := Va.after hb V3; replace B0 := step B0 hb; replace hx := Sl.after hb hx; replace hy := Sl.after hb hy; replace W1 := Va.after hb W1; replace n2 := Nt.after hb n2; clear hb h3; (go_wp2_with fail); refine ent1 y5 _ _ (Q := fun W => Code.wp Tryz.prog _ _ _ W) ?_; intro y6 hb hs6 W2; replace V1 := Va.after hb V1; replace V2 := Va.after hb V2; replace V3 := Va.after hb V3; replace B0 := step B0 hb; replace hx := Sl.after hb hx; replace hy := Sl.after hb hy; replace W1 := Va.after hb W1; replace n2 := Nt.after hb n2; replace n4 := Nt.after hb n4; clear hb hs6; have HE : Hid (num z2 = num xs ∧ num z4 = num ys) := ⟨e2, e4⟩; have HSH : Hid (Short (Rat.divInt (iv neg xs) (num ys))) := short_div hx.2.1 hy.2.1 (by rw [hx.1]; omega) (by rw [hy.1]; omega) neg HY0.out; clear e2 e4
      go_upto_region 8 with fail
      go_cut [11, 12] (fun s11 s12 wx => ∃ (g : Nat) (s : Bool) (a : Option Addr) (l c : Nat) (zs : List Int) (b : Option Addr) (m d : Nat) (ds : List Int), s11 = .pointer (some ⟨g, 0, none⟩) ∧ s12 = .int .i64 0 ∧ w.heap.size + 3 ≤ g ∧ Hid (Va wx g 45 #[.bool s, .slice a l c, .slice b m d]) ∧ Hid (Rt wx s a l c zs b m d ds (Rat.divInt (iv neg xs) (num ys))) ∧ Hid (Sl wx an nl xs ∧ Sl wx ad dl ys) ∧ Hid (Va wx w.heap.size 58 #[.bool neg, .slice a0 l0 k0, .slice az l1 k1]) ∧ Hid (Va wx (w.heap.size + 1) 45 #[.bool false, .slice none 0 0, .slice none 0 0]) ∧ Hid (Va wx (w.heap.size + 1 + 1) 37 #[.bool false, .slice none 0 0, .slice none 0 0]) ∧ Hid (Below w.heap.size w wx))
      case first =>
        have hgB := V3.lt; refine wp_region_noPanic ?_; replace V1 : Va y6.drew _ _ _ := V1; replace V2 : Va y6.drew _ _ _ := V2; replace V3 : Va y6.drew _ _ _ := V3; replace W1 : Va y6.drew _ _ _ := W1; replace W2 : Va y6.drew _ _ _ := W2; replace B0 := Below.drew B0; refine wp_region_held_drew (S := (fun W => W.cell? ⟨w.heap.size, 0, none⟩ = some (.bool neg) ∧ W.cell? ⟨y2.heap.size, 0, none⟩ = some (.slice (some ⟨g2, 0, none⟩) l2 k2) ∧ W.cell? ⟨y5.heap.size, 0, none⟩ = some (.slice (some ⟨g4, 0, none⟩) l4 k4))) (by kernel_rfl) ⟨V1.d0, W1.cell, W2.cell⟩ (fun hHeld => ?_); (obtain ⟨y7, hxd⟩ : ∃ xd, xd = y6.drew := ⟨_, rfl⟩); rw [← hxd] at V1 V2 V3 W1 W2 B0 hHeld ⊢; (replace hx : Sl y7 an nl xs := by rw [hxd]; exact hx); (replace hy : Sl y7 ad dl ys := by rw [hxd]; exact hy); (replace n2 : Nt y7 (some ⟨g2, 0, none⟩) l2 k2 z2 := by rw [hxd]; exact n2); (replace n4 : Nt y7 (some ⟨g4, 0, none⟩) l4 k4 z4 := by rw [hxd]; exact n4)
        (replace hgB : w.heap.size + 1 + 1 < y7.heap.size := by rw [hxd]; exact hgB); clear hxd; refine tk 0 rfl hHeld ?_; simp only [gA, gB, Act.put, gD, gE, gF]; refine tk 1 rfl hHeld ?_; simp only [gA, gB, gC, Act.put, gD, gE, gF]; refine tk 2 rfl hHeld ?_; simp only [gA, gB, gC, Act.put, gD, gE, gF]; refine tk 4 rfl hHeld ?_; simp only [gA, gB, gC, Act.put, gD, gE, gF]; refine wpAnyH_ready (rs := [3, 10]) (by kernel_rfl) (by simp) ?_; refine AllReadyH.cons rfl (fun K hK => ?_) (AllReadyH.cons rfl (fun K hK => ?_) AllReadyH.nil)
        ·
          simp only [gA, gB, gC]; (go_simp); refine (wnew_any neg (some ⟨g2, 0, none⟩) l2 k2 z2 _ n2).mono ?_; rintro e y8 ⟨s3, rfl, i3, j3, hb⟩; replace V1 := Va.after hb V1; replace V2 := Va.after hb V2; replace V3 := Va.after hb V3; replace W1 := Va.after hb W1; replace W2 := Va.after hb W2; replace n2 := Nt.after hb n2; replace n4 := Nt.after hb n4; replace hx := Sl.after hb hx; replace hy := Sl.after hb hy; replace B0 := step B0 hb; replace hgB := Nat.lt_of_lt_of_le hgB hb.size; clear hb; (try go_wp2_with fail); refine hK.out _ _ ⟨V1.d0, W1.cell, W2.cell⟩ (fun hHeld => ?_); clear hK K; refine wpAnyH_ready (rs := [5, 10]) (by kernel_rfl) (by simp) ?_; refine AllReadyH.cons rfl (fun K hK => ?_) (AllReadyH.cons rfl (fun K hK => ?_) AllReadyH.nil)
          ·
            simp only [gA, gB, gC]; (go_simp); refine (wnew_any false (some ⟨g4, 0, none⟩) l4 k4 z4 _ n4).mono ?_; rintro e y9 ⟨s5, rfl, i5, j5, hb⟩; replace V1 := Va.after hb V1; replace V2 := Va.after hb V2; replace V3 := Va.after hb V3; replace W1 := Va.after hb W1; replace W2 := Va.after hb W2; replace n4 := Nt.after hb n4; replace hx := Sl.after hb hx; replace hy := Sl.after hb hy; replace i3 := It.after hb i3; replace B0 := step B0 hb; replace hgB := Nat.lt_of_lt_of_le hgB hb.size; clear hb; (try go_wp2_with fail); refine hK.out _ _ ⟨V1.d0, W1.cell, W2.cell⟩ (fun hHeld => ?_); clear hK K; refine wpAnyH_ready (rs := [6, 10]) (by kernel_rfl) (by simp) ?_; refine AllReadyH.cons rfl (fun K hK => ?_) (AllReadyH.cons rfl (fun K hK => ?_) AllReadyH.nil)
            ·
              simp only [gA, gB, gC]; (go_simp); refine (qnew_ok s3 s5 (some ⟨g2, 0, none⟩) (some ⟨g4, 0, none⟩) l2 k2 l4 k4 z2 z4 _ i3 i5 (by rw [j5]; show num z4 ≠ 0; rw [HE.out.2]; exact HY0.out)).mono ?_; rintro e y10 ⟨er, s', a', l', c', zs', b', m', d', ds', v', rfl, hr, HRA, hb⟩; replace V1 := Va.after hb V1; replace V2 := Va.after hb V2; replace V3 := Va.after hb V3; replace W1 := Va.after hb W1; replace W2 := Va.after hb W2; replace hx := Sl.after hb hx; replace hy := Sl.after hb hy; replace i3 := It.after hb i3; replace i5 := It.after hb i5; replace B0 := step B0 hb; replace hgB := Nat.lt_of_lt_of_le hgB hb.size; clear hb; obtain ⟨rfl, rfl⟩ : er = 0 ∧ v' = Rat.divInt (iv neg xs) (num ys) := ra_fit HRA.out (by rw [j3, iv_num HE.out.1]) (by rw [j5]; show num z4 = _; exact HE.out.2) HSH.out; clear HRA i3 i5 j3 j5; (try go_wp2_with fail); refine hK.out _ _ ⟨V1.d0, W1.cell, W2.cell⟩ (fun hHeld => ?_); clear hK K; refine tk 7 rfl hHeld ?_
              simp only [gA, gB, gC, Act.put, gD, gE, gF]; refine tk 8 rfl hHeld ?_; simp only [gA, gB, gC, Act.put, gD, gE, gF]; refine tk 9 rfl hHeld ?_; simp only [gA, gB, gC, Act.put, gD, gE, gF]; refine wpAnyH_ready (rs := [10]) (by kernel_rfl) (by simp) ?_; refine AllReadyH.cons rfl (fun K hK => ?_) AllReadyH.nil; simp only [gA, gB, gC]; (go_simp); refine ent1 y10 _ _ (Q := fun V => K _ V) ?_; intro y11 hb hsz VG; clear hsz; (have hgg : w.heap.size + 3 ≤ y10.heap.size := by omega); replace V1 := Va.after hb V1; replace V2 := Va.after hb V2; replace V3 := Va.after hb V3; replace W1 := Va.after hb W1; replace W2 := Va.after hb W2; replace hx := Sl.after hb hx; replace hy := Sl.after hb hy; replace hr := Rt.after hb hr; replace B0 := step B0 hb; replace hgB := Nat.lt_of_lt_of_le hgB hb.size; clear hb; refine hK.out _ _ ⟨V1.d0, W1.cell, W2.cell⟩ (fun hHeld => ?_); clear hK K; have c_VG := VG.d0; have f0_VG := VG.frozen 0; have d_VG := VG.d1; have f1_VG := VG.frozen 1
              have e_VG := VG.d2; have f2_VG := VG.frozen 2; have l_VG := VG.lt; have m_VG := Nat.le_of_lt l_VG; refine wpAnyH_ready (rs := [11]) (by kernel_rfl) (by simp) ?_; refine AllReadyH.cons rfl (fun K hK => ?_) AllReadyH.nil; simp only [gA, gB, gC]; (go_simp); clear c_VG f0_VG d_VG f1_VG e_VG f2_VG l_VG m_VG; refine sto3 VG (.bool s') (.slice a' l' c') (.slice b' m' d') (Q := fun W => K _ W) ?_; intro yz V' oth far; replace V1 := oth _ _ _ (by omega) V1; replace V2 := oth _ _ _ (by omega) V2; replace V3 := oth _ _ _ (by omega) V3; have q1 := W1.lt; replace hr := hr.far VG (noInt3 _ _ _ _ _ _ _) far.1; replace hx := Sl.far hx VG (noInt3 _ _ _ _ _ _ _) far.1; replace hy := Sl.far hy VG (noInt3 _ _ _ _ _ _ _) far.1; replace W1 := oth _ _ _ (fun h => absurd W1 (va_other VG h (by decide))) W1; replace W2 := oth _ _ _ (fun h => absurd W2 (va_other VG h (by decide))) W2; replace B0 := far.2 _ _ (by omega) B0; replace VG := V'; clear oth far V' q1
              refine hK.out _ _ ⟨V1.d0, W1.cell, W2.cell⟩ (fun hHeld => ?_); clear hK K; refine tk 12 rfl hHeld ?_; simp only [gA, gB, gC, Act.put, gD, gE, gF]; refine wpAnyH_done (by kernel_rfl) ?_ _; refine NoPanic.normal ?_; clear hHeld; (try go_wp2_with fail)
              go_meet
              exact ⟨_, s', a', l', c', zs', b', m', d', ds', rfl, rfl, hgg, VG, hr, ⟨hx, hy⟩, V1, V2, V3, B0⟩
            ·
              simp only [gA, gB, gC]; (go_simp); refine ent1 y9 _ _ (Q := fun V => K _ V) ?_; intro y12 hb hsz VG; clear hsz; (have hgg : w.heap.size + 3 ≤ y9.heap.size := by omega); replace V1 := Va.after hb V1; replace V2 := Va.after hb V2; replace V3 := Va.after hb V3; replace W1 := Va.after hb W1; replace W2 := Va.after hb W2; replace hx := Sl.after hb hx; replace hy := Sl.after hb hy; replace i3 := It.after hb i3; replace i5 := It.after hb i5; replace B0 := step B0 hb; replace hgB := Nat.lt_of_lt_of_le hgB hb.size; clear hb; refine hK.out _ _ ⟨V1.d0, W1.cell, W2.cell⟩ (fun hHeld => ?_); clear hK K; refine wpAnyH_ready (rs := [6]) (by kernel_rfl) (by simp) ?_; refine AllReadyH.cons rfl (fun K hK => ?_) AllReadyH.nil; simp only [gA, gB, gC]; (go_simp); refine (qnew_ok s3 s5 (some ⟨g2, 0, none⟩) (some ⟨g4, 0, none⟩) l2 k2 l4 k4 z2 z4 _ i3 i5 (by rw [j5]; show num z4 ≠ 0; rw [HE.out.2]; exact HY0.out)).mono ?_; rintro e y13 ⟨er, s', a', l', c', zs', b', m', d', ds', v', rfl, hr, HRA, hb⟩
              replace V1 := Va.after hb V1; replace V2 := Va.after hb V2; replace V3 := Va.after hb V3; replace W1 := Va.after hb W1; replace W2 := Va.after hb W2; replace hx := Sl.after hb hx; replace hy := Sl.after hb hy; replace i3 := It.after hb i3; replace i5 := It.after hb i5; replace VG := Va.after hb VG; replace B0 := step B0 hb; replace hgB := Nat.lt_of_lt_of_le hgB hb.size; clear hb; obtain ⟨rfl, rfl⟩ : er = 0 ∧ v' = Rat.divInt (iv neg xs) (num ys) := ra_fit HRA.out (by rw [j3, iv_num HE.out.1]) (by rw [j5]; show num z4 = _; exact HE.out.2) HSH.out; clear HRA i3 i5 j3 j5; (try go_wp2_with fail); refine hK.out _ _ ⟨V1.d0, W1.cell, W2.cell⟩ (fun hHeld => ?_); clear hK K; refine tk 7 rfl hHeld ?_; simp only [gA, gB, gC, Act.put, gD, gE, gF]; refine tk 8 rfl hHeld ?_; simp only [gA, gB, gC, Act.put, gD, gE, gF]; refine tk 9 rfl hHeld ?_; simp only [gA, gB, gC, Act.put, gD, gE, gF]; have c_VG := VG.d0; have f0_VG := VG.frozen 0; have d_VG := VG.d1
              have f1_VG := VG.frozen 1; have e_VG := VG.d2; have f2_VG := VG.frozen 2; have l_VG := VG.lt; have m_VG := Nat.le_of_lt l_VG; refine wpAnyH_ready (rs := [11]) (by kernel_rfl) (by simp) ?_; refine AllReadyH.cons rfl (fun K hK => ?_) AllReadyH.nil; simp only [gA, gB, gC]; (go_simp); clear c_VG f0_VG d_VG f1_VG e_VG f2_VG l_VG m_VG; refine sto3 VG (.bool s') (.slice a' l' c') (.slice b' m' d') (Q := fun W => K _ W) ?_; intro yz V' oth far; replace V1 := oth _ _ _ (by omega) V1; replace V2 := oth _ _ _ (by omega) V2; replace V3 := oth _ _ _ (by omega) V3; have q1 := W1.lt; replace hr := hr.far VG (noInt3 _ _ _ _ _ _ _) far.1; replace hx := Sl.far hx VG (noInt3 _ _ _ _ _ _ _) far.1; replace hy := Sl.far hy VG (noInt3 _ _ _ _ _ _ _) far.1; replace W1 := oth _ _ _ (fun h => absurd W1 (va_other VG h (by decide))) W1; replace W2 := oth _ _ _ (fun h => absurd W2 (va_other VG h (by decide))) W2; replace B0 := far.2 _ _ (by omega) B0; replace VG := V'
              clear oth far V' q1; refine hK.out _ _ ⟨V1.d0, W1.cell, W2.cell⟩ (fun hHeld => ?_); clear hK K; refine tk 12 rfl hHeld ?_; simp only [gA, gB, gC, Act.put, gD, gE, gF]; refine wpAnyH_done (by kernel_rfl) ?_ _; refine NoPanic.normal ?_; clear hHeld; (try go_wp2_with fail)
              go_meet
              exact ⟨_, s', a', l', c', zs', b', m', d', ds', rfl, rfl, hgg, VG, hr, ⟨hx, hy⟩, V1, V2, V3, B0⟩
          ·
            simp only [gA, gB, gC]; (go_simp); refine ent1 y8 _ _ (Q := fun V => K _ V) ?_; intro y14 hb hsz VG; clear hsz; (have hgg : w.heap.size + 3 ≤ y8.heap.size := by omega); replace V1 := Va.after hb V1; replace V2 := Va.after hb V2; replace V3 := Va.after hb V3; replace W1 := Va.after hb W1; replace W2 := Va.after hb W2; replace n4 := Nt.after hb n4; replace hx := Sl.after hb hx; replace hy := Sl.after hb hy; replace i3 := It.after hb i3; replace B0 := step B0 hb; replace hgB := Nat.lt_of_lt_of_le hgB hb.size; clear hb; refine hK.out _ _ ⟨V1.d0, W1.cell, W2.cell⟩ (fun hHeld => ?_); clear hK K; refine wpAnyH_ready (rs := [5]) (by kernel_rfl) (by simp) ?_; refine AllReadyH.cons rfl (fun K hK => ?_) AllReadyH.nil; simp only [gA, gB, gC]; (go_simp); refine (wnew_any false (some ⟨g4, 0, none⟩) l4 k4 z4 _ n4).mono ?_; rintro e y15 ⟨s5, rfl, i5, j5, hb⟩; replace V1 := Va.after hb V1; replace V2 := Va.after hb V2; replace V3 := Va.after hb V3; replace W1 := Va.after hb W1
            replace W2 := Va.after hb W2; replace n4 := Nt.after hb n4; replace hx := Sl.after hb hx; replace hy := Sl.after hb hy; replace i3 := It.after hb i3; replace VG := Va.after hb VG; replace B0 := step B0 hb; replace hgB := Nat.lt_of_lt_of_le hgB hb.size; clear hb; (try go_wp2_with fail); refine hK.out _ _ ⟨V1.d0, W1.cell, W2.cell⟩ (fun hHeld => ?_); clear hK K; refine wpAnyH_ready (rs := [6]) (by kernel_rfl) (by simp) ?_; refine AllReadyH.cons rfl (fun K hK => ?_) AllReadyH.nil; simp only [gA, gB, gC]; (go_simp); refine (qnew_ok s3 s5 (some ⟨g2, 0, none⟩) (some ⟨g4, 0, none⟩) l2 k2 l4 k4 z2 z4 _ i3 i5 (by rw [j5]; show num z4 ≠ 0; rw [HE.out.2]; exact HY0.out)).mono ?_; rintro e y16 ⟨er, s', a', l', c', zs', b', m', d', ds', v', rfl, hr, HRA, hb⟩; replace V1 := Va.after hb V1; replace V2 := Va.after hb V2; replace V3 := Va.after hb V3; replace W1 := Va.after hb W1; replace W2 := Va.after hb W2; replace hx := Sl.after hb hx; replace hy := Sl.after hb hy
            replace i3 := It.after hb i3; replace VG := Va.after hb VG; replace i5 := It.after hb i5; replace B0 := step B0 hb; replace hgB := Nat.lt_of_lt_of_le hgB hb.size; clear hb; obtain ⟨rfl, rfl⟩ : er = 0 ∧ v' = Rat.divInt (iv neg xs) (num ys) := ra_fit HRA.out (by rw [j3, iv_num HE.out.1]) (by rw [j5]; show num z4 = _; exact HE.out.2) HSH.out; clear HRA i3 i5 j3 j5; (try go_wp2_with fail); refine hK.out _ _ ⟨V1.d0, W1.cell, W2.cell⟩ (fun hHeld => ?_); clear hK K; refine tk 7 rfl hHeld ?_; simp only [gA, gB, gC, Act.put, gD, gE, gF]; refine tk 8 rfl hHeld ?_; simp only [gA, gB, gC, Act.put, gD, gE, gF]; refine tk 9 rfl hHeld ?_; simp only [gA, gB, gC, Act.put, gD, gE, gF]; have c_VG := VG.d0; have f0_VG := VG.frozen 0; have d_VG := VG.d1; have f1_VG := VG.frozen 1; have e_VG := VG.d2; have f2_VG := VG.frozen 2; have l_VG := VG.lt; have m_VG := Nat.le_of_lt l_VG; refine wpAnyH_ready (rs := [11]) (by kernel_rfl) (by simp) ?_; refine AllReadyH.cons rfl (fun K hK => ?_) AllReadyH.nil
            simp only [gA, gB, gC]; (go_simp); clear c_VG f0_VG d_VG f1_VG e_VG f2_VG l_VG m_VG; refine sto3 VG (.bool s') (.slice a' l' c') (.slice b' m' d') (Q := fun W => K _ W) ?_; intro yz V' oth far; replace V1 := oth _ _ _ (by omega) V1; replace V2 := oth _ _ _ (by omega) V2; replace V3 := oth _ _ _ (by omega) V3; have q1 := W1.lt; replace hr := hr.far VG (noInt3 _ _ _ _ _ _ _) far.1; replace hx := Sl.far hx VG (noInt3 _ _ _ _ _ _ _) far.1; replace hy := Sl.far hy VG (noInt3 _ _ _ _ _ _ _) far.1; replace W1 := oth _ _ _ (fun h => absurd W1 (va_other VG h (by decide))) W1; replace W2 := oth _ _ _ (fun h => absurd W2 (va_other VG h (by decide))) W2; replace B0 := far.2 _ _ (by omega) B0; replace VG := V'; clear oth far V' q1; refine hK.out _ _ ⟨V1.d0, W1.cell, W2.cell⟩ (fun hHeld => ?_); clear hK K; refine tk 12 rfl hHeld ?_; simp only [gA, gB, gC, Act.put, gD, gE, gF]; refine wpAnyH_done (by kernel_rfl) ?_ _; refine NoPanic.normal ?_; clear hHeld
            (try go_wp2_with fail)
            go_meet
            exact ⟨_, s', a', l', c', zs', b', m', d', ds', rfl, rfl, hgg, VG, hr, ⟨hx, hy⟩, V1, V2, V3, B0⟩
        ·
          simp only [gA, gB, gC]; (go_simp); refine ent1 y7 _ _ (Q := fun V => K _ V) ?_; intro y17 hb hsz VG; clear hsz; (have hgg : w.heap.size + 3 ≤ y7.heap.size := by omega); replace V1 := Va.after hb V1; replace V2 := Va.after hb V2; replace V3 := Va.after hb V3; replace W1 := Va.after hb W1; replace W2 := Va.after hb W2; replace n2 := Nt.after hb n2; replace n4 := Nt.after hb n4; replace hx := Sl.after hb hx; replace hy := Sl.after hb hy; replace B0 := step B0 hb; replace hgB := Nat.lt_of_lt_of_le hgB hb.size; clear hb; refine hK.out _ _ ⟨V1.d0, W1.cell, W2.cell⟩ (fun hHeld => ?_); clear hK K; refine wpAnyH_ready (rs := [3]) (by kernel_rfl) (by simp) ?_; refine AllReadyH.cons rfl (fun K hK => ?_) AllReadyH.nil; simp only [gA, gB, gC]; (go_simp); refine (wnew_any neg (some ⟨g2, 0, none⟩) l2 k2 z2 _ n2).mono ?_; rintro e y18 ⟨s3, rfl, i3, j3, hb⟩; replace V1 := Va.after hb V1; replace V2 := Va.after hb V2; replace V3 := Va.after hb V3; replace W1 := Va.after hb W1
          replace W2 := Va.after hb W2; replace n2 := Nt.after hb n2; replace n4 := Nt.after hb n4; replace hx := Sl.after hb hx; replace hy := Sl.after hb hy; replace VG := Va.after hb VG; replace B0 := step B0 hb; replace hgB := Nat.lt_of_lt_of_le hgB hb.size; clear hb; (try go_wp2_with fail); refine hK.out _ _ ⟨V1.d0, W1.cell, W2.cell⟩ (fun hHeld => ?_); clear hK K; refine wpAnyH_ready (rs := [5]) (by kernel_rfl) (by simp) ?_; refine AllReadyH.cons rfl (fun K hK => ?_) AllReadyH.nil; simp only [gA, gB, gC]; (go_simp); refine (wnew_any false (some ⟨g4, 0, none⟩) l4 k4 z4 _ n4).mono ?_; rintro e y19 ⟨s5, rfl, i5, j5, hb⟩; replace V1 := Va.after hb V1; replace V2 := Va.after hb V2; replace V3 := Va.after hb V3; replace W1 := Va.after hb W1; replace W2 := Va.after hb W2; replace n4 := Nt.after hb n4; replace hx := Sl.after hb hx; replace hy := Sl.after hb hy; replace VG := Va.after hb VG; replace i3 := It.after hb i3; replace B0 := step B0 hb; replace hgB := Nat.lt_of_lt_of_le hgB hb.size
          clear hb; (try go_wp2_with fail); refine hK.out _ _ ⟨V1.d0, W1.cell, W2.cell⟩ (fun hHeld => ?_); clear hK K; refine wpAnyH_ready (rs := [6]) (by kernel_rfl) (by simp) ?_; refine AllReadyH.cons rfl (fun K hK => ?_) AllReadyH.nil; simp only [gA, gB, gC]; (go_simp); refine (qnew_ok s3 s5 (some ⟨g2, 0, none⟩) (some ⟨g4, 0, none⟩) l2 k2 l4 k4 z2 z4 _ i3 i5 (by rw [j5]; show num z4 ≠ 0; rw [HE.out.2]; exact HY0.out)).mono ?_; rintro e y20 ⟨er, s', a', l', c', zs', b', m', d', ds', v', rfl, hr, HRA, hb⟩; replace V1 := Va.after hb V1; replace V2 := Va.after hb V2; replace V3 := Va.after hb V3; replace W1 := Va.after hb W1; replace W2 := Va.after hb W2; replace hx := Sl.after hb hx; replace hy := Sl.after hb hy; replace VG := Va.after hb VG; replace i3 := It.after hb i3; replace i5 := It.after hb i5; replace B0 := step B0 hb; replace hgB := Nat.lt_of_lt_of_le hgB hb.size; clear hb; obtain ⟨rfl, rfl⟩ : er = 0 ∧ v' = Rat.divInt (iv neg xs) (num ys) := ra_fit HRA.out (by rw [j3, iv_num HE.out.1]) (by rw [j5]; show num z4 = _; exact HE.out.2) HSH.out
          clear HRA i3 i5 j3 j5; (try go_wp2_with fail); refine hK.out _ _ ⟨V1.d0, W1.cell, W2.cell⟩ (fun hHeld => ?_); clear hK K; refine tk 7 rfl hHeld ?_; simp only [gA, gB, gC, Act.put, gD, gE, gF]; refine tk 8 rfl hHeld ?_; simp only [gA, gB, gC, Act.put, gD, gE, gF]; refine tk 9 rfl hHeld ?_; simp only [gA, gB, gC, Act.put, gD, gE, gF]; have c_VG := VG.d0; have f0_VG := VG.frozen 0; have d_VG := VG.d1; have f1_VG := VG.frozen 1; have e_VG := VG.d2; have f2_VG := VG.frozen 2; have l_VG := VG.lt; have m_VG := Nat.le_of_lt l_VG; refine wpAnyH_ready (rs := [11]) (by kernel_rfl) (by simp) ?_; refine AllReadyH.cons rfl (fun K hK => ?_) AllReadyH.nil; simp only [gA, gB, gC]; (go_simp); clear c_VG f0_VG d_VG f1_VG e_VG f2_VG l_VG m_VG; refine sto3 VG (.bool s') (.slice a' l' c') (.slice b' m' d') (Q := fun W => K _ W) ?_; intro yz V' oth far; replace V1 := oth _ _ _ (by omega) V1; replace V2 := oth _ _ _ (by omega) V2; replace V3 := oth _ _ _ (by omega) V3
          have q1 := W1.lt; replace hr := hr.far VG (noInt3 _ _ _ _ _ _ _) far.1; replace hx := Sl.far hx VG (noInt3 _ _ _ _ _ _ _) far.1; replace hy := Sl.far hy VG (noInt3 _ _ _ _ _ _ _) far.1; replace W1 := oth _ _ _ (fun h => absurd W1 (va_other VG h (by decide))) W1; replace W2 := oth _ _ _ (fun h => absurd W2 (va_other VG h (by decide))) W2; replace B0 := far.2 _ _ (by omega) B0; replace VG := V'; clear oth far V' q1; refine hK.out _ _ ⟨V1.d0, W1.cell, W2.cell⟩ (fun hHeld => ?_); clear hK K; refine tk 12 rfl hHeld ?_; simp only [gA, gB, gC, Act.put, gD, gE, gF]; refine wpAnyH_done (by kernel_rfl) ?_ _; refine NoPanic.normal ?_; clear hHeld; (try go_wp2_with fail)
          go_meet
          exact ⟨_, s', a', l', c', zs', b', m', d', ds', rfl, rfl, hgg, VG, hr, ⟨hx, hy⟩, V1, V2, V3, B0⟩
      case rest =>
        clear V1 V2 V3 B0 hx hy n2 n4 W1 W2; obtain ⟨g, s, a, l, c, zs, b, m, d, ds, rfl, rfl, hg3, HVG, HR, HS, HV1, HV2, HV3, HB⟩ := hcut; have V1 := HV1.out; have V2 := HV2.out; have V3 := HV3.out; have VG := HVG.out; have hr := HR.out; have B0 := HB.out; obtain ⟨hx, hy⟩ := HS.out; clear HV1 HV2 HV3 HB HS HVG HR; (go_wp2_with fail); refine wp_region_noPanic ?_; replace V1 : Va wc.drew _ _ _ := V1; replace V2 : Va wc.drew _ _ _ := V2; replace V3 : Va wc.drew _ _ _ := V3; replace VG : Va wc.drew _ _ _ := VG; replace B0 := Below.drew B0; refine wp_region_held_drew (S := (fun W => W.cell? ⟨w.heap.size, 0, none⟩ = some (.bool neg) ∧ (W.cell? ⟨g, 0, none⟩ = some (.bool s) ∧ W.cell? ⟨g, 1, none⟩ = some (.slice a l c) ∧ W.cell? ⟨g, 2, none⟩ = some (.slice b m d)))) (by kernel_rfl) ⟨V1.d0, VG.d0, VG.d1, VG.d2⟩ (fun hHeld => ?_); (obtain ⟨y7, hxd⟩ : ∃ xd, xd = wc.drew := ⟨_, rfl⟩); rw [← hxd] at V1 V2 V3 VG B0 hHeld ⊢; (replace hx : Sl y7 an nl xs := by rw [hxd]; exact hx)
        (replace hy : Sl y7 ad dl ys := by rw [hxd]; exact hy); (replace hr : Rt y7 s a l c zs b m d ds (Rat.divInt (iv neg xs) (num ys)) := by rw [hxd]; exact hr); clear hxd; refine tk 0 rfl hHeld ?_; simp only [gA, gB, Act.put, gD, gE, gF]; refine tk 1 rfl hHeld ?_; simp only [gA, gB, gC, Act.put, gD, gE, gF]; refine tk 2 rfl hHeld ?_; simp only [gA, gB, gC, Act.put, gD, gE, gF]; refine tk 3 rfl hHeld ?_; simp only [gA, gB, gC, Act.put, gD, gE, gF]; refine tk 4 rfl hHeld ?_; simp only [gA, gB, gC, Act.put, gD, gE, gF]; refine tk 5 rfl hHeld ?_; simp only [gA, gB, gC, Act.put, gD, gE, gF]; refine tk 6 rfl hHeld ?_; simp only [gA, gB, gC, Act.put, gD, gE, gF]; refine tk 7 rfl hHeld ?_; simp only [gA, gB, gC, Act.put, gD, gE, gF]; refine tk 8 rfl hHeld ?_; simp only [gA, gB, gC, Act.put, gD, gE, gF]; refine tk 9 rfl hHeld ?_; simp only [gA, gB, gC, Act.put, gD, gE, gF]; refine tk 10 rfl hHeld ?_; simp only [gA, gB, gC, Act.put, gD, gE, gF]; refine tk 11 rfl hHeld ?_
        simp only [gA, gB, gC, Act.put, gD, gE, gF]; refine tk 12 rfl hHeld ?_; simp only [gA, gB, gC, Act.put, gD, gE, gF]; refine tk 13 rfl hHeld ?_; simp only [gA, gB, gC, Act.put, gD, gE, gF]; refine tk 14 rfl hHeld ?_; simp only [gA, gB, gC, Act.put, gD, gE, gF]; refine tk 15 rfl hHeld ?_; simp only [gA, gB, gC, Act.put, gD, gE, gF]; have c_V := V2.d0; have f0_V := V2.frozen 0; have d_V := V2.d1; have f1_V := V2.frozen 1; have e_V := V2.d2; have f2_V := V2.frozen 2; have l_V := V2.lt; have m_V := Nat.le_of_lt l_V; refine wpAnyH_ready (rs := [16]) (by kernel_rfl) (by simp) ?_; refine AllReadyH.cons rfl (fun K hK => ?_) AllReadyH.nil; simp only [gA, gB, gC]; (go_simp); clear c_V f0_V d_V f1_V e_V f2_V l_V m_V; refine sto3 V2 (.bool s) (.slice a l c) (.slice b m d) (Q := fun W => K _ W) ?_; intro yz16 V' oth far; replace V1 := oth _ _ _ (by omega) V1; replace V3 := oth _ _ _ (by omega) V3; replace VG := oth _ _ _ (by omega) VG; replace hr := hr.far V2 (noInt3 _ _ _ _ _ _ _) far.1
        replace hx := Sl.far hx V2 (noInt3 _ _ _ _ _ _ _) far.1; replace hy := Sl.far hy V2 (noInt3 _ _ _ _ _ _ _) far.1; replace B0 := far.2 _ _ (by omega) B0; replace V2 := V'; clear oth far V'; refine hK.out _ _ ⟨V1.d0, VG.d0, VG.d1, VG.d2⟩ (fun hHeld => ?_); clear hK K; have c_V := V3.d0; have f0_V := V3.frozen 0; have d_V := V3.d1; have f1_V := V3.frozen 1; have e_V := V3.d2; have f2_V := V3.frozen 2; have l_V := V3.lt; have m_V := Nat.le_of_lt l_V; refine wpAnyH_ready (rs := [17]) (by kernel_rfl) (by simp) ?_; refine AllReadyH.cons rfl (fun K hK => ?_) AllReadyH.nil; simp only [gA, gB, gC]; (go_simp); clear c_V f0_V d_V f1_V e_V f2_V l_V m_V; refine sto3 V3 (.bool neg) (.slice an nl nc) (.slice ad dl dc) (Q := fun W => K _ W) ?_; intro yz17 V' oth far; replace V1 := oth _ _ _ (by omega) V1; replace V2 := oth _ _ _ (by omega) V2; replace VG := oth _ _ _ (by omega) VG; replace hr := hr.far V3 (noInt3 _ _ _ _ _ _ _) far.1; replace hx := Sl.far hx V3 (noInt3 _ _ _ _ _ _ _) far.1
        replace hy := Sl.far hy V3 (noInt3 _ _ _ _ _ _ _) far.1; replace B0 := far.2 _ _ (by omega) B0; replace V3 := V'; clear oth far V'; refine hK.out _ _ ⟨V1.d0, VG.d0, VG.d1, VG.d2⟩ (fun hHeld => ?_); clear hK K; refine tk 18 rfl hHeld ?_; simp only [gA, gB, gC, Act.put, gD, gE, gF]; refine wpAnyH_done (by kernel_rfl) ?_ _; refine NoPanic.normal ?_; clear hHeld; (try go_wp2_with fail); refine bodyPost_ret (results_rrt rfl rfl rfl V2 V3) rfl ?_; exact ⟨.inr ⟨⟨ok1, ok2, ok3⟩, s, a, l, c, zs, b, m, d, ds, _, an, nl, nc, xs, ad, dl, dc, ys, rfl, hr, hx, hy, hxc, hyc, hx1, hy1, HY0.out, rfl⟩, B0⟩
end Go.Proofs.YtebbblhafjaaiaaGreatDoor
