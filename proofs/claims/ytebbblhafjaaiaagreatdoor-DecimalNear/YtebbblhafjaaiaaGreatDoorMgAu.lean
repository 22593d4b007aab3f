/-
  slices.Chunk by twos over a list of numbers: the pieces of two, the last of one or two.
-/
import Derived.Test.YtebbblhafjaaiaaGreatDoorMgAe
import Derived.BigRegionIn
import Derived.Test.YtebbblhafjaaiaaGreatDoorMgAr
import Derived.Test.YtebbblhafjaaiaaGreatDoorMgAj
namespace Go.Proofs.YtebbblhafjaaiaaGreatDoor
open Go.RowKit Go.Shelf
set_option linter.unusedVariables false
attribute [local go_sem] Oper.semAt_some

/-- How many stand in piece j. -/
def cl (len j : Nat) : Nat := min 2 (len - 2 * j)
/-- What a round keeps. -/
def Kc (n₀ Bs Bn : Nat) (W W' : World) : Prop := Below n₀ W W' ∧ (∀ v, Boxed W Bs 129 v → Boxed W' Bs 129 v) ∧ ∀ v, Boxed W Bn 3 v → Boxed W' Bn 3 v
theorem Kc.refl (n₀ Bs Bn : Nat) (W : World) : Kc n₀ Bs Bn W W := ⟨Below.refl _ _, fun _ h => h, fun _ h => h⟩
theorem kc_t {n₀ Bs Bn : Nat} {A B C : World} (h : Kc n₀ Bs Bn A B) (k : Kc n₀ Bs Bn B C) : Kc n₀ Bs Bn A C := ⟨h.1.trans k.1, fun v x => k.2.1 v (h.2.1 v x), fun v x => k.2.2 v (h.2.2 v x)⟩
theorem kc_b {n₀ Bs Bn : Nat} {w : World} (hn : n₀ ≤ w.heap.size) (W : World) (l : Nat) (o o' : Obj) (hl : w.heap.size ≤ l) (h : W.heap[l]? = some o) (hc : o.isCells = false) (hw : o.isWalk = false) : Kc n₀ Bs Bn W (W.putObj l o') := by
  have one : ∀ {B : Nat} {t : TypeId} {v : Value}, Boxed W B t v → Boxed (W.putObj l o') B t v := fun {B t v} x => x.kept (grownBy_putObj' W l o') (fun e => by
    have e' : B = l := by simpa using e
    rw [← e', show W.heap[B]? = _ from x] at h
    cases h
    cases hc)
  exact ⟨belowK_b hn W l o o' hl h hc hw, fun v x => one x, fun v x => one x⟩

set_option maxRecDepth 100000 in
set_option maxHeartbeats 4000000 in
theorem chunk1_in (F : Fence) (n : Nat) (hf : F.fn 171) (hro : F.round = none) (hn : 1 ≤ n) (l Bs Bn n₀ b off len cap : Nat) (hlen : len ≤ 1000000) (hcap : len ≤ cap) (J Jx : List Nat → World → Prop) (hJd : ∀ s W, J s W → J s W.drew)
    (hY : ∀ pre (x : Nat) W, J pre W → pre.length < (len + 1) / 2 → x = pre.length → YieldAt F (n - 1) Tryz.prog l #[.slice (some ⟨b, off + 2 * x, none⟩) (cl len x) (cl len x)] W fun e W' =>
      (e = .returned (.bool true) ∧ J (pre ++ [x]) W' ∧ Kc n₀ Bs Bn W W') ∨ (e = .returned (.bool false) ∧ Jx (pre ++ [x]) W'))
    (W : World) (hBs : Boxed W Bs 129 (.slice (some ⟨b, off, none⟩) len cap)) (hBn : Boxed W Bn 3 (.int .i64 2)) (h0 : J [] W) :
    CallsIn F n Tryz.prog 171 #[.func (.yield l) #[] #[], .pointer (some ⟨Bs, 0, none⟩), .pointer (some ⟨Bn, 0, none⟩)] W fun e W' => (∃ v, e = .returned v) ∧
      ((∃ ys, ys = List.range ((len + 1) / 2) ∧ J ys W') ∨ (∃ pre, (∃ k, k ≤ (len + 1) / 2 ∧ pre = List.range k) ∧ Jx pre W')) := by
  refine callsIn_of_wp Tryz.func171 rfl hf ?_ hro
  simp only [Tryz.ntmps171, List.size_toArray, List.length_cons, List.length_nil, Nat.reduceAdd, Nat.reduceSub, Array.replicate_succ, Array.replicate_zero, List.push_toArray, List.append_toArray, List.nil_append, List.cons_append]
  gi_wp2
  gi_loopw [4] (fun i wr => ∃ m k : Nat, m = 2 * k ∧ k ≤ (len + 1) / 2 ∧ i = .int .i64 (m : Int) ∧ J (List.range k) wr ∧ Kc n₀ Bs Bn W wr)
    (fun i _ => len + 2 - (intOf i).toNat)
  case atStart => exact ⟨0, 0, rfl, Nat.zero_le _, by go_num, by simpa using h0, Kc.refl _ _ _ _⟩
  case round =>
    obtain ⟨m, k, hm, hk, rfl, hJs, hnx⟩ := hrel
    have hBw := (hnx.2.1 _ hBs).cell
    have hNw := (hnx.2.2 _ hBn).cell
    by_cases hlt : m < len
    · obtain ⟨c, hc⟩ : ∃ c, cl len k = c := ⟨_, rfl⟩
      have hc2 : c = 2 ∨ c = 1 := by unfold cl at hc; omega
      have hc3 : m + c ≤ len := by unfold cl at hc; omega
      have hc4 : min (2 : Int) ((len - m : Nat) : Int) = c := by unfold cl at hc; omega
      have hc5 : ((m : Int) + c).toNat - m = c := by omega
      have hc6 : ¬ cap = m := by omega
      have hc7 : c ≤ 2 := by omega
      obtain ⟨fn, tmps, assign, body, hy, hR⟩ := hY _ k wr.drew (hJd _ _ hJs) (by rw [List.length_range]; omega) (by rw [List.length_range])
      have HM : Hid (m = 2 * k) := hm
      rw [← hm, hc] at hy
      have HX : Hid _ := hnx
      have hmb : m ≤ 1000000 := by omega
      have hmn : m ≤ len := by omega
      have hml : (m : Int) < len := by omega
      clear hm hJs hc hnx hlt
      gi_wp2
      gi_region
      all_goals gi_wp2
      all_goals (refine hR.mono ?_)
      all_goals (rintro e W3 (⟨rfl, hJ3, hk3⟩ | ⟨rfl, hJx3⟩))
      all_goals first
        | (have hk4 : Kc n₀ Bs Bn wr W3 := ⟨⟨hk3.1.os, hk3.1.tape, hk3.1.output, hk3.1.size, hk3.1.block⟩, hk3.2.1, hk3.2.2⟩
           have hBw3 := (hk4.2.1 _ (HX.out.2.1 _ hBs)).cell
           have hNw3 := (hk4.2.2 _ (HX.out.2.2 _ hBn)).cell
           gi_wp2
           go_roundw
           case rel => exact ⟨m + 2, k + 1, by have := HM.out; omega, by have := HM.out; omega, by go_num, by rw [List.range_succ]; exact hJ3, kc_t HX.out hk4⟩
           case measure => simp [intOf]; omega)
        | (gi_wp2
           refine bodyPost_ret (results_none rfl _ _ _) rfl ?_
           exact ⟨⟨_, rfl⟩, .inr ⟨_, ⟨k + 1, by have := HM.out; omega, by rw [List.range_succ]⟩, hJx3⟩⟩)
    · have hml : ¬ (m : Int) < len := by omega
      gi_wp2
      go_end0
      exact ⟨⟨_, rfl⟩, .inl (by rw [show (len + 1) / 2 = k by omega]; exact hJs)⟩

set_option maxHeartbeats 1000000 in
theorem chunk_in (F : Fence) (n : Nat) (hf : F.fn 128) (hro : F.round = none) (a : Option Addr) (len cap : Nat) (w : World) :
    CallsIn F n Tryz.prog 128 #[.slice a len cap, .int .i64 2] w fun e w' => e = .returned (.func (.func 171) #[] #[.pointer (some ⟨w.heap.size, 0, none⟩), .pointer (some ⟨w.heap.size + 1, 0, none⟩)]) ∧ w' = (w.alloc (.cells #[.slice a len cap] 129)).alloc (.cells #[.int .i64 2] 3) := by
  refine callsIn_of_wp Tryz.func128 rfl hf ?_ hro
  simp only [Tryz.ntmps128, List.size_toArray, List.length_cons, List.length_nil, Nat.reduceAdd, Nat.reduceSub, Array.replicate_succ, Array.replicate_zero, List.push_toArray, List.append_toArray, List.nil_append, List.cons_append]
  gi_wp2
  go_ret
  exact ⟨rfl, rfl⟩

/-- slices.Chunk hands back a value that gives the pieces of two. -/
theorem chunk_stops (F : Fence) (n : Nat) (hf : F.fn 171) (hro : F.round = none) (hn : 1 ≤ n) (Bs Bn n₀ b off len cap : Nat) (hlen : len ≤ 1000000) (hcap : len ≤ cap) (w : World) (hBl : Bs < w.heap.size) (hNl : Bn < w.heap.size)
    (hBs : Boxed w Bs 129 (.slice (some ⟨b, off, none⟩) len cap)) (hBn : Boxed w Bn 3 (.int .i64 2)) :
    SeqStopsK F n Tryz.prog 171 #[.pointer (some ⟨Bs, 0, none⟩), .pointer (some ⟨Bn, 0, none⟩)] (fun x : Nat => #[Value.slice (some ⟨b, off + 2 * x, none⟩) (cl len x) (cl len x)]) (Kc n₀ Bs Bn) (fun ys => ys = List.range ((len + 1) / 2)) (fun pre => ∃ k, k ≤ (len + 1) / 2 ∧ pre = List.range k) ((len + 1) / 2) w := fun l J Jx W hW hJ _ hY h0 =>
  chunk1_in F n hf hro hn l Bs Bn n₀ b off len cap hlen hcap J Jx (fun s W h => hJ s W _ none h ⟨rfl, rfl, rfl, Nat.le_refl _, fun _ _ _ => rfl⟩ (fun r e => by cases e)) (fun pre x W h hp _ => hY pre x W h hp) W ((hW.block Bs hBl).trans hBs) ((hW.block Bn hNl).trans hBn) h0
end Go.Proofs.YtebbblhafjaaiaaGreatDoor
namespace Go.Proofs.YtebbblhafjaaiaaGreatDoor
open Go.RowKit Go.Shelf
set_option linter.unusedVariables false

/-- What piece x says. -/
def Pc (B : Int) (D : Nat → Dg) (len x : Nat) : Int := dsum B (fun j => D (2 * x + j)) (down (cl len x) (cl len x))
/-- The digits, with noughts ahead. -/
def Ez (D : Nat → Dg) (len j : Nat) : Int := if j < len then num (D j).2.2.2 else 0
theorem pc_eq (B : Int) (D : Nat → Dg) (len x : Nat) : Pc B D len x = Ez D len (2 * x) + Ez D len (2 * x + 1) * B := by
  unfold Pc Ez
  rw [dsum_pv]
  rcases Nat.lt_or_ge (2 * x + 1) len with h | h
  · have e : cl len x = 2 := by unfold cl; omega
    rw [e, if_pos (by omega), if_pos h]
    simp [pv, Int.pow_succ]
  · rcases Nat.lt_or_ge (2 * x) len with h2 | h2
    · have e : cl len x = 1 := by unfold cl; omega
      rw [e, if_pos h2, if_neg (by omega)]
      simp [pv]
    · have e : cl len x = 0 := by unfold cl; omega
      rw [e, if_neg (by omega), if_neg (by omega)]
      simp [pv]
theorem ez_nonneg {D : Nat → Dg} (hD : ∀ j, 0 ≤ num (D j).2.2.2) (len j : Nat) : 0 ≤ Ez D len j := by unfold Ez; split; exact hD j; exact Int.le_refl _
theorem pc_nonneg {B : Int} (hB : 1 ≤ B) {D : Nat → Dg} (hD : ∀ j, 0 ≤ num (D j).2.2.2) (len x : Nat) : 0 ≤ Pc B D len x := by
  rw [pc_eq]
  have := Int.mul_nonneg (ez_nonneg hD len (2 * x + 1)) (show 0 ≤ B by omega)
  have := ez_nonneg hD len (2 * x)
  omega
theorem pv_congr {B : Int} {D E : Nat → Int} : ∀ n, (∀ j, j < n → D j = E j) → pv B D n = pv B E n
  | 0, _ => rfl
  | n + 1, h => by simp only [pv]; rw [pv_congr n (fun j hj => h j (by omega)), h n (by omega)]
theorem pc_sum (B : Int) (D : Nat → Dg) (len : Nat) : pv (B * B) (Pc B D len) ((len + 1) / 2) = dsum B D (down len len) := by
  rw [← pv_pair (E := Ez D len) _ (fun j _ => pc_eq B D len j), dsum_pv]
  have e : pv B (Ez D len) len = pv B (fun j => num (D j).2.2.2) len := pv_congr len (fun j hj => by unfold Ez; rw [if_pos hj])
  rcases Nat.mod_two_eq_zero_or_one len with h | h
  · rw [show 2 * ((len + 1) / 2) = len by omega]; exact e
  · rw [show 2 * ((len + 1) / 2) = len + 1 by omega]
    simp only [pv]
    rw [e]
    have : Ez D len len = 0 := by unfold Ez; rw [if_neg (by omega)]
    rw [this, Int.zero_mul, Int.add_zero]
theorem pv_mono {B : Int} (hB : 0 ≤ B) {D : Nat → Int} (hD : ∀ j, 0 ≤ D j) {m n : Nat} (h : m ≤ n) : pv B D m ≤ pv B D n := by
  obtain ⟨k, rfl⟩ := Nat.exists_eq_add_of_le h
  clear h
  induction k with
  | zero => exact Int.le_refl _
  | succ k ih =>
    have := Int.mul_nonneg (hD (m + k)) (Int.pow_nonneg (m := m + k) hB)
    rw [← Nat.add_assoc]
    simp only [pv]
    omega
theorem one_le_pow' {B : Int} (hB : 1 ≤ B) (n : Nat) : 1 ≤ B ^ n := Int.add_one_le_of_lt (Int.pow_pos (show (0 : Int) < B by omega))
theorem pc_le {B : Int} (hB : 1 ≤ B) {D : Nat → Dg} (hD : ∀ j, 0 ≤ num (D j).2.2.2) {len x : Nat} (hx : x < (len + 1) / 2) : Pc B D len x ≤ dsum B D (down len len) := by
  rw [← pc_sum]
  have hBB : 1 ≤ B * B := by have := Int.mul_le_mul hB hB (by omega) (by omega); omega
  have hp := pc_nonneg hB hD len
  have h1 := pv_mono (B := B * B) (by omega) hp (show x + 1 ≤ (len + 1) / 2 by omega)
  have h2 : pv (B * B) (Pc B D len) (x + 1) = pv (B * B) (Pc B D len) x + Pc B D len x * (B * B) ^ x := rfl
  have h3 := pv_nonneg (B := B * B) (by omega) hp x
  have h4 := Int.mul_le_mul_of_nonneg_left (one_le_pow' hBB x) (hp x)
  omega
theorem pc_top {B : Int} (hB : 1 ≤ B) {D : Nat → Dg} (hD : ∀ j, 0 ≤ num (D j).2.2.2) {len : Nat} (h1 : 1 ≤ len) (ht : num (D (len - 1)).2.2.2 ≠ 0) : Pc B D len ((len + 1) / 2 - 1) ≠ 0 := by
  rw [pc_eq]
  have e0 := ez_nonneg hD len (2 * ((len + 1) / 2 - 1))
  have e1 := ez_nonneg hD len (2 * ((len + 1) / 2 - 1) + 1)
  have hn := hD (len - 1)
  rcases Nat.mod_two_eq_zero_or_one len with h | h
  · have e : 2 * ((len + 1) / 2 - 1) + 1 = len - 1 := by omega
    have e2 : Ez D len (2 * ((len + 1) / 2 - 1) + 1) = num (D (len - 1)).2.2.2 := by rw [e]; unfold Ez; rw [if_pos (by omega)]
    have := Int.mul_le_mul_of_nonneg_left hB e1
    omega
  · have e : 2 * ((len + 1) / 2 - 1) = len - 1 := by omega
    have e2 : Ez D len (2 * ((len + 1) / 2 - 1)) = num (D (len - 1)).2.2.2 := by rw [e]; unfold Ez; rw [if_pos (by omega)]
    have := Int.mul_nonneg e1 (show 0 ≤ B by omega)
    omega
theorem sq_le {B : Int} (hB : 1 ≤ B) {D : Nat → Dg} (hD : ∀ j, 0 ≤ num (D j).2.2.2) {len : Nat} (h2 : 2 < len) (ht : num (D (len - 1)).2.2.2 ≠ 0) : B * B ≤ dsum B D (down len len) := by
  rw [dsum_pv]
  have h := pv_low (B := B) (D := fun j => num (D j).2.2.2) (by omega) hD (n := len - 1) (by have := hD (len - 1); omega)
  rw [show len - 1 + 1 = len by omega] at h
  have e : B * B = B ^ 2 := by rw [Int.pow_succ, Int.pow_succ, Int.pow_zero, Int.one_mul]
  have h3 : B ^ 2 ≤ B ^ (len - 1) := by
    obtain ⟨k, hk⟩ := Nat.exists_eq_add_of_le (show 2 ≤ len - 1 by omega)
    rw [hk, Int.pow_add]
    have h4 := Int.mul_le_mul_of_nonneg_left (one_le_pow' hB k) (Int.pow_nonneg (m := 2) (show 0 ≤ B by omega))
    omega
  omega

/-- append into the room that is there, inside a fence. -/
theorem wpListIn_appx {F : Fence} {fd : Nat} {ops : Array Oper} {rest : List Oper} {o : Oper} {a : Act} {w : World} {Q : Exit → Act → World → Prop} (hgd : o.guard = none) (s x : Operand)
    (ho : o.op = .call { callee := .builtin .append, args := #[s, x], argTypes := #[129, 129] })
    (g n cap : Nat) (ss : List Value) (hs : a.eval s = .slice (some ⟨g, 0, none⟩) n cap) (hn : n = ss.length) (hg : Rx w g cap ss) (b m c : Nat) (news : List Value) (hx : a.eval x = .slice (some ⟨b, 0, none⟩) m c) (hm : news.length = m) (hc : ∀ j u, news[j]? = some u → w.cell? ⟨b, j, none⟩ = some u) (hS : AllS news)
    (hfit : n + m ≤ cap)
    (h : ∀ w', Hid (Rx w' g cap (ss ++ news)) → Hid (∀ k, k ≠ g → w'.heap[k]? = w.heap[k]?) → Hid (w'.heap.size = w.heap.size) → Hid (Below g w w') → wpListIn F fd Tryz.prog ops Q rest (a.put o.dst (.slice (some ⟨g, 0, none⟩) (n + m) cap)) w') : wpListIn F fd Tryz.prog ops Q (o :: rest) a w := by
  subst hn hm
  obtain ⟨i0, hi, hz0, hz1, hz2⟩ := info_parts infoN
  obtain ⟨rest', hh, hl, hA⟩ := hg
  have one : ∀ u ∈ news, u.oneCell' = true := fun u hu => by obtain ⟨a', n', c', rfl⟩ := hS u hu; rfl
  have hr := run_append_room (P := Tryz.prog) w 129 o.type 41 i0 Tryz.underlying129 hi g ss.length cap (ss ++ rest').toArray hh ⟨b, 0, none⟩ news.length c news (by rw [hz1, Nat.mul_one]) (fun j u hu => by rw [Go.Lib.add_plain, Nat.zero_add]; exact hc j u hu) one hfit (by rw [hz1, Nat.mul_one]; simp only [List.size_toArray]; omega)
  have eL : (ss ++ rest').toArray.toList.take ss.length ++ news ++ (ss ++ rest').toArray.toList.drop (ss.length + news.length) = ss ++ news ++ rest'.drop news.length := by
    show (ss ++ rest').take ss.length ++ news ++ (ss ++ rest').drop (ss.length + news.length) = _
    rw [List.take_left, List.drop_append]
    simp
  refine wpListIn_plain hgd fun K hK => ?_
  unfold Oper.wpIn
  refine ⟨by simp [Oper.about, ho, resolve, Target.leads, Sem.run_pure], ?_⟩
  rw [Oper.semAt_plain F _ _ (by rw [ho]; intro c hc'; cases hc')]
  unfold execOp
  simp only [ho, resolve, invoke, builtin, Sem.run_bind, Sem.run_pure, Result.andThen_ok, List.map_toArray, List.map_cons, List.map_nil, hs, hx, hr]
  rw [hz1, Nat.mul_one]
  refine hK _ _ (h _ ⟨rest'.drop news.length, ?_, ?_, ?_⟩ (fun k hk => setRow_other w g k _ hk) (by show (w.setRow g _).heap.size = _; simp [World.setRow]) ⟨rfl, rfl, rfl, by simp [World.setRow], fun k hk => setRow_other w g k _ (by omega)⟩)
  · rw [setRow_heap w g _ _ 41 (0, 0) hh, eL]
  · rw [List.length_append] at hl
    simp; omega
  · intro x hx
    rcases List.mem_append.1 hx with hx | hx
    · rcases List.mem_append.1 hx with hx | hx
      · exact hA x (by simp [hx])
      · exact hS x hx
    · exact hA x (by simp [List.mem_of_mem_drop hx])

/-- The marks of the rounds. -/
def mks (ms : List Nat) : List Deferred := ms.map fun m => { target := .collected m, args := #[] }
def MK (b : Nat) (ms : List Nat) (W : World) : Prop := ms.Nodup ∧ ∀ m ∈ ms, b ≤ m ∧ W.heap[m]? = some (.deferred (some []))
theorem leaves_marks {F : Fence} {n : Nat} {P : Program} {fn : Func} {tmps : Array Value} {R : Ending → World → Prop} {b : Nat} (I : World → Prop) (hI : ∀ W m, I W → b ≤ m → W.heap[m]? = some (.deferred (some [])) → I (W.putObj m (.deferred none)))
    (hend : ∀ W, I W → ∃ v, (results fn tmps).run P W = .ok v W ∧ R (.returned v) W) : ∀ (ms : List Nat) (W : World), MK b ms W → I W → LeavesInM F n P fn tmps R (mks ms) .returning W
  | [], W, _, h => hend W h
  | m :: ms, W, hm, h => by
    obtain ⟨hnd, hh⟩ := hm
    have h1 := hh m (by simp)
    rw [List.nodup_cons] at hnd
    refine ⟨by simp, .inl ⟨m, _, rfl, run_takeDeferred h1.2, leaves_marks I hI hend ms _ ⟨hnd.2, fun m' hm' => ?_⟩ (hI W m h h1.1 h1.2)⟩⟩
    have h2 := hh m' (by simp [hm'])
    refine ⟨h2.1, ?_⟩
    have hne : m' ≠ m := fun e => hnd.1 (e ▸ hm')
    rw [← h2.2]
    simp [World.putObj, Ne.symm hne]
theorem MK.keep {b : Nat} {ms : List Nat} {W W' : World} (h : MK b ms W) (hk : KeepsOthers W W') : MK b ms W' := ⟨h.1, fun m hm => ⟨(h.2 m hm).1, hk.2 m _ (h.2 m hm).2 rfl⟩⟩
theorem MK.after {b : Nat} {ms : List Nat} {W W' : World} (h : MK b ms W) (hb : Below W.heap.size W W') : MK b ms W' := h.keep (keeps_below hb)
theorem MK.cons {b D : Nat} {ms : List Nat} {W : World} (h : MK b ms W) (hD : b ≤ D) (hK : W.heap[D]? = some (.deferred (some []))) (hn : D ∉ ms) : MK b (D :: ms) W :=
  ⟨List.nodup_cons.2 ⟨hn, h.1⟩, fun m hm => by rcases List.mem_cons.1 hm with rfl | hm; exact ⟨hD, hK⟩; exact h.2 m hm⟩
end Go.Proofs.YtebbblhafjaaiaaGreatDoor
namespace Go.Proofs.YtebbblhafjaaiaaGreatDoor
open Go.RowKit Go.Shelf
set_option linter.unusedVariables false

theorem two_pw (n : Nat) : 2 * pw n ≤ pw (n + 1) := by
  show _ ≤ 18446744073709551616 * pw n
  have := pw_pos n
  omega
theorem add_fits {P Q x y z : Int} (w1 : P ≤ Q) (w2 : 2 * P ≤ Q) (h1 : (x.natAbs : Int) < P) (h2 : (y.natAbs : Int) < P) (h3 : z < P) : (x.natAbs : Int) < Q ∧ (y.natAbs : Int) < Q ∧ ((x + y).natAbs : Int) < Q ∧ z < Q := by omega
/-- What a sum goes by. -/
structure AddP (v1 v2 : Rat) (g A B : Int) : Prop where
  g0 : g ≠ 0
  gl : g < pw 4096
  f1 : ((v1.num * B).natAbs : Int) < pw 4096
  f2 : ((v2.num * A).natAbs : Int) < pw 4096
  f3 : ((v1.num * B + v2.num * A).natAbs : Int) < pw 4096
  f4 : A * B < pw 4096
  f5 : ∀ v : Rat, Short v → A * B * (v.den : Int) < pw 4096
  num : (v1 + v2).num = (Rat.divInt (v1.num * B + v2.num * A) g).num
  den : ((v1 + v2).den : Int) = A * B * (Rat.divInt (v1.num * B + v2.num * A) g).den
  lng : Short (v1 + v2) → Short (Rat.divInt (v1.num * B + v2.num * A) g)
theorem add_parts {v1 v2 : Rat} (h1 : Short v1) (h2 : Short v2) {g A B : Int} (hg : g = (Int.gcd (v1.den : Int) (v2.den : Int) : Nat)) (A0 : 0 ≤ A) (B0 : 0 ≤ B) (hA : A * g = v1.den) (hB : B * g = v2.den) : AddP v1 v2 g A B := by
  obtain ⟨ad, rfl⟩ := Int.eq_ofNat_of_zero_le A0
  obtain ⟨bd, rfl⟩ := Int.eq_ofNat_of_zero_le B0
  have hg2 : g = ((Nat.gcd v1.den v2.den : Nat) : Int) := hg
  subst hg2
  have ha' : ad * Nat.gcd v1.den v2.den = v1.den := by exact_mod_cast hA
  have hb' : bd * Nat.gcd v1.den v2.den = v2.den := by exact_mod_cast hB
  obtain ⟨e1, e2⟩ := rat_add_low v1 v2 rfl ha' hb'
  have p1 := v1.den_pos
  have p2 := v2.den_pos
  have g0 : 0 < Nat.gcd v1.den v2.den := Nat.gcd_pos_of_pos_left _ p1
  have gle : Nat.gcd v1.den v2.den ≤ v1.den := Nat.gcd_le_left _ p1
  have a1 : ad ≤ v1.den := by rw [← ha']; exact Nat.le_mul_of_pos_right _ g0
  have b1 : bd ≤ v2.den := by rw [← hb']; exact Nat.le_mul_of_pos_right _ g0
  have a0 : 1 ≤ ad := by rcases Nat.eq_zero_or_pos ad with h | h; · rw [h] at ha'; omega
                         · exact h
  have b0 : 1 ≤ bd := by rcases Nat.eq_zero_or_pos bd with h | h; · rw [h] at hb'; omega
                         · exact h
  have m1 : ((v1.num * (bd : Int)).natAbs : Int) < pw 2048 := by
    rw [Int.natAbs_mul, Int.natCast_mul]
    exact rt_fits (by omega) (by omega) h1.1 (show ((Int.natAbs (bd : Int) : Nat) : Int) < pw 1024 from Int.lt_of_le_of_lt (by exact_mod_cast b1) h2.2) (by omega)
  have m2 : ((v2.num * (ad : Int)).natAbs : Int) < pw 2048 := by
    rw [Int.natAbs_mul, Int.natCast_mul]
    exact rt_fits (by omega) (by omega) h2.1 (show ((Int.natAbs (ad : Int) : Nat) : Int) < pw 1024 from Int.lt_of_le_of_lt (by exact_mod_cast a1) h1.2) (by omega)
  have m3 : (ad : Int) * bd < pw 2048 := rt_fits (by omega) (by omega) (Int.lt_of_le_of_lt (by exact_mod_cast a1) h1.2) (Int.lt_of_le_of_lt (by exact_mod_cast b1) h2.2) (by omega)
  have w1 : pw 2048 ≤ pw 4096 := pw_mono (by omega)
  have w2 : 2 * pw 2048 ≤ pw 4096 := by
    exact Int.le_trans (two_pw 2048) (pw_mono (by omega))
  obtain ⟨q1, q2, q3, q4⟩ := add_fits w1 w2 m1 m2 m3
  refine ⟨by omega, ?_, q1, q2, q3, q4, ?_, e1, ?_, ?_⟩
  · exact Int.lt_of_lt_of_le (Int.lt_of_le_of_lt (by exact_mod_cast gle) h1.2) (pw_mono (by omega))
  · intro v hv
    exact rt_fits (Int.mul_nonneg (by omega) (by omega)) (by omega) m3 hv.2 (by omega)
  · rw [e2]; simp
  · intro h
    refine ⟨by rw [← e1]; exact h.1, Int.lt_of_le_of_lt ?_ h.2⟩
    rw [e2]
    exact_mod_cast Nat.le_mul_of_pos_left _ (Nat.mul_pos a0 b0)
end Go.Proofs.YtebbblhafjaaiaaGreatDoor
