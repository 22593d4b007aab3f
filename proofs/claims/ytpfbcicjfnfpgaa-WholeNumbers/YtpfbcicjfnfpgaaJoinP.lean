/-
  Digits joined by pairs: plain Lean; the marks of a loop that holds a range over a function.
-/
import Derived.Test.YtpfbcicjfnfpgaaApartN
import Derived.Test.YtpfbcicjfnfpgaaChunk
namespace Go.Proofs.Ytpfbcicjfnfpgaa
open Go.RowKit Go.Shelf
set_option linter.unusedVariables false

/-- What piece x says. -/
def Pc (B : Int) (D : Nat → Dg) (len x : Nat) : Int := dsum B (fun j => D (2 * x + j)) (down (cl len x) (cl len x))
/-- The digits, with noughts ahead. -/
def Ez (D : Nat → Dg) (len j : Nat) : Int := if j < len then num (D j).2.2.2 else 0
theorem pc_eq (B : Int) (D : Nat → Dg) (len x : Nat) : Pc B D len x = Ez D len (2 * x) + Ez D len (2 * x + 1) * B := by
  unfold Pc Ez
  rw [dsum_pv]
  rcases Nat.lt_or_ge (2 * x + 1) len with h | h
  · have e : cl len x = 2 := by unfold cl; omega
    rw [e, if_pos (by omega), if_pos h]
    simp [pv, Int.pow_succ]
  · rcases Nat.lt_or_ge (2 * x) len with h2 | h2
    · have e : cl len x = 1 := by unfold cl; omega
      rw [e, if_pos h2, if_neg (by omega)]
      simp [pv]
    · have e : cl len x = 0 := by unfold cl; omega
      rw [e, if_neg (by omega), if_neg (by omega)]
      simp [pv]
theorem ez_nonneg {D : Nat → Dg} (hD : ∀ j, 0 ≤ num (D j).2.2.2) (len j : Nat) : 0 ≤ Ez D len j := by unfold Ez; split; exact hD j; exact Int.le_refl _
theorem pc_nonneg {B : Int} (hB : 1 ≤ B) {D : Nat → Dg} (hD : ∀ j, 0 ≤ num (D j).2.2.2) (len x : Nat) : 0 ≤ Pc B D len x := by
  rw [pc_eq]
  have := Int.mul_nonneg (ez_nonneg hD len (2 * x + 1)) (show 0 ≤ B by omega)
  have := ez_nonneg hD len (2 * x)
  omega
theorem pv_congr {B : Int} {D E : Nat → Int} : ∀ n, (∀ j, j < n → D j = E j) → pv B D n = pv B E n
  | 0, _ => rfl
  | n + 1, h => by simp only [pv]; rw [pv_congr n (fun j hj => h j (by omega)), h n (by omega)]
theorem pc_sum (B : Int) (D : Nat → Dg) (len : Nat) : pv (B * B) (Pc B D len) ((len + 1) / 2) = dsum B D (down len len) := by
  rw [← pv_pair (E := Ez D len) _ (fun j _ => pc_eq B D len j), dsum_pv]
  have e : pv B (Ez D len) len = pv B (fun j => num (D j).2.2.2) len := pv_congr len (fun j hj => by unfold Ez; rw [if_pos hj])
  rcases Nat.mod_two_eq_zero_or_one len with h | h
  · rw [show 2 * ((len + 1) / 2) = len by omega]; exact e
  · rw [show 2 * ((len + 1) / 2) = len + 1 by omega]
    simp only [pv]
    rw [e]
    have : Ez D len len = 0 := by unfold Ez; rw [if_neg (by omega)]
    rw [this, Int.zero_mul, Int.add_zero]
theorem pv_mono {B : Int} (hB : 0 ≤ B) {D : Nat → Int} (hD : ∀ j, 0 ≤ D j) {m n : Nat} (h : m ≤ n) : pv B D m ≤ pv B D n := by
  obtain ⟨k, rfl⟩ := Nat.exists_eq_add_of_le h
  clear h
  induction k with
  | zero => exact Int.le_refl _
  | succ k ih =>
    have := Int.mul_nonneg (hD (m + k)) (Int.pow_nonneg (m := m + k) hB)
    rw [← Nat.add_assoc]
    simp only [pv]
    omega
theorem one_le_pow' {B : Int} (hB : 1 ≤ B) (n : Nat) : 1 ≤ B ^ n := Int.add_one_le_of_lt (Int.pow_pos (show (0 : Int) < B by omega))
theorem pc_le {B : Int} (hB : 1 ≤ B) {D : Nat → Dg} (hD : ∀ j, 0 ≤ num (D j).2.2.2) {len x : Nat} (hx : x < (len + 1) / 2) : Pc B D len x ≤ dsum B D (down len len) := by
  rw [← pc_sum]
  have hBB : 1 ≤ B * B := by have := Int.mul_le_mul hB hB (by omega) (by omega); omega
  have hp := pc_nonneg hB hD len
  have h1 := pv_mono (B := B * B) (by omega) hp (show x + 1 ≤ (len + 1) / 2 by omega)
  have h2 : pv (B * B) (Pc B D len) (x + 1) = pv (B * B) (Pc B D len) x + Pc B D len x * (B * B) ^ x := rfl
  have h3 := pv_nonneg (B := B * B) (by omega) hp x
  have h4 := Int.mul_le_mul_of_nonneg_left (one_le_pow' hBB x) (hp x)
  omega
theorem pc_top {B : Int} (hB : 1 ≤ B) {D : Nat → Dg} (hD : ∀ j, 0 ≤ num (D j).2.2.2) {len : Nat} (h1 : 1 ≤ len) (ht : num (D (len - 1)).2.2.2 ≠ 0) : Pc B D len ((len + 1) / 2 - 1) ≠ 0 := by
  rw [pc_eq]
  have e0 := ez_nonneg hD len (2 * ((len + 1) / 2 - 1))
  have e1 := ez_nonneg hD len (2 * ((len + 1) / 2 - 1) + 1)
  have hn := hD (len - 1)
  rcases Nat.mod_two_eq_zero_or_one len with h | h
  · have e : 2 * ((len + 1) / 2 - 1) + 1 = len - 1 := by omega
    have e2 : Ez D len (2 * ((len + 1) / 2 - 1) + 1) = num (D (len - 1)).2.2.2 := by rw [e]; unfold Ez; rw [if_pos (by omega)]
    have := Int.mul_le_mul_of_nonneg_left hB e1
    omega
  · have e : 2 * ((len + 1) / 2 - 1) = len - 1 := by omega
    have e2 : Ez D len (2 * ((len + 1) / 2 - 1)) = num (D (len - 1)).2.2.2 := by rw [e]; unfold Ez; rw [if_pos (by omega)]
    have := Int.mul_nonneg e1 (show 0 ≤ B by omega)
    omega
theorem sq_le {B : Int} (hB : 1 ≤ B) {D : Nat → Dg} (hD : ∀ j, 0 ≤ num (D j).2.2.2) {len : Nat} (h2 : 2 < len) (ht : num (D (len - 1)).2.2.2 ≠ 0) : B * B ≤ dsum B D (down len len) := by
  rw [dsum_pv]
  have h := pv_low (B := B) (D := fun j => num (D j).2.2.2) (by omega) hD (n := len - 1) (by have := hD (len - 1); omega)
  rw [show len - 1 + 1 = len by omega] at h
  have e : B * B = B ^ 2 := by rw [Int.pow_succ, Int.pow_succ, Int.pow_zero, Int.one_mul]
  have h3 : B ^ 2 ≤ B ^ (len - 1) := by
    obtain ⟨k, hk⟩ := Nat.exists_eq_add_of_le (show 2 ≤ len - 1 by omega)
    rw [hk, Int.pow_add]
    have h4 := Int.mul_le_mul_of_nonneg_left (one_le_pow' hB k) (Int.pow_nonneg (m := 2) (show 0 ≤ B by omega))
    omega
  omega

/-- append into the room that is there, inside a fence. -/
theorem wpListIn_appx {F : Fence} {fd : Nat} {ops : Array Oper} {rest : List Oper} {o : Oper} {a : Act} {w : World} {Q : Exit → Act → World → Prop} (hgd : o.guard = none) (s x : Operand)
    (ho : o.op = .call { callee := .builtin .append, args := #[s, x], argTypes := #[98, 98] })
    (g n cap : Nat) (ss : List Value) (hs : a.eval s = .slice (some ⟨g, 0, none⟩) n cap) (hn : n = ss.length) (hg : Rx w g cap ss) (b m c : Nat) (news : List Value) (hx : a.eval x = .slice (some ⟨b, 0, none⟩) m c) (hm : news.length = m) (hc : ∀ j u, news[j]? = some u → w.cell? ⟨b, j, none⟩ = some u) (hS : AllS news)
    (hfit : n + m ≤ cap)
    (h : ∀ w', Hid (Rx w' g cap (ss ++ news)) → Hid (∀ k, k ≠ g → w'.heap[k]? = w.heap[k]?) → Hid (w'.heap.size = w.heap.size) → Hid (Below g w w') → wpListIn F fd Try.prog ops Q rest (a.put o.dst (.slice (some ⟨g, 0, none⟩) (n + m) cap)) w') : wpListIn F fd Try.prog ops Q (o :: rest) a w := by
  subst hn hm
  obtain ⟨i0, hi, hz0, hz1, hz2⟩ := info_parts infoN
  obtain ⟨rest', hh, hl, hA⟩ := hg
  have one : ∀ u ∈ news, u.oneCell' = true := fun u hu => by obtain ⟨a', n', c', rfl⟩ := hS u hu; rfl
  have hr := run_append_room (P := Try.prog) w 98 o.type 25 i0 Try.underlying98 hi g ss.length cap (ss ++ rest').toArray hh ⟨b, 0, none⟩ news.length c news (by rw [hz1, Nat.mul_one]) (fun j u hu => by rw [Go.Lib.add_plain, Nat.zero_add]; exact hc j u hu) one hfit (by rw [hz1, Nat.mul_one]; simp only [List.size_toArray]; omega)
  have eL : (ss ++ rest').toArray.toList.take ss.length ++ news ++ (ss ++ rest').toArray.toList.drop (ss.length + news.length) = ss ++ news ++ rest'.drop news.length := by
    show (ss ++ rest').take ss.length ++ news ++ (ss ++ rest').drop (ss.length + news.length) = _
    rw [List.take_left, List.drop_append]
    simp
  refine wpListIn_plain hgd fun K hK => ?_
  unfold Oper.wpIn
  refine ⟨by simp [Oper.about, ho, resolve, Target.leads, Sem.run_pure], ?_⟩
  rw [Oper.semAt_plain F _ _ (by rw [ho]; intro c hc'; cases hc')]
  unfold execOp
  simp only [ho, resolve, invoke, builtin, Sem.run_bind, Sem.run_pure, Result.andThen_ok, List.map_toArray, List.map_cons, List.map_nil, hs, hx, hr]
  rw [hz1, Nat.mul_one]
  refine hK _ _ (h _ ⟨rest'.drop news.length, ?_, ?_, ?_⟩ (fun k hk => setRow_other w g k _ hk) (by show (w.setRow g _).heap.size = _; simp [World.setRow]) ⟨rfl, rfl, rfl, by simp [World.setRow], fun k hk => setRow_other w g k _ (by omega)⟩)
  · rw [setRow_heap w g _ _ 25 (0, 0) hh, eL]
  · rw [List.length_append] at hl
    simp; omega
  · intro x hx
    rcases List.mem_append.1 hx with hx | hx
    · rcases List.mem_append.1 hx with hx | hx
      · exact hA x (by simp [hx])
      · exact hS x hx
    · exact hA x (by simp [List.mem_of_mem_drop hx])

/-- The marks of the rounds. -/
def mks (ms : List Nat) : List Deferred := ms.map fun m => { target := .collected m, args := #[] }
def MK (b : Nat) (ms : List Nat) (W : World) : Prop := ms.Nodup ∧ ∀ m ∈ ms, b ≤ m ∧ W.heap[m]? = some (.deferred (some []))
theorem leaves_marks {F : Fence} {n : Nat} {P : Program} {fn : Func} {tmps : Array Value} {R : Ending → World → Prop} {b : Nat} (I : World → Prop) (hI : ∀ W m, I W → b ≤ m → W.heap[m]? = some (.deferred (some [])) → I (W.putObj m (.deferred none)))
    (hend : ∀ W, I W → ∃ v, (results fn tmps).run P W = .ok v W ∧ R (.returned v) W) : ∀ (ms : List Nat) (W : World), MK b ms W → I W → LeavesInM F n P fn tmps R (mks ms) .returning W
  | [], W, _, h => hend W h
  | m :: ms, W, hm, h => by
    obtain ⟨hnd, hh⟩ := hm
    have h1 := hh m (by simp)
    rw [List.nodup_cons] at hnd
    refine ⟨by simp, .inl ⟨m, _, rfl, run_takeDeferred h1.2, leaves_marks I hI hend ms _ ⟨hnd.2, fun m' hm' => ?_⟩ (hI W m h h1.1 h1.2)⟩⟩
    have h2 := hh m' (by simp [hm'])
    refine ⟨h2.1, ?_⟩
    have hne : m' ≠ m := fun e => hnd.1 (e ▸ hm')
    rw [← h2.2]
    simp [World.putObj, Ne.symm hne]
theorem MK.keep {b : Nat} {ms : List Nat} {W W' : World} (h : MK b ms W) (hk : KeepsOthers W W') : MK b ms W' := ⟨h.1, fun m hm => ⟨(h.2 m hm).1, hk.2 m _ (h.2 m hm).2 rfl⟩⟩
theorem MK.after {b : Nat} {ms : List Nat} {W W' : World} (h : MK b ms W) (hb : Below W.heap.size W W') : MK b ms W' := h.keep (keeps_below hb)
theorem MK.cons {b D : Nat} {ms : List Nat} {W : World} (h : MK b ms W) (hD : b ≤ D) (hK : W.heap[D]? = some (.deferred (some []))) (hn : D ∉ ms) : MK b (D :: ms) W :=
  ⟨List.nodup_cons.2 ⟨hn, h.1⟩, fun m hm => by rcases List.mem_cons.1 hm with rfl | hm; exact ⟨hD, hK⟩; exact h.2 m hm⟩
end Go.Proofs.Ytpfbcicjfnfpgaa
