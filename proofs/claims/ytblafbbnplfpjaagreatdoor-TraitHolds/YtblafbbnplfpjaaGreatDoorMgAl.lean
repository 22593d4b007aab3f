import Derived.Test.YtblafbbnplfpjaaGreatDoorMgAa
import Derived.Test.YtblafbbnplfpjaaGreatDoorBsI
import Derived.Test.YtblafbbnplfpjaaGreatDoorMgAb
import Derived.Test.YtblafbbnplfpjaaGreatDoorMgAd
import Derived.Deep.RegionWith
namespace Go.Proofs.YtblafbbnplfpjaaGreatDoor.H
def num : List Int → Int
  | [] => 0
  | z :: r => z + 4294967296 * num r
def pw : Nat → Int
  | 0 => 1
  | n + 1 => 4294967296 * pw n
def Limbs (zs : List Int) : Prop := ∀ z ∈ zs, 0 ≤ z ∧ z < 4294967296
theorem pw_pos : ∀ n, 0 < pw n
  | 0 => by decide
  | n + 1 => by have := pw_pos n; simp only [pw]; omega
theorem pw_add : ∀ m n, pw (m + n) = pw m * pw n
  | 0, n => by simp [pw]
  | m + 1, n => by rw [Nat.add_right_comm, pw, pw, pw_add m n, Int.mul_assoc]
theorem pw_mono {m n : Nat} (h : m ≤ n) : pw m ≤ pw n := by
  obtain ⟨k, rfl⟩ := Nat.exists_eq_add_of_le h
  rw [pw_add]
  have h1 := pw_pos m; have h2 := pw_pos k
  have : pw m * 1 ≤ pw m * pw k := Int.mul_le_mul_of_nonneg_left (by omega) (by omega)
  omega
theorem Limbs.tail {z : Int} {r : List Int} (h : Limbs (z :: r)) : Limbs r := fun x hx => h x (List.mem_cons_of_mem _ hx)
theorem Limbs.head {z : Int} {r : List Int} (h : Limbs (z :: r)) : 0 ≤ z ∧ z < 4294967296 := h z (List.mem_cons_self ..)
theorem Limbs.getD {zs : List Int} (h : Limbs zs) (i : Nat) : 0 ≤ zs.getD i 0 ∧ zs.getD i 0 < 4294967296 := by
  rw [List.getD_eq_getElem?_getD]
  rcases Nat.lt_or_ge i zs.length with hi | hi
  · rw [List.getElem?_eq_getElem hi]; exact h _ (List.getElem_mem hi)
  · rw [List.getElem?_eq_none hi]; decide
theorem Limbs.take {zs : List Int} (h : Limbs zs) (n : Nat) : Limbs (zs.take n) := fun x hx => h x (List.mem_of_mem_take hx)
theorem Limbs.drop {zs : List Int} (h : Limbs zs) (n : Nat) : Limbs (zs.drop n) := fun x hx => h x (List.mem_of_mem_drop hx)
theorem Limbs.append {a b : List Int} (h : Limbs a) (k : Limbs b) : Limbs (a ++ b) := fun x hx => by
  rcases List.mem_append.1 hx with h' | h'
  · exact h x h'
  · exact k x h'
theorem Limbs.set {zs : List Int} (h : Limbs zs) (i : Nat) {v : Int} (hv : 0 ≤ v ∧ v < 4294967296) : Limbs (zs.set i v) := fun x hx => by
  rcases List.mem_or_eq_of_mem_set hx with h' | h'
  · exact h x h'
  · rw [h']; exact hv
theorem Limbs.zeros (n : Nat) : Limbs (List.replicate n 0) := fun x hx => by
  rw [List.eq_of_mem_replicate hx]; decide
theorem Limbs.nil : Limbs [] := fun _ hx => by cases hx
theorem num_nonneg : ∀ {zs : List Int}, Limbs zs → 0 ≤ num zs
  | [], _ => by decide
  | z :: r, h => by
    have h1 := num_nonneg h.tail; have h2 := h.head
    simp only [num]; omega
theorem num_lt : ∀ {zs : List Int}, Limbs zs → num zs < pw zs.length
  | [], _ => by decide
  | z :: r, h => by
    have h1 := num_lt h.tail; have h2 := h.head
    simp only [num, List.length_cons, pw]; omega
theorem num_append : ∀ (a b : List Int), num (a ++ b) = num a + num b * pw a.length
  | [], b => by simp [num, pw]
  | z :: r, b => by
    simp only [List.cons_append, num, List.length_cons, pw, num_append r b]
    rw [Int.mul_add, Int.mul_left_comm (num b), Int.add_assoc]
theorem num_zeros (n : Nat) : num (List.replicate n 0) = 0 := by
  induction n with
  | zero => rfl
  | succ n ih => simp only [List.replicate_succ, num, ih]; decide
theorem num_snoc (a : List Int) (z : Int) : num (a ++ [z]) = num a + z * pw a.length := by
  rw [num_append]; simp [num]
theorem num_take_succ (zs : List Int) (k : Nat) : num (zs.take (k + 1)) = num (zs.take k) + zs.getD k 0 * pw k := by
  rcases Nat.lt_or_ge k zs.length with h | h
  · rw [List.take_succ_eq_append_getElem h, num_snoc, List.length_take, Nat.min_eq_left (by omega), List.getD_eq_getElem?_getD, List.getElem?_eq_getElem h]; rfl
  · rw [List.take_of_length_le (by omega), List.take_of_length_le h, List.getD_eq_getElem?_getD, List.getElem?_eq_none h]; simp
theorem num_take_drop (zs : List Int) (k : Nat) (h : k ≤ zs.length) : num zs = num (zs.take k) + num (zs.drop k) * pw k := by
  have := num_append (zs.take k) (zs.drop k)
  rw [List.take_append_drop, List.length_take, Nat.min_eq_left h] at this; exact this
theorem num_take_of_zeros {zs : List Int} {u : Nat} (h : ∀ i, u ≤ i → zs.getD i 0 = 0) : ∀ k, num (zs.take (u + k)) = num (zs.take u)
  | 0 => rfl
  | k + 1 => by rw [← Nat.add_assoc, num_take_succ, h (u + k) (by omega), num_take_of_zeros h k]; simp
theorem num_take_used (zs : List Int) {n : Nat} (h : usedN zs ≤ n) : num (zs.take n) = num zs := by
  have e := num_take_of_zeros (zs := zs) (u := usedN zs) (usedN_beyond zs)
  have a := e (n - usedN zs); have b := e (zs.length - usedN zs)
  have c := usedN_le zs
  rw [Nat.add_sub_cancel' h] at a
  rw [Nat.add_sub_cancel' c, List.take_of_length_le (Nat.le_refl _)] at b
  rw [a, b]
theorem num_lt_used {zs : List Int} (h : Limbs zs) : num zs < pw (usedN zs) := by
  have := num_lt (h.take (usedN zs))
  rw [num_take_used zs (Nat.le_refl _), List.length_take, Nat.min_eq_left (usedN_le zs)] at this; exact this
theorem num_ge_used {zs : List Int} (h : Limbs zs) (hu : 0 < usedN zs) : pw (usedN zs - 1) ≤ num zs := by
  have e := num_take_succ zs (usedN zs - 1)
  rw [Nat.sub_add_cancel hu, num_take_used zs (Nat.le_refl _)] at e
  have h1 := num_nonneg (h.take (usedN zs - 1))
  have h2 := usedN_top zs hu
  have h3 := h.getD (usedN zs - 1)
  have h4 := pw_pos (usedN zs - 1)
  have : 1 * pw (usedN zs - 1) ≤ zs.getD (usedN zs - 1) 0 * pw (usedN zs - 1) := Int.mul_le_mul_of_nonneg_right (by omega) (by omega)
  omega
theorem num_eq_zero {zs : List Int} (h : Limbs zs) : num zs = 0 ↔ usedN zs = 0 := by
  constructor
  · intro e
    rcases Nat.eq_zero_or_pos (usedN zs) with h0 | h0
    · exact h0
    · have := num_ge_used h h0; have := pw_pos (usedN zs - 1); omega
  · intro e
    rw [← num_take_used zs (Nat.le_refl _), e]; rfl
theorem num_inj : ∀ {a b : List Int}, Limbs a → Limbs b → a.length = b.length → num a = num b → a = b
  | [], [], _, _, _, _ => rfl
  | [], _ :: _, _, _, h, _ => by simp at h
  | _ :: _, [], _, _, h, _ => by simp at h
  | x :: r, y :: s, ha, hb, h, e => by
    simp only [num] at e
    have h1 := ha.head; have h2 := hb.head
    have : x = y := by omega
    subst this
    rw [num_inj ha.tail hb.tail (by simpa using h) (by omega)]
theorem used_of_num {a b : List Int} (ha : Limbs a) (hb : Limbs b) (e : num a = num b) : usedN a = usedN b := by
  rcases Nat.lt_trichotomy (usedN a) (usedN b) with h | h | h
  · have h1 := num_lt_used ha; have h2 := num_ge_used hb (by omega)
    have := pw_mono (show usedN a ≤ usedN b - 1 by omega); omega
  · exact h
  · have h1 := num_lt_used hb; have h2 := num_ge_used ha (by omega)
    have := pw_mono (show usedN b ≤ usedN a - 1 by omega); omega
theorem trim_eq {a b : List Int} (ha : Limbs a) (hb : Limbs b) (e : num a = num b) : a.take (usedN a) = b.take (usedN b) := by
  have h := used_of_num ha hb e
  refine num_inj (ha.take _) (hb.take _) ?_ ?_
  · have := usedN_le a; have := usedN_le b
    rw [List.length_take, List.length_take]; omega
  · rw [num_take_used a (Nat.le_refl _), num_take_used b (Nat.le_refl _), e]
theorem num_set_take (zs : List Int) (i : Nat) (v : Int) (h : i < zs.length) : num ((zs.set i v).take (i + 1)) = num (zs.take i) + v * pw i := by
  rw [num_take_succ, List.take_set_of_le (Nat.le_refl _), List.getD_eq_getElem?_getD, List.getElem?_set_self h]; rfl
theorem carry_step {v c' s p : Int} (h : v + 4294967296 * c' = s) : v * p + c' * (4294967296 * p) = s * p := by
  rw [← h, Int.add_mul, Int.mul_comm 4294967296 c', Int.mul_assoc]
theorem pw_two : ∀ n, pw (2 * n) = Go.Proofs.YtblafbbnplfpjaaGreatDoor.pw n
  | 0 => rfl
  | n + 1 => by rw [Nat.mul_add, Nat.mul_one, pw, pw, Go.Proofs.YtblafbbnplfpjaaGreatDoor.pw, pw_two n, ← Int.mul_assoc]; rfl
theorem Limbs.up {zs : List Int} (h : Limbs zs) : Go.Proofs.YtblafbbnplfpjaaGreatDoor.Limbs zs := fun z hz => ⟨(h z hz).1, by have := (h z hz).2; omega⟩
end Go.Proofs.YtblafbbnplfpjaaGreatDoor.H

namespace Go.Proofs.YtblafbbnplfpjaaGreatDoor
open Go.RowKit Go.Shelf

set_option maxHeartbeats 400000 in
theorem cutr_any (a : Option Addr) (len cap : Nat) (zs : List Int) (w : World) (h : Sl w a len zs) (hl : len ≤ 40000000000000) (hcap : len ≤ cap) :
    Calls Tryz.prog 168 #[.slice a len cap] w fun e w' => e = .returned (.slice a (usedN zs) cap) ∧ w' = w := by
  obtain ⟨hz, hL, hc⟩ := h
  by_cases h0 : len = 0
  · subst h0
    have e0 : usedN zs = 0 := by have := usedN_le zs; omega
    rw [e0]
    cases a with
    | none =>
      go_enter Tryz.func168, Tryz.ntmps168
      go_wp2_with fail
      refine wp_loop_rounds 1 ?_
      rw [rounds_succ]
      go_wp2_with fail
      go_ret
      exact ⟨rfl, rfl⟩
    | some a =>
      go_enter Tryz.func168, Tryz.ntmps168
      go_wp2_with fail
      refine wp_loop_rounds 1 ?_
      rw [rounds_succ]
      go_wp2_with fail
      go_ret
      exact ⟨rfl, rfl⟩
  · obtain ⟨b, off, rfl, hcell⟩ := hc (by omega)
    go_enter Tryz.func168, Tryz.ntmps168
    go_wp2_with fail
    go_loop [3] (fun i => ∃ k : Nat, k ≤ len ∧ i = .int .i64 k ∧ Hid (∀ j, k ≤ j → j < len → zs.getD j 0 = 0)) (fun i => (intOf i).toNat)
    case atStart => exact ⟨len, Nat.le_refl _, rfl, fun j h1 h2 => absurd h1 (by omega)⟩
    case round =>
      obtain ⟨k, hk, rfl, hI⟩ := hrel
      by_cases hlt : 0 < k
      · have hcx := hcell (k - 1) (by omega)
        have ex : ((k : Int) - 1).toNat = k - 1 := by omega
        obtain ⟨x, hx⟩ : ∃ x, zs.getD (k - 1) 0 = x := ⟨_, rfl⟩
        rw [hx] at hcx
        have HX : Hid (zs.getD (k - 1) 0 = x) := hx
        clear hx
        by_cases hx0 : x = 0
        · have g1 : (x == 0) = true := by simp [hx0]
          have HX0 : Hid (x = 0) := hx0
          clear hx0
          go_wp2_with fail
          go_round
          case rel =>
            refine ⟨k - 1, by omega, by rw [show ((k - 1 : Nat) : Int) = (k : Int) - 1 by omega], ?_⟩
            intro j h1 h2
            by_cases hj : j = k - 1
            · rw [hj, HX.out, HX0.out]
            · exact hI.out j (by omega) h2
          case measure => simp [intOf]; omega
        · have g1 : (x == 0) = false := by simp [hx0]
          have hu : usedN zs = k := usedN_eq (by omega) (fun i h1 h2 => hI.out i h1 (by omega)) (.inr (by rw [HX.out]; exact hx0))
          have HU : Hid (usedN zs = k) := hu
          clear hu hx0
          go_wp2_with fail
          go_ret
          exact ⟨ret_sl HU.out.symm, rfl⟩
      · obtain rfl : k = 0 := by omega
        have hu : usedN zs = 0 := usedN_eq (by omega) (fun i h1 h2 => hI.out i (by omega) (by omega)) (.inl rfl)
        have HU : Hid (usedN zs = 0) := hu
        clear hu
        go_wp2_with fail
        go_ret
        exact ⟨ret_sl HU.out.symm, rfl⟩

theorem digit_any (a : Option Addr) (len cap : Nat) (zs : List Int) (i : Int) (w : World) (h : Sl w a len zs) (hi : 0 ≤ i) :
    Calls Tryz.prog 188 #[.slice a len cap, .int .i64 i] w fun e w' => e = .returned (.int .u64 (zs.getD i.toNat 0)) ∧ w' = w := by
  obtain ⟨hz, hL, hc⟩ := h
  obtain ⟨k, rfl⟩ := Int.eq_ofNat_of_zero_le hi
  rw [Int.toNat_natCast]
  by_cases hlt : k < len
  · obtain ⟨b, off, rfl, hcell⟩ := hc (by omega)
    have hcx := hcell k hlt
    clear hc hcell
    generalize zs.getD k 0 = z at hcx ⊢
    go_enter Tryz.func188, Tryz.ntmps188
    go_wp2_with fail
    go_ret
    exact ⟨rfl, rfl⟩
  · have e0 : zs.getD k 0 = 0 := by rw [List.getD_eq_getElem?_getD, List.getElem?_eq_none (by omega)]; rfl
    rw [e0]
    go_enter Tryz.func188, Tryz.ntmps188
    go_wp2_with fail
    go_ret
    exact ⟨rfl, rfl⟩

theorem wpList_app {ops : Array Oper} {rest : List Oper} {o : Oper} {a : Act} {w : World} {Q : Exit → Act → World → Prop} (hgd : o.guard = none) (s x : Operand)
    (ho : o.op = .call { callee := .builtin .append, args := #[s, x], argTypes := #[60, 60] })
    (B : Nat) (v : Value) (cs : List Int) (hs : a.eval s = v) (hg : Gr w B v cs) (g m c : Nat) (news : List Int) (hx : a.eval x = .slice (some ⟨g, 0, none⟩) m c) (hl : news.length = m) (hn : Own w g news)
    (hb : cs.length + m ≤ 17592186044416) (hB : B ≤ w.heap.size)
    (h : ∀ v' w', Hid (Gr w' B v' (cs ++ news)) → Below B w w' → wpList Tryz.prog ops Q rest (a.put o.dst v') w') : wpList Tryz.prog ops Q (o :: rest) a w := by
  refine wpList_plain hgd fun K hK => ?_
  have hst := step_app (ops := ops) (o := o) (a := a) (w := w) (K := K) (Q := Q) (E := True) hgd s x ho B v cs hs hg g m c news hx hl hn hb hB (fun v' w' h1 h2 => hK _ _ (h v' w' h1 h2))
  have hw : Region.wanted o (yielded ops a.tmps) = true := by simp [Region.wanted, hgd]
  rw [if_pos hw] at hst
  exact hst
theorem Gr.alloc {w : World} {B : Nat} {v : Value} {cs : List Int} (h : Gr w B v cs) (o : Obj) : Gr (w.alloc o) B v cs := World.ownsRow.alloc h o
theorem Gr.drew {w : World} {B : Nat} {v : Value} {cs : List Int} (h : Gr w B v cs) : Gr w.drew B v cs := h
def GInv (zs cs : List Int) (k : Nat) : Prop := cs.length = 2 * k ∧ H.Limbs cs ∧ H.num cs = num (zs.take k)
theorem ginv_step {zs cs : List Int} {k : Nat} (h : Limbs zs) (I : GInv zs cs k) : GInv zs (cs ++ [zs.getD k 0 % 4294967296, zs.getD k 0 / 4294967296]) (k + 1) := by
  obtain ⟨i1, i2, i3⟩ := I
  have b := h.getD k
  refine ⟨by simp; omega, i2.append ?_, ?_⟩
  · intro z hz
    simp only [List.mem_cons, List.not_mem_nil, or_false] at hz
    rcases hz with rfl | rfl <;> omega
  · rw [H.num_append, i1, H.pw_two, num_take_succ, i3]
    have : H.num [zs.getD k 0 % 4294967296, zs.getD k 0 / 4294967296] = zs.getD k 0 := by simp only [H.num]; omega
    rw [this]

def DRes (w w' : World) (e : Ending) (N : Int) (bound : Nat) : Prop :=
  ∃ a m c ds, e = .returned (.slice a m c) ∧ m ≤ c ∧ m ≤ bound ∧ Sl w' a m ds ∧ H.Limbs ds ∧ usedN ds = m ∧ H.num ds = N ∧ Below w.heap.size w w'

set_option maxHeartbeats 1000000 in
theorem digits_any (a : Option Addr) (la ca : Nat) (zs : List Int) (w : World) (h : Sl w a la zs) (hl : la ≤ 8000000000000) :
    Calls Tryz.prog 144 #[.slice a la ca] w fun e w' => DRes w w' e (num zs) (2 * la) := by
  have hz := h.1
  have hL := h.2.1
  go_enter Tryz.func144, Tryz.ntmps144
  go_wp2_with fail
  go_loopw [3, 4] (fun v i wr => ∃ (k : Nat) (cs : List Int), k ≤ la ∧ i = .int .i64 k ∧ Hid (GInv zs cs k) ∧ Hid (Gr wr w.heap.size v cs) ∧ Below w.heap.size w wr) (fun _ i _ => la - (intOf i).toNat)
  case atStart => exact ⟨0, [], Nat.zero_le _, rfl, ⟨rfl, H.Limbs.nil, rfl⟩, Gr.nil _ _, Below.refl _ _⟩
  case round =>
    obtain ⟨k, cs, hk, rfl, hI, hG, hb⟩ := hrel
    by_cases hlt : k < la
    · have hs := h.below hb (Nat.le_refl _)
      obtain ⟨b, off, rfl, hcell⟩ := hs.2.2 (by omega)
      have hcx := hcell k hlt
      have hstep := ginv_step hL hI.out
      have hw := hL.getD k
      obtain ⟨x, hx⟩ : ∃ x, zs.getD k 0 = x := ⟨_, rfl⟩
      rw [hx] at hcx hstep hw
      obtain ⟨x1, x2⟩ := hw
      obtain ⟨d0, hd0⟩ : ∃ d, x % 4294967296 = d := ⟨_, rfl⟩
      obtain ⟨d1, hd1⟩ : ∃ d, x / 4294967296 = d := ⟨_, rfl⟩
      rw [hd0, hd1] at hstep
      have e1 : x.tmod 4294967296 = d0 := by rw [Int.tmod_eq_emod_of_nonneg x1, hd0]
      have e2 : IntKind.u64.wrap (x.tdiv 4294967296) = d1 := by rw [Int.tdiv_eq_ediv_of_nonneg x1, IntKind.wrap_u64]; omega
      have HS : Hid (GInv zs (cs ++ [d0, d1]) (k + 1)) := hstep
      have hcl : cs.length ≤ 2 * k := by have := hI.out.1; omega
      clear hs hcell hx hstep hd0 hd1
      go_wp2_with fail
      go_region_law (refine step_app rfl (.tmp 11) (.tmp 22) rfl w.heap.size u3 cs (by simp [Act.eval]) (by exact hG.out.alloc _) wr.heap.size 2 2 [d0, d1] (by simp [Act.eval]) rfl (by exact heap_alloc_new _ _) (by omega) (by have := hb.size; simp; omega) ?_; intro v1 w1 hG1 hb1)
      all_goals
        have hb2 : Below w.heap.size w w1 := ((hb.alloc hb.size _).drew).trans hb1
        have HG1 : Hid (Gr w1 w.heap.size v1 (cs ++ [d0, d1])) := hG1
        clear hG1 hb1
        go_wp2_with fail
        go_roundw
        case rel => exact ⟨k + 1, _, by omega, by go_num, HS, HG1, hb2⟩
        case measure => simp [intOf]; omega
    · obtain rfl : k = la := by omega
      obtain ⟨i1, i2, i3⟩ := hI.out
      rw [List.take_of_length_le (by omega)] at i3
      obtain ⟨aa, cap, hv, hcap, hsl⟩ := hG.out.sl i2.up
      have hu := usedN_le cs
      have hle : cs.length ≤ 2 * k := by omega
      rw [hv]
      clear hG hv i1
      go_wp2_with fail
      refine (cutr_any aa cs.length cap cs _ hsl (by omega) hcap).mono ?_
      rintro e w2 ⟨rfl, rfl⟩
      go_wp2_with fail
      go_ret
      exact ⟨aa, usedN cs, cap, cs.take (usedN cs), rfl, by omega, by omega, hsl.take hu, i2.take _, usedN_take cs (Nat.le_refl _), by rw [H.num_take_used cs (Nat.le_refl _)]; exact i3, hb⟩
end Go.Proofs.YtblafbbnplfpjaaGreatDoor

namespace Go.Proofs.YtblafbbnplfpjaaGreatDoor
open Go.RowKit Go.Shelf

def LmInv (ds cs : List Int) (k : Nat) : Prop := cs.length = k ∧ Limbs cs ∧ num cs = H.num (ds.take (2 * k))
theorem lm_step {ds cs : List Int} {k : Nat} (h : H.Limbs ds) (I : LmInv ds cs k) : LmInv ds (cs ++ [ds.getD (2 * k) 0 + 4294967296 * ds.getD (2 * k + 1) 0]) (k + 1) := by
  obtain ⟨i1, i2, i3⟩ := I
  have b1 := h.getD (2 * k); have b2 := h.getD (2 * k + 1)
  refine ⟨by simp; omega, i2.append (fun z hz => by rw [List.mem_singleton.1 hz]; exact ⟨by omega, by omega⟩), ?_⟩
  rw [num_snoc, i1, i3, show 2 * (k + 1) = 2 * k + 1 + 1 by omega, H.num_take_succ, H.num_take_succ, H.pw, H.pw_two, Int.add_mul, Int.add_assoc, Int.mul_assoc, Int.mul_left_comm]

def LRes (w w' : World) (e : Ending) (N : Int) (bound : Nat) : Prop :=
  ∃ a m c zs, e = .returned (.slice a m c) ∧ m ≤ c ∧ m ≤ bound ∧ Sl w' a m zs ∧ usedN zs = m ∧ num zs = N ∧ Below w.heap.size w w'

set_option maxHeartbeats 1000000 in
theorem limbsr_any (a : Option Addr) (m ca : Nat) (ds : List Int) (w : World) (h : Sl w a m ds) (hd : H.Limbs ds) (hl : m ≤ 17000000000000) :
    Calls Tryz.prog 142 #[.slice a m ca] w fun e w' => LRes w w' e (H.num ds) m := by
  have hz := h.1
  have HSL : Hid (Sl w a m ds) := h
  clear h
  go_enter Tryz.func142, Tryz.ntmps142
  go_wp2_with fail
  go_loopw [3, 4] (fun v i wr => ∃ (k : Nat) (cs : List Int), i = .int .i64 (2 * (k : Int)) ∧ 2 * k ≤ m + 1 ∧ Hid (LmInv ds cs k) ∧ Hid (Gr wr w.heap.size v cs) ∧ Below w.heap.size w wr) (fun _ i _ => m + 1 - (intOf i).toNat)
  case atStart => exact ⟨0, [], rfl, by omega, ⟨rfl, Limbs.nil, rfl⟩, Gr.nil _ _, Below.refl _ _⟩
  case round =>
    obtain ⟨k, cs, rfl, hk, hI, hG, hb⟩ := hrel
    by_cases hlt : 2 * k < m
    · have hs := HSL.out.below hb (Nat.le_refl _)
      obtain ⟨b, off, rfl, hcell⟩ := hs.2.2 (by omega)
      have hcx := hcell (2 * k) hlt
      have hstep := lm_step hd hI.out
      have b1 := hd.getD (2 * k); have b2 := hd.getD (2 * k + 1)
      have hcl : cs.length ≤ k := by have := hI.out.1; omega
      have hbs := hb.size
      have ek : (2 * (k : Int)).toNat = 2 * k := by omega
      have ek1 : (2 * (k : Int) + 1).toNat = 2 * k + 1 := by omega
      obtain ⟨x, hx⟩ : ∃ x, ds.getD (2 * k) 0 = x := ⟨_, rfl⟩
      obtain ⟨y, hy⟩ : ∃ y, ds.getD (2 * k + 1) 0 = y := ⟨_, rfl⟩
      rw [hx] at hcx hstep b1
      rw [hy] at hstep b2
      obtain ⟨x1, x2⟩ := b1; obtain ⟨y1, y2⟩ := b2
      by_cases hlt2 : 2 * k + 1 < m
      · have hcy := hcell (2 * k + 1) hlt2
        rw [hy] at hcy
        have HS : Hid (LmInv ds (cs ++ [x + 4294967296 * y]) (k + 1)) := hstep
        have HSZ : Hid (w.heap.size ≤ (wr.alloc (.cells (row [x + 4294967296 * y]).toArray 124)).heap.size) := by show _ ≤ _; simp; omega
        have q1 : (2 * (k : Int)) < m := by omega
        have q2 : (2 * (k : Int)) + 1 < m := by omega
        clear hs hcell hx hy hstep
        go_wp2_with (at_builtin; refine wpList_app rfl (.tmp 29) (.tmp 31) rfl w.heap.size u3 cs rfl (hG.out.alloc _) wr.heap.size 1 1 [x + 4294967296 * y] rfl rfl (heap_alloc_new _ _) (by omega) HSZ.out ?_; intro v1 w1 hG1 hb1)
        have hb2 : Below w.heap.size w w1 := (hb.alloc hbs _).trans hb1
        clear hb1
        go_wp2_with fail
        go_roundw
        case rel => exact ⟨k + 1, _, by rw [show 2 * ((k + 1 : Nat) : Int) = 2 * (k : Int) + 2 by omega], by omega, HS, hG1, hb2⟩
        case measure => simp [intOf]; omega
      · have hy0 : y = 0 := by rw [← hy, List.getD_eq_getElem?_getD, List.getElem?_eq_none (by omega)]; rfl
        rw [hy0, Int.mul_zero, Int.add_zero] at hstep
        have HS : Hid (LmInv ds (cs ++ [x]) (k + 1)) := hstep
        have HSZ : Hid (w.heap.size ≤ (wr.alloc (.cells (row [x]).toArray 124)).heap.size) := by show _ ≤ _; simp; omega
        have q1 : (2 * (k : Int)) < m := by omega
        have q2 : ¬ (2 * (k : Int)) + 1 < m := by omega
        clear hs hcell hx hy hstep hy0
        go_wp2_with (at_builtin; refine wpList_app rfl (.tmp 29) (.tmp 31) rfl w.heap.size u3 cs rfl (hG.out.alloc _) wr.heap.size 1 1 [x] rfl rfl (heap_alloc_new _ _) (by omega) HSZ.out ?_; intro v1 w1 hG1 hb1)
        have hb2 : Below w.heap.size w w1 := (hb.alloc hbs _).trans hb1
        clear hb1
        go_wp2_with fail
        go_roundw
        case rel => exact ⟨k + 1, _, by rw [show 2 * ((k + 1 : Nat) : Int) = 2 * (k : Int) + 2 by omega], by omega, HS, hG1, hb2⟩
        case measure => simp [intOf]; omega
    · obtain ⟨i1, i2, i3⟩ := hI.out
      have et : ds.take (2 * k) = ds := List.take_of_length_le (by omega)
      rw [et] at i3
      obtain ⟨aa, cap, gm, hv, hcap, hsl, -, hnil, -⟩ := hG.out.parts i2
      have hu := usedN_le cs
      have hle : cs.length ≤ m := by omega
      have q1 : ¬ (2 * (k : Int)) < m := by omega
      rw [hv]
      clear hG hv i1 et
      go_wp2_with fail
      refine (rtrim_any aa cs.length cap cs _ hsl hnil (by omega) hcap).mono ?_
      rintro e w2 ⟨a2, c2, rfl, s2, hc2, b2⟩
      go_wp2_with fail
      go_ret
      exact ⟨a2, usedN cs, c2, cs.take (usedN cs), rfl, hc2, by omega, s2, usedN_take cs (Nat.le_refl _), by rw [num_take_used cs (Nat.le_refl _)]; exact i3, step hb b2⟩

end Go.Proofs.YtblafbbnplfpjaaGreatDoor

namespace Go.Proofs.YtblafbbnplfpjaaGreatDoor.H
theorem num_above {a b : List Int} {t : Nat} (h : ∀ j, t ≤ j → a.getD j 0 = b.getD j 0) : ∀ k, num (a.take (t + k)) - num (a.take t) = num (b.take (t + k)) - num (b.take t)
  | 0 => by simp only [Nat.add_zero]; omega
  | k + 1 => by
    have ih := num_above h k
    rw [← Nat.add_assoc, num_take_succ, num_take_succ, h (t + k) (by omega)]; omega
theorem num_above' {a b : List Int} {t : Nat} (h : ∀ j, t ≤ j → a.getD j 0 = b.getD j 0) : num a - num (a.take t) = num b - num (b.take t) := by
  have e := num_above h (a.length + b.length)
  have e1 : a.take (t + (a.length + b.length)) = a := List.take_of_length_le (by omega)
  have e2 : b.take (t + (a.length + b.length)) = b := List.take_of_length_le (by omega)
  rw [e1, e2] at e; exact e
theorem num_lt_at {a b : List Int} {t : Nat} (ha : Limbs a) (hb : Limbs b) (h : ∀ j, t < j → a.getD j 0 = b.getD j 0) (hlt : a.getD t 0 < b.getD t 0) : num a < num b := by
  have e := num_above' (t := t + 1) (fun j hj => h j (by omega))
  rw [num_take_succ, num_take_succ] at e
  have h1 := num_lt (ha.take t); have h2 := num_nonneg (hb.take t)
  have h3 : num (a.take t) < pw t := by
    refine Int.lt_of_lt_of_le h1 (pw_mono ?_)
    rw [List.length_take]; omega
  have h4 : (a.getD t 0 + 1) * pw t ≤ b.getD t 0 * pw t := Int.mul_le_mul_of_nonneg_right (by omega) (by have := pw_pos t; omega)
  rw [Int.add_mul, Int.one_mul] at h4
  omega
theorem num_lt_len {a b : List Int} (ha : Limbs a) (hb : Limbs b) (h : usedN a < usedN b) : num a < num b := by
  have h1 := num_lt_used ha; have h2 := num_ge_used hb (by omega)
  have := pw_mono (show usedN a ≤ usedN b - 1 by omega); omega
theorem num_eq_of {a b : List Int} (h : ∀ j, a.getD j 0 = b.getD j 0) : num a = num b := by
  have e := num_above' (a := a) (b := b) (t := 0) (fun j _ => h j)
  simp [num] at e; omega
theorem num_set (zs : List Int) (j : Nat) (v : Int) (h : j < zs.length) : num (zs.set j v) = num zs + (v - zs.getD j 0) * pw j := by
  have e := num_above' (a := zs.set j v) (b := zs) (t := j + 1) (fun i hi => getD_set_other zs j i v (by omega))
  rw [num_set_take _ _ _ h, num_take_succ] at e
  rw [Int.sub_mul]
  omega
end Go.Proofs.YtblafbbnplfpjaaGreatDoor.H
namespace Go.Proofs.YtblafbbnplfpjaaGreatDoor
open Go.RowKit Go.Shelf

def RPrInv (xs ys cs : List Int) (n lb i : Nat) : Prop :=
  cs.length = n ∧ H.Limbs cs ∧ (∀ j, i + lb ≤ j → cs.getD j 0 = 0) ∧ H.num cs = H.num (xs.take i) * H.num ys
def InInv (ys cs : List Int) (n lb i k : Nat) (T x c : Int) : Prop :=
  cs.length = n ∧ H.Limbs cs ∧ (∀ j, i + lb ≤ j → cs.getD j 0 = 0) ∧ H.num cs + c * H.pw (i + k) = T + x * H.num (ys.take k) * H.pw i ∧ 0 ≤ c ∧ c < 4294967296

theorem in_start {xs ys cs : List Int} {n lb i : Nat} (x : Int) (I : RPrInv xs ys cs n lb i) : InInv ys cs n lb i 0 (H.num (xs.take i) * H.num ys) x 0 := by
  obtain ⟨i1, i2, i3, i4⟩ := I
  exact ⟨i1, i2, i3, by rw [i4]; simp [H.num], by omega, by omega⟩
theorem in_word {o x y c : Int} (ho : 0 ≤ o ∧ o < 4294967296) (hx : 0 ≤ x ∧ x < 4294967296) (hy : 0 ≤ y ∧ y < 4294967296) (hc : 0 ≤ c ∧ c < 4294967296) :
    0 ≤ x * y ∧ x * y ≤ 18446744065119617025 ∧ (o + x * y + c) / 4294967296 < 4294967296 := by
  have h1 : 0 ≤ x * y := Int.mul_nonneg hx.1 hy.1
  have h2 : x * y ≤ 4294967295 * y := Int.mul_le_mul_of_nonneg_right (by omega) hy.1
  generalize x * y = p at *
  omega
theorem in_step {ys cs : List Int} {n lb i k : Nat} {T x c : Int} (hx : 0 ≤ x ∧ x < 4294967296) (hy : H.Limbs ys) (hk : k < lb) (hn : i + lb ≤ n) (I : InInv ys cs n lb i k T x c) :
    InInv ys (cs.set (i + k) ((cs.getD (i + k) 0 + x * ys.getD k 0 + c) % 4294967296)) n lb i (k + 1) T x ((cs.getD (i + k) 0 + x * ys.getD k 0 + c) / 4294967296) := by
  obtain ⟨i1, i2, i3, i4, i5, i6⟩ := I
  have b1 := i2.getD (i + k); have b2 := hy.getD k
  obtain ⟨p1, p2, p3⟩ := in_word b1 hx b2 ⟨i5, i6⟩
  refine ⟨by rw [List.length_set]; exact i1, i2.set _ ⟨by omega, by omega⟩, fun j hj => by rw [getD_set_other _ _ _ _ (by omega)]; exact i3 j hj, ?_, by omega, p3⟩
  have hc := H.carry_step (v := (cs.getD (i + k) 0 + x * ys.getD k 0 + c) % 4294967296) (c' := (cs.getD (i + k) 0 + x * ys.getD k 0 + c) / 4294967296) (p := H.pw (i + k)) (s := cs.getD (i + k) 0 + x * ys.getD k 0 + c) (by omega)
  rw [Int.add_mul (cs.getD (i + k) 0 + x * ys.getD k 0), Int.add_mul (cs.getD (i + k) 0)] at hc
  rw [H.num_set _ _ _ (by omega), H.num_take_succ, ← Nat.add_assoc, H.pw, Int.sub_mul, Int.mul_add x, Int.add_mul (x * H.num (ys.take k))]
  have e : x * (ys.getD k 0 * H.pw k) * H.pw i = x * ys.getD k 0 * H.pw (i + k) := by
    rw [H.pw_add, Int.mul_comm (H.pw i), Int.mul_assoc, Int.mul_assoc, Int.mul_assoc]
  rw [e]
  omega
theorem in_end {xs ys cs : List Int} {n lb i : Nat} {c : Int} (hlb : ys.length = lb) (hn : i + lb < n) (I : InInv ys cs n lb i lb (H.num (xs.take i) * H.num ys) (xs.getD i 0) c) : RPrInv xs ys (cs.set (i + lb) c) n lb (i + 1) := by
  obtain ⟨i1, i2, i3, i4, i5, i6⟩ := I
  refine ⟨by rw [List.length_set]; exact i1, i2.set _ ⟨i5, i6⟩, fun j hj => by rw [getD_set_other _ _ _ _ (by omega)]; exact i3 j (by omega), ?_⟩
  have et : ys.take lb = ys := List.take_of_length_le (by omega)
  rw [et] at i4
  rw [H.num_set _ _ _ (by omega), i3 (i + lb) (Nat.le_refl _), Int.sub_zero, H.num_take_succ, Int.add_mul, Int.mul_right_comm (xs.getD i 0)]
  exact i4

set_option maxHeartbeats 2000000 in
theorem rproduct_any (a b : Option Addr) (la ca lb cb : Nat) (xs ys : List Int) (w : World) (ha : Sl w a la xs) (hb : Sl w b lb ys) (hx : H.Limbs xs) (hy : H.Limbs ys) (h1 : la ≤ 8000000000000) (h2 : lb ≤ 8000000000000) :
    Calls Tryz.prog 143 #[.slice a la ca, .slice b lb cb] w fun e w' => DRes w w' e (H.num xs * H.num ys) (la + lb) := by
  have hza := ha.1; have hzb := hb.1
  have hmk := make_row (la + lb) (by omega)
  rw [show ((la + lb : Nat) : Int) = (la : Int) + lb by omega] at hmk
  have I0 : Hid (RPrInv xs ys (List.replicate (la + lb) 0) (la + lb) lb 0) :=
    ⟨by simp, fun z hz => by rw [List.eq_of_mem_replicate hz]; decide, fun j _ => by rw [List.getD_eq_getElem?_getD, List.getElem?_replicate]; split <;> rfl, by rw [H.num_zeros]; simp [H.num]⟩
  have O0 : Hid (Own (w.alloc (.cells (row (List.replicate (la + lb) 0)).toArray 124)) w.heap.size (List.replicate (la + lb) 0)) := heap_alloc_new _ _
  go_enter Tryz.func143, Tryz.ntmps143
  go_wp2_with fail
  clear hmk
  go_loopw [6] (fun ii wr => ∃ (i : Nat) (cs : List Int), ii = .int .i64 i ∧ i ≤ la ∧ Hid (RPrInv xs ys cs (la + lb) lb i) ∧ Hid (Own wr w.heap.size cs) ∧ Below w.heap.size w wr) (fun ii _ => la - (intOf ii).toNat)
  case atStart => exact ⟨0, _, rfl, by omega, I0, O0, (Below.refl _ _).alloc (Nat.le_refl _) _⟩
  case round =>
    obtain ⟨i, cs, rfl, hi, hI, hO, hbl⟩ := hrel
    by_cases hlt : i < la
    · obtain ⟨x, hxx⟩ : ∃ x, xs.getD i 0 = x := ⟨_, rfl⟩
      have hxw := hx.getD i
      rw [hxx] at hxw
      have HXX : Hid (xs.getD i 0 = x) := hxx
      have IN0 : Hid (InInv ys cs (la + lb) lb i 0 (H.num (xs.take i) * H.num ys) x 0) := in_start x hI.out
      obtain ⟨ba, oa, rfl, hca⟩ := ha.2.2 (by omega)
      have hcax := hca i hlt
      rw [hxx] at hcax
      have hba : ba < w.heap.size := by
        rcases Nat.lt_or_ge ba w.heap.size with h' | h'
        · exact h'
        · simp [World.cell?, Array.getElem?_eq_none h'] at hcax
      obtain ⟨wo, hwo⟩ : ∃ wo : World, wo = wr := ⟨_, rfl⟩
      rw [← hwo] at hO hbl
      clear hxx hca
      go_wp2_with fail
      rw [← hwo]
      clear hwo
      go_loopw [7, 8] (fun cc kk wq => ∃ (k : Nat) (c : Int) (ds : List Int), kk = .int .i64 k ∧ cc = .int .u64 c ∧ k ≤ lb ∧ Hid (InInv ys ds (la + lb) lb i k (H.num (xs.take i) * H.num ys) x c) ∧ Hid (Own wq w.heap.size ds) ∧ Below w.heap.size w wq) (fun _ kk _ => lb - (intOf kk).toNat)
      case atStart => exact ⟨0, 0, cs, rfl, rfl, by omega, IN0, hO, hbl⟩
      case round =>
        obtain ⟨k, c, ds, rfl, rfl, hk, hJ, hP, hbq⟩ := hrel
        by_cases hkl : k < lb
        · obtain ⟨bb, ob, rfl, hcb⟩ := hb.2.2 (by omega)
          have hcbx := hcb k hkl
          have hbb : bb < w.heap.size := by
            rcases Nat.lt_or_ge bb w.heap.size with h' | h'
            · exact h'
            · simp [World.cell?, Array.getElem?_eq_none h'] at hcbx
          obtain ⟨y, hyy⟩ : ∃ y, ys.getD k 0 = y := ⟨_, rfl⟩
          have hyw := hy.getD k
          have hstep := in_step hxw hy hkl (by omega) hJ.out
          have hcx := hP.out.cell (i + k) (by rw [hJ.out.1]; omega)
          have hfx := hP.out.frozen (i + k)
          have how := hJ.out.2.1.getD (i + k)
          have hc0 := hJ.out.2.2.2.2.1
          have hc1 := hJ.out.2.2.2.2.2
          obtain ⟨o, hoo⟩ : ∃ o, ds.getD (i + k) 0 = o := ⟨_, rfl⟩
          rw [hyy] at hcbx hyw hstep
          rw [hoo] at hcx how hstep
          obtain ⟨p1, p2, p3⟩ := in_word how hxw hyw ⟨hc0, hc1⟩
          obtain ⟨p, hp⟩ : ∃ p, x * y = p := ⟨_, rfl⟩
          rw [hp] at p1 p2 p3 hstep
          obtain ⟨o1, o2⟩ := how
          have ca1 : wr.cell? ⟨ba, oa + i, none⟩ = some (.int .u64 x) := (hbq.cell (p := ⟨ba, oa + i, none⟩) hba).trans hcax
          have cb1 : wr.cell? ⟨bb, ob + k, none⟩ = some (.int .u64 y) := (hbq.cell (p := ⟨bb, ob + k, none⟩) hbb).trans hcbx
          obtain ⟨t, ht⟩ : ∃ t, o + p + c = t := ⟨_, rfl⟩
          rw [ht] at hstep p3
          have t0 : 0 ≤ t := by omega
          have t1 : t < 18446744073709551616 := by omega
          have m0 : IntKind.i64.wrap ((i : Int) + k) = i + k := by rw [IntKind.wrap_i64]; omega
          have m1 : IntKind.u64.wrap (x * y) = p := by rw [hp, IntKind.wrap_u64]; omega
          have m2 : IntKind.u64.wrap (p + o) = p + o := by rw [IntKind.wrap_u64]; omega
          have m3 : IntKind.u64.wrap (p + o + c) = t := by rw [IntKind.wrap_u64]; omega
          have m4 : ((i : Int) + k).toNat = i + k := by omega
          have m5 : (i : Int) + k < la + lb := by omega
          have HS : Hid (InInv ys (ds.set (i + k) (t % 4294967296)) (la + lb) lb i (k + 1) (H.num (xs.take i) * H.num ys) x (t / 4294967296)) := hstep
          clear hstep hyy hoo hp ht hcb hcbx hcax hyw p3
          go_wp2_with fail
          go_quiet (fail)
          clear m1 m2 m3
          go_wp2_with fail
          go_roundw
          case rel => exact ⟨k + 1, _, _, by go_num, rfl, by omega, HS, Own.set (w := wr.drewN nq) hP.out (i + k) _, (below_drewN hbq nq).setCell (Nat.le_refl _) _⟩
          case measure => simp [intOf]; omega
        · obtain rfl : k = lb := by omega
          have hJ' := hJ.out
          rw [← HXX.out] at hJ'
          have HE : Hid (RPrInv xs ys (ds.set (i + k) c) (la + k) k (i + 1)) := in_end hzb (by omega) hJ'
          have hcx := hP.out.cell (i + k) (by rw [hJ.out.1]; omega)
          have hfx := hP.out.frozen (i + k)
          have m4 : ((i : Int) + k).toNat = i + k := by omega
          have m5 : (i : Int) + k < la + k := by omega
          clear hJ' hcax
          go_wp2_with fail
          go_roundw
          case rel => exact ⟨i + 1, _, by go_num, by omega, HE, Own.set hP.out (i + k) _, hbq.setCell (Nat.le_refl _) _⟩
          case measure => simp [intOf]; omega
    · obtain rfl : i = la := by omega
      obtain ⟨i1, i2, i3, i4⟩ := hI.out
      have et : xs.take i = xs := List.take_of_length_le (by omega)
      rw [et] at i4
      have hsl := hO.out.sl i2.up
      rw [i1] at hsl
      have hu := usedN_le cs
      have hle : usedN cs ≤ i + lb := by omega
      clear i1 et
      go_wp2_with fail
      refine (cutr_any (some ⟨w.heap.size, 0, none⟩) (i + lb) (i + lb) cs _ hsl (by omega) (Nat.le_refl _)).mono ?_
      rintro e w2 ⟨rfl, rfl⟩
      go_wp2_with fail
      go_ret
      exact ⟨_, usedN cs, i + lb, cs.take (usedN cs), rfl, hle, hle, hsl.take hle, i2.take _, usedN_take cs (Nat.le_refl _), by rw [H.num_take_used cs (Nat.le_refl _)]; exact i4, hbl⟩

theorem rmul_any (a0 a1 : Option Addr) (l0 k0 l1 k1 : Nat) (z0 z1 : List Int) (w : World) (ha0 : Sl w a0 l0 z0) (hb0 : Sl w a1 l1 z1) (h1 : l0 ≤ 2000000000000) (h2 : l1 ≤ 2000000000000) :
    Calls Tryz.prog 108 #[.slice a0 l0 k0, .slice a1 l1 k1] w fun e w' => LRes w w' e (num z0 * num z1) (2 * l0 + 2 * l1) := by
  go_enter Tryz.func108, Tryz.ntmps108
  go_wp2_with fail
  refine (digits_any a0 l0 k0 z0 w ha0 (by omega)).mono ?_
  rintro e wa ⟨a, la, ca, xs, rfl, -, hla, ha, hx, ux, nx, ba⟩
  go_wp2_with fail
  refine (digits_any a1 l1 k1 z1 wa (hb0.below ba (Nat.le_refl _)) (by omega)).mono ?_
  rintro e wb ⟨b, lb, cb, ys, rfl, -, hlb, hb, hy, uy, ny, bb⟩
  replace ha := ha.below bb (Nat.le_refl _)
  have HB : Hid (Below w.heap.size w wb) := step ba bb
  go_wp2_with fail
  refine (rproduct_any a b la ca lb cb xs ys wb ha hb hx hy (by omega) (by omega)).mono ?_
  rintro e wd ⟨ad, md, cd, ds, rfl, -, hmd, sd, hd, ud, nd, bd⟩
  go_wp2_with fail
  refine (limbsr_any ad md cd ds wd sd hd (by omega)).mono ?_
  rintro e w4 ⟨a4, m4, c4, z4, rfl, k4, k5, s4, u4, n4, b4⟩
  go_wp2_with fail
  go_ret
  exact ⟨a4, m4, c4, z4, rfl, k4, by omega, s4, u4, by rw [n4, nd, nx, ny], step (step HB.out bd) b4⟩
end Go.Proofs.YtblafbbnplfpjaaGreatDoor
namespace Go.Proofs.YtblafbbnplfpjaaGreatDoor
open Go.RowKit Go.Shelf

def marks : Nat → List Int
  | 0 => []
  | k + 1 => marks k ++ [8000024 + (k : Int)]
end Go.Proofs.YtblafbbnplfpjaaGreatDoor
namespace Go.Proofs.YtblafbbnplfpjaaGreatDoor
open Go.RowKit Go.Shelf

end Go.Proofs.YtblafbbnplfpjaaGreatDoor
