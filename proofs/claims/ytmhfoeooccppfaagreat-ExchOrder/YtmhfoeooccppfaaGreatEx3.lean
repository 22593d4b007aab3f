/-
  exchange: slices.BinarySearchFunc of a pair's quotes.
-/
import Derived.Test.YtmhfoeooccppfaaGreatEx2
namespace Go.Proofs.YtmhfoeooccppfaaGreat
open Go.RowKit Go.Shelf
set_option linter.unusedVariables false
set_option maxRecDepth 20000

/-- What a search tells: how many are of earlier days, and whether there is one of that day. -/
def Sch (xs : List (Int × Nat)) (d : Int) (i : Nat) (B : Bool) : Prop :=
  i ≤ xs.length ∧ (∀ x ∈ xs.take i, x.1 < d) ∧ (∀ x ∈ xs.drop i, d ≤ x.1) ∧ (B = true ↔ ∃ r, xs[i]? = some (d, r))
theorem getQ (xs : List (Int × Nat)) (i : Nat) (hi : i < xs.length) : xs[i]? = some (xs.getD i (0, 0)) := by
  rw [List.getD_eq_getElem?_getD, List.getElem?_eq_getElem hi]; rfl
theorem ris_at {xs : List (Int × Nat)} (h : Ris xs) {a b : Nat} (hab : a < b) (hb : b < xs.length) : (xs.getD a (0, 0)).1 < (xs.getD b (0, 0)).1 := by
  have := List.pairwise_iff_getElem.1 h a b (by omega) hb hab
  rw [List.getD_eq_getElem?_getD, List.getD_eq_getElem?_getD, List.getElem?_eq_getElem hb, List.getElem?_eq_getElem (show a < xs.length by omega)]
  exact this
/-- All ahead of a place are earlier, all from another on are not. -/
def Bnd (xs : List (Int × Nat)) (d : Int) (lo hi : Nat) : Prop := (∀ t, t < lo → (xs.getD t (0, 0)).1 < d) ∧ ∀ t, hi ≤ t → t < xs.length → d ≤ (xs.getD t (0, 0)).1
theorem Bnd.up {xs : List (Int × Nat)} (hr : Ris xs) {d : Int} {lo hi m : Nat} (h : Bnd xs d lo hi) (hm : m < xs.length) (hx : (xs.getD m (0, 0)).1 < d) : Bnd xs d (m + 1) hi :=
  ⟨fun t ht => by
    rcases Nat.lt_or_eq_of_le (Nat.lt_succ_iff.1 ht) with h' | h'
    · have := ris_at hr h' hm; omega
    · subst h'; exact hx, h.2⟩
theorem Bnd.down {xs : List (Int × Nat)} (hr : Ris xs) {d : Int} {lo hi m : Nat} (h : Bnd xs d lo hi) (hm : m < xs.length) (hx : ¬ (xs.getD m (0, 0)).1 < d) : Bnd xs d lo m :=
  ⟨h.1, fun t ht hl => by
    rcases Nat.lt_or_eq_of_le ht with h' | h'
    · have := ris_at hr h' hl; omega
    · subst h'; omega⟩
theorem Bnd.sch {xs : List (Int × Nat)} {d : Int} {i : Nat} (h : Bnd xs d i i) (hi : i ≤ xs.length) {B : Bool} (hB : B = true ↔ i < xs.length ∧ (xs.getD i (0, 0)).1 = d) : Sch xs d i B := by
  refine ⟨hi, fun x hx => ?_, fun x hx => ?_, ?_⟩
  · obtain ⟨a, ha, rfl⟩ := List.mem_iff_getElem.1 hx
    have ha0 : a < min i xs.length := by simpa using ha
    have ha' : a < i ∧ a < xs.length := by omega
    have := h.1 a ha'.1
    rw [List.getD_eq_getElem?_getD, List.getElem?_eq_getElem ha'.2] at this
    simpa using this
  · obtain ⟨a, ha, rfl⟩ := List.mem_iff_getElem.1 hx
    have ha' : a < xs.length - i := by simpa using ha
    have := h.2 (i + a) (by omega) (by omega)
    rw [List.getD_eq_getElem?_getD, List.getElem?_eq_getElem (by omega)] at this
    simpa using this
  · rw [hB]
    constructor
    · rintro ⟨h1, h2⟩
      refine ⟨(xs.getD i (0, 0)).2, ?_⟩
      rw [getQ xs i h1, ← h2]
    · rintro ⟨r, hr⟩
      have h1 : i < xs.length := by
        rcases Nat.lt_or_ge i xs.length with h' | h'
        · exact h'
        · rw [List.getElem?_eq_none h'] at hr; cases hr
      rw [getQ xs i h1] at hr
      exact ⟨h1, by rw [Option.some.inj hr]⟩
theorem cmp_lt {x y : Int} : Lib.compareInt x y < 0 ↔ x < y := by
  unfold Lib.compareInt
  split
  · simp [*]
  · split <;> simp [*]
theorem cmp_eq {x y : Int} : Lib.compareInt x y = 0 ↔ x = y := by
  unfold Lib.compareInt
  split
  · constructor
    · intro h; cases h
    · intro h; omega
  · split
    · constructor
      · intro h; cases h
      · intro h; omega
    · constructor
      · intro _; omega
      · intro _; rfl
set_option maxHeartbeats 4000000 in
theorem bsearch_any (xs : List (Int × Nat)) (a : Option Addr) (cap : Nat) (d : Int) (w : World) (hL : Le elQ w a xs.length xs) (hR : Ris xs) (hl : xs.length ≤ 1000000) :
    Calls Tryz.prog 27 #[.slice a xs.length cap, .int .i64 d, .func (.func 28) #[] #[]] w fun e w' => (∃ (i : Nat) (B : Bool), e = .returned (.tuple #[.int .i64 i, .bool B]) ∧ Sch xs d i B) ∧ Below w.heap.size w w' := by
  have HL : Hid (Le elQ w a xs.length xs) := hL
  have HR : Hid (Ris xs) := hR
  have HB0 : Hid (Below w.heap.size w w) := Below.refl _ _
  clear hL hR
  obtain ⟨len, hlen⟩ : ∃ n, xs.length = n := ⟨_, rfl⟩
  have HN : Hid (xs.length = len) := hlen
  rw [hlen] at HL hl ⊢
  clear hlen
  go_enter Tryz.func27, Tryz.ntmps27
  go_wp2_with fail
  go_loopw [9, 10] (fun s9 s10 wr => ∃ lo hi : Nat, s9 = .int .i64 lo ∧ s10 = .int .i64 hi ∧ lo ≤ hi ∧ hi ≤ len ∧ Hid (Bnd xs d lo hi) ∧ Hid (Below w.heap.size w wr)) (fun s9 s10 _ => ((intOf s10).toNat - (intOf s9).toNat : Nat))
  case atStart => exact ⟨0, len, rfl, rfl, Nat.zero_le _, Nat.le_refl _, ⟨fun t ht => absurd ht (Nat.not_lt_zero _), fun t h1 h2 => absurd h2 (by rw [HN.out]; omega)⟩, HB0.out⟩
  case round =>
    obtain ⟨lo, hi, rfl, rfl, hlh, hin, HI, HB⟩ := hrel
    by_cases hlt : lo < hi
    · obtain ⟨b, off, rfl⟩ := HL.out.ex (by omega)
      have hmid : (lo + hi) / 2 < len := by omega
      have c0 : wr.cell? ⟨b, off + (lo + hi) / 2 * 2, none⟩ = some (.int .i64 (xs.getD ((lo + hi) / 2) (0, 0)).1) := by have := (HL.out.after HB.out).at ((lo + hi) / 2) hmid 0 _ rfl; simpa [elQ] using this
      have c1 : wr.cell? ⟨b, off + (lo + hi) / 2 * 2 + 1, none⟩ = some (.float .f64 (xs.getD ((lo + hi) / 2) (0, 0)).2) := by have := (HL.out.after HB.out).at ((lo + hi) / 2) hmid 1 _ rfl; simpa [elQ, Nat.add_assoc] using this
      have HU := HI.out.up HR.out (m := (lo + hi) / 2) (by rw [HN.out]; exact hmid)
      have HD := HI.out.down HR.out (m := (lo + hi) / 2) (by rw [HN.out]; exact hmid)
      generalize hx : xs.getD ((lo + hi) / 2) (0, 0) = x at *
      obtain ⟨y, r⟩ := x
      clear hx
      have hc := against_any y r d wr
      simp only at c0 c1 HU HD
      by_cases hyd : y < d
      · have HQ : Hid (Bnd xs d ((lo + hi) / 2 + 1) hi) := HU hyd
        have hcl : Lib.compareInt y d < 0 := cmp_lt.2 hyd
        generalize Lib.compareInt y d = cc at hc hcl
        clear HU HD hyd
        go_wp2_with (go_at_call 28; refine hc.mono ?_; rintro e w' ⟨rfl, hb'⟩; have HB' : Hid (Below wr.heap.size wr w') := hb'; clear hb')
        go_roundw
        case rel => exact ⟨(lo + hi) / 2 + 1, hi, by rw [show ((lo : Int) + (hi : Int)) / 2 + 1 = (((lo + hi) / 2 + 1 : Nat) : Int) by omega], rfl, by omega, hin, HQ.out, step HB.out HB'.out⟩
        case measure => simp [intOf]; omega
      · have HQ : Hid (Bnd xs d lo ((lo + hi) / 2)) := HD hyd
        have hcl : ¬ Lib.compareInt y d < 0 := fun h => hyd (cmp_lt.1 h)
        generalize Lib.compareInt y d = cc at hc hcl
        clear HU HD hyd
        go_wp2_with (go_at_call 28; refine hc.mono ?_; rintro e w' ⟨rfl, hb'⟩; have HB' : Hid (Below wr.heap.size wr w') := hb'; clear hb')
        go_roundw
        case rel => exact ⟨lo, (lo + hi) / 2, rfl, by rw [show ((lo : Int) + (hi : Int)) / 2 = (((lo + hi) / 2 : Nat) : Int) by omega], by omega, by omega, HQ.out, step HB.out HB'.out⟩
        case measure => simp [intOf]; omega
    · obtain rfl : hi = lo := by omega
      by_cases hn : hi < len
      · obtain ⟨b, off, rfl⟩ := HL.out.ex (by omega)
        have c0 : wr.cell? ⟨b, off + hi * 2, none⟩ = some (.int .i64 (xs.getD hi (0, 0)).1) := by have := (HL.out.after HB.out).at hi hn 0 _ rfl; simpa [elQ] using this
        have c1 : wr.cell? ⟨b, off + hi * 2 + 1, none⟩ = some (.float .f64 (xs.getD hi (0, 0)).2) := by have := (HL.out.after HB.out).at hi hn 1 _ rfl; simpa [elQ, Nat.add_assoc] using this
        have HS := fun (B : Bool) hB => HI.out.sch (by rw [HN.out]; exact hin) (B := B) hB
        rw [HN.out] at HS
        generalize hx : xs.getD hi (0, 0) = x at *
        obtain ⟨y, r⟩ := x
        clear hx
        have hc := against_any y r d wr
        simp only at c0 c1 HS
        have hcl := @cmp_eq y d
        generalize Lib.compareInt y d = cc at hc hcl
        by_cases hcc : cc = 0
        · have HQ : Hid (Sch xs d hi true) := HS true ⟨fun _ => ⟨hn, hcl.1 hcc⟩, fun _ => rfl⟩
          subst hcc
          clear HS hcl
          go_wp2_with (go_at_call 28; refine hc.mono ?_; rintro e w' ⟨rfl, hb'⟩; have HB' : Hid (Below wr.heap.size wr w') := hb'; clear hb')
          go_ret2
          exact ⟨⟨hi, true, rfl, HQ.out⟩, step HB.out HB'.out⟩
        · have HQ : Hid (Sch xs d hi false) := HS false ⟨fun h => (by cases h), fun h => absurd (hcl.2 h.2) hcc⟩
          have hcb : (cc == 0) = false := by simpa using hcc
          clear HS hcl
          go_wp2_with (go_at_call 28; refine hc.mono ?_; rintro e w' ⟨rfl, hb'⟩; have HB' : Hid (Below wr.heap.size wr w') := hb'; clear hb')
          go_ret2
          exact ⟨⟨hi, false, rfl, HQ.out⟩, step HB.out HB'.out⟩
      · have HQ : Hid (Sch xs d hi false) := HI.out.sch (by rw [HN.out]; exact hin) ⟨fun h => (by cases h), fun h => by rw [HN.out] at h; exact absurd h.1 hn⟩
        go_wp2_with fail
        go_ret2
        exact ⟨⟨hi, false, rfl, HQ.out⟩, HB.out⟩
end Go.Proofs.YtmhfoeooccppfaaGreat
