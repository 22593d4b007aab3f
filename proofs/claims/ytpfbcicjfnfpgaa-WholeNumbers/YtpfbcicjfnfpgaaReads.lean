/-
  read: the pieces of a text of digits, to any base; or the first place that is no digit.
-/
import Derived.Test.YtpfbcicjfnfpgaaRev
import Derived.Test.YtpfbcicjfnfpgaaSmallP
namespace Go.Proofs.Ytpfbcicjfnfpgaa
open Go.RowKit Go.Shelf
set_option linter.unusedVariables false

def wvI (c : Int) : Int := if 48 ≤ c ∧ c ≤ 57 then c - 48 else if 97 ≤ c ∧ c ≤ 122 then c - 87 else 36
theorem wvI_byte (c : UInt8) : wvI c.toNat = wv c := by
  unfold wvI wv
  repeat' split
  all_goals omega
theorem wvI_nonneg (c : Int) : 0 ≤ wvI c ∧ wvI c ≤ 36 := by
  unfold wvI
  repeat' split
  all_goals omega
theorem worth_any (c : Int) (h0 : 0 ≤ c) (h2 : c ≤ 2147483647) (w : World) : Calls Try.prog 73 #[.int .i32 c] w fun e w' => e = .returned (.int .i64 (wvI c)) ∧ w' = w := by
  unfold wvI
  by_cases a1 : 48 ≤ c
  · by_cases a2 : c ≤ 57
    · rw [if_pos ⟨a1, a2⟩]; exact worth_digit c a1 a2 w
    · rw [if_neg (by omega)]
      by_cases a3 : 97 ≤ c
      · by_cases a4 : c ≤ 122
        · rw [if_pos ⟨a3, a4⟩]
          have e1 : IntKind.i32.wrap (c - 97) = c - 97 := by rw [IntKind.wrap_i32]; omega
          have e2 : IntKind.i64.wrap (c - 97) = c - 97 := by rw [IntKind.wrap_i64]; omega
          have e3 : c - 97 + 10 = c - 87 := by omega
          have e4 : IntKind.i64.wrap (c - 97 + 10) = c - 87 := by rw [IntKind.wrap_i64]; omega
          go_enter Try.func73, Try.ntmps73
          go_wp2_with fail
          go_ret
          exact ⟨by first | rfl | (rw [e3]), rfl⟩
        · rw [if_neg (by omega)]
          go_enter Try.func73, Try.ntmps73
          go_wp2_with fail
          go_ret
          exact ⟨rfl, rfl⟩
      · rw [if_neg (by omega)]
        go_enter Try.func73, Try.ntmps73
        go_wp2_with fail
        go_ret
        exact ⟨rfl, rfl⟩
  · rw [if_neg (by omega), if_neg (by omega)]
    have a3 : ¬ 97 ≤ c := by omega
    go_enter Try.func73, Try.ntmps73
    go_wp2_with fail
    go_ret
    exact ⟨rfl, rfl⟩
theorem worth_high (c : Int) (h : 128 ≤ c) (w : World) : Calls Try.prog 73 #[.int .i32 c] w fun e w' => e = .returned (.int .i64 36) ∧ w' = w := by
  have a1 : 48 ≤ c := by omega
  have a2 : ¬ c ≤ 57 := by omega
  have a3 : 97 ≤ c := by omega
  have a4 : ¬ c ≤ 122 := by omega
  go_enter Try.func73, Try.ntmps73
  go_wp2_with fail
  go_ret
  exact ⟨rfl, rfl⟩

/-- Small of any word: none for 0, a block of its own for others. -/
theorem small_new (x : Int) (hx : Word x) (w : World) :
    Calls Try.prog 23 #[.int .u64 x] w fun e w' => ∃ d : Dg, e = .returned (.agg #[dv d]) ∧ Nt w' d.1 d.2.1 d.2.2.1 d.2.2.2 ∧ num d.2.2.2 = x ∧ (d.1 = none ∨ ∃ g, d.1 = some ⟨g, 0, none⟩ ∧ 0 < d.2.1 ∧ w.heap.size ≤ g) ∧ Below w.heap.size w w' := by
  by_cases h0 : x = 0
  · subst h0
    go_enter Try.func23, Try.ntmps23
    go_wp2_with fail
    refine bodyPost_ret (results_c rfl rfl (Va.new w _ _)) rfl ?_
    exact ⟨(none, 0, 0, []), rfl, Nt.nil _, rfl, .inl rfl, (Below.refl _ _).alloc (Nat.le_refl _) _⟩
  · refine (small_pos x hx h0 w).mono ?_
    rintro e w' ⟨rfl, h, hb⟩
    exact ⟨(_, _, _, _), rfl, h, by simp [num], .inr ⟨_, rfl, by simp, by omega⟩, hb⟩

/-- A digit at the head of a block of its own, or none. -/
def Dn (W : World) (d : Dg) : Prop := Nt W d.1 d.2.1 d.2.2.1 d.2.2.2 ∧ (d.1 = none ∨ ∃ g, d.1 = some ⟨g, 0, none⟩ ∧ 0 < d.2.1)
theorem Dn.after {W W' : World} (hb : Below W.heap.size W W') {d : Dg} (h : Dn W d) : Dn W' d := ⟨Nt.after hb h.1, h.2⟩
theorem Dn.at {W W' : World} {d : Dg} (h : Dn W d) (k : ∀ g, d.1 = some ⟨g, 0, none⟩ → W'.heap[g]? = W.heap[g]?) : Dn W' d := by
  obtain ⟨h1, h2⟩ := h
  refine ⟨?_, h2⟩
  obtain ⟨a, l, c, zs⟩ := d
  rcases h2 with h2 | ⟨g, h2, h3⟩
  · obtain rfl : a = none := h2
    obtain ⟨⟨e1, e2, e3⟩, e4⟩ := h1
    refine ⟨⟨e1, e2, fun h0 => ?_⟩, e4⟩
    obtain ⟨bb, off, e, -⟩ := e3 h0
    cases e
  · obtain rfl : a = some ⟨g, 0, none⟩ := h2
    exact Nt.at h1 (k g rfl)
theorem Dn.cell0 {W : World} {d : Dg} {g : Nat} (h : Dn W d) (e : d.1 = some ⟨g, 0, none⟩) : ∃ z, W.cell? ⟨g, 0, none⟩ = some (.int .u64 z) := by
  obtain ⟨h1, h2 | ⟨g', h2, h3⟩⟩ := h
  · rw [h2] at e; cases e
  · obtain ⟨bb, off, e', hc⟩ := h1.1.2.2 h3
    rw [e] at e'
    cases e'
    exact ⟨_, hc 0 h3⟩
theorem Grn.lt {W : World} {B : Nat} {v : Value} {ss : List Value} (h : Grn W B v ss) : ∀ k, v.ownBlock = some k → k < W.heap.size := by
  obtain ⟨h1, h2 | ⟨g, cap, cur, rfl, hB, hh, hc, hm, hs, ht⟩⟩ := h
  · obtain ⟨rfl, -⟩ := h2
    intro k hk; cases hk
  · intro k hk; cases hk; exact (Array.getElem?_eq_some_iff.1 hh).1
/-- Digits in a row that grows. -/
def Dr (W : World) (B : Nat) (v : Value) (ds : List Dg) : Prop := Grn W B v (ds.map dv) ∧ ∀ d ∈ ds, Dn W d
theorem Dr.after {W W' : World} {B : Nat} {v : Value} {ds : List Dg} (hb : Below W.heap.size W W') (h : Dr W B v ds) : Dr W' B v ds := ⟨h.1.after hb, fun d hd => (h.2 d hd).after hb⟩
theorem Dr.ne {W : World} {B : Nat} {v : Value} {ds : List Dg} (h : Dr W B v ds) {d : Dg} (hd : d ∈ ds) {g : Nat} (e : d.1 = some ⟨g, 0, none⟩) : some g ≠ v.ownBlock := by
  intro he
  have h0 : 0 < (ds.map dv).length := by rw [List.length_map]; exact List.length_pos_of_mem hd
  obtain ⟨g', cap, rfl, -, -, hc⟩ := h.1.lies h0
  have eg : g = g' := Option.some.inj he
  subst eg
  obtain ⟨z, hz⟩ := (h.2 d hd).cell0 e
  obtain ⟨x, hx⟩ : ∃ x, ds[0]? = some x := ⟨_, List.getElem?_eq_getElem (by simpa using h0)⟩
  have := hc 0 (dv x) (by rw [List.getElem?_map, hx]; rfl)
  rw [hz] at this
  cases this
/-- A digit more, by append. -/
theorem Dr.app {W W' : World} {B : Nat} {v v' : Value} {ds : List Dg} (h : Dr W B v ds) {d : Dg} (hd : Dn W d) (hne : ∀ g, d.1 = some ⟨g, 0, none⟩ → some g ≠ v.ownBlock) (hG : Grn W' B v' (ds.map dv ++ [dv d])) (far : ∀ k, k < W.heap.size → some k ≠ v.ownBlock → W'.heap[k]? = W.heap[k]?) : Dr W' B v' (ds ++ [d]) := by
  have lt : ∀ {d : Dg} {g : Nat}, Dn W d → d.1 = some ⟨g, 0, none⟩ → g < W.heap.size := fun {d g} hd e => by
    obtain ⟨z, hz⟩ := hd.cell0 e
    exact Rd.lt hz
  refine ⟨by rw [List.map_append]; exact hG, fun x hx => ?_⟩
  rcases List.mem_append.1 hx with hx | hx
  · exact (h.2 x hx).at fun g e => far g (lt (h.2 x hx) e) (h.ne hx e)
  · obtain rfl : x = d := by simpa using hx
    exact hd.at fun g e => far g (lt hd e) (hne g e)
theorem Dr.iter {W : World} {B k : Nat} {v : Value} {ds : List Dg} {s : ByteArray} {pos : Nat} (h : Dr W B v ds) (hk : W.heap[k]? = some (.stringIter s pos)) (pos' : Nat) : Dr (W.iterAt k s pos') B v ds := by
  have oth : ∀ j, j ≠ k → (W.iterAt k s pos').heap[j]? = W.heap[j]? := fun j hj => Go.Lib.iterAt_other W k j s pos' hj
  refine ⟨?_, fun d hd => (h.2 d hd).at fun g e => oth g ?_⟩
  · obtain ⟨h1, h2 | ⟨g, cap, cur, e, hB, hh, hc, hm, hs, ht⟩⟩ := h.1
    · exact ⟨h1, .inl h2⟩
    · refine ⟨h1, .inr ⟨g, cap, cur, e, hB, ?_, hc, hm, hs, ht⟩⟩
      rw [oth g (fun e' => by rw [e', hk] at hh; cases hh)]; exact hh
  · intro e'
    obtain ⟨z, hz⟩ := (h.2 d hd).cell0 e
    subst e'
    simp [World.cell?, hk] at hz
end Go.Proofs.Ytpfbcicjfnfpgaa
