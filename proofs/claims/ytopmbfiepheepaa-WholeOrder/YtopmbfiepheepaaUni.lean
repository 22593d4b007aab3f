/-
  What the laws over lists use again and again: one trimmed list a number; contracts that only say that nothing old has turned.
-/
import Derived.Test.YtopmbfiepheepaaLists2
import Derived.Test.YtopmbfiepheepaaLists3
namespace Go.Proofs.Ytopmbfiepheepaa
open Go.RowKit Go.Shelf

theorem step {w wk w' : World} (B : Below w.heap.size w wk) (hb : Below wk.heap.size wk w') : Below w.heap.size w w' := B.trans (hb.mono B.size)

theorem one_list {zs xs : List Int} {m : Nat} (h1 : Limbs zs) (h2 : Limbs xs) (hl : zs.length = m) (hu : usedN zs = m) (hn : num zs = num xs) : m = usedN xs ∧ zs = xs.take (usedN xs) := by
  have e := trim_eq h1 h2 hn
  have u := used_of_num h1 h2 hn
  rw [hu, ← hl, List.take_of_length_le (Nat.le_refl _)] at e
  exact ⟨by omega, e⟩

theorem compare_b (a b : Option Addr) (la ca lb cb : Nat) (xs ys : List Int) (w : World) (ha : Sl w a la xs) (hb : Sl w b lb ys) (h1 : la ≤ 40000000000000) (h2 : lb ≤ 40000000000000) :
    Calls Try.prog 53 #[.slice a la ca, .slice b lb cb] w fun e w' => e = .returned (.int .i64 (cmp3 (num xs) (num ys))) ∧ Below w.heap.size w w' := by
  refine (compare_any a b la ca lb cb xs ys w ha hb h1 h2).mono ?_
  rintro e w' ⟨rfl, n, rfl⟩
  exact ⟨rfl, below_drewN (Below.refl _ _) n⟩
/-- Trim, told by its list alone. -/
theorem trim_b (a : Option Addr) (len cap : Nat) (zs : List Int) (w : World) (h : Sl w a len zs) (hl : len ≤ 20000000000000) (hcap : len ≤ cap) :
    Calls Try.prog 50 #[.slice a len cap] w fun e w' =>
      ∃ g, e = .returned (.slice (some ⟨g, 0, none⟩) (usedN zs) (usedN zs)) ∧ Sl w' (some ⟨g, 0, none⟩) (usedN zs) (zs.take (usedN zs)) ∧ Below w.heap.size w w' := by
  refine (trim_any a len cap zs w h hl hcap).mono ?_
  rintro e w' ⟨g, rfl, hg, ho, hb⟩
  have := ho.sl (h.2.1.take _)
  have hu := usedN_le zs
  rw [List.length_take, Nat.min_eq_left hu] at this
  exact ⟨g, rfl, this, hb⟩
theorem sl_one (w : World) (m : Int) (hm : Word m) : Sl (w.alloc (.cells #[.int .u64 m] 23)) (some ⟨w.heap.size, 0, none⟩) 1 [m] := by
  refine ⟨rfl, fun z hz => by rw [List.mem_singleton.1 hz]; exact hm, fun _ => ⟨_, _, rfl, fun i hi => ?_⟩⟩
  obtain rfl : i = 0 := by omega
  exact Own.cell (cs := [m]) (heap_alloc_new w _) 0 Nat.one_pos
end Go.Proofs.Ytopmbfiepheepaa
