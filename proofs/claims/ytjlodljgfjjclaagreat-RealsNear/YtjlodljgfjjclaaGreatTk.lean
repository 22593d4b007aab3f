/-
  An operation of a region that draws its order is taken: the law in few signs.
-/
import Derived.WalkKit
import Derived.WalkSpells
import Derived.WalkSmall
import Derived.Deep.RegionHeld3
namespace Go.Proofs.YtjlodljgfjjclaaGreat
open Go.RowKit
theorem tk {P : Program} {ops : Array Oper} {Q : Exit → Act → World → Prop} {md : Region.Mode} {S : World → Prop} (i : Nat) {oi : Oper} {v : Value} {fuel : Nat} {listed : Array Bool} {a : Act} {w : World}
    (h1 : ops[i]? = some oi) (hH : S w) (k : wpAnyH P md ops Q S fuel (listed.setIfInBounds i true) (a.put oi.dst v) w)
    (h2 : Region.noSelect ops = true := by kernel_rfl) (h3 : Region.free md ops listed i = true := by kernel_rfl) (h4 : (Region.ready md ops listed).contains i = true := by kernel_rfl)
    (h5 : ∀ c a w, Q (Exit.panic c) (a.put oi.dst v) w → Q (Exit.panic c) a w := by exact fun _ _ _ h => h)
    (h6 : YieldsIf P ops S oi v a := by exact Or.inl ⟨by rfl, by (intro W hSw; (try dsimp only at hSw); go_simp; all_goals (with_reducible rfl))⟩) :
    wpAnyH P md ops Q S (fuel + 1) listed a w := wpAnyH_take h1 h2 h3 h4 h5 h6 hH k
end Go.Proofs.YtjlodljgfjjclaaGreat
