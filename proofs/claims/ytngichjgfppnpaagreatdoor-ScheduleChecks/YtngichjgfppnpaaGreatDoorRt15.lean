import Derived.Test.YtngichjgfppnpaaGreatDoorMgAk
import Derived.Test.YtngichjgfppnpaaGreatDoorMgAj
namespace Go.Proofs.YtngichjgfppnpaaGreatDoor
open Go.RowKit Go.Shelf
set_option linter.unusedVariables false

theorem Rr.long {w : World} {s : Bool} {a : Option Addr} {l c : Nat} {zs : List Int} {b : Option Addr} {m d : Nat} {ys : List Int} {v : Rat} (h : Rr w s a l c zs b m d ys v) : max (l : Int) (m : Int) ≤ 1024 ↔ Short v := by
  have z0 := num_nonneg h.1.2.1
  have e1 : (v.num.natAbs : Int) = num zs := by rw [← h.2.2.2.2.2.1]; cases s <;> simp only [iv_t, iv_f] <;> omega
  have p1 : l ≤ 1024 ↔ num zs < pw 1024 := ⟨fun q => lt_of_used h.1.2.1 (by rw [h.2.2.1]; exact q), fun q => by have := used_of_lt h.1.2.1 q; rw [h.2.2.1] at this; exact this⟩
  have p2 : m ≤ 1024 ↔ num ys < pw 1024 := ⟨fun q => lt_of_used h.2.1.2.1 (by rw [h.2.2.2.1]; exact q), fun q => by have := used_of_lt h.2.1.2.1 q; rw [h.2.2.2.1] at this; exact this⟩
  rw [h.2.2.2.2.2.2.1] at p2
  unfold Short
  rw [e1, ← p1, ← p2]
  omega

theorem rlong5 (s : Bool) (a : Option Addr) (l c : Nat) (b : Option Addr) (m d : Nat) (w : World) :
    Calls Tryz.prog 32 #[.agg #[.bool s, .slice a l c, .slice b m d]] w fun e w' => e = .returned (.int .i64 (max (l : Int) (m : Int))) ∧ Below w.heap.size w w' := by
  go_enter Tryz.func32, Tryz.ntmps32
  go_wp2_with fail
  go_ret
  exact ⟨rfl, (Below.refl _ _).alloc (Nat.le_refl _) _⟩

end Go.Proofs.YtngichjgfppnpaaGreatDoor
