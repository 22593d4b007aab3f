/-
  Lists of limbs: whether two lists are one; whether one is trimmed; how many binary digits a number has.
-/
import Derived.Test.YtopmbfiepheepaaLists
import Derived.Test.YtopmbfiepheepaaDiv
namespace Go.Proofs.Ytopmbfiepheepaa
open Go.RowKit Go.Shelf

/-- How many binary digits a number has. -/
def bitsN (zs : List Int) : Int := if usedN zs = 0 then 0 else 64 * ((usedN zs : Int) - 1) + (Lib.bitLen (zs.getD (usedN zs - 1) 0).toNat : Int)

theorem bits_any (a : Option Addr) (len cap : Nat) (zs : List Int) (w : World) (h : Sl w a len zs) (hl : len ≤ 40000000000000) :
    Calls Try.prog 70 #[.slice a len cap] w fun e w' => e = .returned (.int .i64 (bitsN zs)) ∧ w' = w := by
  have hu := usedN_le zs
  have hz := h.1
  have U := used_any a len cap zs w h hl
  by_cases h0 : usedN zs = 0
  · have e0 : bitsN zs = 0 := by simp [bitsN, h0]
    rw [e0]
    rw [h0] at U
    go_enter Try.func70, Try.ntmps70
    go_wp2_with fail
    refine U.mono ?_
    rintro e w' ⟨rfl, rfl⟩
    go_wp2_with fail
    go_ret
    exact ⟨rfl, rfl⟩
  · obtain ⟨b, off, rfl, hc⟩ := h.2.2 (by omega)
    have hcx := hc (usedN zs - 1) (by omega)
    have hw := h.2.1.getD (usedN zs - 1)
    have hB : bitsN zs = 64 * ((usedN zs : Int) - 1) + (Lib.bitLen (zs.getD (usedN zs - 1) 0).toNat : Int) := by simp [bitsN, h0]
    obtain ⟨x, hx⟩ : ∃ x, zs.getD (usedN zs - 1) 0 = x := ⟨_, rfl⟩
    rw [hx] at hcx hw hB
    rw [hB]
    have hbl : Lib.bitLen x.toNat ≤ 64 := Lib.bitLen_le x.toNat 64 (by omega) (by omega)
    obtain ⟨u, hu1⟩ : ∃ u, usedN zs = u := ⟨_, rfl⟩
    rw [hu1] at U hcx h0 hu ⊢
    have g1 : ((u : Int) == 0) = false := by simp; omega
    have ex : ((u : Int) - 1).toNat = u - 1 := by omega
    clear hx h hc hu1 hB
    go_enter Try.func70, Try.ntmps70
    go_wp2_with fail
    refine U.mono ?_
    rintro e w' ⟨rfl, rfl⟩
    go_wp2_with fail
    refine (Try.bits_Len64 x _ hw.1 (by omega)).mono ?_
    rintro e w' ⟨rfl, rfl⟩
    go_wp2_with fail
    go_ret
    exact ⟨rfl, rfl⟩
end Go.Proofs.Ytopmbfiepheepaa
