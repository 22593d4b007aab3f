/-
  addTimes: a list times a limb is added to a piece of a row.
-/
import Derived.Test.YtopmbfiepheepaaOnly
import Derived.Test.YtopmbfiepheepaaRowsP
import Derived.Deep.RegionWith
namespace Go.Proofs.Ytopmbfiepheepaa
open Go.RowKit Go.Shelf

set_option maxHeartbeats 1000000 in
theorem addTimes_any (g off n cr cl : Nat) (cs0 ls : List Int) (l : Option Addr) (b : Int) (w : World) (ho : Own w g cs0) (hL : Limbs cs0) (hf : off + n ≤ cs0.length) (hl : Sx g w l n ls) (hn : n ≤ 40000000000000) (hb : Word b) :
    Calls Try.prog 88 #[.slice (some ⟨g, off, none⟩) n cr, .slice l n cl, .int .u64 b] w fun e w' =>
      ∃ c ds, e = .returned (.int .u64 c) ∧ Own w' g ds ∧ BInv cs0 ls b off n c ds ∧ Only g w w' := by
  have HI0 : Hid (BInv cs0 ls b off 0 0 cs0) := binv_start hL
  have HO0 : Hid (Own w g cs0) := ho
  have HSX : Hid (Sx g w l n ls) := hl
  have hLl := hl.1.2.1
  have HLL : Hid (Limbs ls) := hLl
  clear ho hl hLl
  go_enter Try.func88, Try.ntmps88
  go_wp2_with fail
  go_loopw [7, 16] (fun cc i wr => ∃ (k : Nat) (c : Int) (cs : List Int), k ≤ n ∧ i = .int .i64 k ∧ cc = .int .u64 c ∧ Hid (BInv cs0 ls b off k c cs) ∧ Hid (Own wr g cs) ∧ Hid (Only g w wr)) (fun _ i _ => n - (intOf i).toNat)
  case atStart => exact ⟨0, 0, _, Nat.zero_le _, rfl, rfl, HI0, HO0, Only.refl _ _⟩
  case round =>
    obtain ⟨k, c, cs, hk, rfl, rfl, hI, ho, hbl⟩ := hrel
    by_cases hlt : k < n
    · have hlen := hI.out.1
      have hcx := ho.out.cell (off + k) (by omega)
      have hfx := ho.out.frozen (off + k)
      obtain ⟨⟨hz, -, hs3⟩, -⟩ := HSX.out.only hbl.out
      obtain ⟨lb, lo, rfl, hcl⟩ := hs3 (by omega)
      have hcy := hcl k hlt
      have hw1 := hI.out.2.1.getD (off + k)
      have hw2 := HLL.out.getD k
      have hc0 := hI.out.2.2.2.2.1
      have hc1 := hI.out.2.2.2.2.2
      have hstep := binv_step HLL.out hb hI.out (show off + k < cs0.length by omega)
      obtain ⟨x, hx⟩ : ∃ x, ls.getD k 0 = x := ⟨_, rfl⟩
      obtain ⟨y, hy⟩ : ∃ y, cs.getD (off + k) 0 = y := ⟨_, rfl⟩
      rw [hx] at hcy hw2
      rw [hy] at hcx hw1
      rw [hx, hy] at hstep
      have M := mul_any x b hw2 hb wr
      obtain ⟨hh, hh1⟩ : ∃ h, x * b / 18446744073709551616 = h := ⟨_, rfl⟩
      obtain ⟨ll, ll1⟩ : ∃ l, x * b % 18446744073709551616 = l := ⟨_, rfl⟩
      have hxb : x * b = hh * 18446744073709551616 + ll := by omega
      rw [hh1, ll1] at M
      have hlw : Word ll := by rw [← ll1]; exact word_mod _
      have hlw' := hlw
      obtain ⟨l1, l2⟩ := hlw'
      have A := add_any ll y c hlw hw1 ⟨hc0, hc1⟩ wr
      have q1 : (x * b + y + c) % 18446744073709551616 = (ll + y + c) % 18446744073709551616 := by rw [hxb]; omega
      have q2 : (x * b + y + c) / 18446744073709551616 = hh + (ll + y + c) / 18446744073709551616 := by rw [hxb]; omega
      rw [q1, q2] at hstep
      have p1 := hstep.2.2.2.2.1
      have p2 := hstep.2.2.2.2.2
      have hh0 : 0 ≤ hh := by rw [← hh1]; exact Int.ediv_nonneg (Int.mul_nonneg hw2.1 hb.1) (by omega)
      obtain ⟨V, hV⟩ : ∃ V, (ll + y + c) % 18446744073709551616 = V := ⟨_, rfl⟩
      obtain ⟨E, hE⟩ : ∃ E, (ll + y + c) / 18446744073709551616 = E := ⟨_, rfl⟩
      rw [hV, hE] at A
      rw [hV] at hstep
      have hcc : hh + (ll + y + c) / 18446744073709551616 = hh + E := by omega
      rw [hcc] at hstep p1 p2
      have he0 : 0 ≤ E := by omega
      have HS : Hid (BInv cs0 ls b off (k + 1) (hh + E) (cs.set (off + k) V)) := hstep
      clear hstep hx hy hh1 ll1 hxb q1 q2 hV hE hcc hcl hs3 hz
      go_wp2_with fail
      refine M.mono ?_
      rintro e w2 ⟨rfl, rfl⟩
      go_wp2_with fail
      refine A.mono ?_
      rintro e w2 ⟨rfl, rfl⟩
      go_wp2_with fail
      go_roundw
      case rel => exact ⟨k + 1, _, _, by omega, by go_num, rfl, HS, Own.set ho.out (off + k) _, Only.set hbl.out (off + k) _⟩
      case measure => simp [intOf]; omega
    · obtain rfl : k = n := by omega
      go_wp2_with fail
      go_ret
      exact ⟨c, cs, rfl, ho.out, hI.out, hbl.out⟩
end Go.Proofs.Ytopmbfiepheepaa
