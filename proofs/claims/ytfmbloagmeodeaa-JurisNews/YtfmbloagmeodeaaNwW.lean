/-
  The walk of JurisNews.
-/
import Derived.Test.YtfmbloagmeodeaaJrC
import Derived.Test.YtfmbloagmeodeaaJuA
namespace Go.Proofs.Ytfmbloagmeodeaa
open Go.RowKit Go.Shelf
set_option linter.unusedVariables false

theorem Hid.mkk {p : Prop} (h : p) : Hid p := h
set_option maxHeartbeats 8000000 in
theorem news_walk (a0 : Option Addr) (len0 cap0 : Nat) (ps : List Int) (w : World) (hL : Li w a0 len0 ps) (hc : len0 ≤ cap0) (hb : cap0 ≤ 17592186043904) (hn : a0 = none → len0 = 0 ∧ cap0 = 0) (hz : ∀ z ∈ ps, b64 z) :
    Calls Try.prog 3 #[.slice a0 len0 cap0] w fun e w' => e = .returned (.bool true) ∧ Below w.heap.size w w' := by
  obtain rfl := hL.1
  have HA : Hid (∀ W, Calls Try.prog 9 #[] W fun e w' => e = .returned (.bool true) ∧ Below W.heap.size W w') := fun W => awake15 W
  have hT := tree_any ps a0 cap0 w hL (fun e => (hn e).2) (by omega)
  have HL : Hid (Li w a0 ps.length ps) := hL
  clear hz hn hL
  by_cases hok : ps.length ≤ 4096 ∧ Tre ps
  · have hT2 : Calls Try.prog 8 #[.slice a0 ps.length cap0] w fun e w' => (∃ p a cap, e = .returned (.tuple #[.pointer (some ⟨p, 0, none⟩), .bool true]) ∧ Tv w' (some ⟨p, 0, none⟩) a ps.length cap ps true) ∧ Below w.heap.size w w' := by
      refine hT.mono ?_
      rintro e w' ⟨⟨q, rfl, h⟩, hb⟩
      rcases h with ⟨-, h⟩ | ⟨-, -, p, a, cap, rfl, hv⟩
      · exact absurd hok h
      · exact ⟨⟨p, a, cap, rfl, hv⟩, hb⟩
    have hl := hok.1
    have HTr : Hid (Tre ps) := hok.2
    have HOr : Hid (∀ W, Below w.heap.size w W → Calls Try.prog 13 #[.slice a0 ps.length cap0] W fun e w' => (∃ v o, e = .returned v ∧ Go15 ps o ∧ o.length = ps.length ∧ Ge elI w' W.heap.size v (ints o)) ∧ Below W.heap.size W w') := fun W h => rorder_any ps HTr.out hl a0 cap0 W (HL.out.after h)
    clear hT hok
    go_enter Try.func3, Try.ntmps3
    go_wp2_with (first
      | (go_at_call 8; refine hT2.mono ?_; rintro e w1 ⟨⟨p, a1, c1, rfl, hv⟩, hb1⟩; have HB : Hid (Below w.heap.size w w1) := hb1; have HT : Hid (Tv w1 (some ⟨p, 0, none⟩) a1 ps.length c1 ps true) := hv; clear hv hb1 hT2)
      | (go_at_call 10; refine (len_any HT.out).mono ?_; rintro e w9 ⟨rfl, hw⟩; rw [hw]; clear hw w9)
      | (go_at_call 12; refine (order_any HT.out HTr.out hl).mono ?_; rintro e w2 ⟨⟨lst, out, rfl, hgo, hol, hge⟩, hb2⟩; obtain ⟨al, cl, rfl, hli⟩ := hge.sl; have HGo : Hid (Go15 ps out ∧ out.length = ps.length) := ⟨hgo, hol⟩; have HLi : Hid (Li w2 al (ints out).length (ints out)) := hli; replace HB : Hid (Below w.heap.size w w2) := step HB.out hb2; clear hgo hol hge hli hb2)
      | (go_at_call 13; refine (HOr.out _ HB.out).mono ?_; rintro e w3 ⟨⟨v, o, rfl, hgo, hol, hge⟩, hb3⟩; obtain rfl := (Go15.unique HGo.out.2 hol HGo.out.1 hgo); obtain ⟨a3, c3, rfl, hli3⟩ := hge.sl; have HLi3 : Hid (Li w3 a3 (ints out).length (ints out)) := hli3; replace HLi := Hid.mkk (HLi.out.after hb3); replace HB : Hid (Below w.heap.size w w3) := step HB.out hb3; clear hgo hol hge hli3 hb3)
      | (go_at_call 11; refine (sameInts_eq (ints out) al cl a3 c3 _ HLi.out HLi3.out (by rw [ints_length, HGo.out.2]; omega)).mono ?_; rintro e w4 ⟨rfl, hb4⟩; replace HB : Hid (Below w.heap.size w w4) := step HB.out hb4; clear hb4)
      | (go_at_call 9; refine (HA.out _).mono ?_; rintro e w5 ⟨rfl, hb5⟩; replace HB : Hid (Below w.heap.size w w5) := step HB.out hb5; clear hb5))
    go_ret
    exact ⟨rfl, HB.out⟩
  · have hT2 : Calls Try.prog 8 #[.slice a0 ps.length cap0] w fun e w' => e = .returned (.tuple #[.pointer none, .bool true]) ∧ Below w.heap.size w w' := by
      refine hT.mono ?_
      rintro e w' ⟨⟨q, rfl, h⟩, hb⟩
      rcases h with ⟨rfl, -⟩ | ⟨h1, h2, -⟩
      · exact ⟨rfl, hb⟩
      · exact absurd ⟨h1, h2⟩ hok
    clear hT hok
    go_enter Try.func3, Try.ntmps3
    go_wp2_with (first
      | (go_at_call 8; refine hT2.mono ?_; rintro e w1 ⟨rfl, hb1⟩; have HB : Hid (Below w.heap.size w w1) := hb1; clear hb1 hT2)
      | (go_at_call 9; refine (HA.out _).mono ?_; rintro e w5 ⟨rfl, hb5⟩; replace HB : Hid (Below w.heap.size w w5) := step HB.out hb5; clear hb5))
    go_ret
    exact ⟨rfl, HB.out⟩
end Go.Proofs.Ytfmbloagmeodeaa
