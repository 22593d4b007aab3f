/-
  The walk of JurisAsks.
-/
import Derived.Test.YtfmbloagmeodeaaJrE
import Derived.Test.YtfmbloagmeodeaaJuA
namespace Go.Proofs.Ytfmbloagmeodeaa
open Go.RowKit Go.Shelf
set_option linter.unusedVariables false

theorem Hid.mka {p : Prop} (h : p) : Hid p := h
/-- What the document and the tree both tell of one number. -/
structure Ask (ps : List Int) (i p c d : Int) (l : List Int) : Prop where
  len : l.length ≤ 4096
  rp : ∀ a cap W, Li W a ps.length ps → Calls Try.prog 14 #[.slice a ps.length cap, .int .i64 i] W fun e w' => e = .returned (.tuple #[.int .i64 p, .int .i64 c]) ∧ Below W.heap.size W w'
  rd : ∀ a cap W, Li W a ps.length ps → Calls Try.prog 15 #[.slice a ps.length cap, .int .i64 i] W fun e w' => e = .returned (.tuple #[.int .i64 d, .int .i64 c]) ∧ Below W.heap.size W w'
  ru : ∀ a cap W, Li W a ps.length ps → Calls Try.prog 16 #[.slice a ps.length cap, .int .i64 i] W fun e w' => (∃ a' c', e = .returned (.tuple #[.slice a' l.length c', .int .i64 c]) ∧ Li w' a' l.length l) ∧ Below W.heap.size W w'
  tp : ∀ q a cap W, Tv W q a ps.length cap ps true → Calls Try.prog 17 #[.pointer q, .int .i64 i] W fun e w' => e = .returned (.tuple #[.int .i64 p, .int .i64 c]) ∧ Below W.heap.size W w'
  td : ∀ q a cap W, Tv W q a ps.length cap ps true → Calls Try.prog 18 #[.pointer q, .int .i64 i] W fun e w' => e = .returned (.tuple #[.int .i64 d, .int .i64 c]) ∧ Below W.heap.size W w'
  tu : ∀ q a cap W, Tv W q a ps.length cap ps true → Calls Try.prog 19 #[.pointer q, .int .i64 i] W fun e w' => (∃ a' c', e = .returned (.tuple #[.slice a' l.length c', .int .i64 c]) ∧ Li w' a' l.length l) ∧ Below W.heap.size W w'
theorem li_none (w : World) : Li w none 0 [] := (Ge.nil w w.heap.size).toLe.li
theorem same_b {f : FuncId} {vs : Array Value} {W : World} {x : Ending} (h : Calls Try.prog f vs W fun e w' => e = x ∧ w' = W) : Calls Try.prog f vs W fun e w' => e = x ∧ Below W.heap.size W w' :=
  h.mono (by rintro e w' ⟨h1, rfl⟩; exact ⟨h1, Below.refl _ _⟩)
theorem ask_any (ps : List Int) (hT : Tre ps) (hl : ps.length ≤ 4096) (i : Int) : ∃ p c d l, (c = 0 ∨ c = 151) ∧ Ask ps i p c d l := by
  cases hp : plB ps.length i with
  | false =>
    have hc : ckI true ps.length i = 151 := by simp [ckI, hp]
    refine ⟨0, 151, 0, [], .inr rfl, ⟨by simp, fun a cap W h => same_b (rparent_bad ps a cap W i hp), fun a cap W h => same_b (rdeep_bad ps a cap W i hp), fun a cap W h => ?_, fun q a cap W h => ?_, fun q a cap W h => ?_, fun q a cap W h => ?_⟩⟩
    · refine (runder_bad ps a cap W i hp).mono ?_
      rintro e w' ⟨rfl, rfl⟩
      exact ⟨⟨none, 0, rfl, li_none _⟩, Below.refl _ _⟩
    · have := parent_no h i (by rw [hc]; decide)
      rw [hc] at this
      exact same_b this
    · have := deep_no h i (by rw [hc]; decide)
      rw [hc] at this
      exact same_b this
    · have := under_no h i (by rw [hc]; decide)
      rw [hc] at this
      refine this.mono ?_
      rintro e w' ⟨rfl, rfl⟩
      exact ⟨⟨none, 0, rfl, li_none _⟩, Below.refl _ _⟩
  | true =>
    obtain ⟨i, rfl, hi⟩ := plB_ex hp
    refine ⟨ps.getD i (-1), 0, ((pthZ ps i).length : Int) - 1, wl ps i ps.length, .inl rfl, ⟨?_, fun a cap W h => same_b (rparent_ok ps a cap W h i hi), fun a cap W h => rdeep_ok ps hT hl a cap W h i hi, fun a cap W h => runder_ok ps hT hl a cap W h i hi, fun q a cap W h => same_b (parent_ok h i hi), fun q a cap W h => deep_ok h hT (by omega) i hi, fun q a cap W h => under_ok h hT hl i hi⟩⟩
    have := wl_len ps i ps.length
    omega
theorem path_all {w : World} {q a : Option Addr} {cap : Nat} {ps : List Int} {m : Bool} (h : Tv w q a ps.length cap ps m) (hT : Tre ps) (hl : ps.length ≤ 4096) (i : Int) :
    Calls Try.prog 24 #[.pointer q, .int .i64 i, .int .i64 ((ps.length : Int) + 1)] w fun e w' => (∃ v, e = .returned v ∧ Ge elI w' w.heap.size v (ints (pthZ ps i))) ∧ Below w.heap.size w w' := by
  have := lpath_any h hT (by omega) i ((ps.length : Int) + 1) (by omega)
  have hpl := pthZ_len hT i
  rw [List.take_of_length_le (show (pthZ ps i).length ≤ ((ps.length : Int) + 1).toNat by omega)] at this
  exact this
set_option maxHeartbeats 8000000 in
theorem asks_walk (a0 : Option Addr) (len0 cap0 : Nat) (ps : List Int) (i k : Int) (w : World) (hL : Li w a0 len0 ps) (hc : len0 ≤ cap0) (hb : cap0 ≤ 17592186043904) (hn : a0 = none → len0 = 0 ∧ cap0 = 0) (hz : ∀ z ∈ ps, b64 z) (hi' : (Lit.int .i64 i).wf = true) (hk' : (Lit.int .i64 k).wf = true) :
    Calls Try.prog 4 #[.slice a0 len0 cap0, .int .i64 i, .int .i64 k] w fun e w' => e = .returned (.bool true) ∧ Below w.heap.size w w' := by
  obtain rfl := hL.1
  have HA : Hid (∀ W, Calls Try.prog 9 #[] W fun e w' => e = .returned (.bool true) ∧ Below W.heap.size W w') := fun W => awake15 W
  have hT := tree_any ps a0 cap0 w hL (fun e => (hn e).2) (by omega)
  have HL : Hid (Li w a0 ps.length ps) := hL
  clear hz hn hL hi' hk'
  by_cases hok : ps.length ≤ 4096 ∧ Tre ps
  · have hT2 : Calls Try.prog 8 #[.slice a0 ps.length cap0] w fun e w' => (∃ p a cap, e = .returned (.tuple #[.pointer (some ⟨p, 0, none⟩), .bool true]) ∧ Tv w' (some ⟨p, 0, none⟩) a ps.length cap ps true) ∧ Below w.heap.size w w' := by
      refine hT.mono ?_
      rintro e w' ⟨⟨q, rfl, h⟩, hb⟩
      rcases h with ⟨-, h⟩ | ⟨-, -, p, a, cap, rfl, hv⟩
      · exact absurd hok h
      · exact ⟨⟨p, a, cap, rfl, hv⟩, hb⟩
    have hl := hok.1
    have HTr : Hid (Tre ps) := hok.2
    obtain ⟨p, c, d, l, hcc, hask⟩ := ask_any ps hok.2 hl i
    have HK : Hid (Ask ps i p c d l) := hask
    have HPl : Hid ((ints (pthZ ps i)).length ≤ 1000000000000) := by
      show _ ≤ _
      have := pthZ_len hok.2 i
      rw [ints_length]; omega
    have HM : Hid (∀ m ok m' ok', MeR (pthZ ps i) (pthZ ps k) m ok → MeR (pthZ ps k) (pthZ ps i) m' ok' → m = m' ∧ ok = ok') := fun m ok m' ok' h g => MeR.same HTr.out h g
    have HPa : Hid (∀ W q a cap, Tv W q a ps.length cap ps true → Calls Try.prog 24 #[.pointer q, .int .i64 i, .int .i64 ((ps.length : Int) + 1)] W fun e w' => (∃ v, e = .returned v ∧ Ge elI w' W.heap.size v (ints (pthZ ps i))) ∧ Below W.heap.size W w') := fun W q a cap h => path_all h HTr.out hl i
    have HRp : Hid (∀ W, Below w.heap.size w W → Calls Try.prog 25 #[.slice a0 ps.length cap0, .int .i64 i] W fun e w' => (∃ v, e = .returned v ∧ Ge elI w' W.heap.size v (ints (pthZ ps i))) ∧ Below W.heap.size W w') := fun W h => rpath_any ps HTr.out hl a0 cap0 W (HL.out.after h) i
    have HWn : Hid (∀ W q a cap, Tv W q a ps.length cap ps true → Calls Try.prog 22 #[.pointer q, .int .i64 i, .int .i64 k] W fun e w' => e = .returned (.bool (wnB ps i k)) ∧ Below W.heap.size W w') := fun W q a cap h => within_any h HTr.out (by omega) i k
    have HRw : Hid (∀ W, Below w.heap.size w W → Calls Try.prog 23 #[.slice a0 ps.length cap0, .int .i64 i, .int .i64 k] W fun e w' => e = .returned (.bool (wnB ps i k)) ∧ Below W.heap.size W w') := fun W h => rwithin_any ps HTr.out hl a0 cap0 W (HL.out.after h) i k
    have HMt : Hid (∀ W q a cap, Tv W q a ps.length cap ps true → Calls Try.prog 21 #[.pointer q, .int .i64 i, .int .i64 k] W fun e w' => (∃ mm ok, e = .returned (.tuple #[.int .i64 mm, .bool ok]) ∧ MeR (pthZ ps i) (pthZ ps k) mm ok) ∧ Below W.heap.size W w') := fun W q a cap h => meet_any h HTr.out (by omega) i k
    have HRm : Hid (∀ W, Below w.heap.size w W → Calls Try.prog 20 #[.slice a0 ps.length cap0, .int .i64 i, .int .i64 k] W fun e w' => (∃ mm ok, e = .returned (.tuple #[.int .i64 mm, .bool ok]) ∧ MeR (pthZ ps k) (pthZ ps i) mm ok) ∧ Below W.heap.size W w') := fun W h => rmeet_any ps HTr.out hl a0 cap0 W (HL.out.after h) i k
    generalize wnB ps i k = B at *
    generalize ints (pthZ ps i) = L at *
    clear hT hok hask
    rcases hcc with rfl | rfl <;> (
    go_enter Try.func4, Try.ntmps4
    go_wp2_with (first
      | (go_at_call 8; refine hT2.mono ?_; rintro e w1 ⟨⟨p1, a1, c1, rfl, hv⟩, hb1⟩; have HB : Hid (Below w.heap.size w w1) := hb1; have HT : Hid (Tv w1 (some ⟨p1, 0, none⟩) a1 ps.length c1 ps true) := hv; clear hv hb1 hT2)
      | (go_at_call 14; refine (HK.out.rp a0 cap0 _ (HL.out.after HB.out)).mono ?_; rintro e w2 ⟨rfl, hb2⟩; replace HT := Hid.mka (HT.out.after hb2); replace HB : Hid (Below w.heap.size w w2) := step HB.out hb2; clear hb2)
      | (go_at_call 15; refine (HK.out.rd a0 cap0 _ (HL.out.after HB.out)).mono ?_; rintro e w3 ⟨rfl, hb3⟩; replace HT := Hid.mka (HT.out.after hb3); replace HB : Hid (Below w.heap.size w w3) := step HB.out hb3; clear hb3)
      | (go_at_call 16; refine (HK.out.ru a0 cap0 _ (HL.out.after HB.out)).mono ?_; rintro e w4 ⟨⟨ru, rc, rfl, hli⟩, hb4⟩; have HRu := Hid.mka hli; replace HT := Hid.mka (HT.out.after hb4); replace HB : Hid (Below w.heap.size w w4) := step HB.out hb4; clear hb4 hli)
      | (go_at_call 17; refine (HK.out.tp _ _ _ _ HT.out).mono ?_; rintro e w5 ⟨rfl, hb5⟩; replace HRu := Hid.mka (HRu.out.after hb5); replace HT := Hid.mka (HT.out.after hb5); replace HB : Hid (Below w.heap.size w w5) := step HB.out hb5; clear hb5)
      | (go_at_call 18; refine (HK.out.td _ _ _ _ HT.out).mono ?_; rintro e w6 ⟨rfl, hb6⟩; replace HRu := Hid.mka (HRu.out.after hb6); replace HT := Hid.mka (HT.out.after hb6); replace HB : Hid (Below w.heap.size w w6) := step HB.out hb6; clear hb6)
      | (go_at_call 19; refine (HK.out.tu _ _ _ _ HT.out).mono ?_; rintro e w7 ⟨⟨tu, tc, rfl, hli⟩, hb7⟩; have HTu := Hid.mka hli; replace HRu := Hid.mka (HRu.out.after hb7); replace HT := Hid.mka (HT.out.after hb7); replace HB : Hid (Below w.heap.size w w7) := step HB.out hb7; clear hb7 hli)
      | (go_at_call 11; refine (sameInts_eq l tu tc ru rc _ HTu.out HRu.out (by have := HK.out.len; omega)).mono ?_; rintro e w8 ⟨rfl, hb8⟩; replace HT := Hid.mka (HT.out.after hb8); replace HB : Hid (Below w.heap.size w w8) := step HB.out hb8; clear hb8 HTu HRu)
      | (go_at_call 20; refine (HRm.out _ HB.out).mono ?_; rintro e w9 ⟨⟨rm, rok, rfl, hme⟩, hb9⟩; have HMe := Hid.mka hme; replace HT := Hid.mka (HT.out.after hb9); replace HB : Hid (Below w.heap.size w w9) := step HB.out hb9; clear hb9 hme)
      | (go_at_call 21; refine (HMt.out _ _ _ _ HT.out).mono ?_; rintro e w10 ⟨⟨tm, tok, rfl, hme⟩, hb10⟩; obtain ⟨rfl, rfl⟩ := HM.out _ _ _ _ hme HMe.out; replace HT := Hid.mka (HT.out.after hb10); replace HB : Hid (Below w.heap.size w w10) := step HB.out hb10; clear hb10 hme HMe)
      | (go_at_call 22; refine (HWn.out _ _ _ _ HT.out).mono ?_; rintro e w11 ⟨rfl, hb11⟩; replace HT := Hid.mka (HT.out.after hb11); replace HB : Hid (Below w.heap.size w w11) := step HB.out hb11; clear hb11)
      | (go_at_call 23; refine (HRw.out _ HB.out).mono ?_; rintro e w12 ⟨rfl, hb12⟩; replace HT := Hid.mka (HT.out.after hb12); replace HB : Hid (Below w.heap.size w w12) := step HB.out hb12; clear hb12)
      | (go_at_call 24; refine (HPa.out _ _ _ _ HT.out).mono ?_; rintro e w13 ⟨⟨v, rfl, hge⟩, hb13⟩; obtain ⟨a13, c13, rfl, hli⟩ := hge.sl; have HLi := Hid.mka hli; replace HB : Hid (Below w.heap.size w w13) := step HB.out hb13; clear hb13 hge hli HT)
      | (go_at_call 25; refine (HRp.out _ HB.out).mono ?_; rintro e w14 ⟨⟨v, rfl, hge⟩, hb14⟩; obtain ⟨a14, c14, rfl, hli⟩ := hge.sl; have HLj := Hid.mka hli; replace HLi := Hid.mka (HLi.out.after hb14); replace HB : Hid (Below w.heap.size w w14) := step HB.out hb14; clear hb14 hge hli)
      | (go_at_call 11; refine (sameInts_eq L a13 c13 a14 c14 _ HLi.out HLj.out HPl.out).mono ?_; rintro e w15 ⟨rfl, hb15⟩; replace HB : Hid (Below w.heap.size w w15) := step HB.out hb15; clear hb15)
      | (go_at_call 9; refine (HA.out _).mono ?_; rintro e w16 ⟨rfl, hb16⟩; replace HB : Hid (Below w.heap.size w w16) := step HB.out hb16; clear hb16))
    go_ret
    exact ⟨rfl, HB.out⟩)
  · have hT2 : Calls Try.prog 8 #[.slice a0 ps.length cap0] w fun e w' => e = .returned (.tuple #[.pointer none, .bool true]) ∧ Below w.heap.size w w' := by
      refine hT.mono ?_
      rintro e w' ⟨⟨q, rfl, h⟩, hb⟩
      rcases h with ⟨rfl, -⟩ | ⟨h1, h2, -⟩
      · exact ⟨rfl, hb⟩
      · exact absurd ⟨h1, h2⟩ hok
    clear hT hok
    go_enter Try.func4, Try.ntmps4
    go_wp2_with (first
      | (go_at_call 8; refine hT2.mono ?_; rintro e w1 ⟨rfl, hb1⟩; have HB : Hid (Below w.heap.size w w1) := hb1; clear hb1 hT2)
      | (go_at_call 9; refine (HA.out _).mono ?_; rintro e w5 ⟨rfl, hb5⟩; replace HB : Hid (Below w.heap.size w w5) := step HB.out hb5; clear hb5))
    go_ret
    exact ⟨rfl, HB.out⟩
end Go.Proofs.Ytfmbloagmeodeaa
