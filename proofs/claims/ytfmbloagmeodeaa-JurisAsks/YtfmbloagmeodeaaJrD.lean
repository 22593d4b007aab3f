/-
  juris: the document's Path, Parent, Deep, Within, Under, Meet.
-/
import Derived.Test.YtfmbloagmeodeaaJrC
import Derived.Test.YtfmbloagmeodeaaWiW
namespace Go.Proofs.Ytfmbloagmeodeaa
open Go.RowKit Go.Shelf
set_option linter.unusedVariables false

theorem ints_take (l : List Nat) (k : Nat) : ints (l.take k) = (ints l).take k := by simp [ints, List.map_take]
theorem plB_nat {n i : Nat} (h : i < n) : plB n i = true := by simp [plB]; omega
theorem plB_ex {n : Nat} {i : Int} (h : plB n i = true) : ∃ k : Nat, i = k ∧ k < n := by
  have h' : 0 ≤ i ∧ i < n := by simpa [plB] using h
  exact ⟨i.toNat, by omega, by omega⟩
theorem pthZ_bad {ps : List Int} {i : Int} (h : plB ps.length i = false) : pthZ ps i = [] := by unfold pthZ; rw [h]; rfl
set_option maxHeartbeats 4000000 in
theorem rpath_any (ps : List Int) (hT : Tre ps) (hl : ps.length ≤ 4096) (a : Option Addr) (cap : Nat) (w : World) (hL : Li w a ps.length ps) (i : Int) :
    Calls Try.prog 25 #[.slice a ps.length cap, .int .i64 i] w fun e w' => (∃ v, e = .returned v ∧ Ge elI w' w.heap.size v (ints (pthZ ps i))) ∧ Below w.heap.size w w' := by
  have hI := rplace_any a ps.length cap i w
  have HL : Hid (Li w a ps.length ps) := hL
  have HP : Hid (Ptc ps (stZ ps.length i) (pthZ ps i)) := ptc_any hT i
  have hpl := pthZ_len hT i
  clear hL hT
  cases hp : plB ps.length i with
  | false =>
    rw [hp] at hI
    have HE : Hid (pthZ ps i = []) := pthZ_bad hp
    clear hp
    go_enter Try.func25, Try.ntmps25
    go_wp2_with (go_at_call 37; refine hI.mono ?_; rintro e w1 ⟨rfl, hw⟩; rw [hw]; clear hw w1)
    go_ret
    exact ⟨⟨_, rfl, by rw [HE.out]; exact Ge.nil _ _⟩, Below.refl _ _⟩
  | true =>
    rw [hp] at hI
    have HS : Hid (i = nx (pthZ ps i)[0]?) := by
      have := HP.out.start
      rw [stZ, hp] at this
      exact this
    clear hp
    generalize pthZ ps i = P at *
    go_enter Try.func25, Try.ntmps25
    go_wp2_with (go_at_call 37; refine hI.mono ?_; rintro e w1 ⟨rfl, hw⟩; rw [hw]; clear hw w1 hI)
    go_loopw [5, 6] (fun v u wr => ∃ t : Nat, u = .int .i64 (nx P[t]?) ∧ t ≤ P.length ∧ Hid (Ge elI wr w.heap.size v (ints (P.take t))) ∧ Hid (Below w.heap.size w wr)) (fun v _ _ => (P.length - lenV v : Nat))
    case atStart => exact ⟨0, by rw [← HS.out], Nat.zero_le _, by rw [List.take_zero]; exact Ge.nil _ _, Below.refl _ _⟩
    case round =>
      obtain ⟨t, rfl, ht, HG, HB⟩ := hrel
      have hsz := HB.out.size
      obtain ⟨av, cv, rfl, -, -, -⟩ := HG.out.shape
      cases hx : P[t]? with
      | none =>
        have hte : t = P.length := by
          rcases Nat.lt_or_ge t P.length with h' | h'
          · rw [List.getElem?_eq_getElem h'] at hx; cases hx
          · omega
        have HE : Hid (P.take t = P) := by show _ = _; rw [hte, List.take_length]
        clear hx
        rw [nx_none]
        go_wp2_with fail
        go_ret
        refine ⟨⟨_, rfl, ?_⟩, HB.out⟩
        have := HG.out
        rw [HE.out] at this ⊢
        exact this
      | some x =>
        have hxl := HP.out.lt x (List.mem_of_getElem? hx)
        have htl : t < P.length := by
          rcases Nat.lt_or_ge t P.length with h' | h'
          · exact h'
          · rw [List.getElem?_eq_none h'] at hx; cases hx
        have HNx : Hid (ps.getD x (-1) = nx P[t + 1]?) := HP.out.next t x hx
        have HT : Hid (ints (P.take (t + 1)) = ints (P.take t) ++ [(x : Int)]) := by
          show _ = _
          rw [List.take_succ_eq_append_getElem htl, ints_snoc]
          rw [List.getElem?_eq_getElem htl] at hx
          rw [Option.some.inj hx]
        have HLt : Hid ((ints (P.take t)).length = t) := by show _ = _; rw [ints_length, List.length_take]; omega
        have HLn : Hid ((ints (P.take t)).length + 1 ≤ 1000000000000) := by show _ ≤ _; rw [HLt.out]; omega
        have hxi : (x : Int) < ps.length := by omega
        have hx0 : (0 : Int) ≤ x := by omega
        clear hx
        rw [nx_some]
        generalize ints (P.take t) = L at *
        have HCl : Hid (∀ W, Below w.heap.size w W → ∃ b off, a = some ⟨b, off, none⟩ ∧ W.cell? ⟨b, off + x, none⟩ = some (.int .i64 (nx P[t + 1]?))) := fun W hb => by
          obtain ⟨b, off, e, hc⟩ := (HL.out.after hb).at hxl
          rw [HNx.out] at hc
          exact ⟨b, off, e, hc⟩
        obtain ⟨y, hy⟩ : ∃ y, nx P[t + 1]? = y := ⟨_, rfl⟩
        rw [hy] at HCl
        have HY : Hid (nx P[t + 1]? = y) := hy
        clear hy
        go_wp2_with (at_builtin; refine wpList_appE rfl _ _ _ rfl elI rfl w.heap.size _ L rfl (HG.out.al _) wr.heap.size 0 1 1 [(x : Int)] rfl (Le.one (Va.new wr _ _) rfl) HLn.out (by simp; omega) ?_; intro v3 w3 hg3 hgr3 hob3; have HG3 : Hid (Ge elI w3 w.heap.size v3 (L ++ [(x : Int)])) := hg3; have HB3 : Hid (Below w.heap.size w w3) := (HB.out.alloc hsz _).trans ((Below.refl _ _).grown hgr3 (by simp; omega) (fun b hb => HG.out.block b hb)); obtain ⟨a3, c3, rfl, -, -, -⟩ := hg3.shape; obtain ⟨b9, o9, rfl, c9⟩ := HCl.out w3 HB3.out; clear hg3 hgr3 hob3)
        go_roundw
        case rel =>
          refine ⟨t + 1, by rw [HY.out], by omega, ?_, HB3.out⟩
          rw [HT.out]
          have h8 := HG3.out
          rw [show (L ++ [(x : Int)]).length = L.length + 1 by simp] at h8
          exact h8
        case measure =>
          have := HLt.out
          simp only [lenV]
          omega
theorem rparent_bad (ps : List Int) (a : Option Addr) (cap : Nat) (w : World) (i : Int) (hp : plB ps.length i = false) :
    Calls Try.prog 14 #[.slice a ps.length cap, .int .i64 i] w fun e w' => e = .returned (.tuple #[.int .i64 0, .int .i64 151]) ∧ w' = w := by
  have hI := rplace_any a ps.length cap i w
  rw [hp] at hI
  clear hp
  go_enter Try.func14, Try.ntmps14
  go_wp2_with (go_at_call 37; refine hI.mono ?_; rintro e w1 ⟨rfl, hw⟩; rw [hw]; clear hw w1)
  go_ret2
  exact ⟨rfl, rfl⟩
theorem rparent_ok (ps : List Int) (a : Option Addr) (cap : Nat) (w : World) (hL : Li w a ps.length ps) (i : Nat) (hi : i < ps.length) :
    Calls Try.prog 14 #[.slice a ps.length cap, .int .i64 (i : Int)] w fun e w' => e = .returned (.tuple #[.int .i64 (ps.getD i (-1)), .int .i64 0]) ∧ w' = w := by
  have hI := rplace_any a ps.length cap i w
  rw [plB_nat hi] at hI
  obtain ⟨b, off, rfl, hc⟩ := hL.at hi
  have hii : (i : Int) < ps.length := by omega
  generalize ps.getD i (-1) = x at *
  clear hL
  go_enter Try.func14, Try.ntmps14
  go_wp2_with (go_at_call 37; refine hI.mono ?_; rintro e w1 ⟨rfl, hw⟩; rw [hw]; clear hw w1)
  go_ret2
  exact ⟨rfl, rfl⟩
theorem rdeep_bad (ps : List Int) (a : Option Addr) (cap : Nat) (w : World) (i : Int) (hp : plB ps.length i = false) :
    Calls Try.prog 15 #[.slice a ps.length cap, .int .i64 i] w fun e w' => e = .returned (.tuple #[.int .i64 0, .int .i64 151]) ∧ w' = w := by
  have hI := rplace_any a ps.length cap i w
  rw [hp] at hI
  clear hp
  go_enter Try.func15, Try.ntmps15
  go_wp2_with (go_at_call 37; refine hI.mono ?_; rintro e w1 ⟨rfl, hw⟩; rw [hw]; clear hw w1)
  go_ret2
  exact ⟨rfl, rfl⟩
theorem rdeep_ok (ps : List Int) (hT : Tre ps) (hl : ps.length ≤ 4096) (a : Option Addr) (cap : Nat) (w : World) (hL : Li w a ps.length ps) (i : Nat) (hi : i < ps.length) :
    Calls Try.prog 15 #[.slice a ps.length cap, .int .i64 (i : Int)] w fun e w' => e = .returned (.tuple #[.int .i64 (((pthZ ps i).length : Int) - 1), .int .i64 0]) ∧ Below w.heap.size w w' := by
  have hI := rplace_any a ps.length cap i w
  rw [plB_nat hi] at hI
  have hP := rpath_any ps hT hl a cap w hL i
  have hpl := pthZ_len hT i
  clear hL hT
  generalize pthZ ps i = P at *
  go_enter Try.func15, Try.ntmps15
  go_wp2_with (first
    | (go_at_call 37; refine hI.mono ?_; rintro e w1 ⟨rfl, hw⟩; rw [hw]; clear hw w1)
    | (go_at_call 25; refine hP.mono ?_; rintro e w1 ⟨⟨v, rfl, hG⟩, hb1⟩; obtain ⟨a1, c1, rfl, -⟩ := hG.sl; rw [ints_length]; have HB : Hid (Below w.heap.size w w1) := hb1; clear hG hb1))
  go_ret2
  exact ⟨rfl, HB.out⟩
set_option maxHeartbeats 4000000 in
theorem rwithin_any (ps : List Int) (hT : Tre ps) (hl : ps.length ≤ 4096) (a : Option Addr) (cap : Nat) (w : World) (hL : Li w a ps.length ps) (i over : Int) :
    Calls Try.prog 23 #[.slice a ps.length cap, .int .i64 i, .int .i64 over] w fun e w' => e = .returned (.bool (wnB ps i over)) ∧ Below w.heap.size w w' := by
  have hP := rpath_any ps hT hl a cap w hL i
  have hpl := pthZ_len hT i
  unfold wnB
  clear hL hT
  generalize pthZ ps i = P at *
  obtain ⟨R, hR⟩ : ∃ R, decide (∃ x ∈ P, (x : Int) = over) = R := ⟨_, rfl⟩
  rw [hR]
  have HR : Hid (decide (∃ x ∈ P, (x : Int) = over) = R) := hR
  clear hR
  go_enter Try.func23, Try.ntmps23
  go_wp2_with (go_at_call 25; refine hP.mono ?_; rintro e w1 ⟨⟨v, rfl, hG⟩, hb1⟩; obtain ⟨a1, c1, rfl, hli⟩ := hG.sl; rw [ints_length] at hli ⊢; have HB : Hid (Below w.heap.size w w1) := hb1; have HLi : Hid (Li w1 a1 P.length (ints P)) := hli; clear hG hb1 hli hP)
  go_loopw [8] (fun v wr => ∃ k : Nat, v = .int .i64 k ∧ k ≤ P.length ∧ Hid (∀ t, t < k → (P.getD t 0 : Int) ≠ over) ∧ wr = w1) (fun v _ => (P.length - (intOf v).toNat : Nat))
  case atStart => exact ⟨0, rfl, Nat.zero_le _, fun t ht => absurd ht (Nat.not_lt_zero _), rfl⟩
  case round =>
    obtain ⟨k, rfl, hk, HN, hwr⟩ := hrel
    subst hwr
    rcases Nat.lt_or_ge k P.length with hlt | hge
    · have hki : (k : Int) < P.length := by omega
      obtain ⟨b, off, rfl, hc⟩ := HLi.out.at hlt
      rw [show (ints P).getD k (-1) = (P.getD k 0 : Int) by simp [ints, List.getD_eq_getElem?_getD, hlt]] at hc
      have HM : Hid (P.getD k 0 ∈ P) := by
        show _ ∈ _
        rw [List.getD_eq_getElem?_getD, List.getElem?_eq_getElem hlt]; exact List.getElem_mem hlt
      by_cases he : ((P.getD k 0 : Nat) : Int) = over
      · have HE : Hid (((P.getD k 0 : Nat) : Int) = over) := he
        rw [he] at hc
        clear he
        go_wp2_with fail
        go_ret
        exact ⟨by rw [← HR.out, decide_eq_true ⟨_, HM.out, HE.out⟩]; rfl, HB.out⟩
      · have HX : Hid (∀ t, t < k + 1 → (P.getD t 0 : Int) ≠ over) := fun t ht => by
          by_cases e2 : t = k
          · subst e2; exact he
          · exact HN.out t (by omega)
        generalize ((P.getD k 0 : Nat) : Int) = x at *
        go_wp2_with fail
        go_roundw
        case rel => exact ⟨k + 1, rfl, by omega, HX.out, by trivial⟩
        case measure => simp [intOf]; omega
    · obtain rfl : k = P.length := by omega
      clear hge hk
      go_wp2_with fail
      go_ret
      refine ⟨?_, HB.out⟩
      have hno : ¬ ∃ x ∈ P, (x : Int) = over := by
        rintro ⟨x, hx, e⟩
        obtain ⟨t, ht⟩ := List.mem_iff_getElem?.1 hx
        have htl : t < P.length := by
          rcases Nat.lt_or_ge t P.length with h' | h'
          · exact h'
          · rw [List.getElem?_eq_none h'] at ht; cases ht
        exact HN.out t htl (by rw [List.getD_eq_getElem?_getD, ht]; exact e)
      rw [← HR.out, decide_eq_false hno]; rfl
theorem runder_bad (ps : List Int) (a : Option Addr) (cap : Nat) (w : World) (i : Int) (hp : plB ps.length i = false) :
    Calls Try.prog 16 #[.slice a ps.length cap, .int .i64 i] w fun e w' => e = .returned (.tuple #[.slice none 0 0, .int .i64 151]) ∧ w' = w := by
  have hI := rplace_any a ps.length cap i w
  rw [hp] at hI
  clear hp
  go_enter Try.func16, Try.ntmps16
  go_wp2_with (go_at_call 37; refine hI.mono ?_; rintro e w1 ⟨rfl, hw⟩; rw [hw]; clear hw w1)
  go_ret2
  exact ⟨rfl, rfl⟩
theorem wl_len (ps : List Int) (i : Nat) : ∀ m, (wl ps i m).length ≤ m
  | 0 => Nat.le_refl _
  | m + 1 => by
    have := wl_len ps i m
    simp only [wl]
    rw [List.length_append]
    split <;> simp <;> omega
set_option maxHeartbeats 4000000 in
theorem runder_ok (ps : List Int) (hT : Tre ps) (hl : ps.length ≤ 4096) (a : Option Addr) (cap : Nat) (w : World) (hL : Li w a ps.length ps) (i : Nat) (hi : i < ps.length) :
    Calls Try.prog 16 #[.slice a ps.length cap, .int .i64 (i : Int)] w fun e w' => (∃ a' c', e = .returned (.tuple #[.slice a' (wl ps i ps.length).length c', .int .i64 0]) ∧ Li w' a' (wl ps i ps.length).length (wl ps i ps.length)) ∧ Below w.heap.size w w' := by
  have hI := rplace_any a ps.length cap i w
  rw [plB_nat hi] at hI
  have HL : Hid (Li w a ps.length ps) := hL
  have HT : Hid (Tre ps) := hT
  clear hL hT
  go_enter Try.func16, Try.ntmps16
  go_wp2_with (go_at_call 37; refine hI.mono ?_; rintro e w1 ⟨rfl, hw⟩; rw [hw]; clear hw w1 hI)
  go_loopw [6, 7] (fun v u wr => ∃ k : Nat, u = .int .i64 k ∧ k ≤ ps.length ∧ Hid (Ge elI wr w.heap.size v (wl ps i k)) ∧ Hid (Below w.heap.size w wr)) (fun _ u _ => (ps.length - (intOf u).toNat : Nat))
  case atStart => exact ⟨0, rfl, Nat.zero_le _, Ge.nil _ _, Below.refl _ _⟩
  case round =>
    obtain ⟨k, rfl, hk, HG, HB⟩ := hrel
    obtain ⟨av, cv, rfl, -, -, -⟩ := HG.out.shape
    have hsz := HB.out.size
    rcases Nat.lt_or_ge k ps.length with hlt | hge
    · have hki : (k : Int) < ps.length := by omega
      have hW := rwithin_any ps HT.out hl a cap wr (HL.out.after HB.out) k i
      have hwl := wl_len ps i k
      by_cases hA : Wn ps k i
      · rw [wnB_true HT.out hlt hA] at hW
        have HE : Hid (wl ps i (k + 1) = wl ps i k ++ [(k : Int)]) := wl_yes hA
        have HLn : Hid ((wl ps i k).length + 1 ≤ 1000000000000) := by show _ ≤ _; omega
        clear hA
        generalize wl ps i k = L at *
        go_wp2_with (first
          | (go_at_call 23; refine hW.mono ?_; rintro e w1 ⟨rfl, hb1⟩; replace HG : Hid (Ge elI w1 w.heap.size (.slice av L.length cv) L) := HG.out.after hb1; replace HB : Hid (Below w.heap.size w w1) := step HB.out hb1; have hsz1 := HB.out.size; clear hb1 hW)
          | (at_builtin; refine wpList_appE rfl _ _ _ rfl elI rfl w.heap.size _ L rfl (HG.out.al _) w1.heap.size 0 1 1 [(k : Int)] rfl (Le.one (Va.new w1 _ _) rfl) HLn.out (by simp; omega) ?_; intro v3 w3 hg3 hgr3 hob3; have HG3 : Hid (Ge elI w3 w.heap.size v3 (L ++ [(k : Int)])) := hg3; have HB3 : Hid (Below w.heap.size w w3) := (HB.out.alloc hsz1 _).trans ((Below.refl _ _).grown hgr3 (by simp; omega) (fun b hb => HG.out.block b hb)); obtain ⟨a3, c3, rfl, -, -, -⟩ := hg3.shape; clear hg3 hgr3 hob3))
        go_roundw
        case rel =>
          refine ⟨k + 1, rfl, by omega, ?_, HB3.out⟩
          rw [HE.out]
          have h8 := HG3.out
          first | exact h8 | (rw [show (L ++ [(k : Int)]).length = L.length + 1 by simp] at h8; exact h8)
        case measure => simp [intOf]; omega
      · rw [wnB_false HT.out hlt hA] at hW
        have HE : Hid (wl ps i (k + 1) = wl ps i k) := wl_no hA
        clear hA
        generalize wl ps i k = L at *
        go_wp2_with (go_at_call 23; refine hW.mono ?_; rintro e w1 ⟨rfl, hb1⟩; replace HG : Hid (Ge elI w1 w.heap.size (.slice av L.length cv) L) := HG.out.after hb1; replace HB : Hid (Below w.heap.size w w1) := step HB.out hb1; clear hb1 hW)
        go_roundw
        case rel => exact ⟨k + 1, rfl, by omega, by rw [HE.out]; exact HG.out, HB.out⟩
        case measure => simp [intOf]; omega
    · obtain rfl : k = ps.length := by omega
      clear hge hk
      go_wp2_with fail
      go_ret2
      exact ⟨⟨_, _, rfl, HG.out.toLe.li⟩, HB.out⟩
end Go.Proofs.Ytfmbloagmeodeaa
