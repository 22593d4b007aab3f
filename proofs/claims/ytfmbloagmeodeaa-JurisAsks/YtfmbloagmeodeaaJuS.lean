/-
  juris: Under (all that lie within a place, rising).
-/
import Derived.Test.YtfmbloagmeodeaaJu6
import Derived.Test.YtfmbloagmeodeaaJuD
import Derived.Test.YtfmbloagmeodeaaJuU
import Derived.Test.YtfmbloagmeodeaaShelf
namespace Go.Proofs.Ytfmbloagmeodeaa
open Go.RowKit Go.Shelf Go.Sort
set_option linter.unusedVariables false

theorem holds_of_ge {w : World} {B g n cap : Nat} {zs : List Int} (h : Ge elI w B (.slice (some ⟨g, 0, none⟩) n cap) zs) : Holds (Value.int .i64) w g 0 zs.toArray := by
  intro j hj
  have hj' : j < zs.length := by simpa using hj
  have hn : n = zs.length := by
    obtain ⟨a', cap', e, -, -, -⟩ := h.shape
    simp only [Value.slice.injEq] at e
    exact e.2.1
  refine ⟨?_, h.frozen _⟩
  obtain ⟨b, off, e, hc⟩ := h.toLe.2 (by omega)
  cases e
  have := hc j (.int .i64 zs[j]) (by rw [rowI, List.getElem?_map, List.getElem?_eq_getElem hj']; rfl)
  rw [this]
  simp [hj']
theorem li_of_holds {w : World} {g : Nat} {zs : List Int} (h : Holds (Value.int .i64) w g 0 zs.toArray) : Li w (some ⟨g, 0, none⟩) zs.length zs := by
  refine ⟨rfl, fun h0 => ⟨g, 0, rfl, fun i hi => ?_⟩⟩
  have h1 := (h i (by simpa using hi)).1
  rw [h1]
  simp [hi]
theorem gr_put {w : World} {g n : Nat} {os : Array Obj} (d : Array Int) : w.grownBy (grow (putRow (Value.int .i64) (Sort.ahead w n) g 0 d) os) (some g) := by
  refine ⟨rfl, rfl, rfl, by simp, fun k hk hne => ?_⟩
  rw [heap_grow_old _ _ (by simpa using hk)]
  have : g ≠ k := fun e => hne (by rw [e])
  simp [putRow, mapBlock, Sort.ahead, Array.getElem?_modify, this]
/-- A list of ints in memory of its own, put in order. -/
theorem sort_int {w : World} {B g cap : Nat} {L : List Int} (h : Ge elI w B (.slice (some ⟨g, 0, none⟩) L.length cap) L) (hl : L.length ≤ 1000000) :
    Calls Try.prog 40 #[.slice (some ⟨g, 0, none⟩) L.length cap] w fun e w' => (e = .returned (.tuple #[]) ∧ ∃ s : List Int, s.Perm L ∧ s.Pairwise (· ≤ ·) ∧ Li w' (some ⟨g, 0, none⟩) L.length s) ∧ w.grownBy w' (some g) := by
  have hgl : g < w.heap.size := h.lt g rfl
  have hH := holds_of_ge h
  have C1 := Try.slices_Sort_int g 0 cap L w hH hgl (by omega)
  have hML : (L.mergeSort fun x y => decide (x ≤ y)).length = L.length := by rw [List.length_mergeSort]
  refine C1.mono ?_
  rintro e w' ⟨rfl, n, os, hw⟩
  have H2 : Holds (Value.int .i64) w' g 0 (L.mergeSort fun x y => decide (x ≤ y)).toArray := by
    rw [hw]
    exact holds_grow _ _ _ _ _ _ (by simpa using hgl) (holds_putRow _ (Sort.ahead w n) g 0 L.toArray _ hH (by simp [hML]))
  refine ⟨⟨rfl, L.mergeSort (fun x y => decide (x ≤ y)), List.mergeSort_perm _ _, ?_, ?_⟩, by rw [hw]; exact gr_put _⟩
  · have := List.pairwise_mergeSort (le := fun x y : Int => decide (x ≤ y)) (fun a b c => by simp; omega) (fun a b => by simp; omega) L
    exact this.imp (fun h => by simpa using h)
  · have := li_of_holds H2
    rwa [hML] at this
theorem under_no {w : World} {q a : Option Addr} {len cap : Nat} {ps : List Int} {m : Bool} (h : Tv w q a len cap ps m) (i : Int) (hc : ckI m len i ≠ 0) :
    Calls Try.prog 19 #[.pointer q, .int .i64 i] w fun e w' => e = .returned (.tuple #[.slice none 0 0, .int .i64 (ckI m len i)]) ∧ w' = w := by
  have h1 := check_any h i
  clear h
  generalize ckI m len i = c at *
  go_enter Try.func19, Try.ntmps19
  go_wp2_with (go_at_call 38; refine h1.mono ?_; rintro e w1 ⟨rfl, rfl⟩)
  go_ret2
  exact ⟨rfl, rfl⟩
set_option maxHeartbeats 4000000 in
theorem under_ok {w : World} {q a : Option Addr} {cap : Nat} {ps : List Int} (h : Tv w q a ps.length cap ps true) (hT : Tre ps) (hl : ps.length ≤ 4096) (i : Nat) (hi : i < ps.length) :
    Calls Try.prog 19 #[.pointer q, .int .i64 (i : Int)] w fun e w' => (∃ a' c', e = .returned (.tuple #[.slice a' (wl ps i ps.length).length c', .int .i64 0]) ∧ Li w' a' (wl ps i ps.length).length (wl ps i ps.length)) ∧ Below w.heap.size w w' := by
  have h1 := check_any h i
  rw [ck_ok hi] at h1
  have hD := down_any h hT.1 hl
  have HTr : Hid (Tre ps) := hT
  clear h hT
  go_enter Try.func19, Try.ntmps19
  go_wp2_with (first
    | (go_at_call 38; refine h1.mono ?_; rintro e w1 ⟨rfl, hw⟩; rw [hw]; clear hw w1 h1)
    | (go_at_call 34; refine hD.mono ?_; rintro e w1 ⟨vs, r, rfl, hDn⟩; have HDn : Hid (Dn ps w w1 ps.length vs r) := hDn; obtain ⟨ar, cr, rfl, -, -, -⟩ := hDn.root.shape; clear hDn hD))
  refine ent1 w1 _ _ (Q := fun W => Code.wp _ _ _ _ W) ?_
  intro W2 hB2 hs2 V2
  have HG0 : Hid (Ge elI W2 w1.heap.size (.slice (some ⟨w1.heap.size, 0, none⟩) 1 1) [(i : Int)]) := Ge.of (E := elI) V2 (Nat.le_refl _) rfl rfl (by decide)
  have hsz1 := HDn.out.size
  clear V2
  go_loopw [9, 10] (fun v j wr => ∃ (k : Nat) (l : List Int), j = .int .i64 k ∧ k ≤ l.length ∧ Hid (Ga ps i l k) ∧ Hid (Ge elI wr w1.heap.size v l) ∧ Hid (Below w1.heap.size w1 wr) ∧ l ≠ []) (fun _ j _ => (ps.length - (intOf j).toNat : Nat))
  case atStart => exact ⟨0, [(i : Int)], rfl, Nat.zero_le _, Ga.start hi, HG0.out, hB2, by simp⟩
  case round =>
    clear HG0 hB2 hs2
    obtain ⟨k, l, rfl, hk, HGa, HG, HB, hne⟩ := hrel
    obtain ⟨av, cv, rfl, hcv, -, hsh⟩ := HG.out.shape
    obtain ⟨g, rfl⟩ : ∃ g, av = some ⟨g, 0, none⟩ := by
      rcases hsh with ⟨-, e, -⟩ | h
      · exact absurd e hne
      · exact h
    have hll := HGa.out.length
    have hszr := HB.out.size
    clear hsh
    rcases Nat.lt_or_ge k l.length with hlt | hge
    · have hki : (k : Int) < l.length := by omega
      obtain ⟨b', off', e', hc⟩ := HG.out.toLe.li.at hlt
      cases e'
      have hw1 := HGa.out.within _ (getD_mem hlt)
      have e0 : l.getD k (-1) = l.getD k 0 := by rw [List.getD_eq_getElem?_getD, List.getD_eq_getElem?_getD, List.getElem?_eq_getElem hlt]; rfl
      rw [e0] at hc
      obtain ⟨x, hx⟩ : ∃ x : Nat, l.getD k 0 = x := ⟨(l.getD k 0).toNat, by omega⟩
      rw [hx] at hc hw1
      have HX : Hid (l.getD k 0 = (x : Int)) := hx
      have hxl : x < ps.length := by have := hw1.2.2; simpa using this
      have hxi : (x : Int) < ps.length := by omega
      clear hx hw1 e0
      rw [Nat.zero_add] at hc
      have HDr : Hid (Dn ps w wr ps.length vs (.slice ar (kl ps (-1) ps.length).length cr)) := HDn.out.after HB.out
      have cx := HDr.out.cell hxl
      have HKx : Hid (Ge elI wr (w.heap.size + 1) (vs.getD x .nilFunc) (kl ps x ps.length)) := HDr.out.kids x hxl
      have hkl := kl_length ps x ps.length
      obtain ⟨ax, cx2, hvx, -, -, hsx⟩ := (HDr.out.kids x hxl).shape
      rw [hvx] at cx
      have HKx2 : Hid (Le elI wr ax (kl ps x ps.length).length (kl ps x ps.length)) := by
        have := HKx.out
        rw [hvx] at this
        exact this.toLe
      have HGs : Hid (Ga ps i (l ++ kl ps x ps.length) (k + 1)) := HGa.out.step HTr.out hi hlt HX.out
      clear hvx
      rcases hsx with ⟨rfl, hemp, rfl⟩ | ⟨gx, rfl⟩
      · rw [hemp] at cx HGs HKx2
        simp only [List.length_nil, List.append_nil] at cx HGs
        clear HKx hkl hemp HKx2
        go_wp2_with fail
        go_roundw
        case rel => exact ⟨k + 1, l, rfl, by omega, HGs.out, HG.out, HB.out, hne⟩
        case measure => simp [intOf]; omega
      · generalize kl ps x ps.length = X at *
        have HLn : Hid (l.length + X.length ≤ 1000000000000) := by show _ ≤ _; omega
        go_wp2_with (at_builtin; refine wpList_appE rfl _ _ _ rfl elI rfl w1.heap.size _ l rfl HG.out gx 0 X.length cx2 X rfl HKx2.out HLn.out (by omega) ?_; intro v' w2 hg1 hgr1 hob; have HG1 : Hid (Ge elI w2 w1.heap.size v' (l ++ X)) := hg1; have HB1 : Hid (Below w1.heap.size w1 w2) := appE_below hgr1 HG.out (by omega) HB.out; clear hg1 hgr1 hob)
        go_roundw
        case rel => exact ⟨k + 1, l ++ X, rfl, by rw [List.length_append]; omega, HGs.out, HG1.out, HB1.out, by simp [hne]⟩
        case measure => simp [intOf]; omega
    · obtain rfl : k = l.length := by omega
      clear hge hk
      have HS := sort_int HG.out (by omega)
      go_wp2_with (go_at_call 40; refine HS.mono ?_; rintro e w2 ⟨⟨rfl, s, hp, hs, hL⟩, hgr⟩; have HP : Hid (s.Perm l ∧ s.Pairwise (· ≤ ·)) := ⟨hp, hs⟩; have HLi : Hid (Li w2 (some ⟨g, 0, none⟩) l.length s) := hL; have HGr : Hid (wr.grownBy w2 (some g)) := hgr; clear hp hs hL hgr)
      go_ret2
      have e1 : s = wl ps i ps.length := HGa.out.sorted HTr.out.1 hi HP.out.1 HP.out.2
      have e2 : l.length = (wl ps i ps.length).length := by rw [← e1]; exact HP.out.1.length_eq.symm
      have hLi := HLi.out
      rw [e1, e2] at hLi
      have hB9 : Below w.heap.size w w2 := (HDn.out.below.trans (HB.out.mono (by omega))).trans ((Below.refl _ _).grown HGr.out (by omega) (fun b hb => by have := HG.out.block b hb; omega))
      rw [e2]
      exact ⟨⟨_, _, rfl, hLi⟩, hB9⟩
end Go.Proofs.Ytfmbloagmeodeaa
