/-
  The walk of OrderClosed.
-/
import Derived.Test.YtonhooaboieapaaNeX
import Derived.Test.YtonhooaboieapaaOdW
import Derived.Test.YtonhooaboieapaaOrF
import Derived.BigQuiet
namespace Go.Proofs.Ytonhooaboieapaa
open Go.RowKit Go.Shelf
set_option linter.unusedVariables false
set_option linter.unusedSimpArgs false

theorem ge_sl {w : World} {B : Nat} {v : Value} {ps : List Int} (h : Ge elI w B v ps) : ∃ a c, v = .slice a ps.length c ∧ Li w a ps.length ps := by
  obtain ⟨a, c, rfl, -, -, -⟩ := h.shape
  exact ⟨a, c, rfl, h.toLe.li⟩
set_option maxHeartbeats 1000000 in
theorem ocopyI (a : Option Addr) (cap : Nat) (ps : List Int) (len : Nat) (w : World) (h : Li w a len ps) (hn : a = none → cap = 0) (hl : len ≤ 17592186043904) :
    Calls Try.prog 16 #[.slice a len cap] w fun e w' => (∃ a' c', e = .returned (.slice a' len c') ∧ Li w' a' len ps) ∧ Below w.heap.size w w' := by
  obtain rfl : len = ps.length := h.1.symm
  cases a with
  | none =>
    have h0 : ps.length = 0 := by
      rcases Nat.eq_zero_or_pos ps.length with h' | h'
      · exact h'
      · obtain ⟨b, off, e, -⟩ := h.2 h'; cases e
    have hp : ps = [] := List.length_eq_zero_iff.1 h0
    obtain rfl := hn rfl
    subst hp
    clear h0 hn
    simp only [List.length_nil] at *
    go_enter Try.func16, Try.ntmps16
    go_wp2_with fail
    go_ret
    exact ⟨⟨_, _, rfl, Li.nil _ _⟩, Below.refl _ _⟩
  | some ad =>
    have HC : Hid (∀ j u, (rowE elI ps)[j]? = some u → w.cell? (ad.add j) = some u) := fun j u hj => by
      have h0 : 0 < ps.length := by
        rcases ps with _ | ⟨y, ys⟩
        · simp [rowE] at hj
        · simp
      obtain ⟨b, off, e, hc⟩ := h.le.2 h0
      cases e
      rw [Addr.add_lit]
      exact hc j u hj
    obtain ⟨i0, hi, hz0, hz1, hz2⟩ := info_parts infoI
    have HR : Hid ((rowE elI ps).length = ps.length) := by
      show _ = _
      rw [rowE_length]; exact Nat.mul_one _
    have HG0 : Hid (w.ownsRow w.heap.size 3 1 (.slice none 0 0) 0 []) := Ge.nil (E := elI) w w.heap.size
    clear h hn
    generalize hlen : ps.length = len at *
    have HP : Hid (ps.length = len) := hlen
    clear hlen
    go_enter Try.func16, Try.ntmps16
    go_wp2_with (at_builtin; refine wpList_append_own _ rfl _ _ 23 rfl w.heap.size 3 i0 (.int .i64 0) 1 8 Try.underlying23 hi hz0 hz1 hz2 rfl (by decide) _ _ _ rfl HG0.out ad len cap (rowE elI ps) rfl (by rw [HR.out]; simp) (fun j u hj => HC.out j u hj) (rowE_one elI _) (by unfold maxLen; omega) (by omega) (by simp) ?_; intro v' w1 hown hgrow hnil)
    obtain ⟨a2, c2, rfl⟩ : ∃ a2 c2, v' = .slice a2 (0 + len) c2 := by
      rcases hown.2 with ⟨e, h'⟩ | ⟨g, cp, cur, e, -⟩
      · exact ⟨none, 0, by rw [e, h']⟩
      · exact ⟨_, cp, e⟩
    go_wp2_with fail
    go_ret
    have h9 : w1.ownsRow w.heap.size 3 1 (.slice a2 len c2) len (rowE elI ps) := by simpa using hown
    have h8 : Ge elI w1 w.heap.size (.slice a2 len c2) ps := by
      show World.ownsRow _ _ _ _ _ _ _
      rw [HP.out]; exact h9
    have h7 := (h8.toLe).li
    exact ⟨⟨a2, c2, by rw [Nat.zero_add]; rfl, h7⟩, (Below.refl _ w).grown hgrow (by simp) (by intro k hk; cases hk)⟩
theorem NeR.bad' {w : World} {n : Int} {xs : List Pr} {fr : List Int} {a : Option Addr} {l c : Nat} {k : Int} (h : NeR w n xs fr a l c k) (hc : ckE n xs ≠ 0) : a = none ∧ l = 0 ∧ c = 0 ∧ k = ckE n xs := by
  cases h with
  | bad h => exact ⟨rfl, rfl, rfl, rfl⟩
  | arg h hf => exact absurd h hc
  | ok h hf l hp hm a c hL => exact absurd h hc
theorem NeR.arg' {w : World} {n : Int} {xs : List Pr} {fr : List Int} {a : Option Addr} {l c : Nat} {k : Int} (h : NeR w n xs fr a l c k) (hc : ckE n xs = 0) (hf : fr.all (ndB n) = false) : a = none ∧ l = 0 ∧ c = 0 ∧ k = 2 := by
  cases h with
  | bad h => exact absurd hc h
  | arg h hf => exact ⟨rfl, rfl, rfl, rfl⟩
  | ok h hf2 l hp hm a c hL => rw [hf] at hf2; cases hf2
theorem NeR.ok' {w : World} {n : Int} {xs : List Pr} {fr : List Int} {a : Option Addr} {l c : Nat} {k : Int} (h : NeR w n xs fr a l c k) (hc : ckE n xs = 0) (hf : fr.all (ndB n) = true) : k = 0 ∧ ∃ o : List Nat, l = o.length ∧ o.Pairwise (· < ·) ∧ (∀ y, y ∈ o ↔ Nd (Rn (nlf xs)) (fr.map Int.toNat) y) ∧ Li w a o.length (ints o) := by
  cases h with
  | bad h => exact absurd hc h
  | arg h hf2 => rw [hf] at hf2; cases hf2
  | ok h hf2 l hp hm a c hL => exact ⟨rfl, l, rfl, hp, hm, hL⟩
set_option maxRecDepth 20000 in
set_option maxHeartbeats 16000000 in
theorem closed_walk (n : Int) (a : Option Addr) (len cap : Nat) (xs : List Pr) (af : Option Addr) (lf cf : Nat) (fr : List Int) (w : World) (h : La w a len xs) (hcap : cap ≤ 8796093022208) (hc : len ≤ cap) (hn : a = none → len = 0 ∧ cap = 0) (hF : Li w af lf fr) (hnf : af = none → cf = 0) (hlf : lf ≤ 17592186043904) :
    Calls Try.prog 4 #[.int .i64 n, .slice a len cap, .slice af lf cf] w fun e w' => e = .returned (.bool true) ∧ Below w.heap.size w w' := by
  have HL : Hid (La w a len xs) := h
  have HLn : Hid (xs.length = len) := h.1
  have HF : Hid (Li w af lf fr) := hF
  have HFn : Hid (fr.length = lf) := hF.1
  have hl8 : len ≤ 8796093022208 := by omega
  have HNo : Hid ((a = none → len = 0 ∧ cap = 0) ∧ (af = none → cf = 0)) := ⟨hn, hnf⟩
  have hAw := awake17 w
  clear h hn hF hnf
  go_enter Try.func4, Try.ntmps4
  go_wp2_with fail
  refine hAw.mono ?_
  rintro e w1 ⟨rfl, hb1⟩
  have HB1 : Hid (Below w.heap.size w w1) := hb1
  clear hb1 hAw
  go_wp2_with fail
  refine (ocopyA a len cap xs w1 (HL.out.after HB1.out) HNo.out.1 hl8).mono ?_
  rintro e w2 ⟨⟨a2, c2, rfl, hL2⟩, hb2⟩
  have HL2 : Hid (La w2 a2 len xs) := hL2
  have HB2 : Hid (Below w.heap.size w w2) := step HB1.out hb2
  clear hL2 hb2 HB1
  go_wp2_with fail
  refine (ocopyI af cf fr lf w2 (HF.out.after HB2.out) HNo.out.2 hlf).mono ?_
  rintro e w3 ⟨⟨a3, c3, rfl, hL3⟩, hb3⟩
  have HL3 : Hid (Li w3 a3 lf fr) := hL3
  have HL23 : Hid (La w3 a2 len xs) := HL2.out.after hb3
  have HB3 : Hid (Below w.heap.size w w3) := step HB2.out hb3
  clear hL3 hb3 HL2 HB2
  go_wp2_with fail
  refine (oneeds_any n a2 len c2 xs a3 lf c3 fr w3 HL23.out HL3.out (by omega)).mono ?_
  rintro e w4 ⟨a4, l4, c4, k4, rfl, hR, hb4⟩
  have HR : Hid (NeR w4 n xs fr a4 l4 c4 k4) := hR
  have HB4 : Hid (Below w.heap.size w w4) := step HB3.out hb4
  clear hR hb4 HB3 HL23 HL3
  have hW := owithin n a len cap xs w4 (HL.out.after HB4.out)
  by_cases hck : ckE n xs = 0
  · obtain ⟨h0, h1, h2, h3⟩ := ckE_ok hck
    obtain ⟨m, rfl⟩ : ∃ m : Nat, n = m := ⟨n.toNat, by omega⟩
    have HOk : Hid (xs.all (okA m) = true ∧ ckE m xs = 0) := ⟨h3, hck⟩
    have hm4 : m ≤ 4096 := by omega
    have hl6 : len ≤ 65536 := by have := HLn.out; omega
    rw [decide_eq_true hck] at hW
    have hmb := fun W => make_bool m (by omega) W
    clear h0 h1 h2 h3 hck
    go_wp2_with (first
      | (go_at_call 17; refine hW.mono ?_; rintro e w6 ⟨rfl, hw6⟩; rw [hw6]; clear hw6 w6 hW))
    obtain ⟨X1, hX1⟩ : ∃ X, X = w4.alloc (Obj.cells (Array.replicate m (Value.bool false)) 4) := ⟨_, rfl⟩
    rw [← hX1]
    obtain ⟨g1, hg1⟩ : ∃ g, w4.heap.size = g := ⟨_, rfl⟩
    have v1 : Va X1 g1 4 (Array.replicate m (Value.bool false)) := by rw [hX1, ← hg1]; exact Va.new _ _ _
    have HI0 : Hid (Fb m X1 g1 (fun _ => false)) := Fb.falses v1
    have HBX : Hid (Below w4.heap.size w4 X1) := by rw [hX1]; exact (Below.refl _ _).alloc (Nat.le_refl _) _
    rw [hg1]
    have HG1 : Hid (w4.heap.size = g1) := hg1
    clear hX1 v1 hg1
    go_loopw [10] (fun u wz => ∃ (i : Nat) (f : Nat → Bool), u = .int .i64 i ∧ i ≤ lf ∧ Hid ((fr.take i).all (ndB m) = true) ∧ Hid (∀ x : Nat, f x = true ↔ ∃ j, j < i ∧ fr[j]? = some (x : Int)) ∧ Hid (Fb m wz g1 f) ∧ Hid (Below w4.heap.size w4 wz)) (fun u _ => (lf - (intOf u).toNat : Nat))
    case atStart => exact ⟨0, _, rfl, Nat.zero_le _, rfl, fun x => ⟨fun h => by simp at h, fun ⟨j, hj, _⟩ => absurd hj (by omega)⟩, HI0.out, HBX.out⟩
    case round =>
      clear HI0 HBX
      obtain ⟨i, f, rfl, hi, HA, HS, HI, HB⟩ := hrel
      rcases Nat.lt_or_ge i lf with hlt | hge
      · have hii : (i : Int) < lf := by omega
        have hif : i < fr.length := by rw [HFn.out]; exact hlt
        obtain ⟨b1, o1, rfl, c1⟩ := ((HF.out.after HB4.out).after HB.out).at hlt
        have HT : Hid (fr.take (i + 1) = fr.take i ++ [fr.getD i (-1)]) := take_snoc _ hif
        have HX : Hid (fr[i]? = some (fr.getD i (-1))) := by
          show _ = _
          rw [List.getD_eq_getElem?_getD, List.getElem?_eq_getElem hif]; rfl
        clear hif
        generalize fr.getD i (-1) = x at *
        by_cases hx : 0 ≤ x ∧ x < m
        · obtain ⟨y, rfl⟩ : ∃ y : Nat, x = y := ⟨x.toNat, by omega⟩
          have d1 : decide ((y : Int) < 0) = false := by rw [decide_eq_false_iff_not]; omega
          have hyi : (y : Int) < m := by omega
          have hyn : y < m := by omega
          have cy := HI.out.cell hyn
          have fy := Fv.frozen HI.out y
          have HI5 : Hid (Fb m (wr.setCell ⟨g1, y, none⟩ (.bool true)) g1 (upf f y true)) := Fb.set HI.out y true
          have HB5 : Hid (Below w4.heap.size w4 (wr.setCell ⟨g1, y, none⟩ (.bool true))) := HB.out.setCell (p := ⟨g1, y, none⟩) (by rw [HG1.out]; exact Nat.le_refl _) _
          have HN : Hid (ndB m (y : Int) = true) := ndB_iff.2 ⟨by omega, hyi⟩
          clear hx
          go_wp2_with fail
          go_roundw
          case rel =>
            refine ⟨i + 1, upf f y true, rfl, by omega, ?_, fun z => ?_, HI5.out, HB5.out⟩
            · show (fr.take (i + 1)).all _ = true
              rw [HT.out, List.all_append, HA.out, List.all_cons, List.all_nil, HN.out]; rfl
            · by_cases e : z = y
              · rw [e, upf_self]
                exact ⟨fun _ => ⟨i, by omega, HX.out⟩, fun _ => rfl⟩
              · rw [upf_ne _ _ e, HS.out z]
                constructor
                · rintro ⟨j, hj, h9⟩; exact ⟨j, by omega, h9⟩
                · rintro ⟨j, hj, h9⟩
                  refine ⟨j, ?_, h9⟩
                  rcases Nat.lt_or_ge j i with h8 | h8
                  · exact h8
                  · obtain rfl : j = i := by omega
                    have h7 := HX.out.symm.trans h9
                    have h6 := Option.some.inj h7
                    omega
          case measure => simp [intOf]; omega
        · have hall : fr.all (ndB m) = false := by
            rw [← Bool.not_eq_true]
            intro h9
            exact hx (ndB_iff.1 (List.all_eq_true.1 h9 x (List.mem_of_getElem? HX.out)))
          obtain ⟨rfl, rfl, rfl, rfl⟩ := HR.out.arg' HOk.out.2 hall
          by_cases g : x < 0
          · have d1 : decide (x < 0) = true := decide_eq_true g
            clear hx
            go_wp2_with fail
            go_ret
            exact ⟨rfl, step HB4.out HB.out⟩
          · have d1 : decide (x < 0) = false := decide_eq_false g
            have d2 : decide ((m : Int) ≤ x) = true := decide_eq_true (by omega)
            clear hx
            go_wp2_with fail
            go_ret
            exact ⟨rfl, step HB4.out HB.out⟩
      · obtain rfl : i = lf := by omega
        have HAl : Hid (fr.all (ndB m) = true) := by
          have := HA.out
          rwa [List.take_of_length_le (by rw [HFn.out]; exact Nat.le_refl _)] at this
        have HAs : Hid (∀ x : Nat, f x = true ↔ x ∈ fr.map Int.toNat) := fun x => by
          rw [HS.out x]
          constructor
          · rintro ⟨j, -, h9⟩
            exact List.mem_map.2 ⟨_, List.mem_of_getElem? h9, by simp⟩
          · intro h9
            obtain ⟨z, h8, rfl⟩ := List.mem_map.1 h9
            obtain ⟨j, h7⟩ := List.mem_iff_getElem?.1 h8
            have h6 := ndB_iff.1 (List.all_eq_true.1 HAl.out z h8)
            exact ⟨j, by have := (List.getElem?_eq_some_iff.1 h7).1; have := HFn.out; omega, by rw [h7]; congr 1; omega⟩
        obtain ⟨rfl, o, rfl, ho1, ho2, ho3⟩ := HR.out.ok' HOk.out.2 HAl.out
        have HNl : Hid (∀ y, y ∈ o ↔ Nd (Rn (nlf xs)) (fr.map Int.toNat) y) := ho2
        have HPw : Hid (o.Pairwise (· < ·)) := ho1
        have hoN : ∀ y ∈ o, y < m := fun y hy => by
          obtain ⟨x, -, h9⟩ := (ho2 y).1 hy |>.called
          exact (nlf_ok HOk.out.1 x y h9).2
        have HoN : Hid (∀ y ∈ o, y < m) := hoN
        have hol : o.length ≤ m := few_nat (ho1.imp (fun h => by omega)) hoN
        have HB5 : Hid (Below w.heap.size w wr) := step HB4.out HB.out
        have HLi : Hid (Li wr a4 o.length (ints o)) := ho3.after HB.out
        have HI5 : Hid (Fb m wr g1 f) := HI.out
        have HGl : Hid (g1 < wr.heap.size) := HI.out.lt
        clear hge hi HA HS HI HB ho1 ho2 ho3 hoN HR
        obtain ⟨W5, rfl⟩ : ∃ W, W = wr := ⟨_, rfl⟩
        have hmb := fun W => make_bool m (by omega) W
        go_wp2_with fail
        obtain ⟨X2, hX2⟩ : ∃ X, X = W5.alloc (Obj.cells (Array.replicate m (Value.bool false)) 4) := ⟨_, rfl⟩
        rw [← hX2]
        obtain ⟨g2, hg2⟩ : ∃ g, W5.heap.size = g := ⟨_, rfl⟩
        have v2 : Va X2 g2 4 (Array.replicate m (Value.bool false)) := by rw [hX2, ← hg2]; exact Va.new _ _ _
        have HJ0 : Hid (Fb m X2 g2 (fun x => decide (x ∈ o.take 0))) := by
          have h9 : Fb m X2 g2 (fun _ => false) := Fb.falses v2
          rwa [show (fun x : Nat => decide (x ∈ o.take 0)) = fun _ => false from funext (fun x => by simp)]
        have HBY : Hid (Below W5.heap.size W5 X2) := by rw [hX2]; exact (Below.refl _ _).alloc (Nat.le_refl _) _
        rw [hg2]
        have HG2 : Hid (W5.heap.size = g2 ∧ g1 < g2) := ⟨hg2, by rw [← hg2]; exact HGl.out⟩
        clear hX2 v2 hg2 hmb
        go_loopw [12] (fun u wz => ∃ i : Nat, u = .int .i64 i ∧ i ≤ o.length ∧ Hid (Fb m wz g2 (fun x => decide (x ∈ o.take i))) ∧ Hid (Below W5.heap.size W5 wz)) (fun u _ => (o.length - (intOf u).toNat : Nat))
        case atStart => exact ⟨0, rfl, Nat.zero_le _, HJ0.out, HBY.out⟩
        case round =>
          clear HJ0 HBY
          obtain ⟨i, rfl, hi, HJ, HB⟩ := hrel
          rcases Nat.lt_or_ge i o.length with hlt | hge
          · have hii : (i : Int) < o.length := by omega
            obtain ⟨b1, o1, rfl, c1⟩ := Li.node (HLi.out.after HB.out) hlt
            have hyg : o[i]? = some (o.getD i 0) := by rw [List.getD_eq_getElem?_getD, List.getElem?_eq_getElem hlt]; rfl
            have hyn := HoN.out _ (List.mem_of_getElem? hyg)
            have HT : Hid (o.take (i + 1) = o.take i ++ [o.getD i 0]) := take_snoc _ hlt
            have HYg : Hid (o[i]? = some (o.getD i 0)) := hyg
            have hLi := HLi.out.after HB.out
            clear hyg
            generalize o.getD i 0 = y at *
            have d1 : decide ((y : Int) < 0) = false := by rw [decide_eq_false_iff_not]; omega
            have d2 : decide ((m : Int) ≤ (y : Int)) = false := by rw [decide_eq_false_iff_not]; omega
            have d9 : decide (m ≤ y) = false := by rw [decide_eq_false_iff_not]; omega
            have cy := HJ.out.cell hyn
            have fy := Fv.frozen HJ.out y
            have hyi : (y : Int) < m := by omega
            rcases Nat.eq_zero_or_pos i with h0 | h0
            · have d3 : decide ((0 : Int) < (i : Int)) = false := by rw [decide_eq_false_iff_not]; omega
              have d8 : decide (0 < i) = false := by rw [decide_eq_false_iff_not]; omega
              clear hLi h0
              go_wp2_with fail
              go_quiet (fail)
              have HJ5 : Hid (Fb m ((wr.drewN nq).setCell ⟨g2, y, none⟩ (.bool true)) g2 (fun z => decide (z ∈ o.take (i + 1)))) := by
                have h9 : Fb m ((wr.drewN nq).setCell ⟨g2, y, none⟩ (.bool true)) g2 _ := Fb.set (show Fb m (wr.drewN nq) g2 _ from HJ.out) y true
                rwa [show upf (fun z => decide (z ∈ o.take (i))) y true = fun z => decide (z ∈ o.take (i + 1)) from funext (fun z => by
                  rw [HT.out]
                  by_cases e : z = y
                  · rw [e, upf_self]; simp
                  · rw [upf_ne _ _ e]; simp [e])] at h9
              have HB5 : Hid (Below W5.heap.size W5 ((wr.drewN nq).setCell ⟨g2, y, none⟩ (.bool true))) := (below_drewN HB.out nq).setCell (p := ⟨g2, y, none⟩) (by rw [HG2.out.1]; exact Nat.le_refl _) _
              go_wp2_with fail
              go_roundw
              case rel => exact ⟨i + 1, by go_num, by omega, HJ5.out, HB5.out⟩
              case measure => simp [intOf]; omega
            · obtain ⟨j, rfl⟩ : ∃ j, i = j + 1 := ⟨i - 1, by omega⟩
              have hlj : j < o.length := by omega
              obtain ⟨b7, o7, e7, c7⟩ := Li.node hLi hlj
              cases e7
              have hpr : o.getD j 0 < y := by
                have h8 := List.pairwise_iff_getElem.1 HPw.out j (j + 1) hlj hlt (by omega)
                have h9 := HYg.out
                rw [List.getElem?_eq_getElem hlt] at h9
                rw [List.getD_eq_getElem?_getD, List.getElem?_eq_getElem hlj]
                have := Option.some.inj h9
                simp only [Option.getD_some]
                omega
              generalize o.getD j 0 = p at *
              have d3 : decide ((0 : Int) < ((j + 1 : Nat) : Int)) = true := by rw [decide_eq_true_iff]; omega
              have d4 : decide ((y : Int) ≤ (p : Int)) = false := by rw [decide_eq_false_iff_not]; omega
              have d7 : decide (y ≤ p) = false := by rw [decide_eq_false_iff_not]; omega
              have d5 : (((j + 1 : Nat) : Int)) - 1 = (j : Int) := by omega
              clear hLi
              go_wp2_with fail
              go_quiet (fail)
              have HJ5 : Hid (Fb m ((wr.drewN nq).setCell ⟨g2, y, none⟩ (.bool true)) g2 (fun z => decide (z ∈ o.take ((j + 1) + 1)))) := by
                have h9 : Fb m ((wr.drewN nq).setCell ⟨g2, y, none⟩ (.bool true)) g2 _ := Fb.set (show Fb m (wr.drewN nq) g2 _ from HJ.out) y true
                rwa [show upf (fun z => decide (z ∈ o.take (j + 1))) y true = fun z => decide (z ∈ o.take ((j + 1) + 1)) from funext (fun z => by
                  rw [HT.out]
                  by_cases e : z = y
                  · rw [e, upf_self]; simp
                  · rw [upf_ne _ _ e]; simp [e])] at h9
              have HB5 : Hid (Below W5.heap.size W5 ((wr.drewN nq).setCell ⟨g2, y, none⟩ (.bool true))) := (below_drewN HB.out nq).setCell (p := ⟨g2, y, none⟩) (by rw [HG2.out.1]; exact Nat.le_refl _) _
              go_wp2_with fail
              go_roundw
              case rel => exact ⟨(j + 1) + 1, by go_num, by omega, HJ5.out, HB5.out⟩
              case measure => simp [intOf]; omega
          · obtain rfl : i = o.length := by omega
            rw [List.take_length] at HJ
            obtain ⟨W6, rfl⟩ : ∃ W, W = wr := ⟨_, rfl⟩
            have HI6 : Hid (Fb m W6 g1 f) := Fv.after HB.out HI5.out
            have HJ6 : Hid (Fb m W6 g2 (fun x => decide (x ∈ o))) := HJ.out
            have HB6 : Hid (Below w.heap.size w W6) := step HB5.out HB.out
            have HLi6 : Hid (Li W6 a4 o.length (ints o)) := HLi.out.after HB.out
            have HG6 : Hid (g1 < W6.heap.size ∧ g2 < W6.heap.size) := ⟨HI6.out.lt, HJ6.out.lt⟩
            have hmb := fun W => make_bool m (by omega) W
            clear hge hi HJ HB HI5 HB5 HLi HGl HG2
            go_wp2_with fail
            obtain ⟨X3, hX3⟩ : ∃ X, X = W6.alloc (Obj.cells (Array.replicate m (Value.bool false)) 4) := ⟨_, rfl⟩
            rw [← hX3]
            obtain ⟨g3, hg3⟩ : ∃ g, W6.heap.size = g := ⟨_, rfl⟩
            have v3 : Va X3 g3 4 (Array.replicate m (Value.bool false)) := by rw [hX3, ← hg3]; exact Va.new _ _ _
            have HK0 : Hid (Fb m X3 g3 (fun _ => false)) := Fb.falses v3
            have HBZ : Hid (Below W6.heap.size W6 X3) := by rw [hX3]; exact (Below.refl _ _).alloc (Nat.le_refl _) _
            rw [hg3]
            have HG3 : Hid (W6.heap.size = g3) := hg3
            clear hX3 v3 hg3 hmb
            go_loopw [14] (fun u wz => ∃ (i : Nat) (f3 : Nat → Bool), u = .int .i64 i ∧ i ≤ len ∧ Hid (∀ j (x y : Nat), j < i → xs[j]? = some ((x : Int), (y : Int)) → (x ∈ o ∨ f x = true) → f3 y = true) ∧ Hid (Fb m wz g3 f3) ∧ Hid (Below W6.heap.size W6 wz)) (fun u _ => (len - (intOf u).toNat : Nat))
            case atStart => exact ⟨0, _, rfl, Nat.zero_le _, fun j x y hj => absurd hj (by omega), HK0.out, HBZ.out⟩
            case round =>
              clear HK0 HBZ
              obtain ⟨i, f3, rfl, hi, HC, HK, HB⟩ := hrel
              rcases Nat.lt_or_ge i len with hlt | hge
              · have hii : (i : Int) < len := by omega
                obtain ⟨b, off, rfl, c0, c1⟩ := ((HL.out.after HB6.out).after HB.out).arc hlt
                have hok := okA_iff.1 (okA_at HOk.out.1 (i := i) (by rw [HLn.out]; exact hlt))
                have hxg : xs[i]? = some (xs.getD i (0, 0)) := by rw [List.getD_eq_getElem?_getD, List.getElem?_eq_getElem (by rw [HLn.out]; exact hlt)]; rfl
                obtain ⟨x, hx⟩ : ∃ x : Nat, (xs.getD i (0, 0)).1 = x := ⟨(xs.getD i (0, 0)).1.toNat, by omega⟩
                obtain ⟨y, hy⟩ : ∃ y : Nat, (xs.getD i (0, 0)).2 = y := ⟨(xs.getD i (0, 0)).2.toNat, by omega⟩
                have HXY : Hid (xs[i]? = some ((x : Int), (y : Int))) := by
                  show _ = _
                  rw [hxg, ← hx, ← hy]
                have hxy : y ∈ nlf xs x := (nlf_iff HOk.out.1 x y).2 (List.mem_of_getElem? HXY.out)
                have HIn : Hid ((x ∈ o ∨ f x = true) → y ∈ o) := fun h9 => by
                  rw [HNl.out]
                  rcases h9 with h9 | h9
                  · exact ((HNl.out x).1 h9).step hxy
                  · exact Nd.of ((HAs.out x).1 h9) hxy
                rw [hx] at c0 hok
                rw [hy] at c1 hok
                have hxm : x < m := by omega
                have hym : y < m := by omega
                have hxi : (x : Int) < m := by omega
                have hyi : (y : Int) < m := by omega
                clear hx hy hok hxg hxy
                have HAl9 : Hid (Below wr.heap.size wr (wr.alloc (Obj.cells #[.int .i64 (x : Int), .int .i64 (y : Int)] 38))) := (Below.refl _ _).alloc (Nat.le_refl _) _
                have hI9 : Fb m (wr.alloc (Obj.cells #[.int .i64 (x : Int), .int .i64 (y : Int)] 38)) g1 f := Fv.after HAl9.out (Fv.after HB.out HI6.out)
                have hJ9 : Fb m (wr.alloc (Obj.cells #[.int .i64 (x : Int), .int .i64 (y : Int)] 38)) g2 (fun x => decide (x ∈ o)) := Fv.after HAl9.out (Fv.after HB.out HJ6.out)
                have HK9 : Hid (Fb m (wr.alloc (Obj.cells #[.int .i64 (x : Int), .int .i64 (y : Int)] 38)) g3 f3) := Fv.after HAl9.out HK.out
                have ax := hI9.cell hxm
                have ix := hJ9.cell hxm
                have iy := hJ9.cell hym
                have fy := Fv.frozen HK9.out y
                have ky := HK9.out.cell hym
                have HB9 : Hid (Below W6.heap.size W6 (wr.alloc (Obj.cells #[.int .i64 (x : Int), .int .i64 (y : Int)] 38))) := step HB.out HAl9.out
                have HB8 : Hid (Below W6.heap.size W6 ((wr.alloc (Obj.cells #[.int .i64 (x : Int), .int .i64 (y : Int)] 38)).setCell ⟨g3, y, none⟩ (.bool true))) := HB9.out.setCell (p := ⟨g3, y, none⟩) (by rw [HG3.out]; exact Nat.le_refl _) _
                have HK8 : Hid (Fb m ((wr.alloc (Obj.cells #[.int .i64 (x : Int), .int .i64 (y : Int)] 38)).setCell ⟨g3, y, none⟩ (.bool true)) g3 (upf f3 y true)) := Fb.set HK9.out y true
                have HC8 : Hid (∀ j (x y' : Nat), j < i + 1 → xs[j]? = some ((x : Int), (y' : Int)) → (x ∈ o ∨ f x = true) → upf f3 y true y' = true) := fun j z y' hj h8 h9 => by
                  by_cases e : y' = y
                  · rw [e, upf_self]
                  · rw [upf_ne _ _ e]
                    rcases Nat.lt_or_ge j i with h7 | h7
                    · exact HC.out j z y' h7 h8 h9
                    · obtain rfl : j = i := by omega
                      rw [HXY.out] at h8
                      simp only [Option.some.injEq, Prod.mk.injEq] at h8
                      omega
                clear hI9 hJ9
                by_cases hA : x ∈ o
                · rw [decide_eq_true hA] at ix
                  rw [decide_eq_true (HIn.out (.inl hA))] at iy
                  clear hA HAl9
                  go_wp2_with fail
                  go_roundw
                  case rel => exact ⟨i + 1, _, rfl, by omega, HC8.out, HK8.out, HB8.out⟩
                  case measure => simp [intOf]; omega
                · by_cases hA2 : f x = true
                  · rw [decide_eq_false hA] at ix
                    rw [hA2] at ax
                    rw [decide_eq_true (HIn.out (.inr hA2))] at iy
                    clear hA hA2 HAl9
                    go_wp2_with fail
                    go_roundw
                    case rel => exact ⟨i + 1, _, rfl, by omega, HC8.out, HK8.out, HB8.out⟩
                    case measure => simp [intOf]; omega
                  · have hA3 : f x = false := by simpa using hA2
                    rw [decide_eq_false hA] at ix
                    rw [hA3] at ax
                    have HC7 : Hid (∀ j (x y' : Nat), j < i + 1 → xs[j]? = some ((x : Int), (y' : Int)) → (x ∈ o ∨ f x = true) → f3 y' = true) := fun j z y' hj h8 h9 => by
                      rcases Nat.lt_or_ge j i with h7 | h7
                      · exact HC.out j z y' h7 h8 h9
                      · obtain rfl : j = i := by omega
                        rw [HXY.out] at h8
                        simp only [Option.some.injEq, Prod.mk.injEq] at h8
                        obtain rfl : z = x := by omega
                        rcases h9 with h9 | h9
                        · exact absurd h9 hA
                        · exact absurd h9 hA2
                    clear hA hA2 hA3 HAl9
                    go_wp2_with fail
                    go_roundw
                    case rel => exact ⟨i + 1, _, rfl, by omega, HC7.out, HK9.out, HB9.out⟩
                    case measure => simp [intOf]; omega
              · obtain rfl : i = len := by omega
                have HCa : Hid (∀ y ∈ o, f3 y = true) := fun y hy => by
                  obtain ⟨x, h8, h9⟩ := ((HNl.out y).1 hy).called
                  have h7 : y ∈ nlf xs x := h9
                  obtain ⟨j, hj⟩ := List.mem_iff_getElem?.1 ((nlf_iff HOk.out.1 x y).1 h7)
                  refine HC.out j x y (by have := (List.getElem?_eq_some_iff.1 hj).1; have := HLn.out; omega) hj ?_
                  rcases h8 with h8 | h8
                  · exact .inr ((HAs.out x).2 h8)
                  · exact .inl ((HNl.out x).2 h8)
                obtain ⟨W7, rfl⟩ : ∃ W, W = wr := ⟨_, rfl⟩
                have HB7 : Hid (Below w.heap.size w W7) := step HB6.out HB.out
                have HK7 : Hid (Fb m W7 g3 f3) := HK.out
                have HLi7 : Hid (Li W7 a4 o.length (ints o)) := HLi6.out.after HB.out
                have HBr : Hid (Below W7.heap.size W7 W7) := Below.refl _ _
                clear hge hi HC HK HB
                go_wp2_with fail
                go_loopw [16] (fun u wz => ∃ i : Nat, u = .int .i64 i ∧ i ≤ o.length ∧ Hid (Below W7.heap.size W7 wz)) (fun u _ => (o.length - (intOf u).toNat : Nat))
                case atStart => exact ⟨0, rfl, Nat.zero_le _, HBr.out⟩
                case round =>
                  clear HBr
                  obtain ⟨i, rfl, hi, HB⟩ := hrel
                  rcases Nat.lt_or_ge i o.length with hlt | hge
                  · have hii : (i : Int) < o.length := by omega
                    obtain ⟨b1, o1, rfl, c1⟩ := Li.node (HLi7.out.after HB.out) hlt
                    have hyg : o[i]? = some (o.getD i 0) := by rw [List.getD_eq_getElem?_getD, List.getElem?_eq_getElem hlt]; rfl
                    have hyo := List.mem_of_getElem? hyg
                    clear hyg
                    generalize o.getD i 0 = y at *
                    have hyn := HoN.out y hyo
                    have hyi : (y : Int) < m := by omega
                    have cy := (show Fb m wr g3 f3 from Fv.after HB.out HK7.out).cell hyn
                    rw [HCa.out y hyo] at cy
                    clear hyo
                    go_wp2_with fail
                    go_roundw
                    case rel => exact ⟨i + 1, rfl, by omega, HB.out⟩
                    case measure => simp [intOf]; omega
                  · obtain rfl : i = o.length := by omega
                    go_wp2_with fail
                    go_ret
                    exact ⟨rfl, step HB7.out HB.out⟩
  · have hkn := hck
    rw [decide_eq_false hck] at hW
    obtain ⟨rfl, rfl, rfl, rfl⟩ := HR.out.bad' hck
    have hkb : (ckE n xs != 0) = true := by simpa using hck
    have hkb2 : (ckE n xs == 0) = false := by simpa using hck
    generalize ckE n xs = kk at *
    go_wp2_with (first
      | (go_at_call 17; refine hW.mono ?_; rintro e w6 ⟨rfl, hw6⟩; rw [hw6]; clear hw6 w6 hW))
    go_ret
    exact ⟨rfl, HB4.out⟩
theorem closedAll (n : Int) (a : Option Addr) (len cap : Nat) (xs : List Pr) (af : Option Addr) (lf cf : Nat) (fr : List Int) (w : World) (hw : (Lit.int .i64 n).wf = true) (h : La w a len xs) (hc : len ≤ cap) (hb : cap ≤ 8796093021952) (hn : a = none → len = 0 ∧ cap = 0) (h64 : ∀ q ∈ xs, b64 q.1 ∧ b64 q.2) (hF : Li w af lf fr) (hcf : lf ≤ cf) (hbf : cf ≤ 17592186043904) (hnf : af = none → lf = 0 ∧ cf = 0) (h64f : ∀ z ∈ fr, b64 z) :
    Calls Try.prog 4 #[.int .i64 n, .slice a len cap, .slice af lf cf] w fun e w' => e = .returned (.bool true) ∧ Below w.heap.size w w' :=
  closed_walk n a len cap xs af lf cf fr w h (by omega) hc hn hF (fun h => (hnf h).2) (by omega)
end Go.Proofs.Ytonhooaboieapaa
