/-
  traits: slices.Contains at bool and string, worth, isSo.
-/
import Derived.Test.YtblafbbnplfpjaaGreatDoorTr4
import Derived.Test.YtblafbbnplfpjaaGreatDoorDec7
import Derived.Lib.SlicesS
namespace Go.Proofs.YtblafbbnplfpjaaGreatDoor
open Go.RowKit Go.Shelf
set_option linter.unusedVariables false

theorem infoStr : (Tryz.prog.info? 9).map (fun i => (i.zero, i.size, i.bytes)) = some (some (.string ⟨#[]⟩), 1, 16) := by kernel_rfl
def elS : El (List UInt8) where
  enc := fun l => [sv l]
  dft := []
  te := 9
  tl := 23
  z := .string ⟨#[]⟩
  s := 1
  by8 := 16
  len := fun _ => rfl
  one := fun x v hv => by simp at hv; subst hv; rfl
  pos := by decide
  und := Tryz.underlying23
  inf := infoStr
  zs := rfl
  bt := by decide
theorem drop_b {l : List Bool} {j : Nat} (h : j < l.length) : l.drop j = l.getD j false :: l.drop (j + 1) := by
  rw [List.drop_eq_getElem_cons h, List.getD_eq_getElem?_getD, List.getElem?_eq_getElem h]; rfl
/-- Where v stands, from the place j on: -1 if nowhere. -/
def idB (v : Bool) : List Bool → Nat → Int
  | [], _ => -1
  | x :: l, j => if v = x then j else idB v l (j + 1)
theorem idB_has (v : Bool) : ∀ (l : List Bool) (j : Nat), decide (0 ≤ idB v l j) = l.contains v
  | [], j => by simp [idB]
  | x :: l, j => by
    unfold idB
    by_cases h : v = x
    · simp [h]
    · rw [if_neg h, idB_has v l (j + 1)]; simp [h]
set_option maxHeartbeats 1000000 in
theorem index_b (l : List Bool) (a : Option Addr) (cap : Nat) (v : Bool) (w : World) (hL : Le elB w a l.length l) (hl : l.length ≤ 100) :
    Calls Tryz.prog 59 #[.slice a l.length cap, .bool v] w fun e w' => e = .returned (.int .i64 (idB v l 0)) ∧ w' = w := by
  obtain ⟨R, hR⟩ : ∃ R, idB v l 0 = R := ⟨_, rfl⟩
  have HR : Hid (idB v l 0 = R) := hR
  have HL : Hid (Le elB w a l.length l) := hL
  rw [hR]
  clear hR hL
  go_enter Tryz.func59, Tryz.ntmps59
  go_wp2_with fail
  go_loopw [5, 8] (fun _ j wr => ∃ i : Nat, j = .int .i64 i ∧ i ≤ l.length ∧ Hid (idB v (l.drop i) i = R) ∧ wr = w) (fun _ j _ => (l.length - (intOf j).toNat : Nat))
  case atStart => exact ⟨0, rfl, Nat.zero_le _, HR.out, rfl⟩
  case round =>
    clear HR
    obtain ⟨i, rfl, hi, HR, hw⟩ := hrel
    subst hw
    rcases Nat.lt_or_ge i l.length with hlt | hge
    · have hii : (i : Int) < l.length := by omega
      obtain ⟨b, off, rfl⟩ := HL.out.ex (by omega)
      have c0 : wr.cell? ⟨b, off + i, none⟩ = some (.bool (l.getD i false)) := by have := HL.out.at i hlt 0 (.bool (l.getD i false)) rfl; simpa [elB] using this
      have hd := drop_b hlt
      have HD : Hid ((if v = l.getD i false then (i : Int) else idB v (l.drop (i + 1)) (i + 1)) = R) := by
        have := HR.out; rw [hd] at this; exact this
      clear hd HR
      generalize l.getD i false = x at *
      by_cases h : v = x
      · have HD2 : Hid ((i : Int) = R) := by have := HD.out; rw [if_pos h] at this; exact this
        have hb : (v == x) = true := by simpa using h
        clear HD h
        go_wp2_with fail
        go_ret
        exact ⟨by rw [← HD2.out]; rfl, rfl⟩
      · have HD2 : Hid (idB v (l.drop (i + 1)) (i + 1) = R) := by have := HD.out; rw [if_neg h] at this; exact this
        have hb : (v == x) = false := by simpa using h
        clear HD h
        go_wp2_with fail
        go_roundw
        case rel => exact ⟨i + 1, rfl, by omega, HD2.out, trivial⟩
        case measure => simp [intOf]; omega
    · obtain rfl : i = l.length := by omega
      have HR2 : Hid ((-1 : Int) = R) := by have := HR.out; rw [List.drop_length] at this; exact this
      clear hge HR
      go_wp2_with fail
      go_ret
      exact ⟨by rw [← HR2.out]; rfl, rfl⟩
theorem contains_b (l : List Bool) (a : Option Addr) (cap : Nat) (v : Bool) (w : World) (hL : Le elB w a l.length l) (hl : l.length ≤ 100) :
    Calls Tryz.prog 36 #[.slice a l.length cap, .bool v] w fun e w' => e = .returned (.bool (l.contains v)) ∧ w' = w := by
  have C9 := index_b l a cap v w hL hl
  obtain ⟨R, hR⟩ : ∃ R, idB v l 0 = R := ⟨_, rfl⟩
  have HE : Hid (l.contains v = decide (0 ≤ R)) := by show _ = _; rw [← hR, idB_has]
  rw [hR] at C9
  clear hR hL
  generalize l.contains v = E at *
  go_enter Tryz.func36, Tryz.ntmps36
  go_wp2_with fail
  refine C9.mono ?_
  rintro e w' ⟨rfl, rfl⟩
  clear C9
  go_wp2_with fail
  go_ret
  exact ⟨by rw [HE.out]; rfl, rfl⟩
theorem ba_inj {l m : List UInt8} : (⟨l.toArray⟩ : ByteArray) = ⟨m.toArray⟩ ↔ l = m := by
  constructor
  · intro h; have := congrArg (fun b : ByteArray => b.data.toList) h; simpa using this
  · intro h; rw [h]
theorem contains_s (l : List (List UInt8)) (a : Option Addr) (cap : Nat) (x : List UInt8) (w : World) (hL : Le elS w a l.length l) (hl : l.length ≤ 100) :
    Calls Tryz.prog 37 #[.slice a l.length cap, sv x] w fun e w' => e = .returned (.bool (l.contains x)) ∧ w' = w := by
  rcases Nat.eq_zero_or_pos l.length with h0 | h0
  · obtain rfl := List.length_eq_zero_iff.1 h0
    exact Tryz.slices_Contains_string_empty a cap ⟨x.toArray⟩ w
  · obtain ⟨b, off, rfl⟩ := hL.ex h0
    have := Tryz.slices_Contains_string b off l.length cap (l.map (fun s => (⟨s.toArray⟩ : ByteArray))) ⟨x.toArray⟩ w (by simp) (by omega) (by
      intro j hj
      have hj' : j < l.length := by simpa using hj
      have h1 := hL.at j hj' 0 (sv (l.getD j [])) rfl
      have h2 : (l.map (fun s => (⟨s.toArray⟩ : ByteArray))).getD j ByteArray.empty = ⟨(l.getD j []).toArray⟩ := by
        rw [List.getD_eq_getElem?_getD, List.getElem?_map, List.getD_eq_getElem?_getD, List.getElem?_eq_getElem hj']; rfl
      rw [h2]
      simpa [elS] using h1)
    refine this.mono ?_
    rintro e w' ⟨rfl, rfl⟩
    refine ⟨?_, rfl⟩
    congr 2
    rw [Bool.eq_iff_iff, Go.Lib.containsS_iff, List.take_of_length_le (by simp), List.mem_map, List.contains_iff_mem]
    constructor
    · rintro ⟨y, hy, e⟩; rw [ba_inj] at e; rw [← e]; exact hy
    · intro h; exact ⟨x, h, rfl⟩
/-- How two numbers that compare so stand by an op. -/
def bySo (op c : Int) : Bool := if op = 1 then decide (c < 0) else if op = 2 then decide (c ≤ 0) else if op = 3 then decide (0 < c) else decide (0 ≤ c)
theorem bySo_turn {op : Int} (h1 : 1 ≤ op) (h4 : op ≤ 4) (c : Int) : bySo (5 - op) c = !bySo op c := by
  unfold bySo
  have : op = 1 ∨ op = 2 ∨ op = 3 ∨ op = 4 := by omega
  rcases this with rfl | rfl | rfl | rfl <;> simp <;> (rw [Bool.eq_iff_iff]; simp; try omega)
/-- A value of a test, as a number. -/
def vq (n : Nd) : Rat := Rat.divInt n.un (10 ^ n.pl.toNat)
set_option maxHeartbeats 4000000 in
theorem worth_any (U : Int) (P : Nat) (hP : P ≤ 9) (h1 : -9223372036854775808 ≤ U) (h2 : U ≤ 9223372036854775807) (w : World) (hT : Tn w) :
    Calls Tryz.prog 33 #[.int .i64 U, .int .i64 P] w fun e W' => ∃ s a l c zs b m d ds, e = .returned (.agg #[.bool s, .slice a l c, .slice b m d]) ∧ Rt W' s a l c zs b m d ds (Rat.divInt U (10 ^ P)) ∧ Below w.heap.size w W' := by
  have HT : Hid (Tn w) := hT
  have HV : Hid (Rat.divInt (mkd U P).1 (10 ^ (mkd U P).2) = Rat.divInt U (10 ^ P)) := mkd_val P U
  have HCn : Hid (Can (mkd U P).1 (mkd U P).2) := mkd_can P U hP
  have HBd : Hid (-9223372036854775808 ≤ (mkd U P).1 ∧ (mkd U P).1 ≤ 9223372036854775807) := mkd_bound P U h1 h2
  have C9 := fun W => make_ok U P hP h1 h2 W
  obtain ⟨V, Q, hm⟩ : ∃ V Q, mkd U P = (V, Q) := ⟨_, _, rfl⟩
  rw [hm] at HV HCn HBd C9
  dsimp only at HV HCn HBd C9
  clear hT hm
  have B0 : Below w.heap.size w w := Below.refl _ _
  go_enter Tryz.func33, Tryz.ntmps33
  go_wp2_with fail
  refine ent1 w _ _ (Q := fun W => Calls Tryz.prog _ _ W _) ?_
  intro x1 hb hs V0
  replace B0 := step B0 hb
  clear hb hs
  refine (C9 x1).mono ?_
  rintro e x2 ⟨rfl, hb⟩
  replace V0 := Va.after hb V0
  replace B0 := step B0 hb
  clear hb C9
  go_upto_region 2 with fail
  refine ent1 x2 _ _ (Q := fun W => Code.wp _ _ _ _ W) ?_
  intro x3 hb hs V1
  replace V0 := Va.after hb V0
  replace B0 := step B0 hb
  have c0 := V1.c0
  have c1 := V1.c1
  clear hb hs
  go_wp2_with fail
  refine (rat_ok V Q HBd.out.1 HBd.out.2 HCn.out _ (HT.out.to B0)).mono ?_
  rintro e x4 ⟨s, a, l, c, z, b, m, d, y, rfl, hx, hb⟩
  rw [HV.out] at hx
  replace V0 := Va.after hb V0
  replace B0 := step B0 hb
  clear hb c0 c1 V1
  have hl0 := V0.lt
  go_upto_region 3 with fail
  refine ent1 x4 _ _ (Q := fun W => Code.wp _ _ _ _ W) ?_
  intro x5 hb hs V2
  replace V0 := Va.after hb V0
  replace hx := Rt.after hb hx
  replace B0 := step B0 hb
  have d0 := V2.d0
  have d1 := V2.d1
  have d2 := V2.d2
  have e0 := V0.d0
  have e1 := V0.d1
  have e2 := V0.d2
  have f0 := V0.frozen 0
  have f1 := V0.frozen 1
  have f2 := V0.frozen 2
  clear hb hs
  go_wp2_with fail
  refine bodyPost_ret (results_r rfl rfl (V0.set3 _ _ _)) rfl ?_
  exact ⟨s, a, l, c, z, b, m, d, y, rfl, hx.far V0 (noInt3 _ _ _ _ _ _ _) (fa3 _ _ _ _ _), belo3 B0 (Nat.le_refl _) _ _ _⟩
end Go.Proofs.YtblafbbnplfpjaaGreatDoor
