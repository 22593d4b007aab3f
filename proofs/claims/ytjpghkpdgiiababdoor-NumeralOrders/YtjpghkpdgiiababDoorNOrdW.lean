/-
  The walk of NumeralOrders: each call by its contract.
-/
import Derived.Test.YtjpghkpdgiiababDoorNBackW
import Derived.Test.YtjpghkpdgiiababDoorNOrdP
namespace Go.Proofs.YtjpghkpdgiiababDoor
open Go.RowKit Go.Shelf
set_option linter.unusedVariables false

attribute [local go_sem] string_gtr
set_option maxHeartbeats 16000000 in
set_option maxRecDepth 20000 in
theorem nord_walk (a0 : Option Addr) (len0 cap0 : Nat) (z0 : List Int) (a1 : Option Addr) (len1 cap1 : Nat) (z1 : List Int) (b0 : Int) (w : World) (h0 : Sl w a0 len0 z0) (hl0 : len0 ≤ 17592186044416) (c0 : len0 ≤ cap0) (e0 : a0 = none → len0 = 0 ∧ cap0 = 0) (h1 : Sl w a1 len1 z1) (hl1 : len1 ≤ 17592186044416) (c1 : len1 ≤ cap1) (e1 : a1 = none → len1 = 0 ∧ cap1 = 0) (hT : Tb w) :
    Calls Tryd.prog 3 #[.slice a0 len0 cap0, .slice a1 len1 cap1, .int .i64 b0] w fun e w' => e = .returned (.bool true) ∧ Below w.heap.size w w' := by
  have B0 : Below w.heap.size w w := Below.refl _ _
  have HT : Hid (Tb w) := hT
  clear hT
  have num0 : ∀ W, Below w.heap.size w W → Calls Tryd.prog 5 #[.slice a0 len0 cap0] W fun e w' => ∃ a' l' c' zs' ok, e = .returned (.tuple #[.agg #[.slice a' l' c'], .bool ok]) ∧ Nt w' a' l' c' zs' ∧ Below W.heap.size W w' := fun W hb => by
    by_cases hu : usedN z0 ≤ 4096
    · exact (number_ok a0 len0 cap0 z0 W (h0.below hb (Nat.le_refl _)) hl0 c0 e0 hu).mono (fun e w' ⟨a, l, c, z, g1, g2, g3⟩ => ⟨a, l, c, z, true, g1, g2, g3⟩)
    · exact (number_long a0 len0 cap0 z0 W (h0.below hb (Nat.le_refl _)) hl0 c0 (by omega)).mono (fun e w' h => ⟨none, 0, 0, [], false, h.1, Nt.nil _, h.2⟩)
  have num1 : ∀ W, Below w.heap.size w W → Calls Tryd.prog 5 #[.slice a1 len1 cap1] W fun e w' => ∃ a' l' c' zs' ok, e = .returned (.tuple #[.agg #[.slice a' l' c'], .bool ok]) ∧ Nt w' a' l' c' zs' ∧ Below W.heap.size W w' := fun W hb => by
    by_cases hu : usedN z1 ≤ 4096
    · exact (number_ok a1 len1 cap1 z1 W (h1.below hb (Nat.le_refl _)) hl1 c1 e1 hu).mono (fun e w' ⟨a, l, c, z, g1, g2, g3⟩ => ⟨a, l, c, z, true, g1, g2, g3⟩)
    · exact (number_long a1 len1 cap1 z1 W (h1.below hb (Nat.le_refl _)) hl1 c1 (by omega)).mono (fun e w' h => ⟨none, 0, 0, [], false, h.1, Nt.nil _, h.2⟩)
  have N0 : Hid (∀ W, Below w.heap.size w W → Calls Tryd.prog 5 #[.slice a0 len0 cap0] W fun e w' => ∃ a' l' c' zs' ok, e = .returned (.tuple #[.agg #[.slice a' l' c'], .bool ok]) ∧ Nt w' a' l' c' zs' ∧ Below W.heap.size W w') := num0
  have N1 : Hid (∀ W, Below w.heap.size w W → Calls Tryd.prog 5 #[.slice a1 len1 cap1] W fun e w' => ∃ a' l' c' zs' ok, e = .returned (.tuple #[.agg #[.slice a' l' c'], .bool ok]) ∧ Nt w' a' l' c' zs' ∧ Below W.heap.size W w') := num1
  clear num0 num1 h0 h1 hl0 hl1 c0 c1 e0 e1
  go_enter Tryd.func3, Tryd.ntmps3
  go_wp2_with fail
  refine (awake3 _ (HT.out.to B0)).mono ?_
  rintro e x1 ⟨rfl, hb⟩
  replace B0 := step B0 hb
  clear hb
  go_wp2_with fail
  refine (N0.out _ B0).mono ?_
  rintro e x2 ⟨ax, lx, cx, zx, okx, rfl, hx, hb⟩
  replace B0 := step B0 hb
  clear hb
  go_wp2_with fail
  refine ent1 x2 _ _ (Q := fun W => Calls Tryd.prog _ _ W _) ?_
  intro x3 hb hs_x3 Vx
  replace hx := Nt.after hb hx
  replace B0 := step B0 hb
  clear hb hs_x3
  refine (N1.out _ B0).mono ?_
  rintro e x4 ⟨ay, ly, cy, zy, oky, rfl, hy, hb⟩
  replace Vx := Va.after hb Vx
  replace hx := Nt.after hb hx
  replace B0 := step B0 hb
  clear hb
  clear N0 N1
  by_cases hok : (okx && oky) = true
  · obtain ⟨rfl, rfl⟩ : okx = true ∧ oky = true := by simpa using hok
    clear hok
    by_cases hb : b0 < 2 ∨ 36 < b0
    · rcases hb with hb | hb
      · 
        have c_Vx := Vx.cell
        have f0_Vx := Vx.frozen 0
        have l_Vx := Vx.lt
        have m_Vx := Nat.le_of_lt l_Vx
        go_wp2_with fail
        go_ret
        exact ⟨rfl, B0.alloc B0.size _⟩
      · have hb1 : ¬ b0 < 2 := by omega
        have c_Vx := Vx.cell
        have f0_Vx := Vx.frozen 0
        have l_Vx := Vx.lt
        have m_Vx := Nat.le_of_lt l_Vx
        go_wp2_with fail
        go_ret
        exact ⟨rfl, B0.alloc B0.size _⟩
    obtain ⟨b, rfl⟩ : ∃ b : Nat, b0 = b := ⟨b0.toNat, by omega⟩
    have hb2 : 2 ≤ b := by omega
    have hb36 : b ≤ 36 := by omega
    have hb3 : ¬ (b : Int) < 2 := by omega
    have hb4 : ¬ (36 : Int) < b := by omega
    clear hb
    have c_Vx := Vx.cell
    have f0_Vx := Vx.frozen 0
    have l_Vx := Vx.lt
    have m_Vx := Nat.le_of_lt l_Vx
    go_wp2_with fail
    refine ent1 x4 _ _ (Q := fun W => Calls Tryd.prog _ _ W _) ?_
    intro x5 hb hs_x5 Vy
    replace Vx := Va.after hb Vx
    replace hx := Nt.after hb hx
    replace hy := Nt.after hb hy
    replace B0 := step B0 hb
    clear hb hs_x5
    refine (text_b b hb2 hb36 ax lx cx zx _ hx (HT.out.to B0)).mono ?_
    rintro e x6 ⟨s, rfl, hs, hb⟩
    replace Vx := Va.after hb Vx
    replace Vy := Va.after hb Vy
    replace hx := Nt.after hb hx
    replace hy := Nt.after hb hy
    replace B0 := step B0 hb
    clear hb
    have HS : Hid (Tx b s (num zx).toNat) := hs
    clear hs
    clear c_Vx f0_Vx l_Vx m_Vx
    have c_Vx := Vx.cell
    have f0_Vx := Vx.frozen 0
    have l_Vx := Vx.lt
    have m_Vx := Nat.le_of_lt l_Vx
    have c_Vy := Vy.cell
    have f0_Vy := Vy.frozen 0
    have l_Vy := Vy.lt
    have m_Vy := Nat.le_of_lt l_Vy
    go_wp2_with fail
    refine (text_b b hb2 hb36 ay ly cy zy _ hy (HT.out.to B0)).mono ?_
    rintro e x7 ⟨t, rfl, ht, hb⟩
    replace Vx := Va.after hb Vx
    replace Vy := Va.after hb Vy
    replace hx := Nt.after hb hx
    replace hy := Nt.after hb hy
    replace B0 := step B0 hb
    clear hb
    obtain ⟨o1, o2, o3, o4⟩ := tx_order hb2 hb36 HS.out ht
    have hnx := hx.nonneg
    have hny := hy.nonneg
    have hbs : (ByteArray.mk s.toArray).size = s.length := bsize s
    have hbt : (ByteArray.mk t.toArray).size = t.length := bsize t
    have es : (ByteArray.mk s.toArray).toList = s := by rw [Go.Lib.toList_data]
    have et : (ByteArray.mk t.toArray).toList = t := by rw [Go.Lib.toList_data]
    clear ht HS
    have hcm := ncompare_any ax ay lx cx ly cy zx zy
    rcases Nat.lt_trichotomy s.length t.length with hl | hl | hl
    · have hli : (s.length : Int) < t.length := by omega
      have := o1 hl
      have hc : cmp3 (num zx) (num zy) = -1 := by unfold cmp3; rw [if_pos (by omega)]
      rw [hc] at hcm
      clear hc o1 o2 o3 o4 hnx hny
      clear c_Vx f0_Vx l_Vx m_Vx c_Vy f0_Vy l_Vy m_Vy
      have c_Vx := Vx.cell
      have f0_Vx := Vx.frozen 0
      have l_Vx := Vx.lt
      have m_Vx := Nat.le_of_lt l_Vx
      have c_Vy := Vy.cell
      have f0_Vy := Vy.frozen 0
      have l_Vy := Vy.lt
      have m_Vy := Nat.le_of_lt l_Vy
      go_wp2_with fail
      refine (hcm _ hx hy).mono ?_
      rintro e x8 ⟨rfl, hb⟩
      replace Vx := Va.after hb Vx
      replace Vy := Va.after hb Vy
      replace hx := Nt.after hb hx
      replace hy := Nt.after hb hy
      replace B0 := step B0 hb
      clear hb
      clear c_Vx f0_Vx l_Vx m_Vx c_Vy f0_Vy l_Vy m_Vy
      go_wp2_with fail
      go_ret
      exact ⟨rfl, B0⟩
    · have o5 := o3 hl
      have hli : (s.length : Int) = t.length := by omega
      have hli2 : ¬ (s.length : Int) < t.length := by omega
      have hli3 : ¬ (t.length : Int) < s.length := by omega
      rcases Nat.lt_trichotomy (num zx).toNat (num zy).toNat with hv | hv | hv
      · rw [decide_eq_true hv] at o5
        have hc : cmp3 (num zx) (num zy) = -1 := by unfold cmp3; rw [if_pos (by omega)]
        rw [hc] at hcm
        clear hc o1 o2 o3 o4 hnx hny
        clear c_Vx f0_Vx l_Vx m_Vx c_Vy f0_Vy l_Vy m_Vy
        have c_Vx := Vx.cell
        have f0_Vx := Vx.frozen 0
        have l_Vx := Vx.lt
        have m_Vx := Nat.le_of_lt l_Vx
        have c_Vy := Vy.cell
        have f0_Vy := Vy.frozen 0
        have l_Vy := Vy.lt
        have m_Vy := Nat.le_of_lt l_Vy
        go_wp2_with fail
        refine (hcm _ hx hy).mono ?_
        rintro e x8 ⟨rfl, hb⟩
        replace Vx := Va.after hb Vx
        replace Vy := Va.after hb Vy
        replace hx := Nt.after hb hx
        replace hy := Nt.after hb hy
        replace B0 := step B0 hb
        clear hb
        clear c_Vx f0_Vx l_Vx m_Vx c_Vy f0_Vy l_Vy m_Vy
        go_wp2_with fail
        go_ret
        exact ⟨rfl, B0⟩
      · obtain rfl : s = t := o4.2 hv
        rw [decide_eq_false (by omega)] at o5
        have hc : cmp3 (num zx) (num zy) = 0 := by unfold cmp3; rw [if_neg (by omega), if_neg (by omega)]
        rw [hc] at hcm
        clear hc o1 o2 o3 o4 hnx hny
        clear c_Vx f0_Vx l_Vx m_Vx c_Vy f0_Vy l_Vy m_Vy
        have c_Vx := Vx.cell
        have f0_Vx := Vx.frozen 0
        have l_Vx := Vx.lt
        have m_Vx := Nat.le_of_lt l_Vx
        have c_Vy := Vy.cell
        have f0_Vy := Vy.frozen 0
        have l_Vy := Vy.lt
        have m_Vy := Nat.le_of_lt l_Vy
        go_wp2_with fail
        refine (hcm _ hx hy).mono ?_
        rintro e x8 ⟨rfl, hb⟩
        replace Vx := Va.after hb Vx
        replace Vy := Va.after hb Vy
        replace hx := Nt.after hb hx
        replace hy := Nt.after hb hy
        replace B0 := step B0 hb
        clear hb
        clear c_Vx f0_Vx l_Vx m_Vx c_Vy f0_Vy l_Vy m_Vy
        go_wp2_with fail
        go_ret
        exact ⟨rfl, B0⟩
      · rw [decide_eq_false (by omega)] at o5
        have hne : s ≠ t := fun e => by have := o4.1 e; omega
        have hnb : (s == t) = false := beq_false_of_ne hne
        have hc : cmp3 (num zx) (num zy) = 1 := by unfold cmp3; rw [if_neg (by omega), if_pos (by omega)]
        rw [hc] at hcm
        clear hc o1 o2 o3 o4 hnx hny
        clear c_Vx f0_Vx l_Vx m_Vx c_Vy f0_Vy l_Vy m_Vy
        have c_Vx := Vx.cell
        have f0_Vx := Vx.frozen 0
        have l_Vx := Vx.lt
        have m_Vx := Nat.le_of_lt l_Vx
        have c_Vy := Vy.cell
        have f0_Vy := Vy.frozen 0
        have l_Vy := Vy.lt
        have m_Vy := Nat.le_of_lt l_Vy
        go_wp2_with fail
        refine (hcm _ hx hy).mono ?_
        rintro e x8 ⟨rfl, hb⟩
        replace Vx := Va.after hb Vx
        replace Vy := Va.after hb Vy
        replace hx := Nt.after hb hx
        replace hy := Nt.after hb hy
        replace B0 := step B0 hb
        clear hb
        clear c_Vx f0_Vx l_Vx m_Vx c_Vy f0_Vy l_Vy m_Vy
        go_wp2_with fail
        go_ret
        exact ⟨rfl, B0⟩
    · have hli : ¬ (s.length : Int) < t.length := by omega
      have hli2 : ¬ (s.length : Int) = t.length := by omega
      have hli3 : (t.length : Int) < s.length := by omega
      have := o2 hl
      have hc : cmp3 (num zx) (num zy) = 1 := by unfold cmp3; rw [if_neg (by omega), if_pos (by omega)]
      rw [hc] at hcm
      clear hc o1 o2 o3 o4 hnx hny
      clear c_Vx f0_Vx l_Vx m_Vx c_Vy f0_Vy l_Vy m_Vy
      have c_Vx := Vx.cell
      have f0_Vx := Vx.frozen 0
      have l_Vx := Vx.lt
      have m_Vx := Nat.le_of_lt l_Vx
      have c_Vy := Vy.cell
      have f0_Vy := Vy.frozen 0
      have l_Vy := Vy.lt
      have m_Vy := Nat.le_of_lt l_Vy
      go_wp2_with fail
      refine (hcm _ hx hy).mono ?_
      rintro e x8 ⟨rfl, hb⟩
      replace Vx := Va.after hb Vx
      replace Vy := Va.after hb Vy
      replace hx := Nt.after hb hx
      replace hy := Nt.after hb hy
      replace B0 := step B0 hb
      clear hb
      clear c_Vx f0_Vx l_Vx m_Vx c_Vy f0_Vy l_Vy m_Vy
      go_wp2_with fail
      go_ret
      exact ⟨rfl, B0⟩
  · cases okx <;> cases oky
    case true.true => exact absurd rfl hok
    all_goals
      clear hok
      have c_Vx := Vx.cell
      have f0_Vx := Vx.frozen 0
      have l_Vx := Vx.lt
      have m_Vx := Nat.le_of_lt l_Vx
      go_wp2_with fail
      go_ret
      exact ⟨rfl, B0.alloc B0.size _⟩
end Go.Proofs.YtjpghkpdgiiababDoor
