import Derived.Test.YtblafbbnplfpjaaGreatDoorMgAb
import Derived.Test.YtblafbbnplfpjaaGreatDoorMgAe
import Derived.Deep.RegionHeld3
namespace Go.Proofs.YtblafbbnplfpjaaGreatDoor
open Go.RowKit Go.Shelf

theorem wpList_app_some {ops : Array Oper} {rest : List Oper} {o : Oper} {a : Act} {w : World} {Q : Exit → Act → World → Prop} (hgd : o.guard = none) (s x : Operand)
    (ho : o.op = .call { callee := .builtin .append, args := #[s, x], argTypes := #[60, 60] })
    (B : Nat) (v : Value) (cs : List Int) (hs : a.eval s = v) (hg : Gr w B v cs) (ad : Addr) (m c : Nat) (news : List Int) (hx : a.eval x = .slice (some ad) m c) (hn : Sl w (some ad) m news)
    (hb : cs.length + m ≤ 17592186044416) (hB : B ≤ w.heap.size)
    (h : ∀ v' w', Hid (Gr w' B v' (cs ++ news)) → Below B w w' → wpList Tryz.prog ops Q rest (a.put o.dst v') w') : wpList Tryz.prog ops Q (o :: rest) a w := by
  obtain ⟨i0, hi, hz0, hz1, hz2⟩ := info_parts info8
  refine wpList_append_own w hgd s x _ ho B 124 i0 (.int .u64 0) 1 8 Tryz.underlying60 hi hz0 hz1 hz2 rfl (by decide) v cs.length (row cs) hs hg ad m c (row news) hx (by rw [row_length, hn.1, Nat.mul_one]) ?_ (row_one _) (by unfold maxLen; omega) (by omega) hB ?_
  · intro j u hu
    have hj : j < news.length := by
      rcases Nat.lt_or_ge j (row news).length with h' | h'
      · rw [row_length] at h'; exact h'
      · rw [List.getElem?_eq_none h'] at hu; cases hu
    obtain ⟨b, off, e, hc⟩ := hn.2.2 (by have := hn.1; omega)
    cases e
    rw [row_getElem? _ _ hj] at hu
    cases hu
    rw [addr_add]
    exact hc j (by have := hn.1; omega)
  · intro v' w' h2 h3 _
    refine h v' w' ?_ ((Below.refl B w).grown h3 hB hg.block)
    show Gr w' B v' (cs ++ news)
    unfold Gr
    rw [List.length_append, hn.1, row_append]
    exact h2

set_option maxHeartbeats 400000 in
theorem rlong_any (a : Option Addr) (len cap : Nat) (zs : List Int) (w : World) (h : Sl w a len zs) (hl : len ≤ 40000000000000) :
    Calls Tryz.prog 109 #[.slice a len cap] w fun e w' => e = .returned (.bool (decide (4096 < (usedN zs : Int)))) ∧ w' = w := by
  obtain ⟨hz, hL, hc⟩ := h
  by_cases h0 : len = 0
  · subst h0
    have e0 : usedN zs = 0 := by have := usedN_le zs; omega
    rw [e0]
    go_enter Tryz.func109, Tryz.ntmps109
    go_wp2_with fail
    refine wp_loop_rounds 1 ?_
    rw [rounds_succ]
    go_wp2_with fail
    go_ret
    exact ⟨rfl, rfl⟩
  · obtain ⟨b, off, rfl, hcell⟩ := hc (by omega)
    go_enter Tryz.func109, Tryz.ntmps109
    go_wp2_with fail
    go_loop [3] (fun i => ∃ k : Nat, k ≤ len ∧ i = .int .i64 k ∧ Hid (∀ j, k ≤ j → j < len → zs.getD j 0 = 0)) (fun i => (intOf i).toNat)
    case atStart => exact ⟨len, Nat.le_refl _, rfl, fun j h1 h2 => absurd h1 (by omega)⟩
    case round =>
      obtain ⟨k, hk, rfl, hI⟩ := hrel
      by_cases hlt : 0 < k
      · have hcx := hcell (k - 1) (by omega)
        have ex : ((k : Int) - 1).toNat = k - 1 := by omega
        obtain ⟨x, hx⟩ : ∃ x, zs.getD (k - 1) 0 = x := ⟨_, rfl⟩
        rw [hx] at hcx
        have HX : Hid (zs.getD (k - 1) 0 = x) := hx
        clear hx
        by_cases hx0 : x = 0
        · have g1 : (x == 0) = true := by simp [hx0]
          have HX0 : Hid (x = 0) := hx0
          clear hx0
          go_wp2_with fail
          go_round
          case rel =>
            refine ⟨k - 1, by omega, by rw [show ((k - 1 : Nat) : Int) = (k : Int) - 1 by omega], ?_⟩
            intro j h1 h2
            by_cases hj : j = k - 1
            · rw [hj, HX.out, HX0.out]
            · exact hI.out j (by omega) h2
          case measure => simp [intOf]; omega
        · have g1 : (x == 0) = false := by simp [hx0]
          have hu : usedN zs = k := usedN_eq (by omega) (fun i h1 h2 => hI.out i h1 (by omega)) (.inr (by rw [HX.out]; exact hx0))
          have HU : Hid (usedN zs = k) := hu
          clear hu hx0
          go_wp2_with fail
          go_ret
          exact ⟨by rw [HU.out]; rfl, rfl⟩
      · obtain rfl : k = 0 := by omega
        have hu : usedN zs = 0 := usedN_eq (by omega) (fun i h1 h2 => hI.out i (by omega) (by omega)) (.inl rfl)
        have HU : Hid (usedN zs = 0) := hu
        clear hu
        go_wp2_with fail
        go_ret
        exact ⟨by rw [HU.out]; rfl, rfl⟩

set_option maxHeartbeats 400000 in
theorem rtrim_any (a : Option Addr) (len cap : Nat) (zs : List Int) (w : World) (h : Sl w a len zs) (hn : a = none → len = 0 ∧ cap = 0) (hl : len ≤ 17592186044416) (hcap : len ≤ cap) :
    Calls Tryz.prog 141 #[.slice a len cap] w fun e w' => ∃ a' c', e = .returned (.slice a' (usedN zs) c') ∧ Sl w' a' (usedN zs) (zs.take (usedN zs)) ∧ usedN zs ≤ c' ∧ Below w.heap.size w w' := by
  have HSL : Hid (Sl w a len zs) := h
  obtain ⟨hz, hL, hc⟩ := h
  by_cases h0 : len = 0
  · subst h0
    have e0 : usedN zs = 0 := by have := usedN_le zs; omega
    rw [e0]
    cases a with
    | none =>
      obtain ⟨-, rfl⟩ := hn rfl
      go_enter Tryz.func141, Tryz.ntmps141
      go_wp2_with fail
      refine wp_loop_rounds 1 ?_
      rw [rounds_succ]
      go_wp2_with fail
      go_ret
      exact ⟨none, 0, rfl, ⟨rfl, Limbs.nil, fun h => absurd h (by decide)⟩, Nat.le_refl _, Below.refl _ _⟩
    | some ad =>
      have hsl : Sl w (some ad) 0 [] := ⟨rfl, Limbs.nil, fun h => absurd h (by decide)⟩
      go_enter Tryz.func141, Tryz.ntmps141
      go_wp2_with fail
      refine wp_loop_rounds 1 ?_
      rw [rounds_succ]
      go_wp2_with (at_builtin; refine wpList_app_some rfl (.tmp 19) (.tmp 22) rfl w.heap.size _ [] rfl (Gr.nil _ _) ad 0 cap [] rfl hsl (by simp) (Nat.le_refl _) ?_; intro v1 w1 hG hb)
      go_ret
      obtain ⟨a1, c1, e1, hc1, hs1⟩ := Gr.sl (by simpa using hG.out) Limbs.nil
      exact ⟨a1, c1, congrArg _ e1, hs1, hc1, hb⟩
  · obtain ⟨b, off, rfl, hcell⟩ := hc (by omega)
    go_enter Tryz.func141, Tryz.ntmps141
    go_wp2_with fail
    go_loop [3] (fun i => ∃ k : Nat, k ≤ len ∧ i = .int .i64 k ∧ Hid (∀ j, k ≤ j → j < len → zs.getD j 0 = 0)) (fun i => (intOf i).toNat)
    case atStart => exact ⟨len, Nat.le_refl _, rfl, fun j h1 h2 => absurd h1 (by omega)⟩
    case round =>
      obtain ⟨k, hk, rfl, hI⟩ := hrel
      by_cases hlt : 0 < k
      · have hcx := hcell (k - 1) (by omega)
        have ex : ((k : Int) - 1).toNat = k - 1 := by omega
        obtain ⟨x, hx⟩ : ∃ x, zs.getD (k - 1) 0 = x := ⟨_, rfl⟩
        rw [hx] at hcx
        have HX : Hid (zs.getD (k - 1) 0 = x) := hx
        clear hx
        by_cases hx0 : x = 0
        · have g1 : (x == 0) = true := by simp [hx0]
          have HX0 : Hid (x = 0) := hx0
          clear hx0
          go_wp2_with fail
          go_round
          case rel =>
            refine ⟨k - 1, by omega, by rw [show ((k - 1 : Nat) : Int) = (k : Int) - 1 by omega], ?_⟩
            intro j h1 h2
            by_cases hj : j = k - 1
            · rw [hj, HX.out, HX0.out]
            · exact hI.out j (by omega) h2
          case measure => simp [intOf]; omega
        · have g1 : (x == 0) = false := by simp [hx0]
          have hu : usedN zs = k := usedN_eq (by omega) (fun i h1 h2 => hI.out i h1 (by omega)) (.inr (by rw [HX.out]; exact hx0))
          have HU : Hid (usedN zs = k) := hu
          clear hu hx0
          have hsl := HSL.out.take (m := k) (by omega)
          go_wp2_with (at_builtin; refine wpList_app_some rfl (.tmp 19) (.tmp 22) rfl w.heap.size _ [] rfl (Gr.nil _ _) ⟨b, off, none⟩ k cap (zs.take k) rfl hsl (by simp <;> omega) (Nat.le_refl _) ?_; intro v1 w1 hG hb)
          go_ret
          obtain ⟨a1, c1, e1, hc1, hs1⟩ := Gr.sl (by simpa using hG.out) (hL.take k)
          rw [List.length_take, Nat.min_eq_left (by omega)] at e1 hc1 hs1
          exact ⟨a1, c1, by rw [HU.out]; exact congrArg _ e1, by rw [HU.out]; exact hs1, by rw [HU.out]; exact hc1, hb⟩
      · obtain rfl : k = 0 := by omega
        have hu : usedN zs = 0 := usedN_eq (by omega) (fun i h1 h2 => hI.out i (by omega) (by omega)) (.inl rfl)
        have HU : Hid (usedN zs = 0) := hu
        clear hu
        have hsl := HSL.out.take (m := 0) (by omega)
        go_wp2_with (at_builtin; refine wpList_app_some rfl (.tmp 19) (.tmp 22) rfl w.heap.size _ [] rfl (Gr.nil _ _) ⟨b, off, none⟩ 0 cap (zs.take 0) rfl hsl (by simp <;> omega) (Nat.le_refl _) ?_; intro v1 w1 hG hb)
        go_ret
        obtain ⟨a1, c1, e1, hc1, hs1⟩ := Gr.sl (by simpa using hG.out) (hL.take 0)
        rw [List.length_take, Nat.min_eq_left (by omega)] at e1 hc1 hs1
        exact ⟨a1, c1, by rw [HU.out]; exact congrArg _ e1, by rw [HU.out]; exact hs1, by rw [HU.out]; exact hc1, hb⟩
end Go.Proofs.YtblafbbnplfpjaaGreatDoor

namespace Go.Proofs.YtblafbbnplfpjaaGreatDoor
open Go.RowKit Go.Shelf

theorem Nt.only {g : Nat} {w w' : World} {a : Option Addr} {len cap : Nat} {zs : List Int} (h : Nt w a len cap zs) (o : Only g w w') (hne : 0 < len → ∀ p, a = some p → p.block ≠ g) : Nt w' a len cap zs := ⟨(Sx.only ⟨h.1, hne⟩ o).1, h.2⟩

def Blk (w : World) (g n : Nat) : Prop := ∃ cur t, w.heap[g]? = some (.cells cur t (0, 0)) ∧ n ≤ cur.size
theorem Blk.lt {w : World} {g n : Nat} (h : Blk w g n) : g < w.heap.size := by
  obtain ⟨cur, t, h, -⟩ := h
  rcases Nat.lt_or_ge g w.heap.size with h' | h'
  · exact h'
  · rw [Array.getElem?_eq_none h'] at h; cases h
theorem Blk.cell {w : World} {g n : Nat} (h : Blk w g n) {k : Nat} (hk : k < n) : ∃ x, w.cell? ⟨g, k, none⟩ = some x := by
  obtain ⟨cur, t, h, hn⟩ := h
  refine ⟨cur[k]'(by omega), ?_⟩
  simp only [World.cell?, h]
  exact Array.getElem?_eq_getElem (by omega)
theorem Blk.frozen {w : World} {g n : Nat} (h : Blk w g n) (k : Nat) : w.frozen? ⟨g, k, none⟩ = false := by
  obtain ⟨cur, t, h, -⟩ := h
  simp [World.frozen?, h]
theorem Blk.set {w : World} {g n : Nat} (h : Blk w g n) (k : Nat) (v : Value) : Blk (w.setCell ⟨g, k, none⟩ v) g n := by
  obtain ⟨cur, t, h, hn⟩ := h
  refine ⟨cur.setIfInBounds k v, t, ?_, by simpa using hn⟩
  simp only [World.setCell]
  rw [Array.getElem?_modify, if_pos rfl, h]
  rfl
theorem Blk.kept {w w' : World} {g n : Nat} (h : Blk w g n) (hb : Below w.heap.size w w') : Blk w' g n := by
  have hl := h.lt
  obtain ⟨cur, t, h, hn⟩ := h
  exact ⟨cur, t, by rw [hb.block g hl]; exact h, hn⟩
theorem Blk.only {w w' : World} {g b n : Nat} (h : Blk w b n) (o : Only g w w') (hne : b ≠ g) : Blk w' b n := by
  obtain ⟨cur, t, h, hn⟩ := h
  exact ⟨cur, t, by rw [o.oth b hne]; exact h, hn⟩
theorem Gr.parts {w : World} {B : Nat} {v : Value} {cs : List Int} (h : Gr w B v cs) (hL : Limbs cs) :
    ∃ a c gm, v = .slice a cs.length c ∧ cs.length ≤ c ∧ Sl w a cs.length cs ∧ B ≤ gm ∧ (a = none → cs.length = 0 ∧ c = 0) ∧ (0 < cs.length → a = some ⟨gm, 0, none⟩ ∧ Blk w gm cs.length) := by
  obtain ⟨a, c, e, hc, hs⟩ := h.sl hL
  obtain ⟨h1, h2 | ⟨g, cap, cur, e2, hBg, hh, hc2, hm, hsz, ht⟩⟩ := h
  · obtain ⟨e2, h0⟩ := h2
    rw [e2] at e
    obtain ⟨ea, -, ec⟩ := Value.slice.inj e
    rw [← ea] at hs
    exact ⟨none, 0, B, e2.trans (by rw [h0]), by omega, hs, Nat.le_refl _, fun _ => ⟨h0, rfl⟩, fun h => by omega⟩
  · rw [e2] at e
    obtain ⟨ea, -, ec⟩ := Value.slice.inj e
    rw [← ea] at hs
    exact ⟨_, _, g, e2, hc2, hs, hBg, (fun h => by cases h), fun _ => ⟨rfl, cur, 124, hh, by omega⟩⟩

end Go.Proofs.YtblafbbnplfpjaaGreatDoor

namespace Go.Proofs.YtblafbbnplfpjaaGreatDoor
open Go.RowKit Go.Shelf

def HV (w : World) (b : Nat) (a : Option Addr) (l c : Nat) (zs : List Int) (W : World) : Prop := Va W b 62 #[.slice a l c] ∧ Nt W a l c zs ∧ Below w.heap.size w W
theorem Nt.al {w : World} {a : Option Addr} {l c : Nat} {zs : List Int} (h : Nt w a l c zs) (o : Obj) : Nt (w.alloc o) a l c zs := Nt.after ((Below.refl _ _).alloc (Nat.le_refl _) o) h
theorem Nt.st {w : World} {a : Option Addr} {l c : Nat} {zs : List Int} (h : Nt w a l c zs) {b : Nat} {t : TypeId} {x : Option Addr} {y z : Nat} (V : Va w b t #[.slice x y z]) (v : Value) : Nt (w.setCell ⟨b, 0, none⟩ v) a l c zs := h.store V v
theorem HV.alloc {w : World} {b : Nat} {a : Option Addr} {l c : Nat} {zs : List Int} {W : World} (h : W.cell? ⟨b, 0, none⟩ = some (.slice a l c) ∧ Hid (HV w b a l c zs W)) (o : Obj) : (W.alloc o).cell? ⟨b, 0, none⟩ = some (.slice a l c) ∧ Hid (HV w b a l c zs (W.alloc o)) := by
  obtain ⟨-, h1, h2, h3⟩ := h
  exact ⟨(h1.old o).cell, h1.old o, h2.al o, h3.alloc h3.size o⟩
theorem HV.call {w : World} {b : Nat} {a : Option Addr} {l c : Nat} {zs : List Int} {W W' : World} (hb : Below W.heap.size W W') (h : W.cell? ⟨b, 0, none⟩ = some (.slice a l c) ∧ Hid (HV w b a l c zs W)) : W'.cell? ⟨b, 0, none⟩ = some (.slice a l c) ∧ Hid (HV w b a l c zs W') := by
  obtain ⟨-, h1, h2, h3⟩ := h
  exact ⟨(Va.after hb h1).cell, Va.after hb h1, Nt.after hb h2, step h3 hb⟩
theorem HV.drew {w : World} {b : Nat} {a : Option Addr} {l c : Nat} {zs : List Int} {W : World} (h1 : Va W b 62 #[.slice a l c]) (h2 : Nt W a l c zs) (h3 : Below w.heap.size w W) : W.drew.cell? ⟨b, 0, none⟩ = some (.slice a l c) ∧ Hid (HV w b a l c zs W.drew) :=
  ⟨h1.cell, h1, h2, h3.drew⟩
theorem HV.nt {w : World} {b : Nat} {a : Option Addr} {l c : Nat} {zs : List Int} {W : World} (h : W.cell? ⟨b, 0, none⟩ = some (.slice a l c) ∧ Hid (HV w b a l c zs W)) : Nt W a l c zs := h.2.2.1
def Rd (w : World) (b : Nat) (v : Value) : Prop := w.cell? ⟨b, 0, none⟩ = some v
theorem Rd.lt {w : World} {b : Nat} {v : Value} (h : Rd w b v) : b < w.heap.size := by
  unfold Rd at h
  rcases Nat.lt_or_ge b w.heap.size with h' | h'
  · exact h'
  · simp [World.cell?, Array.getElem?_eq_none h'] at h
theorem Rd.after {w w' : World} (hb : Below w.heap.size w w') {b : Nat} {v : Value} (h : Rd w b v) : Rd w' b v := by
  have hl := h.lt
  unfold Rd at *
  rw [hb.cell (p := ⟨b, 0, none⟩) hl]; exact h
theorem cell_stc (w : World) (b c o : Nat) (v : Value) (h : ¬ (c = b ∧ o = 0)) : (w.setCell ⟨b, 0, none⟩ v).cell? ⟨c, o, none⟩ = w.cell? ⟨c, o, none⟩ := by
  by_cases hc : c = b
  · subst hc
    have ho : o ≠ 0 := fun e => h ⟨rfl, e⟩
    simp only [World.setCell, World.cell?, Array.getElem?_modify]
    cases hh : w.heap[c]? with
    | none => simp
    | some x =>
      cases x <;> simp
      rw [Array.getElem?_setIfInBounds]
      simp [ho.symm]
  · exact World.cell?_of_block (w := w) (Below.heap_setCell _ _ _ _ hc)
theorem HV.dr {w : World} {b : Nat} {a : Option Addr} {l c : Nat} {zs : List Int} {W : World} (h : W.cell? ⟨b, 0, none⟩ = some (.slice a l c) ∧ Hid (HV w b a l c zs W)) : W.drew.cell? ⟨b, 0, none⟩ = some (.slice a l c) ∧ Hid (HV w b a l c zs W.drew) :=
  ⟨h.1, h.2.1, h.2.2.1, h.2.2.2.drew⟩
end Go.Proofs.YtblafbbnplfpjaaGreatDoor

namespace Go.Proofs.YtblafbbnplfpjaaGreatDoor
open Go.RowKit Go.Shelf
theorem H3.n1 {w : World} {b1 b2 b3 : Nat} {a1 a2 a3 : Option Addr} {l1 l2 l3 c1 c2 c3 : Nat} {z1 z2 z3 : List Int} {W : World} (h : (W.cell? ⟨b1, 0, none⟩ = some (.slice a1 l1 c1) ∧ Hid (HV w b1 a1 l1 c1 z1 W)) ∧ (W.cell? ⟨b2, 0, none⟩ = some (.slice a2 l2 c2) ∧ Hid (HV w b2 a2 l2 c2 z2 W)) ∧ (W.cell? ⟨b3, 0, none⟩ = some (.slice a3 l3 c3) ∧ Hid (HV w b3 a3 l3 c3 z3 W))) : Nt W a1 l1 c1 z1 := HV.nt h.1
theorem H3.n2 {w : World} {b1 b2 b3 : Nat} {a1 a2 a3 : Option Addr} {l1 l2 l3 c1 c2 c3 : Nat} {z1 z2 z3 : List Int} {W : World} (h : (W.cell? ⟨b1, 0, none⟩ = some (.slice a1 l1 c1) ∧ Hid (HV w b1 a1 l1 c1 z1 W)) ∧ (W.cell? ⟨b2, 0, none⟩ = some (.slice a2 l2 c2) ∧ Hid (HV w b2 a2 l2 c2 z2 W)) ∧ (W.cell? ⟨b3, 0, none⟩ = some (.slice a3 l3 c3) ∧ Hid (HV w b3 a3 l3 c3 z3 W))) : Nt W a2 l2 c2 z2 := HV.nt h.2.1
theorem H3.n3 {w : World} {b1 b2 b3 : Nat} {a1 a2 a3 : Option Addr} {l1 l2 l3 c1 c2 c3 : Nat} {z1 z2 z3 : List Int} {W : World} (h : (W.cell? ⟨b1, 0, none⟩ = some (.slice a1 l1 c1) ∧ Hid (HV w b1 a1 l1 c1 z1 W)) ∧ (W.cell? ⟨b2, 0, none⟩ = some (.slice a2 l2 c2) ∧ Hid (HV w b2 a2 l2 c2 z2 W)) ∧ (W.cell? ⟨b3, 0, none⟩ = some (.slice a3 l3 c3) ∧ Hid (HV w b3 a3 l3 c3 z3 W))) : Nt W a3 l3 c3 z3 := HV.nt h.2.2
theorem H3.call {w : World} {b1 b2 b3 : Nat} {a1 a2 a3 : Option Addr} {l1 l2 l3 c1 c2 c3 : Nat} {z1 z2 z3 : List Int} {W W' : World} (hb : Below W.heap.size W W') (h : (W.cell? ⟨b1, 0, none⟩ = some (.slice a1 l1 c1) ∧ Hid (HV w b1 a1 l1 c1 z1 W)) ∧ (W.cell? ⟨b2, 0, none⟩ = some (.slice a2 l2 c2) ∧ Hid (HV w b2 a2 l2 c2 z2 W)) ∧ (W.cell? ⟨b3, 0, none⟩ = some (.slice a3 l3 c3) ∧ Hid (HV w b3 a3 l3 c3 z3 W))) :
    (W'.cell? ⟨b1, 0, none⟩ = some (.slice a1 l1 c1) ∧ Hid (HV w b1 a1 l1 c1 z1 W')) ∧ (W'.cell? ⟨b2, 0, none⟩ = some (.slice a2 l2 c2) ∧ Hid (HV w b2 a2 l2 c2 z2 W')) ∧ (W'.cell? ⟨b3, 0, none⟩ = some (.slice a3 l3 c3) ∧ Hid (HV w b3 a3 l3 c3 z3 W')) :=
  ⟨HV.call hb h.1, HV.call hb h.2.1, HV.call hb h.2.2⟩
end Go.Proofs.YtblafbbnplfpjaaGreatDoor

namespace Go.Proofs.YtblafbbnplfpjaaGreatDoor
open Go.RowKit Go.Shelf

set_option maxHeartbeats 400000 in
theorem rtrim_n (a : Option Addr) (len cap : Nat) (zs : List Int) (w : World) (h : Sl w a len zs) (hl : len ≤ 17592186044416) (hcap : len ≤ cap) :
    Calls Tryz.prog 141 #[.slice a len cap] w fun e w' => ∃ a' c', e = .returned (.slice a' (usedN zs) c') ∧ Sl w' a' (usedN zs) (zs.take (usedN zs)) ∧ usedN zs ≤ c' ∧ (a' = none → usedN zs = 0 ∧ c' = 0) ∧ Below w.heap.size w w' := by
  have HSL : Hid (Sl w a len zs) := h
  obtain ⟨hz, hL, hc⟩ := h
  by_cases h0 : len = 0
  · subst h0
    have e0 : usedN zs = 0 := by have := usedN_le zs; omega
    rw [e0]
    cases a with
    | none =>
      go_enter Tryz.func141, Tryz.ntmps141
      go_wp2_with fail
      refine wp_loop_rounds 1 ?_
      rw [rounds_succ]
      go_wp2_with fail
      go_ret
      exact ⟨none, 0, rfl, ⟨rfl, Limbs.nil, fun h => absurd h (by decide)⟩, Nat.le_refl _, fun _ => ⟨trivial, rfl⟩, Below.refl _ _⟩
    | some ad =>
      have hsl : Sl w (some ad) 0 [] := ⟨rfl, Limbs.nil, fun h => absurd h (by decide)⟩
      go_enter Tryz.func141, Tryz.ntmps141
      go_wp2_with fail
      refine wp_loop_rounds 1 ?_
      rw [rounds_succ]
      go_wp2_with (at_builtin; refine wpList_app_some rfl (.tmp 19) (.tmp 22) rfl w.heap.size _ [] rfl (Gr.nil _ _) ad 0 cap [] rfl hsl (by simp) (Nat.le_refl _) ?_; intro v1 w1 hG hb)
      go_ret
      obtain ⟨a1, c1, gm, e1, hc1, hs1, -, hn1, -⟩ := Gr.parts (by simpa using hG.out) Limbs.nil
      exact ⟨a1, c1, congrArg _ e1, hs1, hc1, fun h => ⟨trivial, (hn1 h).2⟩, hb⟩
  · obtain ⟨b, off, rfl, hcell⟩ := hc (by omega)
    go_enter Tryz.func141, Tryz.ntmps141
    go_wp2_with fail
    go_loop [3] (fun i => ∃ k : Nat, k ≤ len ∧ i = .int .i64 k ∧ Hid (∀ j, k ≤ j → j < len → zs.getD j 0 = 0)) (fun i => (intOf i).toNat)
    case atStart => exact ⟨len, Nat.le_refl _, rfl, fun j h1 h2 => absurd h1 (by omega)⟩
    case round =>
      obtain ⟨k, hk, rfl, hI⟩ := hrel
      by_cases hlt : 0 < k
      · have hcx := hcell (k - 1) (by omega)
        have ex : ((k : Int) - 1).toNat = k - 1 := by omega
        obtain ⟨x, hx⟩ : ∃ x, zs.getD (k - 1) 0 = x := ⟨_, rfl⟩
        rw [hx] at hcx
        have HX : Hid (zs.getD (k - 1) 0 = x) := hx
        clear hx
        by_cases hx0 : x = 0
        · have g1 : (x == 0) = true := by simp [hx0]
          have HX0 : Hid (x = 0) := hx0
          clear hx0
          go_wp2_with fail
          go_round
          case rel =>
            refine ⟨k - 1, by omega, by rw [show ((k - 1 : Nat) : Int) = (k : Int) - 1 by omega], ?_⟩
            intro j h1 h2
            by_cases hj : j = k - 1
            · rw [hj, HX.out, HX0.out]
            · exact hI.out j (by omega) h2
          case measure => simp [intOf]; omega
        · have g1 : (x == 0) = false := by simp [hx0]
          have hu : usedN zs = k := usedN_eq (by omega) (fun i h1 h2 => hI.out i h1 (by omega)) (.inr (by rw [HX.out]; exact hx0))
          have HU : Hid (usedN zs = k) := hu
          clear hu hx0
          have hsl := HSL.out.take (m := k) (by omega)
          go_wp2_with (at_builtin; refine wpList_app_some rfl (.tmp 19) (.tmp 22) rfl w.heap.size _ [] rfl (Gr.nil _ _) ⟨b, off, none⟩ k cap (zs.take k) rfl hsl (by simp <;> omega) (Nat.le_refl _) ?_; intro v1 w1 hG hb)
          go_ret
          obtain ⟨a1, c1, gm, e1, hc1, hs1, -, hn1, -⟩ := Gr.parts (by simpa using hG.out) (hL.take k)
          rw [List.length_take, Nat.min_eq_left (by omega)] at e1 hc1 hs1 hn1
          exact ⟨a1, c1, by rw [HU.out]; exact congrArg _ e1, by rw [HU.out]; exact hs1, by rw [HU.out]; exact hc1, by rw [HU.out]; exact hn1, hb⟩
      · obtain rfl : k = 0 := by omega
        have hu : usedN zs = 0 := usedN_eq (by omega) (fun i h1 h2 => hI.out i (by omega) (by omega)) (.inl rfl)
        have HU : Hid (usedN zs = 0) := hu
        clear hu
        have hsl := HSL.out.take (m := 0) (by omega)
        go_wp2_with (at_builtin; refine wpList_app_some rfl (.tmp 19) (.tmp 22) rfl w.heap.size _ [] rfl (Gr.nil _ _) ⟨b, off, none⟩ 0 cap (zs.take 0) rfl hsl (by simp <;> omega) (Nat.le_refl _) ?_; intro v1 w1 hG hb)
        go_ret
        obtain ⟨a1, c1, gm, e1, hc1, hs1, -, hn1, -⟩ := Gr.parts (by simpa using hG.out) (hL.take 0)
        rw [List.length_take, Nat.min_eq_left (by omega)] at e1 hc1 hs1 hn1
        exact ⟨a1, c1, by rw [HU.out]; exact congrArg _ e1, by rw [HU.out]; exact hs1, by rw [HU.out]; exact hc1, by rw [HU.out]; exact hn1, hb⟩

end Go.Proofs.YtblafbbnplfpjaaGreatDoor
