import Derived.Test.YtngichjgfppnpaaGreatDoorMgAa
import Derived.Test.YtngichjgfppnpaaGreatDoorMgAm
import Derived.Laws.MakeOwn
import Derived.Test.YtngichjgfppnpaaGreatDoorMgAe
import Derived.Test.YtngichjgfppnpaaGreatDoorMgAj
import Derived.Test.YtngichjgfppnpaaGreatDoorMgAl
import Derived.Test.YtngichjgfppnpaaGreatDoorBsI
namespace Go.Proofs.YtngichjgfppnpaaGreatDoor
open Go.RowKit Go.Shelf
set_option linter.unusedVariables false
set_option maxRecDepth 20000

theorem made6 (n : Nat) (hn : n ≤ 8) : madeCells (Value.cells (.agg #[.bool false, .slice none 0 0, .slice none 0 0, .bool false, .slice none 0 0, .slice none 0 0])) (n * 6) = (rowE elP (List.replicate n (Rc.nil, Rc.nil))).toArray := by
  have hl : (rowE elP (List.replicate n (Rc.nil, Rc.nil))).length = n * 6 := by rw [rowE_length]; simp; rfl
  apply Array.ext
  · rw [size_madeCells, List.size_toArray, hl]
  · intro i h1 h2
    have hi : i < n * 6 := by rw [size_madeCells] at h1; exact h1
    have hq := rowE_get elP (i % 6) (Nat.mod_lt _ (by decide)) (List.replicate n (Rc.nil, Rc.nil)) (i / 6) (by simp; omega)
    rw [show i / 6 * elP.s + i % 6 = i by show i / 6 * 6 + i % 6 = i; omega] at hq
    have hg : (List.replicate n (Rc.nil, Rc.nil)).getD (i / 6) elP.dft = (Rc.nil, Rc.nil) := by simp [show i / 6 < n by omega]
    rw [hg] at hq
    have h6 : i % 6 < 6 := Nat.mod_lt _ (by decide)
    have hr : (rowE elP (List.replicate n (Rc.nil, Rc.nil))).toArray[i] = (rowE elP (List.replicate n (Rc.nil, Rc.nil)))[i]'(by rw [hl]; exact hi) := by simp
    rw [hr]
    have hm : (madeCells (Value.cells (.agg #[.bool false, .slice none 0 0, .slice none 0 0, .bool false, .slice none 0 0, .slice none 0 0])) (n * 6))[i] = (#[Value.bool false, .slice none 0 0, .slice none 0 0, .bool false, .slice none 0 0, .slice none 0 0])[i % 6]! := by simp [madeCells, Value.cells]
    rw [hm]
    rw [List.getElem?_eq_getElem (by rw [hl]; exact hi)] at hq
    generalize i % 6 = j at *
    have : j = 0 ∨ j = 1 ∨ j = 2 ∨ j = 3 ∨ j = 4 ∨ j = 5 := by omega
    rcases this with rfl | rfl | rfl | rfl | rfl | rfl <;> exact (Option.some.inj hq).symm
theorem make_P (n : Nat) (hn : n ≤ 8) (w : World) : ∃ w', (Instr.makeSlice 39 (.int .i64 (n : Int)) (.int .i64 (n : Int))).run Tryz.prog w = .ok (.slice (some ⟨w.heap.size, 0, none⟩) n n) w' ∧ Bk elP w' w.heap.size (List.replicate n (Rc.nil, Rc.nil)) ∧ Below w.heap.size w w' ∧ w'.heap.size = w.heap.size + 1 := by
  obtain ⟨i0, hi, hz0, hz1, hz2⟩ := info_parts infoPi
  have h := run_make (P := Tryz.prog) w 39 75 i0 (.agg #[.bool false, .slice none 0 0, .slice none 0 0, .bool false, .slice none 0 0, .slice none 0 0]) Tryz.underlying39 hi hz0 .i64 .i64 (n : Int) (n : Int) (by omega) (by omega) (by rw [hz2]; omega) (by omega)
  rw [hz1] at h
  simp only [Int.toNat_natCast] at h
  refine ⟨_, h, ?_, (Below.refl _ _).alloc (Nat.le_refl _) _, by simp⟩
  rw [made6 n hn]
  exact Va.new w _ _
theorem make_T (n : Nat) (hn : n ≤ 8) (w : World) : ∃ w', (Instr.makeSlice 46 (.int .i64 (n : Int)) (.int .i64 (n : Int))).run Tryz.prog w = .ok (.slice (some ⟨w.heap.size, 0, none⟩) n n) w' ∧ Bk elT w' w.heap.size (List.replicate n (Rc.nil, Rc.nil)) ∧ Below w.heap.size w w' ∧ w'.heap.size = w.heap.size + 1 := by
  obtain ⟨i0, hi, hz0, hz1, hz2⟩ := info_parts infoSt
  have h := run_make (P := Tryz.prog) w 46 78 i0 (.agg #[.bool false, .slice none 0 0, .slice none 0 0, .bool false, .slice none 0 0, .slice none 0 0]) Tryz.underlying46 hi hz0 .i64 .i64 (n : Int) (n : Int) (by omega) (by omega) (by rw [hz2]; omega) (by omega)
  rw [hz1] at h
  simp only [Int.toNat_natCast] at h
  refine ⟨_, h, ?_, (Below.refl _ _).alloc (Nat.le_refl _) _, by simp⟩
  rw [made6 n hn]
  exact Va.new w _ _
theorem sto6 {E : El Pc} (hE : E.s = 6) (he : E.enc = Pc.vs) {W : World} {g k : Nat} {ps : List Pc} (h : Bk E W g ps) (hk : k < ps.length) (p : Pc) {Q : World → Prop}
    (q : ∀ V, Bk E V g (ps.set k p) → (∀ c, c ≠ g → V.heap[c]? = W.heap[c]?) → (∀ B v, B ≤ g → Below B v W → Below B v V) → Q V) : Q (put6 W g k p) :=
  q _ (h.put6 hE he hk p) (put6_other W g k p) (fun B v hB hb => put6_below hb hB k p)
theorem Rn.far {w : World} {r : Rc} {v : Rat} (h : Rn w r v) {b' : Nat} {t : TypeId} {cs : Array Value} (V : Va w b' t cs) (hn : NoInt cs) {w' : World} (k : ∀ c, c ≠ b' → w'.heap[c]? = w.heap[c]?) : Rn w' r v := Rr.far h V hn k
theorem getD_set {α : Type} (ps : List α) (k j : Nat) (p d : α) (hk : k < ps.length) : (ps.set k p).getD j d = if j = k then p else ps.getD j d := by
  rw [List.getD_eq_getElem?_getD, List.getD_eq_getElem?_getD, List.getElem?_set]
  by_cases h : k = j
  · subst h; simp [hk]
  · simp [h, Ne.symm h]
def Ps (w : World) (ps : List Pc) (l : List Pq) (k : Nat) : Prop := ∀ i, i < k → Rn w (ps.getD i (Rc.nil, Rc.nil)).1 (aq l i) ∧ Rn w (ps.getD i (Rc.nil, Rc.nil)).2 (rq l i)
theorem Ps.after {w w' : World} (hb : Below w.heap.size w w') {ps : List Pc} {l : List Pq} {k : Nat} (h : Ps w ps l k) : Ps w' ps l k := fun i hi => ⟨(h i hi).1.after hb, (h i hi).2.after hb⟩
theorem Ps.drw {w : World} {ps : List Pc} {l : List Pq} {k : Nat} (h : Ps w ps l k) : Ps w.drew ps l k := h
theorem Ps.put {w w' : World} {ps : List Pc} {l : List Pq} {k g : Nat} {p : Pc} (h : Ps w ps l k) (hb : Bk elP w g ps) (hk : k < ps.length) (h1 : Rn w p.1 (aq l k)) (h2 : Rn w p.2 (rq l k)) (hf : ∀ c, c ≠ g → w'.heap[c]? = w.heap[c]?) : Ps w' (ps.set k p) l (k + 1) := by
  intro i hi
  rw [getD_set _ _ _ _ _ hk]
  by_cases e : i = k
  · subst e; rw [if_pos rfl]
    exact ⟨h1.far hb (row_noInt rfl _) hf, h2.far hb (row_noInt rfl _) hf⟩
  · rw [if_neg e]
    have := h i (by omega)
    exact ⟨this.1.far hb (row_noInt rfl _) hf, this.2.far hb (row_noInt rfl _) hf⟩
theorem Bk.lt {α : Type} {E : El α} {w : World} {g : Nat} {xs : List α} (h : Bk E w g xs) : g < w.heap.size := Va.lt h
theorem Bk.frozen {α : Type} {E : El α} {w : World} {g : Nat} {xs : List α} (h : Bk E w g xs) (i : Nat) : w.frozen? ⟨g, i, none⟩ = false := Va.frozen h i
set_option maxHeartbeats 8000000 in
theorem plain_any (b off n c : Nat) (xs : List Pc) (l : List Pq) (w : World) (hL : Le elT w (some ⟨b, off, none⟩) n xs) (hS : Ss w xs l) (hn : l.length = n) (h8 : n ≤ 8) :
  Calls Tryz.prog 36 #[.slice (some ⟨b, off, none⟩) n c] w fun e w' => ∃ (g : Nat) (ps : List Pc), e = .returned (.slice (some ⟨g, 0, none⟩) n n) ∧ Bk elP w' g ps ∧ ps.length = n ∧ Hid (Ps w' ps l n) ∧ Below w.heap.size w w' := by
 have HL : Hid (Le elT w (some ⟨b, off, none⟩) n xs) := hL; have HS : Hid (Ss w xs l) := hS; have HN : Hid (l.length = n) := hn; clear hL hS hn; obtain ⟨w1, hmk, hG, hb1, hs1⟩ := make_P n h8 w; have HG : Hid (Bk elP w1 w.heap.size (List.replicate n (Rc.nil, Rc.nil))) := hG; have HB1 : Hid (Below w.heap.size w w1) := hb1; clear hG hb1 hs1
 go_enter Tryz.func36, Tryz.ntmps36
 (go_wp2_with fail); clear hmk
 go_loopw [11] (fun i wr => ∃ (k : Nat) (ps : List Pc), k ≤ n ∧ i = .int .i64 k ∧ ps.length = n ∧ Hid (Bk elP wr w.heap.size ps) ∧ Hid (Ps wr ps l k) ∧ Hid (Below w.heap.size w wr)) (fun i _ => n - (intOf i).toNat)
 case atStart => exact ⟨0, _, Nat.zero_le _, rfl, List.length_replicate, HG.out, fun j hj => absurd hj (by omega), HB1.out⟩
 case round =>
  obtain ⟨k, ps, hk, rfl, hpl, HGR, HPS, HW⟩ := hrel
  by_cases hlt : k < n
  ·
   have B0 := HW.out; have hG := HGR.out; have flt := HGR.out.lt; have hP := HPS.out; have hL := HL.out.after B0; have hS := (HS.out.after B0).2 k (by rw [HN.out]; exact hlt); have hc : At6 wr b (off + k * 6) (xs.getD k (Rc.nil, Rc.nil)) := hL.six rfl rfl k hlt
   generalize xs.getD k (Rc.nil, Rc.nil) = p at hc hS
   obtain ⟨hp1, hp2⟩ := hS; clear hL; obtain ⟨c0, c1, c2, c3, c4, c5⟩ := hc; have lb := cell_lt c0; (go_wp2_with fail); refine ent1 wr _ _ (Q := fun W => Code.wp Tryz.prog _ _ _ W) ?_; intro x6 hb hs_x6 V6; replace hG := Bk.after hb hG; replace hP := Ps.after hb hP; replace hp1 := Rv.after hb hp1; replace hp2 := Rv.after hb hp2; replace B0 := step B0 hb; clear hb hs_x6; clear c0 c1 c2 c3 c4 c5 lb; refine wp_region_noPanic ?_; replace V6 : Va x6.drew _ _ _ := V6; replace hG := hG.drw; replace hP := hP.drw; replace hp1 := hp1.drw; replace hp2 := hp2.drw; replace B0 := Below.drew B0; refine wp_region_held_drew (S := (fun W => W.cell? ⟨wr.heap.size, 0, none⟩ = some (.bool p.1.s) ∧ W.cell? ⟨wr.heap.size, 1, none⟩ = some (.slice p.1.a p.1.l p.1.c) ∧ W.cell? ⟨wr.heap.size, 2, none⟩ = some (.slice p.1.b p.1.m p.1.d) ∧ W.cell? ⟨wr.heap.size, 3, none⟩ = some (.bool p.2.s) ∧ W.cell? ⟨wr.heap.size, 4, none⟩ = some (.slice p.2.a p.2.l p.2.c) ∧ W.cell? ⟨wr.heap.size, 5, none⟩ = some (.slice p.2.b p.2.m p.2.d))) (by kernel_rfl) ⟨V6.e0, V6.e1, V6.e2, V6.e3, V6.e4, V6.e5⟩ (fun hHeld => ?_)
   (obtain ⟨x7, hxd⟩ : ∃ xd, xd = x6.drew := ⟨_, rfl⟩); rw [← hxd] at V6 hG hP hp1 hp2 B0 hHeld ⊢; clear hxd; refine tjz 0 hHeld ?_; refine tjz 1 hHeld ?_; refine tjz 2 hHeld ?_; refine tjz 3 hHeld ?_; refine tjz 5 hHeld ?_; refine tjz 6 hHeld ?_; refine ryz 4 (fun K hK => ?_); simp only [gA, gB, gC]; (go_simp); refine (plain_rc p.1 _ _ hp1).mono ?_; rintro e x8 ⟨q1, rfl, hq1, hb⟩; replace V6 := V6.a hb; replace hG := Bk.after hb hG; replace hP := Ps.after hb hP; replace hp1 := Rv.after hb hp1; replace hp2 := Rv.after hb hp2; replace B0 := step B0 hb; clear hb; (try go_wp2_with fail)
   refine hK.out _ _ ⟨V6.e0, V6.e1, V6.e2, V6.e3, V6.e4, V6.e5⟩ (fun hHeld => ?_); clear hK K; refine ryz 7 (fun K hK => ?_); simp only [gA, gB, gC]; (go_simp); refine (plain_rc p.2 _ _ hp2).mono ?_; rintro e x9 ⟨q2, rfl, hq2, hb⟩; replace V6 := V6.a hb; replace hG := Bk.after hb hG; replace hP := Ps.after hb hP; replace hp1 := Rv.after hb hp1; replace hp2 := Rv.after hb hp2; replace hq1 := Rn.after hb hq1; replace B0 := step B0 hb; clear hb; (try go_wp2_with fail); refine hK.out _ _ ⟨V6.e0, V6.e1, V6.e2, V6.e3, V6.e4, V6.e5⟩ (fun hHeld => ?_); clear hK K; refine tjz 8 hHeld ?_; refine tjz 9 hHeld ?_; have fl := hG.lt; obtain ⟨b0, b1, b2, b3, b4, b5⟩ := hG.at6 rfl rfl k (by omega); have fr0 := hG.frozen (k * 6); have fr1 := hG.frozen (k * 6 + 1); have fr2 := hG.frozen (k * 6 + 2)
   have fr3 := hG.frozen (k * 6 + 3); have fr4 := hG.frozen (k * 6 + 4); have fr5 := hG.frozen (k * 6 + 5); refine ryz 10 (fun K hK => ?_); simp only [gA, gB, gC]; (go_simp); clear b0 b1 b2 b3 b4 b5 fr0 fr1 fr2 fr3 fr4 fr5; refine sto6 (E := elP) rfl rfl hG (by omega) (q1, q2) (Q := fun W => K _ W) ?_; intro x9 hG9 far9 bel9; have HP9 : Hid (Ps x9 (ps.set k (q1, q2)) l (k + 1)) := hP.put hG (by omega) hq1 hq2 far9; have HG9 : Hid (Bk elP x9 w.heap.size (ps.set k (q1, q2))) := hG9; have HB9 : Hid (Below w.heap.size w x9) := bel9 _ _ (Nat.le_refl _) B0; replace V6 := V6.stay far9 (by omega); refine hK.out _ _ ⟨V6.e0, V6.e1, V6.e2, V6.e3, V6.e4, V6.e5⟩ (fun hHeld => ?_); clear hK K; refine dnz ?_; clear hHeld; (go_wp2_with fail)
   go_roundw
   case measure => simp [intOf]; omega
   case rel => exact ⟨k + 1, ps.set k (q1, q2), by omega, by go_num, by rw [List.length_set]; exact hpl, HG9.out, HP9.out, HB9.out⟩
  ·
   (obtain rfl : k = n := by omega); (go_wp2_with fail)
   go_ret
   exact ⟨w.heap.size, ps, rfl, HGR.out, hpl, HPS.out, HW.out⟩
end Go.Proofs.YtngichjgfppnpaaGreatDoor
namespace Go.Proofs.YtngichjgfppnpaaGreatDoor
open Go.RowKit Go.Shelf
set_option linter.unusedVariables false
set_option maxRecDepth 20000

structure Sd (w : World) (g b off n c : Nat) (xs : List Pc) (l : List Pq) : Prop where
  va : Va w g 96 #[.slice (some ⟨b, off, none⟩) n c]
  le : Le elT w (some ⟨b, off, none⟩) n xs
  ss : Ss w xs l
  ln : l.length = n
  ok : Sok l
  sh : Sht l
  lc : n ≤ c
theorem Sd.after {w w' : World} (hb : Below w.heap.size w w') {g b off n c : Nat} {xs : List Pc} {l : List Pq} (h : Sd w g b off n c xs l) : Sd w' g b off n c xs l := ⟨Va.after hb h.va, h.le.after hb, h.ss.after hb, h.ln, h.ok, h.sh, h.lc⟩
theorem Sd.drw {w : World} {g b off n c : Nat} {xs : List Pc} {l : List Pq} (h : Sd w g b off n c xs l) : Sd w.drew g b off n c xs l := ⟨h.va, h.le, h.ss, h.ln, h.ok, h.sh, h.lc⟩
theorem Sd.far {w : World} {g b off n c : Nat} {xs : List Pc} {l : List Pq} (h : Sd w g b off n c xs l) {b' : Nat} {t : TypeId} {cs : Array Value} (V : Va w b' t cs) (hn : NoInt cs) {w' : World} (k : ∀ c, c ≠ b' → w'.heap[c]? = w.heap[c]?) (h1 : g ≠ b') (h2 : b ≠ b') : Sd w' g b off n c xs l :=
  ⟨h.va.stay k h1, h.le.kept (fun _ c o e _ => by cases e; exact k b h2), ⟨h.ss.1, fun i hi => ⟨(h.ss.2 i hi).1.far V hn k, (h.ss.2 i hi).2.far V hn k⟩⟩, h.ln, h.ok, h.sh, h.lc⟩
theorem Sd.few {w : World} {g b off n c : Nat} {xs : List Pc} {l : List Pq} (h : Sd w g b off n c xs l) : 1 ≤ n ∧ n ≤ 8 := by have := h.ok.one; have := h.ok.few; have := h.ln; omega
theorem Sd.lts {w : World} {g b off n c : Nat} {xs : List Pc} {l : List Pq} (h : Sd w g b off n c xs l) : g < w.heap.size ∧ b < w.heap.size := ⟨h.va.lt, h.le.lt h.few.1⟩
theorem isSch_yes (g b off n c : Nat) (w : World) (h : Va w g 96 #[.slice (some ⟨b, off, none⟩) n c]) (hn : 1 ≤ n) : Calls Tryz.prog 50 #[.pointer (some ⟨g, 0, none⟩)] w fun e w' => e = .returned (.bool true) ∧ w' = w := by
  have c0 := h.cell
  have hd : (0 : Int) < (n : Int) := by omega
  clear h
  go_enter Tryz.func50, Tryz.ntmps50
  go_wp2_with fail
  go_ret
  exact ⟨by simp <;> omega, rfl⟩
set_option maxHeartbeats 8000000 in
theorem begun8_any (g b off n c : Nat) (xs : List Pc) (l : List Pq) (r : Rc) (v : Rat) (w : World) (hd : Sd w g b off n c xs l) (hr : Rv w r v) :
    Calls Tryz.prog 54 #[.pointer (some ⟨g, 0, none⟩), .agg #[.bool r.s, .slice r.a r.l r.c, .slice r.b r.m r.d]] w fun e w' => ∃ k : Nat, e = .returned (.int .i64 (k : Int)) ∧ Hid (Bg l v k) ∧ Below w.heap.size w w' := by
  have B0 : Below w.heap.size w w := Below.refl _ _
  have c0 := hd.va.cell
  have lg := hd.va.lt
  go_enter Tryz.func54, Tryz.ntmps54
  go_wp2_with fail
  refine ent1 w _ _ (Q := fun W => Code.wp Tryz.prog _ _ _ W) ?_
  intro x1 hb hs_x1 V3
  replace hd := Sd.after hb hd
  replace hr := Rv.after hb hr
  replace B0 := step B0 hb
  clear hb hs_x1
  have HD : Hid (Sd x1 g b off n c xs l) := hd
  have HR : Hid (Rv x1 r v) := hr
  have HV3 : Hid (Va x1 (w.heap.size) 36 #[.bool r.s, .slice r.a r.l r.c, .slice r.b r.m r.d]) := V3
  have HB : Hid (Below w.heap.size w x1) := B0
  clear hd hr V3 B0 c0 lg
  go_loopw [12] (fun i wr => ∃ k : Nat, k ≤ n ∧ i = .int .i64 k ∧ Hid (∀ j, j < k → aq l j ≤ v) ∧ Hid (Below x1.heap.size x1 wr)) (fun i _ => n - (intOf i).toNat)
  case atStart => exact ⟨0, Nat.zero_le _, rfl, fun j hj => absurd hj (by omega), Below.refl _ _⟩
  case round =>
    obtain ⟨k, hk, rfl, HO, HW⟩ := hrel
    have hln := HD.out.ln
    have h8 := HD.out.few.2
    by_cases hlt : k < n
    ·
      have B0 := HW.out
      have V3 := Va.after B0 HV3.out
      have hr := HR.out.after B0
      have hD := HD.out.after B0
      have hS := (hD.ss.2 k (by rw [hln]; exact hlt)).1
      have hc : At6 wr b (off + k * 6) (xs.getD k (Rc.nil, Rc.nil)) := hD.le.six rfl rfl k hlt
      clear hD
      obtain ⟨x, hx⟩ : ∃ x, aq l k = x := ⟨_, rfl⟩
      rw [hx] at hS
      have HX : Hid (aq l k = x) := hx
      clear hx
      generalize xs.getD k (Rc.nil, Rc.nil) = p at hc hS
      obtain ⟨cx, hcx⟩ : ∃ s, qcmp x v = s := ⟨_, rfl⟩
      have HCX : Hid (0 < cx ↔ v < x) := by have := cmp_gt x v; rw [hcx] at this; exact this
      obtain ⟨c0, c1, c2, c3, c4, c5⟩ := hc
      have lb := cell_lt c0
      have c_V3 := V3.d0
      have f0_V3 := V3.frozen 0
      have d_V3 := V3.d1
      have f1_V3 := V3.frozen 1
      have e_V3 := V3.d2
      have f2_V3 := V3.frozen 2
      have l_V3 := V3.lt
      have m_V3 := Nat.le_of_lt l_V3
      go_wp2_with fail
      clear c_V3 f0_V3 d_V3 f1_V3 e_V3 f2_V3 l_V3 m_V3
      refine ent1 wr _ _ (Q := fun W => Calls Tryz.prog _ _ W _) ?_
      intro x6 hb hs_x6 V6
      replace V3 := V3.a hb
      replace hr := Rv.after hb hr
      replace hS := Rv.after hb hS
      replace B0 := step B0 hb
      clear hb hs_x6
      clear c0 c1 c2 c3 c4 c5 lb
      refine (cmp_rc p.1 r x v _ hS hr).mono ?_
      rintro e x7 ⟨rfl, hb⟩
      replace V3 := V3.a hb
      replace V6 := V6.a hb
      replace hr := Rv.after hb hr
      replace hS := Rv.after hb hS
      replace B0 := step B0 hb
      clear hb
      rw [hcx]
      by_cases g1 : 0 < cx
      ·
        have e1 : decide (0 < cx) = true := decide_eq_true g1
        go_wp2_with fail
        go_ret
        exact ⟨k, rfl, ⟨by omega, HO.out, fun _ => by rw [HX.out]; exact HCX.out.1 g1⟩, step HB.out B0⟩
      ·
        have e1 : decide (0 < cx) = false := decide_eq_false g1
        have HK : Hid (aq l k ≤ v) := by show _ ≤ _; rw [HX.out]; have := HCX.out; grind
        go_wp2_with fail
        go_roundw
        case measure => simp [intOf]; omega
        case rel =>
          refine ⟨k + 1, by omega, by go_num, fun j hj => ?_, B0⟩
          rcases Nat.lt_or_ge j k with h' | h'
          · exact HO.out j h'
          · obtain rfl : j = k := by omega
            exact HK.out
    ·
      have c0 := (Va.after HW.out HD.out.va).cell
      go_wp2_with fail
      go_ret
      exact ⟨n, rfl, ⟨by omega, fun j hj => HO.out j (by omega), fun h => by omega⟩, step HB.out HW.out⟩
def NxR (w : World) (q : Rc) (t : Bool) (n k : Nat) (l : List Pq) : Prop := (t = true ∧ k < n ∧ Rv w q (aq l k)) ∨ (t = false ∧ k = n ∧ Rv w q 0)
set_option maxHeartbeats 8000000 in
theorem next8_any (g b off n c : Nat) (xs : List Pc) (l : List Pq) (r : Rc) (v : Rat) (w : World) (hd : Sd w g b off n c xs l) (hr : Rv w r v) (k : Nat) (hk : Bg l v k) :
    Calls Tryz.prog 20 #[.pointer (some ⟨g, 0, none⟩), .agg #[.bool r.s, .slice r.a r.l r.c, .slice r.b r.m r.d]] w fun e w' => ∃ (q : Rc) (t : Bool), e = .returned (.tuple #[.agg #[.bool q.s, .slice q.a q.l q.c, .slice q.b q.m q.d], .bool t]) ∧ Hid (NxR w' q t n k l) ∧ Below w.heap.size w w' := by
  have HK : Hid (Bg l v k) := hk
  clear hk
  have B0 : Below w.heap.size w w := Below.refl _ _
  go_enter Tryz.func20, Tryz.ntmps20
  go_wp2_with fail
  refine ent2 w _ _ _ _ (Q := fun W => Calls Tryz.prog _ _ W _) ?_
  intro x1 hb hs_x1 V3 V4
  replace hd := Sd.after hb hd
  replace hr := Rv.after hb hr
  replace B0 := step B0 hb
  clear hb hs_x1
  have h1 := hd.ok.one
  have hln := hd.ln
  refine (isSch_yes g b off n c _ hd.va (by omega)).mono ?_
  rintro e wz ⟨rfl, hw⟩
  rw [hw]
  clear hw wz h1
  have c_V3 := V3.d0
  have f0_V3 := V3.frozen 0
  have d_V3 := V3.d1
  have f1_V3 := V3.frozen 1
  have e_V3 := V3.d2
  have f2_V3 := V3.frozen 2
  have l_V3 := V3.lt
  have m_V3 := Nat.le_of_lt l_V3
  go_wp2_with fail
  refine (begun8_any g b off n c xs l r v _ hd hr).mono ?_
  rintro e x2 ⟨k', rfl, hk', hb⟩
  clear c_V3 f0_V3 d_V3 f1_V3 e_V3 f2_V3 l_V3 m_V3
  replace V3 := V3.a hb
  replace V4 := V4.a hb
  replace hd := Sd.after hb hd
  replace hr := Rv.after hb hr
  replace B0 := step B0 hb
  obtain rfl := hk'.out.uniq HK.out
  clear hb hk'
  have hkn := HK.out.le
  by_cases hlt : k' < n
  ·
    have e1 : ((k' : Int) == (n : Int)) = false := by simp; omega
    have c0 := hd.va.cell
    have hS := (hd.ss.2 k' (by omega)).1
    have hc : At6 x2 b (off + k' * 6) (xs.getD k' (Rc.nil, Rc.nil)) := hd.le.six rfl rfl k' hlt
    generalize xs.getD k' (Rc.nil, Rc.nil) = p at hc hS
    obtain ⟨c1, c2, c3, -, -, -⟩ := hc
    have c_V4 := V4.d0
    have f0_V4 := V4.frozen 0
    have d_V4 := V4.d1
    have f1_V4 := V4.frozen 1
    have e_V4 := V4.d2
    have f2_V4 := V4.frozen 2
    have l_V4 := V4.lt
    have m_V4 := Nat.le_of_lt l_V4
    go_wp2_with fail
    clear c_V4 f0_V4 d_V4 f1_V4 e_V4 f2_V4 l_V4 m_V4
    refine bodyPost_ret (results_rt rfl rfl (V4.set3 _ _ _)) rfl ?_
    have VV := V4
    exact ⟨p.1, true, rfl, .inl ⟨rfl, hlt, hS.far V4 (noInt3 _ _ _ _ _ _ _) (fa3 _ _ _ _ _)⟩, belo3 B0 (by omega) _ _ _⟩
  ·
    obtain rfl : k' = n := by omega
    have c0 := hd.va.cell
    have c_V4 := V4.d0
    have f0_V4 := V4.frozen 0
    have d_V4 := V4.d1
    have f1_V4 := V4.frozen 1
    have e_V4 := V4.d2
    have f2_V4 := V4.frozen 2
    have l_V4 := V4.lt
    have m_V4 := Nat.le_of_lt l_V4
    go_wp2_with fail
    clear c_V4 f0_V4 d_V4 f1_V4 e_V4 f2_V4 l_V4 m_V4
    refine bodyPost_ret (results_rt rfl rfl (V4.set3 _ _ _)) rfl ?_
    exact ⟨Rc.nil, false, rfl, .inr ⟨rfl, rfl, Rv.nil _⟩, belo3 B0 (by omega) _ _ _⟩
set_option maxHeartbeats 8000000 in
theorem slope8_ok (g b off n c : Nat) (xs : List Pc) (l : List Pq) (r : Rc) (v : Rat) (w : World) (hd : Sd w g b off n c xs l) (hr : Rv w r v) (k : Nat) (hk : Bg l v k) (h0 : 0 ≤ v) :
    Calls Tryz.prog 19 #[.pointer (some ⟨g, 0, none⟩), .agg #[.bool r.s, .slice r.a r.l r.c, .slice r.b r.m r.d]] w fun e w' => ∃ q : Rc, e = .returned (.tuple #[.agg #[.bool q.s, .slice q.a q.l q.c, .slice q.b q.m q.d], .int .i64 0]) ∧ Rv w' q (rq l (k - 1)) ∧ Below w.heap.size w w' := by
  have HK : Hid (Bg l v k) := hk; have HK1 : Hid (1 ≤ k) := hk.pos hd.ok h0; have L0 := hd.lts; (obtain ⟨sv, hsv⟩ : ∃ s, Int.sign v.num = s := ⟨_, rfl⟩); (have hs0 : ¬ sv < 0 := by have := sgn_lt v; rw [hsv] at this; rw [this]; grind); clear hk h0; have B0 : Below w.heap.size w w := Below.refl _ _
  go_enter Tryz.func19, Tryz.ntmps19
  (go_wp2_with fail); refine ent2 w _ _ _ _ (Q := fun W => Calls Tryz.prog _ _ W _) ?_; intro x1 hb hs_x1 V3 V4; replace hd := Sd.after hb hd; replace hr := Rv.after hb hr; replace B0 := step B0 hb; clear hb hs_x1; have h1 := hd.ok.one; have hln := hd.ln; refine (isSch_yes g b off n c _ hd.va (by omega)).mono ?_; rintro e wz ⟨rfl, hw⟩; rw [hw]; clear hw wz h1; have c_V3 := V3.d0; have f0_V3 := V3.frozen 0; have d_V3 := V3.d1; have f1_V3 := V3.frozen 1; have e_V3 := V3.d2; have f2_V3 := V3.frozen 2; have l_V3 := V3.lt; have m_V3 := Nat.le_of_lt l_V3; (go_wp2_with fail); refine (sign_rc r v _ hr).mono ?_; rintro e x2 ⟨rfl, hb⟩; replace V3 := V3.a hb; replace V4 := V4.a hb; replace hd := Sd.after hb hd; replace hr := Rv.after hb hr; replace B0 := step B0 hb; clear hb; rw [hsv]; have e1 : decide (sv < 0) = false := decide_eq_false (by omega); clear c_V3 f0_V3 d_V3 f1_V3 e_V3 f2_V3 l_V3 m_V3; (go_wp2_with fail); (obtain ⟨j, rfl⟩ : ∃ j, k = j + 1 := ⟨k - 1, by have := HK1.out; omega⟩)
  have hkn := HK.out.le; have lts := hd.lts; have lt0 : g < w.heap.size ∧ b < w.heap.size := L0; have hS := (hd.ss.2 j (by omega)).2; have hc : At6 x2 b (off + j * 6) (xs.getD j (Rc.nil, Rc.nil)) := hd.le.six rfl rfl j (by omega)
  generalize xs.getD j (Rc.nil, Rc.nil) = p at hc hS
  (have hjn : j < n := by omega); have h8 := hd.few.2; refine wp_region_noPanic ?_; replace V3 : Va x2.drew _ _ _ := V3; replace V4 : Va x2.drew _ _ _ := V4; replace hd := hd.drw; replace hr := hr.drw; replace hc := hc.drw; replace hS := hS.drw; replace B0 := Below.drew B0; refine wp_region_held_drew (S := (fun W => W.cell? ⟨w.heap.size, 0, none⟩ = some (.bool r.s) ∧ W.cell? ⟨w.heap.size, 1, none⟩ = some (.slice r.a r.l r.c) ∧ W.cell? ⟨w.heap.size, 2, none⟩ = some (.slice r.b r.m r.d) ∧ W.cell? ⟨g, 0, none⟩ = some (.slice (some ⟨b, off, none⟩) n c) ∧ W.cell? ⟨b, off + j * 6, none⟩ = some (.bool p.1.s) ∧ W.cell? ⟨b, off + j * 6 + 1, none⟩ = some (.slice p.1.a p.1.l p.1.c) ∧ W.cell? ⟨b, off + j * 6 + 2, none⟩ = some (.slice p.1.b p.1.m p.1.d) ∧ W.cell? ⟨b, off + j * 6 + 3, none⟩ = some (.bool p.2.s) ∧ W.cell? ⟨b, off + j * 6 + 4, none⟩ = some (.slice p.2.a p.2.l p.2.c) ∧ W.cell? ⟨b, off + j * 6 + 5, none⟩ = some (.slice p.2.b p.2.m p.2.d))) (by kernel_rfl) ⟨V3.d0, V3.d1, V3.d2, hd.va.cell, hc.c0, hc.c1, hc.c2, hc.c3, hc.c4, hc.c5⟩ (fun hHeld => ?_)
  (obtain ⟨x3, hxd⟩ : ∃ xd, xd = x2.drew := ⟨_, rfl⟩); rw [← hxd] at V3 V4 hd hr hc hS B0 hHeld ⊢; clear hxd; refine tjz 0 hHeld ?_; refine tjz 1 hHeld ?_; refine tjz 2 hHeld ?_; refine tjz 3 hHeld ?_; refine tjz 4 hHeld ?_; refine tjz 5 hHeld ?_; refine ryz 6 (fun K hK => ?_); simp only [gA, gB, gC]; (go_simp); refine (begun8_any g b off n c xs l r v _ hd hr).mono ?_; rintro e x4 ⟨k', rfl, hk', hb⟩; replace V3 := V3.a hb; replace V4 := V4.a hb; replace hd := Sd.after hb hd; replace hr := Rv.after hb hr; replace hc := At6.after hb hc; replace hS := Rv.after hb hS
  replace B0 := step B0 hb; clear hb; (have e2 : (k' : Int) - 1 = (j : Int) := by have := hk'.out.uniq HK.out; omega); clear hk'; (try go_wp2_with fail); refine hK.out _ _ ⟨V3.d0, V3.d1, V3.d2, hd.va.cell, hc.c0, hc.c1, hc.c2, hc.c3, hc.c4, hc.c5⟩ (fun hHeld => ?_); clear hK K; refine wpAnyH_take (i := 7) (v := .int .i64 (j : Int)) rfl (by kernel_rfl) (by kernel_rfl) (by kernel_rfl) (fun _ _ _ h => h) (Or.inl ⟨by rfl, ?_⟩) hHeld ?_
  · (intro W hSw; (try dsimp only at hSw); go_simp; (simp only [IntKind.wrap_i64]; omega))
  simp only [gA, gB, gC, Act.put, gD, gE, gF]; refine tjz 8 hHeld ?_; refine tjz 9 hHeld ?_; refine tjz 10 hHeld ?_; have c_V4 := V4.d0; have f0_V4 := V4.frozen 0; have d_V4 := V4.d1; have f1_V4 := V4.frozen 1; have e_V4 := V4.d2; have f2_V4 := V4.frozen 2; have l_V4 := V4.lt; have m_V4 := Nat.le_of_lt l_V4; refine ryz 11 (fun K hK => ?_); simp only [gA, gB, gC]; (go_simp); clear c_V4 f0_V4 d_V4 f1_V4 e_V4 f2_V4 l_V4 m_V4; refine sto3 V4 (.bool p.2.s) (.slice p.2.a p.2.l p.2.c) (.slice p.2.b p.2.m p.2.d) (Q := fun W => K _ W) ?_; intro x5 V' oth far; replace V3 := apz (oth _ _ _) V3; replace hr := hr.far V4 (noInt3 _ _ _ _ _ _ _) far.1; replace hS := hS.far V4 (noInt3 _ _ _ _ _ _ _) far.1
  replace B0 := apz (far.2 _ _) B0; replace hd := hd.far V4 (noInt3 _ _ _ _ _ _ _) far.1 (by omega) (by omega); replace hc := hc.far far.1 (by omega); replace V4 := V'; clear oth far; refine hK.out _ _ ⟨V3.d0, V3.d1, V3.d2, hd.va.cell, hc.c0, hc.c1, hc.c2, hc.c3, hc.c4, hc.c5⟩ (fun hHeld => ?_); clear hK K; refine tjz 12 hHeld ?_; refine dnz ?_; clear hHeld; (go_wp2_with fail); refine bodyPost_ret (results_rt rfl rfl V4) rfl ?_; exact ⟨p.2, rfl, hS, B0⟩
end Go.Proofs.YtngichjgfppnpaaGreatDoor
namespace Go.Proofs.YtngichjgfppnpaaGreatDoor
open Go.RowKit Go.Shelf
set_option linter.unusedVariables false

theorem isPlaces_yes (P : Int) (h0 : 0 ≤ P) (h9 : P ≤ 9) (w : World) : Calls Tryz.prog 107 #[.int .i64 P] w fun e w' => e = .returned (.bool true) ∧ w' = w := by
  go_enter Tryz.func107, Tryz.ntmps107
  go_wp2_with fail
  go_ret
  exact ⟨rfl, rfl⟩
theorem isPlaces_no (P : Int) (h : ¬ (0 ≤ P ∧ P ≤ 9)) (w : World) : Calls Tryz.prog 107 #[.int .i64 P] w fun e w' => e = .returned (.bool false) ∧ w' = w := by
  by_cases h0 : 0 ≤ P
  · have h9 : ¬ P ≤ 9 := fun h9 => h ⟨h0, h9⟩
    go_enter Tryz.func107, Tryz.ntmps107
    go_wp2_with fail
    go_ret
    exact ⟨rfl, rfl⟩
  · go_enter Tryz.func107, Tryz.ntmps107
    go_wp2_with fail
    go_ret
    exact ⟨rfl, rfl⟩
def CanI (U P : Int) : Prop := 0 ≤ P ∧ P ≤ 9 ∧ (0 < P → U.tmod 10 ≠ 0)
theorem canI_iff (U : Int) (P : Nat) : CanI U P ↔ Can U P := by
  unfold CanI Can
  constructor
  · rintro ⟨h1, h2, h3⟩
    exact ⟨by omega, fun h => by have := h3 (by omega); rwa [Ne, tmod_iff] at this⟩
  · rintro ⟨h1, h2⟩
    exact ⟨by omega, by omega, fun h => by rw [Ne, tmod_iff]; exact h2 (by omega)⟩
set_option maxHeartbeats 1000000 in
theorem check_ok (U P : Int) (h : CanI U P) (w : World) : Calls Tryz.prog 82 #[.agg #[.int .i64 U, .int .i64 P]] w fun e w' => e = .returned (.int .i64 0) ∧ Below w.heap.size w w' := by
  obtain ⟨h0, h9, h3⟩ := h
  by_cases hp : 0 < P
  · obtain ⟨m, hm⟩ : ∃ m, U.tmod 10 = m := ⟨_, rfl⟩
    have hm0 : (m == 0) = false := by have := h3 hp; rw [hm] at this; simpa using this
    go_enter Tryz.func82, Tryz.ntmps82
    go_wp2_with (go_at_call 107; refine (isPlaces_yes P h0 h9 _).mono ?_; rintro e w' ⟨rfl, rfl⟩)
    go_ret
    exact ⟨rfl, (Below.refl _ _).alloc (Nat.le_refl _) _⟩
  · go_enter Tryz.func82, Tryz.ntmps82
    go_wp2_with (go_at_call 107; refine (isPlaces_yes P h0 h9 _).mono ?_; rintro e w' ⟨rfl, rfl⟩)
    go_ret
    exact ⟨rfl, (Below.refl _ _).alloc (Nat.le_refl _) _⟩
set_option maxHeartbeats 1000000 in
theorem check_no (U P : Int) (h : ¬ CanI U P) (w : World) : Calls Tryz.prog 82 #[.agg #[.int .i64 U, .int .i64 P]] w fun e w' => e = .returned (.int .i64 60) ∧ Below w.heap.size w w' := by
  by_cases h1 : 0 ≤ P ∧ P ≤ 9
  · have hp : 0 < P := by
      rcases Int.lt_or_le 0 P with h' | h'
      · exact h'
      · exact absurd ⟨h1.1, h1.2, fun hh => by omega⟩ h
    have hm : U.tmod 10 = 0 := by
      rcases Decidable.em (U.tmod 10 = 0) with h' | h'
      · exact h'
      · exact absurd ⟨h1.1, h1.2, fun _ => h'⟩ h
    go_enter Tryz.func82, Tryz.ntmps82
    go_wp2_with (go_at_call 107; refine (isPlaces_yes P h1.1 h1.2 _).mono ?_; rintro e w' ⟨rfl, rfl⟩)
    go_ret
    exact ⟨rfl, (Below.refl _ _).alloc (Nat.le_refl _) _⟩
  · go_enter Tryz.func82, Tryz.ntmps82
    go_wp2_with (go_at_call 107; refine (isPlaces_no P h1 _).mono ?_; rintro e w' ⟨rfl, rfl⟩)
    go_ret
    exact ⟨rfl, (Below.refl _ _).alloc (Nat.le_refl _) _⟩
end Go.Proofs.YtngichjgfppnpaaGreatDoor
namespace Go.Proofs.YtngichjgfppnpaaGreatDoor
open Go.RowKit Go.Shelf
set_option linter.unusedVariables false

theorem Va.set317 {w : World} {b : Nat} {t : TypeId} {x y z : Value} (h : Va w b t #[x, y, z]) (y' : Value) : Va (w.setCell ⟨b, 1, none⟩ y') b t #[x, y', z] := by
  unfold Va at *
  simp only [World.setCell]
  rw [Array.getElem?_modify, if_pos rfl, h]
  simp
theorem Va.set327 {w : World} {b : Nat} {t : TypeId} {x y z : Value} (h : Va w b t #[x, y, z]) (z' : Value) : Va (w.setCell ⟨b, 2, none⟩ z') b t #[x, y, z'] := by
  unfold Va at *
  simp only [World.setCell]
  rw [Array.getElem?_modify, if_pos rfl, h]
  simp
theorem fak (w : World) (b i : Nat) (x : Value) : ∀ c, c ≠ b → (w.setCell ⟨b, i, none⟩ x).heap[c]? = w.heap[c]? := fun c hc => Below.heap_setCell _ ⟨b, i, none⟩ _ _ hc
theorem sto317 {W : World} {b : Nat} {t : TypeId} {x y z : Value} (h : Va W b t #[x, y, z]) (y' : Value) {Q : World → Prop}
    (k : ∀ V, Va V b t #[x, y', z] → (∀ c t cs, c ≠ b → Va W c t cs → Va V c t cs) → ((∀ c, c ≠ b → V.heap[c]? = W.heap[c]?) ∧ (∀ B v, B ≤ b → Below B v W → Below B v V)) → Q V) : Q (W.setCell ⟨b, 1, none⟩ y') :=
  k _ (h.set317 y') (fun c t cs hc hv => hv.stay (fak W b 1 y') hc) ⟨fak W b 1 y', fun B v hB hb => hb.setCell (p := ⟨b, 1, none⟩) hB y'⟩
def Sh (w : World) (a : Option Addr) (l c k : Nat) (zs : List Int) : Prop := Sl w a l zs ∧ usedN zs = l ∧ l ≤ c ∧ l ≤ k
theorem Sh.after {w w' : World} (hb : Below w.heap.size w w') {a : Option Addr} {l c k : Nat} {zs : List Int} (h : Sh w a l c k zs) : Sh w' a l c k zs := ⟨Sl.after hb h.1, h.2⟩
theorem Sh.drw {w : World} {a : Option Addr} {l c k : Nat} {zs : List Int} (h : Sh w a l c k zs) : Sh w.drew a l c k zs := h
theorem Sh.far {w : World} {a : Option Addr} {l c k : Nat} {zs : List Int} (h : Sh w a l c k zs) {b : Nat} {t : TypeId} {cs : Array Value} (V : Va w b t cs) (hn : NoInt cs) {w' : World} (q : ∀ c, c ≠ b → w'.heap[c]? = w.heap[c]?) : Sh w' a l c k zs := ⟨h.1.far V hn q, h.2⟩
end Go.Proofs.YtngichjgfppnpaaGreatDoor
