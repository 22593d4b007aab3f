/-
  traits: forms, asIs, turned, gather.
-/
import Derived.Test.YtblafbbnplfpjaaGreatDoorTr9
namespace Go.Proofs.YtblafbbnplfpjaaGreatDoor
open Go.RowKit Go.Shelf
set_option linter.unusedVariables false

/-- A tree's two forms, as two lists. -/
structure Fm where
  ya : Option Addr
  yl : Nat
  yc : Nat
  na : Option Addr
  nl : Nat
  nc : Nat
def fm0 : Fm := ⟨none, 0, 0, none, 0, 0⟩
theorem infoF : (Tryz.prog.info? 76).map (fun i => (i.zero, i.size, i.bytes)) = some (some (.agg #[.slice none 0 0, .slice none 0 0]), 2, 48) := by kernel_rfl
def elF : El Fm where
  enc := fun x => [.slice x.ya x.yl x.yc, .slice x.na x.nl x.nc]
  dft := fm0
  te := 76
  tl := 102
  z := .agg #[.slice none 0 0, .slice none 0 0]
  s := 2
  by8 := 48
  len := fun _ => rfl
  one := fun x v hv => by
    simp at hv
    rcases hv with rfl | rfl <;> rfl
  pos := by decide
  und := Tryz.underlying102
  inf := infoF
  zs := rfl
  bt := by decide
abbrev fmv (x : Fm) : Value := .agg #[.slice x.ya x.yl x.yc, .slice x.na x.nl x.nc]
/-- The plain form, or that of the Not. -/
def Fm.ad (x : Fm) (neg : Bool) : Option Addr := if neg then x.na else x.ya
def Fm.ln (x : Fm) (neg : Bool) : Nat := if neg then x.nl else x.yl
def Fm.cp (x : Fm) (neg : Bool) : Nat := if neg then x.nc else x.yc
theorem asIs_any (x : Fm) (w : World) : Calls Tryz.prog 67 #[fmv x] w fun e w' => e = .returned (.slice (x.ad false) (x.ln false) (x.cp false)) ∧ Below w.heap.size w w' := by
  obtain ⟨ya, yl, yc, na, nl, nc⟩ := x
  dsimp only [fmv]
  go_enter Tryz.func67, Tryz.ntmps67
  go_wp2_with fail
  go_ret
  exact ⟨rfl, (Below.refl _ _).alloc (Nat.le_refl _) _⟩
theorem turned_any (x : Fm) (w : World) : Calls Tryz.prog 68 #[fmv x] w fun e w' => e = .returned (.slice (x.ad true) (x.ln true) (x.cp true)) ∧ Below w.heap.size w w' := by
  obtain ⟨ya, yl, yc, na, nl, nc⟩ := x
  dsimp only [fmv]
  go_enter Tryz.func68, Tryz.ntmps68
  go_wp2_with fail
  go_ret
  exact ⟨rfl, (Below.refl _ _).alloc (Nat.le_refl _) _⟩
theorem take_one {α : Type} {l : List α} {i : Nat} {d : α} (h : i < l.length) : l.take (i + 1) = l.take i ++ [l.getD i d] := by
  rw [List.take_add_one, List.getD_eq_getElem?_getD, List.getElem?_eq_getElem h]; rfl
/-- What gather is told of each kid. -/
def KdR (w : World) (neg : Bool) (c : Int) (x : Fm) (t : List Nd) : Prop :=
  x.ln neg = t.length ∧ t.length ≤ x.cp neg ∧ x.cp neg ≤ maxLen ∧ Le elN w (x.ad neg) t.length t ∧ t ≠ [] ∧ t.length ≤ 200 ∧ ((t.headD nd0).kd = c → 2 ≤ t.length ∧ 0 ≤ (t.headD nd0).ks ∧ (t.headD nd0).ks ≤ 200)
def gN (c : Int) (ls : List (List Nd)) : Nd := ⟨c, gatN c ls, [], 0, 0, 0⟩

set_option maxHeartbeats 8000000 in
theorem gather_yes (c : Int) (hc : c = 1 ∨ c = 2) (xs : List Fm) (ak : Option Addr) (ck : Nat) (ls : List (List Nd)) (w : World) (hK : Le elF w ak xs.length xs) (hxl : xs.length ≤ 64) (hll : ls.length = xs.length) (hR : ∀ i, i < xs.length → KdR w false c (xs.getD i fm0) (ls.getD i [])) :
    Calls Tryz.prog 66 #[.int .i64 c, .slice ak xs.length ck, .func (.func 67) #[] #[]] w fun e w' => ∃ a' c', e = .returned (.slice a' ((gatL c ls).length + 1) c') ∧ Ge elN w' w.heap.size (.slice a' ((gatL c ls).length + 1) c') (gN c ls :: gatL c ls) ∧ Below w.heap.size w w' := by
  have HK : Hid (Le elF w ak xs.length xs) := hK
  have HRR : Hid (∀ i, i < xs.length → KdR w false c (xs.getD i fm0) (ls.getD i [])) := hR
  have HLL : Hid (ls.length = xs.length) := hll
  clear hK hR hll
  have B0 : Below w.heap.size w w := Below.refl _ _
  go_enter Tryz.func66, Tryz.ntmps66
  go_upto_region 2 with fail
  refine ent1 w _ _ (Q := fun W => Code.wp _ _ _ _ W) ?_
  intro W1 hb1 hs1 V1
  have HG1 : Hid (Ge elN W1 w.heap.size (.slice (some ⟨w.heap.size, 0, none⟩) 1 1) [⟨c, 0, [], 0, 0, 0⟩]) := Ge.of V1 (Nat.le_refl _) rfl rfl (by decide)
  have HB1 : Hid (Below w.heap.size w W1) := hb1
  have hsz1 : w.heap.size + 1 ≤ W1.heap.size := by omega
  clear V1 hb1 hs1 B0
  go_wp2_with fail
  go_loopw [7, 9, 10, 16] (fun li _ _ j wr => ∃ (i cnt : Nat) (body : List Nd), j = .int .i64 i ∧ i ≤ xs.length ∧ Hid ((cnt : Int) = gatN c (ls.take i) ∧ body = gatL c (ls.take i)) ∧ cnt ≤ 200 * i ∧ body.length ≤ 200 * i ∧ Hid (Ge elN wr w.heap.size li (⟨c, cnt, [], 0, 0, 0⟩ :: body)) ∧ Hid (Below w.heap.size w wr) ∧ w.heap.size + 1 ≤ wr.heap.size) (fun _ _ _ j _ => (xs.length - (intOf j).toNat : Nat))
  case atStart => exact ⟨0, 0, [], rfl, Nat.zero_le _, ⟨rfl, rfl⟩, Nat.zero_le _, Nat.zero_le _, HG1.out, HB1.out, hsz1⟩
  case round =>
    clear HG1 HB1 hsz1
    obtain ⟨i, cnt, body, rfl, hi, HI, hcb, hbb, HG, HB, hsz⟩ := hrel
    obtain ⟨ao, co, hli, hco, hcm, hsh⟩ := HG.out.shape
    obtain ⟨go, rfl⟩ : ∃ g, ao = some ⟨g, 0, none⟩ := by
      rcases hsh with ⟨-, h, -⟩ | h
      · cases h
      · exact h
    subst hli
    rw [List.length_cons] at *
    clear hsh
    have hgo : w.heap.size ≤ go := HG.out.block go rfl
    have hgo2 : go < wr.heap.size := HG.out.lt go rfl
    rcases Nat.lt_or_ge i xs.length with hlt | hge
    · have hii : (i : Int) < xs.length := by omega
      obtain ⟨bk, ofk, rfl⟩ := HK.out.ex (by omega)
      have k0 : wr.cell? ⟨bk, ofk + i * 2, none⟩ = some (.slice (xs.getD i fm0).ya (xs.getD i fm0).yl (xs.getD i fm0).yc) := (HK.out.after HB.out).at i hlt 0 _ rfl
      have k1 : wr.cell? ⟨bk, ofk + i * 2 + 1, none⟩ = some (.slice (xs.getD i fm0).na (xs.getD i fm0).nl (xs.getD i fm0).nc) := by rw [Nat.add_assoc]; exact (HK.out.after HB.out).at i hlt 1 _ rfl
      have hr := HRR.out i hlt
      have HTK : Hid (ls.take (i + 1) = ls.take i ++ [ls.getD i []]) := take_one (by have := HLL.out; omega)
      obtain ⟨x, hx⟩ : ∃ x, xs.getD i fm0 = x := ⟨_, rfl⟩
      obtain ⟨t, ht⟩ : ∃ t, ls.getD i [] = t := ⟨_, rfl⟩
      rw [hx] at k0 k1 hr
      rw [ht] at HTK hr
      clear hx ht
      obtain ⟨hln, hcp, hcpm, hle, hne, hl200, hhd⟩ := hr
      obtain ⟨h, tt, rfl⟩ : ∃ h tt, t = h :: tt := by
        cases t with
        | nil => exact absurd rfl hne
        | cons h tt => exact ⟨h, tt, rfl⟩
      have C9 := fun W => asIs_any x W
      rw [hln] at C9
      obtain ⟨tb, tof, hta⟩ := hle.ex (by simp)
      rw [hta] at C9 hle
      have htb : tb < w.heap.size := hle.lt (by simp)
      have HLe : Hid (Le elN w (some ⟨tb, tof, none⟩) (h :: tt).length (h :: tt)) := hle
      obtain ⟨tc, htc⟩ : ∃ tc, x.cp false = tc := ⟨_, rfl⟩
      rw [htc] at C9 hcp hcpm
      rw [List.length_cons] at *
      dsimp only [List.headD_cons] at hhd
      clear hln hta hne hle htc
      go_upto_region 5 with fail
      refine ent1 wr _ _ (Q := fun W => Code.wp _ _ _ _ W) ?_
      intro W1 hb1 hs1 V1
      have v0 := V1.c0
      have v1 := V1.c1
      have D9 := C9 W1
      clear C9
      go_wp2_with fail
      refine D9.mono ?_
      rintro e W2 ⟨rfl, hb2⟩
      have hb12 := step hb1 hb2
      have HB2 : Hid (Below w.heap.size w W2) := HB.out.trans (hb12.mono (by omega))
      have HG2 : Hid (Ge elN W2 w.heap.size (.slice (some ⟨go, 0, none⟩) (body.length + 1) co) (⟨c, cnt, [], 0, 0, 0⟩ :: body)) := HG.out.after hb12
      have hsz2 : w.heap.size + 1 ≤ W2.heap.size := by have := hb12.size; omega
      have T2 := HLe.out.after HB2.out
      have t0 : W2.cell? ⟨tb, tof, none⟩ = some (.int .i64 h.kd) := by have := T2.at 0 (by simp) 0 _ rfl; simpa [elN] using this
      have t1 : W2.cell? ⟨tb, tof + 1, none⟩ = some (.int .i64 h.ks) := by have := T2.at 0 (by simp) 1 _ rfl; simpa [elN] using this
      have o1 : W2.cell? ⟨go, 1, none⟩ = some (.int .i64 cnt) := by have := HG2.out.toLe.at 0 (by simp) 1 _ rfl; simpa [elN] using this
      have g1 := HG2.out.frozen 1
      clear D9 v0 v1 V1 hb1 hb2 hb12 hs1 T2 HG HB k0 k1
      have hN0 : (0 : Int) < (body.length : Int) + 1 := by omega
      have hT0 : (0 : Int) < (tt.length : Int) + 1 := by omega
      by_cases hk : h.kd = c
      · obtain ⟨hl2, hk0, hk2⟩ := hhd hk
        have hkb : (h.kd == c) = true := by simpa using hk
        obtain ⟨kn, hkn⟩ : ∃ kn : Nat, h.ks = kn := ⟨h.ks.toNat, by omega⟩
        rw [hkn] at t1
        have HKN : Hid (h.kd = c ∧ h.ks = kn) := ⟨hk, hkn⟩
        have hkn2 : kn ≤ 200 := by omega
        have hne : tb ≠ go := by omega
        have wr1 : IntKind.i64.wrap ((cnt : Int) + kn) = (cnt : Int) + kn := by rw [IntKind.wrap_i64]; omega
        clear hhd hk hkn hk0 hk2
        go_wp2_with fail
        refine wp_region_noPanic ?_
        replace HG2 : Hid (Ge elN W2.drew w.heap.size (.slice (some ⟨go, 0, none⟩) (body.length + 1) co) (⟨c, cnt, [], 0, 0, 0⟩ :: body)) := HG2
        replace HB2 : Hid (Below w.heap.size w W2.drew) := HB2.out.drew
        replace t1 : W2.drew.cell? ⟨tb, tof + 1, none⟩ = some (.int .i64 kn) := t1
        replace o1 : W2.drew.cell? ⟨go, 1, none⟩ = some (.int .i64 cnt) := o1
        replace g1 : W2.drew.frozen? ⟨go, 1, none⟩ = false := g1
        replace hsz2 : w.heap.size + 1 ≤ W2.drew.heap.size := hsz2
        refine wp_region_held_drew (S := fun W => W.cell? ⟨tb, tof + 1, none⟩ = some (.int .i64 kn)) (by kernel_rfl) t1 (fun hHeld => ?_)
        obtain ⟨xd, hxd⟩ : ∃ xd, xd = W2.drew := ⟨_, rfl⟩
        rw [← hxd] at HG2 HB2 t1 o1 g1 hsz2 hHeld ⊢
        clear hxd
        refine wpAnyH_take (i := 0) (v := ?_) rfl (by kernel_rfl) (by kernel_rfl) (by kernel_rfl) (fun _ _ _ h => h) (Or.inl ⟨by rfl, ?_⟩) hHeld ?_
        rotate_left
        · (intro W hSw; (try dsimp only at hSw); go_simp; all_goals (with_reducible rfl))
        simp only [List.getElem_toArray, List.getElem_cons_zero, Act.put, List.setIfInBounds_toArray, List.set_cons_zero, List.set_cons_succ]
        refine wpAnyH_take (i := 1) (v := ?_) rfl (by kernel_rfl) (by kernel_rfl) (by kernel_rfl) (fun _ _ _ h => h) (Or.inl ⟨by rfl, ?_⟩) hHeld ?_
        rotate_left
        · (intro W hSw; (try dsimp only at hSw); go_simp; all_goals (with_reducible rfl))
        simp only [List.getElem_toArray, List.getElem_cons_zero, List.getElem_cons_succ, Act.put, List.setIfInBounds_toArray, List.set_cons_zero, List.set_cons_succ]
        refine wpAnyH_take (i := 2) (v := ?_) rfl (by kernel_rfl) (by kernel_rfl) (by kernel_rfl) (fun _ _ _ h => h) (Or.inl ⟨by rfl, ?_⟩) hHeld ?_
        rotate_left
        · (intro W hSw; (try dsimp only at hSw); go_simp; all_goals (with_reducible rfl))
        simp only [List.getElem_toArray, List.getElem_cons_zero, List.getElem_cons_succ, Act.put, List.setIfInBounds_toArray, List.set_cons_zero, List.set_cons_succ]
        refine wpAnyH_take (i := 4) (v := ?_) rfl (by kernel_rfl) (by kernel_rfl) (by kernel_rfl) (fun _ _ _ h => h) (Or.inl ⟨by rfl, ?_⟩) hHeld ?_
        rotate_left
        · (intro W hSw; (try dsimp only at hSw); go_simp; all_goals (with_reducible rfl))
        simp only [List.getElem_toArray, List.getElem_cons_zero, List.getElem_cons_succ, Act.put, List.setIfInBounds_toArray, List.set_cons_zero, List.set_cons_succ]
        refine wpAnyH_take (i := 5) (v := ?_) rfl (by kernel_rfl) (by kernel_rfl) (by kernel_rfl) (fun _ _ _ h => h) (Or.inl ⟨by rfl, ?_⟩) hHeld ?_
        rotate_left
        · (intro W hSw; (try dsimp only at hSw); go_simp; all_goals (with_reducible rfl))
        simp only [List.getElem_toArray, List.getElem_cons_zero, List.getElem_cons_succ, Act.put, List.setIfInBounds_toArray, List.set_cons_zero, List.set_cons_succ]
        refine wpAnyH_take (i := 6) (v := ?_) rfl (by kernel_rfl) (by kernel_rfl) (by kernel_rfl) (fun _ _ _ h => h) (Or.inl ⟨by rfl, ?_⟩) hHeld ?_
        rotate_left
        · (intro W hSw; (try dsimp only at hSw); go_simp; all_goals (with_reducible rfl))
        simp only [List.getElem_toArray, List.getElem_cons_zero, List.getElem_cons_succ, Act.put, List.setIfInBounds_toArray, List.set_cons_zero, List.set_cons_succ]
        refine wpAnyH_take (i := 7) (v := ?_) rfl (by kernel_rfl) (by kernel_rfl) (by kernel_rfl) (fun _ _ _ h => h) (Or.inl ⟨by rfl, ?_⟩) hHeld ?_
        rotate_left
        · (intro W hSw; (try dsimp only at hSw); go_simp; all_goals (with_reducible rfl))
        simp only [List.getElem_toArray, List.getElem_cons_zero, List.getElem_cons_succ, Act.put, List.setIfInBounds_toArray, List.set_cons_zero, List.set_cons_succ]
        refine wpAnyH_ready (rs := [3]) (by kernel_rfl) (by simp) ?_
        refine AllReadyH.cons rfl (fun K hK => ?_) AllReadyH.nil
        simp only [List.getElem_toArray, List.getElem_cons_zero, List.getElem_cons_succ]
        go_simp
        refine hK.out _ _ t1 (fun hHeld => ?_)
        clear hK K
        refine wpAnyH_take (i := 8) (v := ?_) rfl (by kernel_rfl) (by kernel_rfl) (by kernel_rfl) (fun _ _ _ h => h) (Or.inl ⟨by rfl, ?_⟩) hHeld ?_
        rotate_left
        · (intro W hSw; (try dsimp only at hSw); go_simp; all_goals (with_reducible rfl))
        simp only [List.getElem_toArray, List.getElem_cons_zero, List.getElem_cons_succ, Act.put, List.setIfInBounds_toArray, List.set_cons_zero, List.set_cons_succ]
        refine wpAnyH_take (i := 9) (v := ?_) rfl (by kernel_rfl) (by kernel_rfl) (by kernel_rfl) (fun _ _ _ h => h) (Or.inl ⟨by rfl, ?_⟩) hHeld ?_
        rotate_left
        · (intro W hSw; (try dsimp only at hSw); go_simp; all_goals (with_reducible rfl))
        simp only [List.getElem_toArray, List.getElem_cons_zero, List.getElem_cons_succ, Act.put, List.setIfInBounds_toArray, List.set_cons_zero, List.set_cons_succ]
        refine wpAnyH_take (i := 10) (v := ?_) rfl (by kernel_rfl) (by kernel_rfl) (by kernel_rfl) (fun _ _ _ h => h) (Or.inl ⟨by rfl, ?_⟩) hHeld ?_
        rotate_left
        · (intro W hSw; (try dsimp only at hSw); go_simp; all_goals (with_reducible rfl))
        simp only [List.getElem_toArray, List.getElem_cons_zero, List.getElem_cons_succ, Act.put, List.setIfInBounds_toArray, List.set_cons_zero, List.set_cons_succ]
        refine wpAnyH_ready (rs := [11]) (by kernel_rfl) (by simp) ?_
        refine AllReadyH.cons rfl (fun K hK => ?_) AllReadyH.nil
        simp only [List.getElem_toArray, List.getElem_cons_zero, List.getElem_cons_succ]
        go_simp
        have HG3 : Hid (Ge elN (xd.setCell ⟨go, 1, none⟩ (.int .i64 ((cnt : Int) + kn))) w.heap.size (.slice (some ⟨go, 0, none⟩) (body.length + 1) co) (⟨c, ((cnt + kn : Nat) : Int), [], 0, 0, 0⟩ :: body)) := HG2.out.put 0 (by simp) 1 (by decide) _ ⟨c, ((cnt + kn : Nat) : Int), [], 0, 0, 0⟩ rfl
        have HB3 : Hid (Below w.heap.size w (xd.setCell ⟨go, 1, none⟩ (.int .i64 ((cnt : Int) + kn)))) := HB2.out.setCell (p := ⟨go, 1, none⟩) hgo _
        have t3 : (xd.setCell ⟨go, 1, none⟩ (.int .i64 ((cnt : Int) + kn))).cell? ⟨tb, tof + 1, none⟩ = some (.int .i64 kn) := by rw [World.cell?_setCell_other _ _ _ _ (by intro e; cases e; exact hne rfl)]; exact t1
        have hsz3 : w.heap.size + 1 ≤ (xd.setCell ⟨go, 1, none⟩ (.int .i64 ((cnt : Int) + kn))).heap.size := by simpa [World.setCell] using hsz2
        refine hK.out _ _ t3 (fun hHeld => ?_)
        clear hK K
        refine wpAnyH_done (by kernel_rfl) ?_ _
        refine NoPanic.normal ?_
        clear hHeld t3 o1 g1 t0 t1
        obtain ⟨W3, hW3⟩ : ∃ W3, W3 = xd.setCell ⟨go, 1, none⟩ (.int .i64 ((cnt : Int) + kn)) := ⟨_, rfl⟩
        rw [← hW3] at HG3 HB3 hsz3 ⊢
        clear hW3 HG2 HB2 hsz2
        have TL : Hid (Le elN W3 (some ⟨tb, tof + 6, none⟩) tt.length tt) := (HLe.out.after HB3.out).tail
        have c1 : (1 : Int) ≤ tc := by omega
        have c2 : (1 : Int) ≤ (tt.length : Int) + 1 := by omega
        have c3 : ¬ tc = 1 := by omega
        have c4 : tt.length + 1 - 1 = tt.length := by omega
        have HLN : Hid ((⟨c, ((cnt + kn : Nat) : Int), [], 0, 0, 0⟩ :: body : List Nd).length + tt.length ≤ 1000000000000) := by show _ ≤ _; rw [List.length_cons]; omega
        go_wp2_with (at_builtin; refine wpList_appE rfl _ _ _ rfl elN rfl w.heap.size _ (⟨c, ((cnt + kn : Nat) : Int), [], 0, 0, 0⟩ :: body) rfl HG3.out tb (tof + 6) tt.length (tc - 1) tt rfl TL.out HLN.out (by omega) ?_; intro v' w6 hg6 hgr6 hob6; obtain ⟨a6, c6, rfl, -, -, -⟩ := hg6.shape)
        have HG6 : Hid (Ge elN w6 w.heap.size (.slice a6 (⟨c, ((cnt + kn : Nat) : Int), [], 0, 0, 0⟩ :: body ++ tt : List Nd).length c6) (⟨c, ((cnt + kn : Nat) : Int), [], 0, 0, 0⟩ :: body ++ tt)) := hg6
        have HB6 : Hid (Below w.heap.size w w6) := appE_below hgr6 HG3.out (by omega) HB3.out
        have hsz6 : w.heap.size + 1 ≤ w6.heap.size := by have := hgr6.size; omega
        clear hg6 hgr6 hob6 HG3 HB3
        go_wp2_with fail
        go_roundw
        case rel =>
          refine ⟨i + 1, cnt + kn, body ++ tt, rfl, by omega, ⟨?_, ?_⟩, by omega, by rw [List.length_append]; omega, by have := HG6.out; rw [List.cons_append, List.length_cons, List.length_append] at this; exact this, HB6.out, hsz6⟩
          · rw [HTK.out, gatN_app, ← HI.out.1]; simp [gatN, HKN.out.1, HKN.out.2]
          · rw [HTK.out, gatL_app, ← HI.out.2]; simp [gatL, HKN.out.1]
        case measure => simp [intOf]; omega
      · have hkb : (h.kd == c) = false := by simpa using hk
        have HKN : Hid (h.kd ≠ c) := hk
        have wr1 : IntKind.i64.wrap ((cnt : Int) + 1) = (cnt : Int) + 1 := by rw [IntKind.wrap_i64]; omega
        clear hhd hk
        go_upto_region 10 with fail
        have HG3 : Hid (Ge elN (W2.setCell ⟨go, 1, none⟩ (.int .i64 ((cnt : Int) + 1))) w.heap.size (.slice (some ⟨go, 0, none⟩) (body.length + 1) co) (⟨c, ((cnt + 1 : Nat) : Int), [], 0, 0, 0⟩ :: body)) := HG2.out.put 0 (by simp) 1 (by decide) _ ⟨c, ((cnt + 1 : Nat) : Int), [], 0, 0, 0⟩ rfl
        have HB3 : Hid (Below w.heap.size w (W2.setCell ⟨go, 1, none⟩ (.int .i64 ((cnt : Int) + 1)))) := HB2.out.setCell (p := ⟨go, 1, none⟩) hgo _
        have hsz3 : w.heap.size + 1 ≤ (W2.setCell ⟨go, 1, none⟩ (.int .i64 ((cnt : Int) + 1))).heap.size := by simpa [World.setCell] using hsz2
        clear o1 g1 t0 t1
        obtain ⟨W3, hW3⟩ : ∃ W3, W3 = W2.setCell ⟨go, 1, none⟩ (.int .i64 ((cnt : Int) + 1)) := ⟨_, rfl⟩
        rw [← hW3] at HG3 HB3 hsz3 ⊢
        clear hW3 HG2 HB2 hsz2
        have TL : Hid (Le elN W3 (some ⟨tb, tof, none⟩) (tt.length + 1) (h :: tt)) := HLe.out.after HB3.out
        have HLN : Hid ((⟨c, ((cnt + 1 : Nat) : Int), [], 0, 0, 0⟩ :: body : List Nd).length + (tt.length + 1) ≤ 1000000000000) := by show _ ≤ _; rw [List.length_cons]; omega
        go_wp2_with (at_builtin; refine wpList_appE rfl _ _ _ rfl elN rfl w.heap.size _ (⟨c, ((cnt + 1 : Nat) : Int), [], 0, 0, 0⟩ :: body) rfl HG3.out tb tof (tt.length + 1) tc (h :: tt) rfl TL.out HLN.out (by omega) ?_; intro v' w6 hg6 hgr6 hob6; obtain ⟨a6, c6, rfl, -, -, -⟩ := hg6.shape)
        have HG6 : Hid (Ge elN w6 w.heap.size (.slice a6 (⟨c, ((cnt + 1 : Nat) : Int), [], 0, 0, 0⟩ :: body ++ h :: tt : List Nd).length c6) (⟨c, ((cnt + 1 : Nat) : Int), [], 0, 0, 0⟩ :: body ++ h :: tt)) := hg6
        have HB6 : Hid (Below w.heap.size w w6) := appE_below hgr6 HG3.out (by omega) HB3.out
        have hsz6 : w.heap.size + 1 ≤ w6.heap.size := by have := hgr6.size; omega
        clear hg6 hgr6 hob6 HG3 HB3
        go_wp2_with fail
        go_roundw
        case rel =>
          refine ⟨i + 1, cnt + 1, body ++ h :: tt, rfl, by omega, ⟨?_, ?_⟩, by omega, by rw [List.length_append, List.length_cons]; omega, by have := HG6.out; rw [List.cons_append, List.length_cons, List.length_append, List.length_cons] at this; exact this, HB6.out, hsz6⟩
          · rw [HTK.out, gatN_app, ← HI.out.1]; simp [gatN, HKN.out]
          · rw [HTK.out, gatL_app, ← HI.out.2]; simp [gatL, HKN.out]
        case measure => simp [intOf]; omega
    · obtain rfl : i = xs.length := by omega
      have HF : Hid (⟨c, cnt, [], 0, 0, 0⟩ = gN c ls ∧ body = gatL c ls) := by
        have h1 := HI.out
        rw [← HLL.out, List.take_length] at h1
        exact ⟨by unfold gN; rw [h1.1], h1.2⟩
      clear hge hi
      go_wp2_with fail
      go_ret
      refine ⟨some ⟨go, 0, none⟩, co, ?_, ?_, HB.out⟩
      · rw [← HF.out.2]; rfl
      · rw [← HF.out.1, ← HF.out.2]; exact HG.out
set_option maxHeartbeats 8000000 in
theorem gather_no (c : Int) (hc : c = 1 ∨ c = 2) (xs : List Fm) (ak : Option Addr) (ck : Nat) (ls : List (List Nd)) (w : World) (hK : Le elF w ak xs.length xs) (hxl : xs.length ≤ 64) (hll : ls.length = xs.length) (hR : ∀ i, i < xs.length → KdR w true c (xs.getD i fm0) (ls.getD i [])) :
    Calls Tryz.prog 66 #[.int .i64 c, .slice ak xs.length ck, .func (.func 68) #[] #[]] w fun e w' => ∃ a' c', e = .returned (.slice a' ((gatL c ls).length + 1) c') ∧ Ge elN w' w.heap.size (.slice a' ((gatL c ls).length + 1) c') (gN c ls :: gatL c ls) ∧ Below w.heap.size w w' := by
  have HK : Hid (Le elF w ak xs.length xs) := hK
  have HRR : Hid (∀ i, i < xs.length → KdR w true c (xs.getD i fm0) (ls.getD i [])) := hR
  have HLL : Hid (ls.length = xs.length) := hll
  clear hK hR hll
  have B0 : Below w.heap.size w w := Below.refl _ _
  go_enter Tryz.func66, Tryz.ntmps66
  go_upto_region 2 with fail
  refine ent1 w _ _ (Q := fun W => Code.wp _ _ _ _ W) ?_
  intro W1 hb1 hs1 V1
  have HG1 : Hid (Ge elN W1 w.heap.size (.slice (some ⟨w.heap.size, 0, none⟩) 1 1) [⟨c, 0, [], 0, 0, 0⟩]) := Ge.of V1 (Nat.le_refl _) rfl rfl (by decide)
  have HB1 : Hid (Below w.heap.size w W1) := hb1
  have hsz1 : w.heap.size + 1 ≤ W1.heap.size := by omega
  clear V1 hb1 hs1 B0
  go_wp2_with fail
  go_loopw [7, 9, 10, 16] (fun li _ _ j wr => ∃ (i cnt : Nat) (body : List Nd), j = .int .i64 i ∧ i ≤ xs.length ∧ Hid ((cnt : Int) = gatN c (ls.take i) ∧ body = gatL c (ls.take i)) ∧ cnt ≤ 200 * i ∧ body.length ≤ 200 * i ∧ Hid (Ge elN wr w.heap.size li (⟨c, cnt, [], 0, 0, 0⟩ :: body)) ∧ Hid (Below w.heap.size w wr) ∧ w.heap.size + 1 ≤ wr.heap.size) (fun _ _ _ j _ => (xs.length - (intOf j).toNat : Nat))
  case atStart => exact ⟨0, 0, [], rfl, Nat.zero_le _, ⟨rfl, rfl⟩, Nat.zero_le _, Nat.zero_le _, HG1.out, HB1.out, hsz1⟩
  case round =>
    clear HG1 HB1 hsz1
    obtain ⟨i, cnt, body, rfl, hi, HI, hcb, hbb, HG, HB, hsz⟩ := hrel
    obtain ⟨ao, co, hli, hco, hcm, hsh⟩ := HG.out.shape
    obtain ⟨go, rfl⟩ : ∃ g, ao = some ⟨g, 0, none⟩ := by
      rcases hsh with ⟨-, h, -⟩ | h
      · cases h
      · exact h
    subst hli
    rw [List.length_cons] at *
    clear hsh
    have hgo : w.heap.size ≤ go := HG.out.block go rfl
    have hgo2 : go < wr.heap.size := HG.out.lt go rfl
    rcases Nat.lt_or_ge i xs.length with hlt | hge
    · have hii : (i : Int) < xs.length := by omega
      obtain ⟨bk, ofk, rfl⟩ := HK.out.ex (by omega)
      have k0 : wr.cell? ⟨bk, ofk + i * 2, none⟩ = some (.slice (xs.getD i fm0).ya (xs.getD i fm0).yl (xs.getD i fm0).yc) := (HK.out.after HB.out).at i hlt 0 _ rfl
      have k1 : wr.cell? ⟨bk, ofk + i * 2 + 1, none⟩ = some (.slice (xs.getD i fm0).na (xs.getD i fm0).nl (xs.getD i fm0).nc) := by rw [Nat.add_assoc]; exact (HK.out.after HB.out).at i hlt 1 _ rfl
      have hr := HRR.out i hlt
      have HTK : Hid (ls.take (i + 1) = ls.take i ++ [ls.getD i []]) := take_one (by have := HLL.out; omega)
      obtain ⟨x, hx⟩ : ∃ x, xs.getD i fm0 = x := ⟨_, rfl⟩
      obtain ⟨t, ht⟩ : ∃ t, ls.getD i [] = t := ⟨_, rfl⟩
      rw [hx] at k0 k1 hr
      rw [ht] at HTK hr
      clear hx ht
      obtain ⟨hln, hcp, hcpm, hle, hne, hl200, hhd⟩ := hr
      obtain ⟨h, tt, rfl⟩ : ∃ h tt, t = h :: tt := by
        cases t with
        | nil => exact absurd rfl hne
        | cons h tt => exact ⟨h, tt, rfl⟩
      have C9 := fun W => turned_any x W
      rw [hln] at C9
      obtain ⟨tb, tof, hta⟩ := hle.ex (by simp)
      rw [hta] at C9 hle
      have htb : tb < w.heap.size := hle.lt (by simp)
      have HLe : Hid (Le elN w (some ⟨tb, tof, none⟩) (h :: tt).length (h :: tt)) := hle
      obtain ⟨tc, htc⟩ : ∃ tc, x.cp true = tc := ⟨_, rfl⟩
      rw [htc] at C9 hcp hcpm
      rw [List.length_cons] at *
      dsimp only [List.headD_cons] at hhd
      clear hln hta hne hle htc
      go_upto_region 5 with fail
      refine ent1 wr _ _ (Q := fun W => Code.wp _ _ _ _ W) ?_
      intro W1 hb1 hs1 V1
      have v0 := V1.c0
      have v1 := V1.c1
      have D9 := C9 W1
      clear C9
      go_wp2_with fail
      refine D9.mono ?_
      rintro e W2 ⟨rfl, hb2⟩
      have hb12 := step hb1 hb2
      have HB2 : Hid (Below w.heap.size w W2) := HB.out.trans (hb12.mono (by omega))
      have HG2 : Hid (Ge elN W2 w.heap.size (.slice (some ⟨go, 0, none⟩) (body.length + 1) co) (⟨c, cnt, [], 0, 0, 0⟩ :: body)) := HG.out.after hb12
      have hsz2 : w.heap.size + 1 ≤ W2.heap.size := by have := hb12.size; omega
      have T2 := HLe.out.after HB2.out
      have t0 : W2.cell? ⟨tb, tof, none⟩ = some (.int .i64 h.kd) := by have := T2.at 0 (by simp) 0 _ rfl; simpa [elN] using this
      have t1 : W2.cell? ⟨tb, tof + 1, none⟩ = some (.int .i64 h.ks) := by have := T2.at 0 (by simp) 1 _ rfl; simpa [elN] using this
      have o1 : W2.cell? ⟨go, 1, none⟩ = some (.int .i64 cnt) := by have := HG2.out.toLe.at 0 (by simp) 1 _ rfl; simpa [elN] using this
      have g1 := HG2.out.frozen 1
      clear D9 v0 v1 V1 hb1 hb2 hb12 hs1 T2 HG HB k0 k1
      have hN0 : (0 : Int) < (body.length : Int) + 1 := by omega
      have hT0 : (0 : Int) < (tt.length : Int) + 1 := by omega
      by_cases hk : h.kd = c
      · obtain ⟨hl2, hk0, hk2⟩ := hhd hk
        have hkb : (h.kd == c) = true := by simpa using hk
        obtain ⟨kn, hkn⟩ : ∃ kn : Nat, h.ks = kn := ⟨h.ks.toNat, by omega⟩
        rw [hkn] at t1
        have HKN : Hid (h.kd = c ∧ h.ks = kn) := ⟨hk, hkn⟩
        have hkn2 : kn ≤ 200 := by omega
        have hne : tb ≠ go := by omega
        have wr1 : IntKind.i64.wrap ((cnt : Int) + kn) = (cnt : Int) + kn := by rw [IntKind.wrap_i64]; omega
        clear hhd hk hkn hk0 hk2
        go_wp2_with fail
        refine wp_region_noPanic ?_
        replace HG2 : Hid (Ge elN W2.drew w.heap.size (.slice (some ⟨go, 0, none⟩) (body.length + 1) co) (⟨c, cnt, [], 0, 0, 0⟩ :: body)) := HG2
        replace HB2 : Hid (Below w.heap.size w W2.drew) := HB2.out.drew
        replace t1 : W2.drew.cell? ⟨tb, tof + 1, none⟩ = some (.int .i64 kn) := t1
        replace o1 : W2.drew.cell? ⟨go, 1, none⟩ = some (.int .i64 cnt) := o1
        replace g1 : W2.drew.frozen? ⟨go, 1, none⟩ = false := g1
        replace hsz2 : w.heap.size + 1 ≤ W2.drew.heap.size := hsz2
        refine wp_region_held_drew (S := fun W => W.cell? ⟨tb, tof + 1, none⟩ = some (.int .i64 kn)) (by kernel_rfl) t1 (fun hHeld => ?_)
        obtain ⟨xd, hxd⟩ : ∃ xd, xd = W2.drew := ⟨_, rfl⟩
        rw [← hxd] at HG2 HB2 t1 o1 g1 hsz2 hHeld ⊢
        clear hxd
        refine wpAnyH_take (i := 0) (v := ?_) rfl (by kernel_rfl) (by kernel_rfl) (by kernel_rfl) (fun _ _ _ h => h) (Or.inl ⟨by rfl, ?_⟩) hHeld ?_
        rotate_left
        · (intro W hSw; (try dsimp only at hSw); go_simp; all_goals (with_reducible rfl))
        simp only [List.getElem_toArray, List.getElem_cons_zero, Act.put, List.setIfInBounds_toArray, List.set_cons_zero, List.set_cons_succ]
        refine wpAnyH_take (i := 1) (v := ?_) rfl (by kernel_rfl) (by kernel_rfl) (by kernel_rfl) (fun _ _ _ h => h) (Or.inl ⟨by rfl, ?_⟩) hHeld ?_
        rotate_left
        · (intro W hSw; (try dsimp only at hSw); go_simp; all_goals (with_reducible rfl))
        simp only [List.getElem_toArray, List.getElem_cons_zero, List.getElem_cons_succ, Act.put, List.setIfInBounds_toArray, List.set_cons_zero, List.set_cons_succ]
        refine wpAnyH_take (i := 2) (v := ?_) rfl (by kernel_rfl) (by kernel_rfl) (by kernel_rfl) (fun _ _ _ h => h) (Or.inl ⟨by rfl, ?_⟩) hHeld ?_
        rotate_left
        · (intro W hSw; (try dsimp only at hSw); go_simp; all_goals (with_reducible rfl))
        simp only [List.getElem_toArray, List.getElem_cons_zero, List.getElem_cons_succ, Act.put, List.setIfInBounds_toArray, List.set_cons_zero, List.set_cons_succ]
        refine wpAnyH_take (i := 4) (v := ?_) rfl (by kernel_rfl) (by kernel_rfl) (by kernel_rfl) (fun _ _ _ h => h) (Or.inl ⟨by rfl, ?_⟩) hHeld ?_
        rotate_left
        · (intro W hSw; (try dsimp only at hSw); go_simp; all_goals (with_reducible rfl))
        simp only [List.getElem_toArray, List.getElem_cons_zero, List.getElem_cons_succ, Act.put, List.setIfInBounds_toArray, List.set_cons_zero, List.set_cons_succ]
        refine wpAnyH_take (i := 5) (v := ?_) rfl (by kernel_rfl) (by kernel_rfl) (by kernel_rfl) (fun _ _ _ h => h) (Or.inl ⟨by rfl, ?_⟩) hHeld ?_
        rotate_left
        · (intro W hSw; (try dsimp only at hSw); go_simp; all_goals (with_reducible rfl))
        simp only [List.getElem_toArray, List.getElem_cons_zero, List.getElem_cons_succ, Act.put, List.setIfInBounds_toArray, List.set_cons_zero, List.set_cons_succ]
        refine wpAnyH_take (i := 6) (v := ?_) rfl (by kernel_rfl) (by kernel_rfl) (by kernel_rfl) (fun _ _ _ h => h) (Or.inl ⟨by rfl, ?_⟩) hHeld ?_
        rotate_left
        · (intro W hSw; (try dsimp only at hSw); go_simp; all_goals (with_reducible rfl))
        simp only [List.getElem_toArray, List.getElem_cons_zero, List.getElem_cons_succ, Act.put, List.setIfInBounds_toArray, List.set_cons_zero, List.set_cons_succ]
        refine wpAnyH_take (i := 7) (v := ?_) rfl (by kernel_rfl) (by kernel_rfl) (by kernel_rfl) (fun _ _ _ h => h) (Or.inl ⟨by rfl, ?_⟩) hHeld ?_
        rotate_left
        · (intro W hSw; (try dsimp only at hSw); go_simp; all_goals (with_reducible rfl))
        simp only [List.getElem_toArray, List.getElem_cons_zero, List.getElem_cons_succ, Act.put, List.setIfInBounds_toArray, List.set_cons_zero, List.set_cons_succ]
        refine wpAnyH_ready (rs := [3]) (by kernel_rfl) (by simp) ?_
        refine AllReadyH.cons rfl (fun K hK => ?_) AllReadyH.nil
        simp only [List.getElem_toArray, List.getElem_cons_zero, List.getElem_cons_succ]
        go_simp
        refine hK.out _ _ t1 (fun hHeld => ?_)
        clear hK K
        refine wpAnyH_take (i := 8) (v := ?_) rfl (by kernel_rfl) (by kernel_rfl) (by kernel_rfl) (fun _ _ _ h => h) (Or.inl ⟨by rfl, ?_⟩) hHeld ?_
        rotate_left
        · (intro W hSw; (try dsimp only at hSw); go_simp; all_goals (with_reducible rfl))
        simp only [List.getElem_toArray, List.getElem_cons_zero, List.getElem_cons_succ, Act.put, List.setIfInBounds_toArray, List.set_cons_zero, List.set_cons_succ]
        refine wpAnyH_take (i := 9) (v := ?_) rfl (by kernel_rfl) (by kernel_rfl) (by kernel_rfl) (fun _ _ _ h => h) (Or.inl ⟨by rfl, ?_⟩) hHeld ?_
        rotate_left
        · (intro W hSw; (try dsimp only at hSw); go_simp; all_goals (with_reducible rfl))
        simp only [List.getElem_toArray, List.getElem_cons_zero, List.getElem_cons_succ, Act.put, List.setIfInBounds_toArray, List.set_cons_zero, List.set_cons_succ]
        refine wpAnyH_take (i := 10) (v := ?_) rfl (by kernel_rfl) (by kernel_rfl) (by kernel_rfl) (fun _ _ _ h => h) (Or.inl ⟨by rfl, ?_⟩) hHeld ?_
        rotate_left
        · (intro W hSw; (try dsimp only at hSw); go_simp; all_goals (with_reducible rfl))
        simp only [List.getElem_toArray, List.getElem_cons_zero, List.getElem_cons_succ, Act.put, List.setIfInBounds_toArray, List.set_cons_zero, List.set_cons_succ]
        refine wpAnyH_ready (rs := [11]) (by kernel_rfl) (by simp) ?_
        refine AllReadyH.cons rfl (fun K hK => ?_) AllReadyH.nil
        simp only [List.getElem_toArray, List.getElem_cons_zero, List.getElem_cons_succ]
        go_simp
        have HG3 : Hid (Ge elN (xd.setCell ⟨go, 1, none⟩ (.int .i64 ((cnt : Int) + kn))) w.heap.size (.slice (some ⟨go, 0, none⟩) (body.length + 1) co) (⟨c, ((cnt + kn : Nat) : Int), [], 0, 0, 0⟩ :: body)) := HG2.out.put 0 (by simp) 1 (by decide) _ ⟨c, ((cnt + kn : Nat) : Int), [], 0, 0, 0⟩ rfl
        have HB3 : Hid (Below w.heap.size w (xd.setCell ⟨go, 1, none⟩ (.int .i64 ((cnt : Int) + kn)))) := HB2.out.setCell (p := ⟨go, 1, none⟩) hgo _
        have t3 : (xd.setCell ⟨go, 1, none⟩ (.int .i64 ((cnt : Int) + kn))).cell? ⟨tb, tof + 1, none⟩ = some (.int .i64 kn) := by rw [World.cell?_setCell_other _ _ _ _ (by intro e; cases e; exact hne rfl)]; exact t1
        have hsz3 : w.heap.size + 1 ≤ (xd.setCell ⟨go, 1, none⟩ (.int .i64 ((cnt : Int) + kn))).heap.size := by simpa [World.setCell] using hsz2
        refine hK.out _ _ t3 (fun hHeld => ?_)
        clear hK K
        refine wpAnyH_done (by kernel_rfl) ?_ _
        refine NoPanic.normal ?_
        clear hHeld t3 o1 g1 t0 t1
        obtain ⟨W3, hW3⟩ : ∃ W3, W3 = xd.setCell ⟨go, 1, none⟩ (.int .i64 ((cnt : Int) + kn)) := ⟨_, rfl⟩
        rw [← hW3] at HG3 HB3 hsz3 ⊢
        clear hW3 HG2 HB2 hsz2
        have TL : Hid (Le elN W3 (some ⟨tb, tof + 6, none⟩) tt.length tt) := (HLe.out.after HB3.out).tail
        have c1 : (1 : Int) ≤ tc := by omega
        have c2 : (1 : Int) ≤ (tt.length : Int) + 1 := by omega
        have c3 : ¬ tc = 1 := by omega
        have c4 : tt.length + 1 - 1 = tt.length := by omega
        have HLN : Hid ((⟨c, ((cnt + kn : Nat) : Int), [], 0, 0, 0⟩ :: body : List Nd).length + tt.length ≤ 1000000000000) := by show _ ≤ _; rw [List.length_cons]; omega
        go_wp2_with (at_builtin; refine wpList_appE rfl _ _ _ rfl elN rfl w.heap.size _ (⟨c, ((cnt + kn : Nat) : Int), [], 0, 0, 0⟩ :: body) rfl HG3.out tb (tof + 6) tt.length (tc - 1) tt rfl TL.out HLN.out (by omega) ?_; intro v' w6 hg6 hgr6 hob6; obtain ⟨a6, c6, rfl, -, -, -⟩ := hg6.shape)
        have HG6 : Hid (Ge elN w6 w.heap.size (.slice a6 (⟨c, ((cnt + kn : Nat) : Int), [], 0, 0, 0⟩ :: body ++ tt : List Nd).length c6) (⟨c, ((cnt + kn : Nat) : Int), [], 0, 0, 0⟩ :: body ++ tt)) := hg6
        have HB6 : Hid (Below w.heap.size w w6) := appE_below hgr6 HG3.out (by omega) HB3.out
        have hsz6 : w.heap.size + 1 ≤ w6.heap.size := by have := hgr6.size; omega
        clear hg6 hgr6 hob6 HG3 HB3
        go_wp2_with fail
        go_roundw
        case rel =>
          refine ⟨i + 1, cnt + kn, body ++ tt, rfl, by omega, ⟨?_, ?_⟩, by omega, by rw [List.length_append]; omega, by have := HG6.out; rw [List.cons_append, List.length_cons, List.length_append] at this; exact this, HB6.out, hsz6⟩
          · rw [HTK.out, gatN_app, ← HI.out.1]; simp [gatN, HKN.out.1, HKN.out.2]
          · rw [HTK.out, gatL_app, ← HI.out.2]; simp [gatL, HKN.out.1]
        case measure => simp [intOf]; omega
      · have hkb : (h.kd == c) = false := by simpa using hk
        have HKN : Hid (h.kd ≠ c) := hk
        have wr1 : IntKind.i64.wrap ((cnt : Int) + 1) = (cnt : Int) + 1 := by rw [IntKind.wrap_i64]; omega
        clear hhd hk
        go_upto_region 10 with fail
        have HG3 : Hid (Ge elN (W2.setCell ⟨go, 1, none⟩ (.int .i64 ((cnt : Int) + 1))) w.heap.size (.slice (some ⟨go, 0, none⟩) (body.length + 1) co) (⟨c, ((cnt + 1 : Nat) : Int), [], 0, 0, 0⟩ :: body)) := HG2.out.put 0 (by simp) 1 (by decide) _ ⟨c, ((cnt + 1 : Nat) : Int), [], 0, 0, 0⟩ rfl
        have HB3 : Hid (Below w.heap.size w (W2.setCell ⟨go, 1, none⟩ (.int .i64 ((cnt : Int) + 1)))) := HB2.out.setCell (p := ⟨go, 1, none⟩) hgo _
        have hsz3 : w.heap.size + 1 ≤ (W2.setCell ⟨go, 1, none⟩ (.int .i64 ((cnt : Int) + 1))).heap.size := by simpa [World.setCell] using hsz2
        clear o1 g1 t0 t1
        obtain ⟨W3, hW3⟩ : ∃ W3, W3 = W2.setCell ⟨go, 1, none⟩ (.int .i64 ((cnt : Int) + 1)) := ⟨_, rfl⟩
        rw [← hW3] at HG3 HB3 hsz3 ⊢
        clear hW3 HG2 HB2 hsz2
        have TL : Hid (Le elN W3 (some ⟨tb, tof, none⟩) (tt.length + 1) (h :: tt)) := HLe.out.after HB3.out
        have HLN : Hid ((⟨c, ((cnt + 1 : Nat) : Int), [], 0, 0, 0⟩ :: body : List Nd).length + (tt.length + 1) ≤ 1000000000000) := by show _ ≤ _; rw [List.length_cons]; omega
        go_wp2_with (at_builtin; refine wpList_appE rfl _ _ _ rfl elN rfl w.heap.size _ (⟨c, ((cnt + 1 : Nat) : Int), [], 0, 0, 0⟩ :: body) rfl HG3.out tb tof (tt.length + 1) tc (h :: tt) rfl TL.out HLN.out (by omega) ?_; intro v' w6 hg6 hgr6 hob6; obtain ⟨a6, c6, rfl, -, -, -⟩ := hg6.shape)
        have HG6 : Hid (Ge elN w6 w.heap.size (.slice a6 (⟨c, ((cnt + 1 : Nat) : Int), [], 0, 0, 0⟩ :: body ++ h :: tt : List Nd).length c6) (⟨c, ((cnt + 1 : Nat) : Int), [], 0, 0, 0⟩ :: body ++ h :: tt)) := hg6
        have HB6 : Hid (Below w.heap.size w w6) := appE_below hgr6 HG3.out (by omega) HB3.out
        have hsz6 : w.heap.size + 1 ≤ w6.heap.size := by have := hgr6.size; omega
        clear hg6 hgr6 hob6 HG3 HB3
        go_wp2_with fail
        go_roundw
        case rel =>
          refine ⟨i + 1, cnt + 1, body ++ h :: tt, rfl, by omega, ⟨?_, ?_⟩, by omega, by rw [List.length_append, List.length_cons]; omega, by have := HG6.out; rw [List.cons_append, List.length_cons, List.length_append, List.length_cons] at this; exact this, HB6.out, hsz6⟩
          · rw [HTK.out, gatN_app, ← HI.out.1]; simp [gatN, HKN.out]
          · rw [HTK.out, gatL_app, ← HI.out.2]; simp [gatL, HKN.out]
        case measure => simp [intOf]; omega
    · obtain rfl : i = xs.length := by omega
      have HF : Hid (⟨c, cnt, [], 0, 0, 0⟩ = gN c ls ∧ body = gatL c ls) := by
        have h1 := HI.out
        rw [← HLL.out, List.take_length] at h1
        exact ⟨by unfold gN; rw [h1.1], h1.2⟩
      clear hge hi
      go_wp2_with fail
      go_ret
      refine ⟨some ⟨go, 0, none⟩, co, ?_, ?_, HB.out⟩
      · rw [← HF.out.2]; rfl
      · rw [← HF.out.1, ← HF.out.2]; exact HG.out
end Go.Proofs.YtblafbbnplfpjaaGreatDoor
