/-
  TraitTables (P13.3, P13.6): a Not holds where the condition doesn't, an Or of two where one of them does, an And where both do. For every two lists of nodes and any facts; under the condition that the listed variables (decimal's powers of ten, among others) hold what the program's text lays.
-/
import Derived.Test.YtiogfampfdnkcabGreatDoorFoQ
import Derived.Test.YtiogfampfdnkcabGreatDoorTr4
import Derived.Test.YtiogfampfdnkcabGreatDoorTr9
import Derived.Test.YtiogfampfdnkcabGreatDoorTre
import Derived.Test.YtiogfampfdnkcabGreatDoorCards
import Derived.ProofKit
import Derived.OpenShut
import Derived.ShutString
import Derived.ChangeOld
import Derived.SizedLaws
import Derived.SliceStrings
import Derived.Deep.Slices
import Derived.Lib.SmallJoins
import Derived.Lib.LaidTab
import Derived.Stop.LaidErr
import Derived.Test.YtiogfampfdnkcabGreatDoorTie
import Derived.Lay
import Derived.LaidLaws
import Derived.MakeChecks
import Derived.SevenTiedAt
import Derived.WalkKit
namespace Go.Proofs.YtiogfampfdnkcabGreatDoor
set_option linter.unusedVariables false

def kN (c : Int) (a : List Nd) : Int := if (a.headD nd0).kd = c then (a.headD nd0).ks else 1
def mlL (c : Int) (a : List Nd) : List Nd := if (a.headD nd0).kd = c then a.tail else a
/-- Two conditions under one node of the kind c. -/
def und (c : Int) (a b : List Nd) : List Nd := ⟨c, kN c a + kN c b, [], 0, 0, 0⟩ :: (mlL c a ++ mlL c b)
end Go.Proofs.YtiogfampfdnkcabGreatDoor
namespace Go.Proofs.YtiogfampfdnkcabGreatDoor
open Go.RowKit Go.Shelf
set_option linter.unusedVariables false

theorem Ge.ne_va {α : Type} {E : El α} {w : World} {B g n cap b : Nat} {xs : List α} {t : TypeId} {cs : Array Value} (h : Ge E w B (.slice (some ⟨g, 0, none⟩) n cap) xs) (v : Va w b t cs) (ht : E.te ≠ t) : g ≠ b := by
  intro e
  subst e
  obtain ⟨h1, h2 | ⟨g', cap', cur, e', hB, hh, r⟩⟩ := h
  · cases h2.1
  · cases e'
    unfold Va at v
    rw [hh] at v
    simp only [Option.some.injEq, Obj.cells.injEq] at v
    exact ht v.2.1
/-- The lists that are put together, ahead of the place i. -/
def sel (a b : List Nd) (i : Nat) : List Nd := if i = 0 then a else b
/-- What stands there when i of the two are put in. -/
def unN (c : Int) (a b : List Nd) (i : Nat) : Int := (if i = 0 then 2 else if i = 1 then kN c a + 1 else kN c a + kN c b)
def unL (c : Int) (a b : List Nd) (i : Nat) : List Nd := (if i = 0 then [] else if i = 1 then mlL c a else mlL c a ++ mlL c b)
theorem unN_next (c : Int) (a b : List Nd) (i : Nat) (hi : i < 2) : unN c a b (i + 1) = unN c a b i + (kN c (sel a b i) - 1) := by
  have : i = 0 ∨ i = 1 := by omega
  rcases this with rfl | rfl <;> simp [unN, sel] <;> omega
theorem unL_next (c : Int) (a b : List Nd) (i : Nat) (hi : i < 2) : unL c a b (i + 1) = unL c a b i ++ mlL c (sel a b i) := by
  have : i = 0 ∨ i = 1 := by omega
  rcases this with rfl | rfl <;> simp [unL, sel]
set_option maxHeartbeats 8000000 in
theorem under_any (c : Int) (hc : c = 1 ∨ c = 2) (a b : List Nd) (xa xb : Option Addr) (ca cb : Nat) (w : World) (h1 : Le elN w xa a.length a) (h2 : Le elN w xb b.length b) (la : a.length ≤ 64) (lb : b.length ≤ 64) (na : 0 < a.length) (nb : 0 < b.length) (qa : a.length ≤ ca) (qb : b.length ≤ cb)
    (ka : ∀ l, (l = a ∨ l = b) → (l.headD nd0).kd = c → 2 ≤ l.length ∧ 2 ≤ (l.headD nd0).ks ∧ (l.headD nd0).ks ≤ 64) :
    Calls Tryz.prog 8 #[.int .i64 c, .slice xa a.length ca, .slice xb b.length cb] w fun e w' => ∃ a' c', e = .returned (.slice a' (und c a b).length c') ∧ Ge elN w' w.heap.size (.slice a' (und c a b).length c') (und c a b) ∧ Below w.heap.size w w' := by
  obtain ⟨U, hU⟩ : ∃ U, und c a b = U := ⟨_, rfl⟩
  have HU : Hid (⟨c, unN c a b 2, [], 0, 0, 0⟩ :: unL c a b 2 = U) := by show _ = _; rw [← hU]; rfl
  rw [hU]
  have HA : Hid (∀ i, i < 2 → ∃ x q, Le elN w x (sel a b i).length (sel a b i) ∧ (sel a b i).length ≤ 64 ∧ 0 < (sel a b i).length ∧ (sel a b i).length ≤ q ∧ ((sel a b i = a ∧ x = xa ∧ q = ca ∧ i = 0) ∨ (sel a b i = b ∧ x = xb ∧ q = cb ∧ i = 1))) := by
    intro i hi
    have : i = 0 ∨ i = 1 := by omega
    rcases this with rfl | rfl
    · exact ⟨xa, ca, h1, la, na, qa, .inl ⟨rfl, rfl, rfl, rfl⟩⟩
    · exact ⟨xb, cb, h2, lb, nb, qb, .inr ⟨rfl, rfl, rfl, rfl⟩⟩
  have HKA : Hid (∀ l, (l = a ∨ l = b) → (l.headD nd0).kd = c → 2 ≤ l.length ∧ 2 ≤ (l.headD nd0).ks ∧ (l.headD nd0).ks ≤ 64) := ka
  clear hU h1 h2 la lb na nb qa qb ka
  go_enter Tryz.func8, Tryz.ntmps8
  go_upto_region 3 with fail
  refine ent2 w _ _ _ _ (Q := fun W => Code.wp _ _ _ _ W) ?_
  intro W1 hb1 hs1 V0 V1
  have HG1 : Hid (Ge elN W1 w.heap.size (.slice (some ⟨w.heap.size, 0, none⟩) 1 1) [⟨c, 2, [], 0, 0, 0⟩]) := Ge.of V0 (Nat.le_refl _) rfl rfl (by decide)
  have HB1 : Hid (Below w.heap.size w W1) := hb1
  have HV1 : Hid (Va W1 (w.heap.size + 1) 22 #[.slice xa a.length ca, .slice xb b.length cb]) := V1
  have hsz1 : w.heap.size + 2 ≤ W1.heap.size := by omega
  clear V0 V1 hb1 hs1
  go_loopw [7, 9, 17] (fun li _ j wr => ∃ i : Nat, j = .int .i64 i ∧ i ≤ 2 ∧ Hid (Ge elN wr w.heap.size li (⟨c, unN c a b i, [], 0, 0, 0⟩ :: unL c a b i)) ∧ Hid (Below w.heap.size w wr) ∧ Hid (Va wr (w.heap.size + 1) 22 #[.slice xa a.length ca, .slice xb b.length cb]) ∧ w.heap.size + 2 ≤ wr.heap.size ∧ Hid (0 ≤ unN c a b i ∧ unN c a b i ≤ 2 + 64 * (i : Int) ∧ (unL c a b i).length ≤ 64 * i)) (fun _ _ j _ => (2 - (intOf j).toNat : Nat))
  case atStart => exact ⟨0, rfl, Nat.zero_le _, HG1.out, HB1.out, HV1.out, hsz1, by simp [unN], by simp [unN], by simp [unL]⟩
  case round =>
    clear HG1 HB1 HV1 hsz1
    obtain ⟨i, rfl, hi, HG, HB, HV, hsz, HN⟩ := hrel
    obtain ⟨ao, co, hli, hco, hcm, hsh⟩ := HG.out.shape
    obtain ⟨go, rfl⟩ : ∃ g, ao = some ⟨g, 0, none⟩ := by
      rcases hsh with ⟨-, h, -⟩ | h
      · cases h
      · exact h
    subst hli
    rw [List.length_cons] at *
    clear hsh hco hcm
    have hgo : w.heap.size ≤ go := HG.out.block go rfl
    have hgv : go ≠ w.heap.size + 1 := HG.out.ne_va HV.out (by decide)
    rcases Nat.lt_or_ge i 2 with hlt | hge
    · have hii : (i : Int) < 2 := by omega
      obtain ⟨x, q, hle, hl64, hl0, hq, hwh⟩ := HA.out i hlt
      have kx : wr.cell? ⟨w.heap.size + 1, i, none⟩ = some (.slice x (sel a b i).length q) := by
        rcases hwh with ⟨e, rfl, rfl, rfl⟩ | ⟨e, rfl, rfl, rfl⟩
        · exact HV.out.c0
        · exact HV.out.c1
      have hka := HKA.out (sel a b i) (by rcases hwh with ⟨e, -⟩ | ⟨e, -⟩; exact .inl e; exact .inr e)
      have HN1 : Hid (unN c a b (i + 1) = unN c a b i + (kN c (sel a b i) - 1)) := unN_next c a b i hlt
      have HN2 : Hid (unL c a b (i + 1) = unL c a b i ++ mlL c (sel a b i)) := unL_next c a b i hlt
      obtain ⟨cnt, hcnt⟩ : ∃ n, unN c a b i = n := ⟨_, rfl⟩
      obtain ⟨body, hbody⟩ : ∃ n, unL c a b i = n := ⟨_, rfl⟩
      rw [hcnt] at HG HN HN1
      rw [hbody] at HG HN HN2
      rw [hbody]
      generalize sel a b i = t at *
      obtain ⟨h, tt, rfl⟩ : ∃ h tt, t = h :: tt := by
        cases t with
        | nil => simp at hl0
        | cons h tt => exact ⟨h, tt, rfl⟩
      obtain ⟨tb, tof, rfl⟩ := hle.ex hl0
      have htb : tb < w.heap.size := hle.lt hl0
      have HLe : Hid (Le elN w (some ⟨tb, tof, none⟩) (h :: tt).length (h :: tt)) := hle
      have T2 := HLe.out.after HB.out
      have t0 : wr.cell? ⟨tb, tof, none⟩ = some (.int .i64 h.kd) := by have := T2.at 0 (by simp) 0 _ rfl; simpa [elN] using this
      have t1 : wr.cell? ⟨tb, tof + 1, none⟩ = some (.int .i64 h.ks) := by have := T2.at 0 (by simp) 1 _ rfl; simpa [elN] using this
      have o1 : wr.cell? ⟨go, 1, none⟩ = some (.int .i64 cnt) := by have := HG.out.toLe.at 0 (by simp) 1 _ rfl; simpa [elN] using this
      have g1 := HG.out.frozen 1
      rw [List.length_cons] at *
      dsimp only [List.headD_cons] at hka
      obtain ⟨hn0, hn1, hn2⟩ := HN.out
      have HNN : Hid (0 ≤ cnt ∧ cnt ≤ 2 + 64 * (i : Int) ∧ body.length ≤ 64 * i) := HN.out
      clear T2 hcnt hbody hwh hle HN
      have hN0 : (0 : Int) < (body.length : Int) + 1 := by omega
      have hT0 : (0 : Int) < (tt.length : Int) + 1 := by omega
      by_cases hk : h.kd = c
      · obtain ⟨hl2, hk0, hk2⟩ := hka hk
        have hkb : (h.kd == c) = true := by simpa using hk
        have HKN : Hid (kN c (h :: tt) = h.ks ∧ mlL c (h :: tt) = tt) := ⟨by simp [kN, hk], by simp [mlL, hk]⟩
        have hne : tb ≠ go := by omega
        obtain ⟨ks, hks⟩ : ∃ ks, h.ks = ks := ⟨_, rfl⟩
        rw [hks] at t1 hk0 hk2 HKN
        have wr1 : IntKind.i64.wrap (cnt + ks) = cnt + ks := by rw [IntKind.wrap_i64]; omega
        have wr2 : IntKind.i64.wrap (cnt + ks - 1) = cnt + ks - 1 := by rw [IntKind.wrap_i64]; omega
        have HNB : Hid (0 ≤ cnt + ks - 1 ∧ cnt + ks - 1 ≤ 2 + 64 * ((i + 1 : Nat) : Int)) := by
          have h9 := HNN.out; exact ⟨by omega, by omega⟩
        clear hka hk hks
        go_wp2_with fail
        refine wp_region_noPanic ?_
        replace HG : Hid (Ge elN wr.drew w.heap.size (.slice (some ⟨go, 0, none⟩) (body.length + 1) co) (⟨c, cnt, [], 0, 0, 0⟩ :: body)) := HG
        replace HB : Hid (Below w.heap.size w wr.drew) := HB.out.drew
        replace HV : Hid (Va wr.drew (w.heap.size + 1) 22 #[.slice xa a.length ca, .slice xb b.length cb]) := HV
        replace t1 : wr.drew.cell? ⟨tb, tof + 1, none⟩ = some (.int .i64 ks) := t1
        replace o1 : wr.drew.cell? ⟨go, 1, none⟩ = some (.int .i64 cnt) := o1
        replace g1 : wr.drew.frozen? ⟨go, 1, none⟩ = false := g1
        replace hsz : w.heap.size + 2 ≤ wr.drew.heap.size := hsz
        refine wp_region_held_drew (S := fun W => W.cell? ⟨tb, tof + 1, none⟩ = some (.int .i64 ks)) (by kernel_rfl) t1 (fun hHeld => ?_)
        obtain ⟨xd, hxd⟩ : ∃ xd, xd = wr.drew := ⟨_, rfl⟩
        rw [← hxd] at HG HB HV t1 o1 g1 hsz hHeld ⊢
        clear hxd
        refine wpAnyH_take (i := 0) (v := ?_) rfl (by kernel_rfl) (by kernel_rfl) (by kernel_rfl) (fun _ _ _ h => h) (Or.inl ⟨by rfl, ?_⟩) hHeld ?_
        rotate_left
        · (intro W hSw; (try dsimp only at hSw); go_simp; all_goals (with_reducible rfl))
        simp only [List.getElem_toArray, List.getElem_cons_zero, Act.put, List.setIfInBounds_toArray, List.set_cons_zero, List.set_cons_succ]
        refine wpAnyH_take (i := 1) (v := ?_) rfl (by kernel_rfl) (by kernel_rfl) (by kernel_rfl) (fun _ _ _ h => h) (Or.inl ⟨by rfl, ?_⟩) hHeld ?_
        rotate_left
        · (intro W hSw; (try dsimp only at hSw); go_simp; all_goals (with_reducible rfl))
        simp only [List.getElem_toArray, List.getElem_cons_zero, List.getElem_cons_succ, Act.put, List.setIfInBounds_toArray, List.set_cons_zero, List.set_cons_succ]
        refine wpAnyH_take (i := 2) (v := ?_) rfl (by kernel_rfl) (by kernel_rfl) (by kernel_rfl) (fun _ _ _ h => h) (Or.inl ⟨by rfl, ?_⟩) hHeld ?_
        rotate_left
        · (intro W hSw; (try dsimp only at hSw); go_simp; all_goals (with_reducible rfl))
        simp only [List.getElem_toArray, List.getElem_cons_zero, List.getElem_cons_succ, Act.put, List.setIfInBounds_toArray, List.set_cons_zero, List.set_cons_succ]
        refine wpAnyH_take (i := 3) (v := ?_) rfl (by kernel_rfl) (by kernel_rfl) (by kernel_rfl) (fun _ _ _ h => h) (Or.inl ⟨by rfl, ?_⟩) hHeld ?_
        rotate_left
        · (intro W hSw; (try dsimp only at hSw); go_simp; all_goals (with_reducible rfl))
        simp only [List.getElem_toArray, List.getElem_cons_zero, List.getElem_cons_succ, Act.put, List.setIfInBounds_toArray, List.set_cons_zero, List.set_cons_succ]
        refine wpAnyH_take (i := 5) (v := ?_) rfl (by kernel_rfl) (by kernel_rfl) (by kernel_rfl) (fun _ _ _ h => h) (Or.inl ⟨by rfl, ?_⟩) hHeld ?_
        rotate_left
        · (intro W hSw; (try dsimp only at hSw); go_simp; all_goals (with_reducible rfl))
        simp only [List.getElem_toArray, List.getElem_cons_zero, List.getElem_cons_succ, Act.put, List.setIfInBounds_toArray, List.set_cons_zero, List.set_cons_succ]
        refine wpAnyH_take (i := 6) (v := ?_) rfl (by kernel_rfl) (by kernel_rfl) (by kernel_rfl) (fun _ _ _ h => h) (Or.inl ⟨by rfl, ?_⟩) hHeld ?_
        rotate_left
        · (intro W hSw; (try dsimp only at hSw); go_simp; all_goals (with_reducible rfl))
        simp only [List.getElem_toArray, List.getElem_cons_zero, List.getElem_cons_succ, Act.put, List.setIfInBounds_toArray, List.set_cons_zero, List.set_cons_succ]
        refine wpAnyH_take (i := 7) (v := ?_) rfl (by kernel_rfl) (by kernel_rfl) (by kernel_rfl) (fun _ _ _ h => h) (Or.inl ⟨by rfl, ?_⟩) hHeld ?_
        rotate_left
        · (intro W hSw; (try dsimp only at hSw); go_simp; all_goals (with_reducible rfl))
        simp only [List.getElem_toArray, List.getElem_cons_zero, List.getElem_cons_succ, Act.put, List.setIfInBounds_toArray, List.set_cons_zero, List.set_cons_succ]
        refine wpAnyH_take (i := 8) (v := ?_) rfl (by kernel_rfl) (by kernel_rfl) (by kernel_rfl) (fun _ _ _ h => h) (Or.inl ⟨by rfl, ?_⟩) hHeld ?_
        rotate_left
        · (intro W hSw; (try dsimp only at hSw); go_simp; all_goals (with_reducible rfl))
        simp only [List.getElem_toArray, List.getElem_cons_zero, List.getElem_cons_succ, Act.put, List.setIfInBounds_toArray, List.set_cons_zero, List.set_cons_succ]
        refine wpAnyH_ready (rs := [4]) (by kernel_rfl) (by simp) ?_
        refine AllReadyH.cons rfl (fun K hK => ?_) AllReadyH.nil
        simp only [List.getElem_toArray, List.getElem_cons_zero, List.getElem_cons_succ]
        go_simp
        refine hK.out _ _ t1 (fun hHeld => ?_)
        clear hK K
        refine wpAnyH_take (i := 9) (v := ?_) rfl (by kernel_rfl) (by kernel_rfl) (by kernel_rfl) (fun _ _ _ h => h) (Or.inl ⟨by rfl, ?_⟩) hHeld ?_
        rotate_left
        · (intro W hSw; (try dsimp only at hSw); go_simp; all_goals (with_reducible rfl))
        simp only [List.getElem_toArray, List.getElem_cons_zero, List.getElem_cons_succ, Act.put, List.setIfInBounds_toArray, List.set_cons_zero, List.set_cons_succ]
        refine wpAnyH_take (i := 10) (v := ?_) rfl (by kernel_rfl) (by kernel_rfl) (by kernel_rfl) (fun _ _ _ h => h) (Or.inl ⟨by rfl, ?_⟩) hHeld ?_
        rotate_left
        · (intro W hSw; (try dsimp only at hSw); go_simp; all_goals (with_reducible rfl))
        simp only [List.getElem_toArray, List.getElem_cons_zero, List.getElem_cons_succ, Act.put, List.setIfInBounds_toArray, List.set_cons_zero, List.set_cons_succ]
        refine wpAnyH_take (i := 11) (v := ?_) rfl (by kernel_rfl) (by kernel_rfl) (by kernel_rfl) (fun _ _ _ h => h) (Or.inl ⟨by rfl, ?_⟩) hHeld ?_
        rotate_left
        · (intro W hSw; (try dsimp only at hSw); go_simp; all_goals (with_reducible rfl))
        simp only [List.getElem_toArray, List.getElem_cons_zero, List.getElem_cons_succ, Act.put, List.setIfInBounds_toArray, List.set_cons_zero, List.set_cons_succ]
        refine wpAnyH_take (i := 12) (v := ?_) rfl (by kernel_rfl) (by kernel_rfl) (by kernel_rfl) (fun _ _ _ h => h) (Or.inl ⟨by rfl, ?_⟩) hHeld ?_
        rotate_left
        · (intro W hSw; (try dsimp only at hSw); go_simp; all_goals (with_reducible rfl))
        simp only [List.getElem_toArray, List.getElem_cons_zero, List.getElem_cons_succ, Act.put, List.setIfInBounds_toArray, List.set_cons_zero, List.set_cons_succ]
        refine wpAnyH_ready (rs := [13]) (by kernel_rfl) (by simp) ?_
        refine AllReadyH.cons rfl (fun K hK => ?_) AllReadyH.nil
        simp only [List.getElem_toArray, List.getElem_cons_zero, List.getElem_cons_succ]
        go_simp
        have HG3 : Hid (Ge elN (xd.setCell ⟨go, 1, none⟩ (.int .i64 (cnt + ks - 1))) w.heap.size (.slice (some ⟨go, 0, none⟩) (body.length + 1) co) (⟨c, cnt + ks - 1, [], 0, 0, 0⟩ :: body)) := HG.out.put 0 (by simp) 1 (by decide) _ ⟨c, cnt + ks - 1, [], 0, 0, 0⟩ rfl
        have HB3 : Hid (Below w.heap.size w (xd.setCell ⟨go, 1, none⟩ (.int .i64 (cnt + ks - 1)))) := HB.out.setCell (p := ⟨go, 1, none⟩) hgo _
        have HV3 : Hid (Va (xd.setCell ⟨go, 1, none⟩ (.int .i64 (cnt + ks - 1))) (w.heap.size + 1) 22 #[.slice xa a.length ca, .slice xb b.length cb]) := HV.out.other (p := ⟨go, 1, none⟩) (fun e => hgv e.symm) _
        have t3 : (xd.setCell ⟨go, 1, none⟩ (.int .i64 (cnt + ks - 1))).cell? ⟨tb, tof + 1, none⟩ = some (.int .i64 ks) := by rw [World.cell?_setCell_other _ _ _ _ (by intro e; cases e; exact hne rfl)]; exact t1
        have hsz3 : w.heap.size + 2 ≤ (xd.setCell ⟨go, 1, none⟩ (.int .i64 (cnt + ks - 1))).heap.size := by simpa [World.setCell] using hsz
        refine hK.out _ _ t3 (fun hHeld => ?_)
        clear hK K
        refine wpAnyH_done (by kernel_rfl) ?_ _
        refine NoPanic.normal ?_
        clear hHeld t3 o1 g1 t0 t1
        obtain ⟨W3, hW3⟩ : ∃ W3, W3 = xd.setCell ⟨go, 1, none⟩ (.int .i64 (cnt + ks - 1)) := ⟨_, rfl⟩
        rw [← hW3] at HG3 HB3 HV3 hsz3 ⊢
        clear hW3 HG HB HV hsz
        have TL : Hid (Le elN W3 (some ⟨tb, tof + 6, none⟩) tt.length tt) := (HLe.out.after HB3.out).tail
        have c1 : (1 : Int) ≤ q := by omega
        have c2 : (1 : Int) ≤ (tt.length : Int) + 1 := by omega
        have c3 : ¬ q = 1 := by omega
        have c4 : tt.length + 1 - 1 = tt.length := by omega
        have HLN : Hid ((⟨c, cnt + ks - 1, [], 0, 0, 0⟩ :: body : List Nd).length + tt.length ≤ 1000000000000) := by show _ ≤ _; rw [List.length_cons]; omega
        go_wp2_with (at_builtin; refine wpList_appE rfl _ _ _ rfl elN rfl w.heap.size _ (⟨c, cnt + ks - 1, [], 0, 0, 0⟩ :: body) rfl HG3.out tb (tof + 6) tt.length (q - 1) tt rfl TL.out HLN.out (by omega) ?_; intro v' w6 hg6 hgr6 hob6; obtain ⟨a6, c6, rfl, -, -, -⟩ := hg6.shape)
        have HG6 : Hid (Ge elN w6 w.heap.size (.slice a6 (⟨c, cnt + ks - 1, [], 0, 0, 0⟩ :: body ++ tt : List Nd).length c6) (⟨c, cnt + ks - 1, [], 0, 0, 0⟩ :: body ++ tt)) := hg6
        have HB6 : Hid (Below w.heap.size w w6) := appE_below hgr6 HG3.out (by omega) HB3.out
        have HV6 : Hid (Va w6 (w.heap.size + 1) 22 #[.slice xa a.length ca, .slice xb b.length cb]) := HV3.out.gr hgr6 (fun e => hgv e.symm)
        have hsz6 : w.heap.size + 2 ≤ w6.heap.size := by have := hgr6.size; omega
        have HU1 : Hid (unN c a b (i + 1) = cnt + ks - 1 ∧ unL c a b (i + 1) = body ++ tt) := ⟨by rw [HN1.out, HKN.out.1]; omega, by rw [HN2.out, HKN.out.2]⟩
        clear hg6 hgr6 hob6 HG3 HB3 HV3
        go_wp2_with fail
        go_roundw
        case rel =>
          refine ⟨i + 1, rfl, by omega, ?_, HB6.out, HV6.out, hsz6, ?_⟩
          · rw [HU1.out.1, HU1.out.2]; have := HG6.out; rw [List.cons_append, List.length_cons, List.length_append] at this; first | exact this | (rw [List.length_append]; exact this)
          · rw [HU1.out.1, HU1.out.2]; exact ⟨HNB.out.1, HNB.out.2, by rw [List.length_append]; omega⟩
        case measure => simp [intOf]; omega
      · have hkb : (h.kd == c) = false := by simpa using hk
        have HKN : Hid (kN c (h :: tt) = 1 ∧ mlL c (h :: tt) = h :: tt) := ⟨by simp [kN, hk], by simp [mlL, hk]⟩
        clear hka hk o1 g1
        have TL : Hid (Le elN wr (some ⟨tb, tof, none⟩) (tt.length + 1) (h :: tt)) := HLe.out.after HB.out
        have HLN : Hid ((⟨c, cnt, [], 0, 0, 0⟩ :: body : List Nd).length + (tt.length + 1) ≤ 1000000000000) := by show _ ≤ _; rw [List.length_cons]; omega
        go_wp2_with (at_builtin; refine wpList_appE rfl _ _ _ rfl elN rfl w.heap.size _ (⟨c, cnt, [], 0, 0, 0⟩ :: body) rfl HG.out tb tof (tt.length + 1) q (h :: tt) rfl TL.out HLN.out (by omega) ?_; intro v' w6 hg6 hgr6 hob6; obtain ⟨a6, c6, rfl, -, -, -⟩ := hg6.shape)
        have HG6 : Hid (Ge elN w6 w.heap.size (.slice a6 (⟨c, cnt, [], 0, 0, 0⟩ :: body ++ h :: tt : List Nd).length c6) (⟨c, cnt, [], 0, 0, 0⟩ :: body ++ h :: tt)) := hg6
        have HB6 : Hid (Below w.heap.size w w6) := appE_below hgr6 HG.out (by omega) HB.out
        have HV6 : Hid (Va w6 (w.heap.size + 1) 22 #[.slice xa a.length ca, .slice xb b.length cb]) := HV.out.gr hgr6 (fun e => hgv e.symm)
        have hsz6 : w.heap.size + 2 ≤ w6.heap.size := by have := hgr6.size; omega
        have HU1 : Hid (unN c a b (i + 1) = cnt ∧ unL c a b (i + 1) = body ++ h :: tt) := ⟨by rw [HN1.out, HKN.out.1]; omega, by rw [HN2.out, HKN.out.2]⟩
        clear hg6 hgr6 hob6 HG HB HV
        go_wp2_with fail
        go_roundw
        case rel =>
          refine ⟨i + 1, rfl, by omega, ?_, HB6.out, HV6.out, hsz6, ?_⟩
          · rw [HU1.out.1, HU1.out.2]; have := HG6.out; rw [List.cons_append, List.length_cons, List.length_append] at this; first | exact this | (rw [List.length_append]; exact this)
          · rw [HU1.out.1, HU1.out.2]; exact ⟨by omega, by omega, by rw [List.length_append, List.length_cons]; omega⟩
        case measure => simp [intOf]; omega
    · obtain rfl : i = 2 := by omega
      have HF : Hid (⟨c, unN c a b 2, [], 0, 0, 0⟩ :: unL c a b 2 = U) := HU.out
      have hul : (unL c a b 2).length + 1 = U.length := by rw [← HF.out]; rfl
      clear hge hi
      go_wp2_with fail
      go_ret
      refine ⟨some ⟨go, 0, none⟩, co, ?_, ?_, HB.out⟩
      · rw [← hul]; rfl
      · have := HG.out; rw [HF.out, hul] at this; exact this
end Go.Proofs.YtiogfampfdnkcabGreatDoor
namespace Go.Proofs.YtiogfampfdnkcabGreatDoor
set_option linter.unusedVariables false

theorem hoV_not {a : List Nd} {n : Nd} {k : Fo} (e : a = (Fo.cons n k .nil).flat) (ok : (Fo.cons n k .nil).Ok wdB 0 1) (h : Cond wdB (ndN :: a)) (v : Nd → Bool) : hoV (ndN :: a) v = !hoV a v := by
  obtain ⟨-, m, j, e1, ok1⟩ := cond_tree (by simp) h
  have e2 := e1
  simp only [Fo.flat, List.append_nil, List.cons.injEq] at e2
  obtain ⟨rfl, e3⟩ := e2
  have hl : j.len = 1 := by have := ok1.1.2.2.2.1; simp [ndN] at this; omega
  have := (flat_inj j (.cons n k .nil) _ _ _ _ [] [] ok1.1.2.2.2.2 ok (by rw [hl]; rfl) (by rw [List.append_nil, List.append_nil, ← e3, e])).1
  subst this
  rw [hoV_eq e1 ok1, hoV_eq e ok]
  rfl
theorem ml_flat (c : Int) (n : Nd) (k : Fo) : mlL c (Fo.cons n k .nil).flat = ((Fo.cons n k .nil).melt c).flat := by
  unfold mlL Fo.melt
  simp only [Fo.flat, List.append_nil, List.headD_cons, List.tail_cons]
  split
  · rw [show (Fo.nil.melt c) = .nil from rfl, Fo.app_nil]
  · simp [Fo.flat, Fo.melt]
theorem kN_len (c : Int) (n : Nd) (k : Fo) (h : n.ks = (k.len : Int)) : kN c (Fo.cons n k .nil).flat = (((Fo.cons n k .nil).melt c).len : Nat) := by
  have e : ((Fo.cons n k .nil).flat.headD nd0) = n := rfl
  unfold kN
  rw [e]
  unfold Fo.melt
  by_cases hc : n.kd = c
  · simp [hc, Fo.melt, Fo.app_nil, h]
  · simp [hc, Fo.melt, Fo.len]
theorem hoV_und {a b : List Nd} {n m : Nd} {k j : Fo} (e : a = (Fo.cons n k .nil).flat) (ok : (Fo.cons n k .nil).Ok wdB 0 1) (e' : b = (Fo.cons m j .nil).flat) (ok' : (Fo.cons m j .nil).Ok wdB 0 1) (c : Int) (hc : c = 1 ∨ c = 2) (h : Cond wdB (und c a b)) (v : Nd → Bool) :
    hoV (und c a b) v = if c = 1 then (hoV a v || hoV b v) else (hoV a v && hoV b v) := by
  obtain ⟨-, p, q, e1, ok1⟩ := cond_tree (by simp [und]) h
  have e2 := e1
  unfold und at e2
  simp only [Fo.flat, List.append_nil, List.cons.injEq] at e2
  obtain ⟨rfl, e3⟩ := e2
  have l1 := kN_len c n k ok.1.2.2.2.1
  have l2 := kN_len c m j ok'.1.2.2.2.1
  have hl := ok1.1.2.2.2.1
  dsimp only at hl
  rw [e, e', l1, l2] at hl
  have hq : q = ((Fo.cons n k .nil).melt c).app ((Fo.cons m j .nil).melt c) := by
    refine (flat_inj q _ _ _ _ _ [] [] ok1.1.2.2.2.2 ((melt_ok c hc ok).app (melt_ok c hc ok')) ?_ ?_).1
    · rw [Fo.len_app]; omega
    · rw [List.append_nil, List.append_nil, Fo.flat_app, ← ml_flat, ← ml_flat, ← e3, e, e']
  subst hq
  rw [hoV_eq e1 ok1, hoV_eq e ok, hoV_eq e' ok']
  have x1 : (Fo.cons n k .nil).ev v = [val v n (k.ev v)] := rfl
  have x2 : (Fo.cons m j .nil).ev v = [val v m (j.ev v)] := rfl
  rcases hc with rfl | rfl
  · simp only [if_true]
    have y1 := melt_any v (Fo.cons n k .nil)
    have y2 := melt_any v (Fo.cons m j .nil)
    rw [x1] at y1
    rw [x2] at y2
    rw [val, if_pos rfl, ev_app, List.any_append, y1, y2]
    simp
  · have y1 := melt_all v (Fo.cons n k .nil)
    have y2 := melt_all v (Fo.cons m j .nil)
    rw [x1] at y1
    rw [x2] at y2
    rw [val, if_neg (show ¬ (2 : Int) = 1 by decide), if_pos rfl, ev_app, List.all_append, y1, y2]
    simp
theorem hoE_cases (ns : List Nd) (f : Fx) (hf : f.Ok) : (hoE ns f = 0 ∧ ckE ns = 0 ∧ Cond wdB ns ∧ hoB ns f = hoV ns f.vf) ∨ (hoE ns f = 131 ∧ ckE ns = 131 ∧ ¬ Cond wdB ns) := by
  rcases Classical.em (Cond wdB ns) with h | h
  · exact .inl ⟨by simp [hoE, h]; exact ftE_ok hf, ckE_ok h, h, by simp [hoB, h, hf]⟩
  · exact .inr ⟨by simp [hoE, h], ckE_no h, h⟩
theorem hoE_zero {ns : List Nd} {f : Fx} (h : hoE ns f = 0) : Cond wdB ns ∧ f.Ok := by
  rcases Classical.em (Cond wdB ns) with h1 | h1
  · refine ⟨h1, ?_⟩
    rcases Classical.em f.Ok with h2 | h2
    · exact h2
    · simp [hoE, h1] at h
      rw [ftE_no h2] at h; cases h
  · simp [hoE, h1] at h
end Go.Proofs.YtiogfampfdnkcabGreatDoor
namespace Go.Proofs.YtiogfampfdnkcabGreatDoor
open Go.RowKit Go.Shelf
set_option linter.unusedVariables false

theorem drop_n {l : List Nd} {j : Nat} (h : j < l.length) : l.drop j = l.getD j nd0 :: l.drop (j + 1) := by
  rw [List.drop_eq_getElem_cons h, List.getD_eq_getElem?_getD, List.getElem?_eq_getElem h]; rfl
end Go.Proofs.YtiogfampfdnkcabGreatDoor
namespace Go.Proofs.YtiogfampfdnkcabGreatDoor
open Go.RowKit Go.Shelf
set_option linter.unusedVariables false

/-- Where the first point stands. -/
def ix (s : List UInt8) : Int := Go.Lib.indexByte s 46
theorem ix_range : ∀ s : List UInt8, ix s = -1 ∨ (0 ≤ ix s ∧ ix s < s.length)
  | [] => .inl rfl
  | b :: l => by
    unfold ix Go.Lib.indexByte
    have ih := ix_range l
    unfold ix at ih
    split
    · right; first | (simp; done) | (simp; omega)
    split
    · left; rfl
    · rename_i h1 h2
      have h2' : ¬ Go.Lib.indexByte l 46 = -1 := by simpa using h2
      right; simp; omega
/-- A text between its points, the last piece behind the k-th one whole. -/
def spl : Nat → List UInt8 → List (List UInt8)
  | 0, s => [s]
  | k + 1, s => if ix s < 0 then [s] else s.take (ix s).toNat :: spl k (s.drop ((ix s).toNat + 1))
theorem spl_succ (k : Nat) (s : List UInt8) : spl (k + 1) s = if ix s < 0 then [s] else s.take (ix s).toNat :: spl k (s.drop ((ix s).toNat + 1)) := rfl
theorem spl_more : ∀ (k : Nat) (s : List UInt8), s.length ≤ k → spl k s = spl s.length s
  | 0, s, h => by have : s = [] := List.length_eq_zero_iff.1 (by omega); subst this; rfl
  | k + 1, s, h => by
    cases hs : s.length with
    | zero =>
      have : s = [] := List.length_eq_zero_iff.1 hs
      subst this
      simp [spl, ix, Go.Lib.indexByte]
    | succ n =>
      unfold spl
      rcases ix_range s with h1 | h1
      · rw [h1]; rfl
      · rw [if_neg (by omega), if_neg (by omega)]
        congr 1
        have h2 : (s.drop ((ix s).toNat + 1)).length ≤ n := by rw [List.length_drop]; omega
        rw [spl_more k _ (by omega), spl_more n _ h2]
termination_by k s => k
theorem le_left {α : Type} {E : El α} {w : World} {b off n : Nat} {xs ys : List α} (h : Le E w (some ⟨b, off, none⟩) n (xs ++ ys)) (hm : xs.length ≤ n) : Le E w (some ⟨b, off, none⟩) xs.length xs := by
  refine ⟨rfl, fun h0 => ⟨b, off, rfl, fun i u hu => ?_⟩⟩
  obtain ⟨b', off', e, hc⟩ := h.2 (by omega)
  cases e
  refine hc i u ?_
  have hi : i < (rowE E xs).length := by
    rcases Nat.lt_or_ge i (rowE E xs).length with h' | h'
    · exact h'
    · rw [List.getElem?_eq_none h'] at hu; cases hu
  rw [rowE_append, List.getElem?_append_left hi]; exact hu
theorem made_s (n : Nat) : (madeCells (Value.string ⟨#[]⟩).cells (n * 1)).toList = rowE elS (List.replicate n []) := by
  have : rowE elS (List.replicate n []) = List.replicate n (sv []) := by
    induction n with
    | zero => rfl
    | succ n ih => rw [List.replicate_succ, rowE_cons, ih]; rfl
  rw [this]
  simp only [madeCells, Value.cells]
  have h2 : (fun x : Nat => ([Value.string ⟨#[]⟩] : List Value)[x % 1]?.getD default) = fun _ => sv [] := by funext x; rw [Nat.mod_one]; rfl
  simp [h2]
  rw [show (fun _ : Nat => sv []) = Function.const Nat (sv []) from rfl, List.map_const]; simp
theorem bytesStr (i : TypeInfo) (h : Tryz.prog.info? 9 = some i) : i.bytes = 16 := by
  have := infoStr
  rw [h] at this
  simp at this
  exact this.2.2
set_option maxHeartbeats 8000000 in
theorem genSplit_any (s : List UInt8) (w : World) (hl : s.length ≤ 140737488355328) :
    Calls Tryz.prog 40 #[sv s, .string ⟨#[46]⟩, .int .i64 0, .int .i64 9] w fun e w' => ∃ a' c', e = .returned (.slice a' (spl 8 s).length c') ∧ Le elS w' a' (spl 8 s).length (spl 8 s) ∧ (spl 8 s).length ≤ c' ∧ Below w.heap.size w w' := by
  obtain ⟨N, hN⟩ : ∃ N : Nat, N = min 9 (s.length + 1) := ⟨_, rfl⟩
  obtain ⟨K, hK⟩ : ∃ K : Nat, N = K + 1 := ⟨N - 1, by omega⟩
  have HSP : Hid (spl 8 s = spl K s) := by
    show _ = _
    by_cases h : s.length ≤ 8
    · have : K = s.length := by omega
      rw [this, spl_more 8 s h]
    · have : K = 8 := by omega
      rw [this]
  have hmin : min 9 ((s.length : Int) + 1) = (N : Int) := by omega
  have hN9 : N ≤ 9 := by omega
  have xl : IntKind.i64.wrap ((s.length : Int) + 1) = (s.length : Int) + 1 := by rw [IntKind.wrap_i64]; omega
  have xN : IntKind.i64.wrap ((N : Int) - 1) = (K : Int) := by rw [IntKind.wrap_i64]; omega
  obtain ⟨SL, hSL⟩ : ∃ SL, spl 8 s = SL := ⟨_, rfl⟩
  rw [hSL] at HSP ⊢
  replace HSP : Hid (SL = spl K s) := HSP
  clear hN hSL
  obtain ⟨i0, hi0, hz0, hz1, hz2⟩ := info_parts infoStr
  have HB8 : Hid (i0.bytes * N ≤ 281474976710656) := by show _ ≤ _; rw [hz2]; omega
  have HN8 : Hid (N ≤ maxLen) := by show _ ≤ maxLen; unfold maxLen; omega
  have HNK : Hid (N = K + 1) := hK
  clear hK
  go_enter Tryz.func40, Tryz.ntmps40
  go_wp2_with (at_make; go_loud (refine wpList_make_full w rfl _ _ 23 rfl w.heap.size 9 i0 (.string ⟨#[]⟩) 1 Tryz.underlying23 hi0 hz0 hz1 .i64 .i64 _ _ N rfl rfl rfl rfl HB8.out HN8.out (Nat.le_refl _) ?_; intro W1 hr1 hg1))
  have HG1 : Hid (Ge elS W1 w.heap.size (.slice (some ⟨w.heap.size, 0, none⟩) N N) (List.replicate N [])) := by
    show World.ownsRow _ _ _ _ _ _ _
    rw [List.length_replicate]
    have := hr1
    rw [made_s] at this
    exact this
  have HB1 : Hid (Below w.heap.size w W1) := (Below.refl _ _).grown hg1 (Nat.le_refl _) (fun k h => by cases h)
  have hsz1 := (World.ownsRow.lt hr1 w.heap.size rfl).2
  clear hr1 hg1 hi0 hz0 hz1 hz2 HB8 HN8
  go_wp2_with fail
  go_loopw [0, 10, 11] (fun ts j _ wr => ∃ (i : Nat) (t : List UInt8) (pre : List (List UInt8)), ts = sv t ∧ j = .int .i64 i ∧ i ≤ K ∧ t.length ≤ s.length ∧ pre.length = i ∧ Hid (spl K s = pre ++ spl (K - i) t) ∧ Hid (Ge elS wr w.heap.size (.slice (some ⟨w.heap.size, 0, none⟩) N N) (pre ++ List.replicate (N - i) [])) ∧ Hid (Below w.heap.size w wr)) (fun _ j _ _ => (K - (intOf j).toNat : Nat))
  case atStart => exact ⟨0, s, [], rfl, rfl, Nat.zero_le _, Nat.le_refl _, rfl, rfl, HG1.out, HB1.out⟩
  case round =>
    clear HG1 HB1 hsz1
    obtain ⟨i, t, pre, rfl, rfl, hiK, htl, hpl, HI, HG, HB⟩ := hrel
    have hNK := HNK.out
    rcases Nat.lt_or_ge i K with hlt | hge
    · have hlt' : (i : Int) < K := by omega
      have C9 := Tryz.strings_Index_one ⟨t.toArray⟩ 46 wr
      have hix : Go.Lib.indexByte (⟨t.toArray⟩ : ByteArray).data.toList 46 = ix t := by simp [ix]
      rw [hix] at C9
      obtain ⟨kk, hkk⟩ : ∃ kk, K - i = kk + 1 := ⟨K - i - 1, by omega⟩
      rcases ix_range t with h1 | h1
      · have HEND : spl K s = pre ++ [t] := by
          have := HI.out
          rw [hkk, spl_succ, if_pos (by omega)] at this
          exact this
        rw [h1] at C9
        clear hix hkk hNK
        go_wp2_with fail
        refine C9.mono ?_
        rintro e w2 ⟨rfl, hw2⟩
        rw [hw2]; clear hw2 w2 C9
        have hNK := HNK.out
        obtain ⟨R, hR⟩ : ∃ R, N = i + 1 + R := ⟨N - i - 1, by omega⟩
        have HG7 : Hid (Ge elS (wr.setCell ⟨w.heap.size, i, none⟩ (sv t)) w.heap.size (.slice (some ⟨w.heap.size, 0, none⟩) N N) (pre ++ t :: List.replicate R [])) := by
          have h1 : (pre ++ List.replicate (N - i) ([] : List UInt8)).set i t = pre ++ t :: List.replicate R [] := by
            have e : N - i = R + 1 := by omega
            rw [e, List.replicate_succ, ← hpl, List.set_append_right _ _ (Nat.le_refl _), Nat.sub_self, List.set_cons_zero]
          have := HG.out.put i (by simp; omega) 0 (by decide) (sv t) t rfl
          rw [h1] at this
          rw [show i * elS.s + 0 = i by show i * 1 + 0 = i; omega] at this
          exact this
        have HB7 : Hid (Below w.heap.size w (wr.setCell ⟨w.heap.size, i, none⟩ (sv t))) := HB.out.setCell (p := ⟨w.heap.size, i, none⟩) (Nat.le_refl _) _
        have f9 := HG.out.frozen i
        have c9 : wr.cell? ⟨w.heap.size, i, none⟩ = some (sv []) := by
          have h2 : (pre ++ List.replicate (N - i) ([] : List UInt8)).getD i [] = [] := by
            rw [List.getD_eq_getElem?_getD, List.getElem?_append_right (by omega), hpl, Nat.sub_self, List.getElem?_replicate]
            split <;> rfl
          have h3 := HG.out.toLe.at i (by omega) 0 (sv []) (by rw [show elS.dft = [] from rfl, h2]; rfl)
          have e : 0 + (i * elS.s + 0) = i := by show 0 + (i * 1 + 0) = i; omega
          rw [e] at h3
          exact h3
        have hiN : (i : Int) < N := by omega
        have hiN2 : (i : Int) + 1 ≤ N := by omega
        have xi : IntKind.i64.wrap ((i : Int) + 1) = (i : Int) + 1 := by rw [IntKind.wrap_i64]; omega
        have HF : Hid (spl K s = pre ++ [t]) := HEND
        have HPL : Hid (pre.length = i) := hpl
        have HRR : Hid (N = i + 1 + R) := hR
        clear hpl HI hR hNK
        go_upto_region 18 with fail
        obtain ⟨W7, hW7⟩ : ∃ W7, W7 = wr.setCell ⟨w.heap.size, i, none⟩ (sv t) := ⟨_, rfl⟩
        first | rw [← hW7] at HG7 HB7 ⊢ | (rw [show (sv t : Value) = .string ⟨t.toArray⟩ from rfl] at hW7; rw [← hW7] at HG7 HB7 ⊢)
        clear hW7 f9 c9 HG HB
        go_wp2_with fail
        go_ret
        refine ⟨some ⟨w.heap.size, 0, none⟩, N, ?_, ?_, ?_, HB7.out⟩
        · have h5 : (spl K s).length = i + 1 := by rw [HF.out, List.length_append, HPL.out]; rfl
          rw [HSP.out, h5]; first | rfl | (simp; done) | (simp; omega)
        · rw [HSP.out, HF.out]
          have h6 := HG7.out.toLe
          rw [show pre ++ t :: List.replicate R [] = (pre ++ [t]) ++ List.replicate R [] by simp] at h6
          exact le_left h6 (by simp; have := HRR.out; have := HPL.out; omega)
        · rw [HSP.out, HF.out, List.length_append, HPL.out]; have := HRR.out; simp; omega
      · obtain ⟨m, hm⟩ : ∃ m : Nat, ix t = m := ⟨(ix t).toNat, by omega⟩
        rw [hm] at C9 h1
        have hml : m < t.length := by omega
        have HI2 : Hid (spl K s = (pre ++ [t.take m]) ++ spl (K - (i + 1)) (t.drop (m + 1))) := by
          have := HI.out
          rw [hkk, spl_succ, if_neg (by omega), hm] at this
          show _ = _
          rw [show K - (i + 1) = kk by omega]
          simpa using this
        have sh := slice_hi t
        have sl := slice_lo t
        have e1 := slice_hi t (m : Int) m rfl (by omega)
        have e2 := slice_lo t ((m : Int) + 1) (m + 1) rfl (by omega)
        have x1 : IntKind.i64.wrap ((m : Int) + 1) = (m : Int) + 1 := by rw [IntKind.wrap_i64]; omega
        have x0 : IntKind.i64.wrap (m : Int) = m := by rw [IntKind.wrap_i64]; omega
        have xi : IntKind.i64.wrap ((i : Int) + 1) = (i : Int) + 1 := by rw [IntKind.wrap_i64]; omega
        have hm0 : ¬ (m : Int) < 0 := by omega
        have hiN : (i : Int) < N := by omega
        have HGx : Hid (∀ v, Ge elS (wr.setCell ⟨w.heap.size, i, none⟩ (sv v)) w.heap.size (.slice (some ⟨w.heap.size, 0, none⟩) N N) ((pre ++ [v]) ++ List.replicate (N - (i + 1)) [])) := fun v => by
          have h1 : (pre ++ List.replicate (N - i) ([] : List UInt8)).set i v = (pre ++ [v]) ++ List.replicate (N - (i + 1)) [] := by
            have e : N - i = (N - (i + 1)) + 1 := by omega
            rw [e, List.replicate_succ, ← hpl, List.set_append_right _ _ (Nat.le_refl _), Nat.sub_self, List.set_cons_zero]
            simp
          have := HG.out.put i (by simp; omega) 0 (by decide) (sv v) v rfl
          rw [h1, show i * elS.s + 0 = i by show i * 1 + 0 = i; omega] at this
          exact this
        have f9 := HG.out.frozen i
        have c9 : wr.cell? ⟨w.heap.size, i, none⟩ = some (sv []) := by
          have h2 : (pre ++ List.replicate (N - i) ([] : List UInt8)).getD i [] = [] := by
            rw [List.getD_eq_getElem?_getD, List.getElem?_append_right (by omega), hpl, Nat.sub_self, List.getElem?_replicate]
            split <;> rfl
          have h3 := HG.out.toLe.at i (by omega) 0 (sv []) (by rw [show elS.dft = [] from rfl, h2]; rfl)
          have e : 0 + (i * elS.s + 0) = i := by show 0 + (i * 1 + 0) = i; omega
          rw [e] at h3
          exact h3
        have HPL : Hid (pre.length = i) := hpl
        clear hix hkk hm h1 HI sh sl hpl hNK
        go_wp2_with fail
        refine C9.mono ?_
        rintro e w2 ⟨rfl, hw2⟩
        rw [hw2]; clear hw2 w2 C9
        go_wp2_with fail
        go_roundw
        case rel => exact ⟨i + 1, t.drop (m + 1), pre ++ [t.take m], rfl, rfl, by omega, by rw [List.length_drop]; omega, by rw [List.length_append, HPL.out]; rfl, HI2.out, HGx.out _, HB.out.setCell (p := ⟨w.heap.size, i, none⟩) (Nat.le_refl _) _⟩
        case measure => simp [intOf]; omega
    · obtain rfl : i = K := by omega
      have HEND : spl i s = pre ++ [t] := by
        have := HI.out
        rw [Nat.sub_self] at this
        exact this
      obtain ⟨R, hR⟩ : ∃ R, N = i + 1 + R := ⟨N - i - 1, by omega⟩
      have HG7 : Hid (Ge elS (wr.setCell ⟨w.heap.size, i, none⟩ (sv t)) w.heap.size (.slice (some ⟨w.heap.size, 0, none⟩) N N) (pre ++ t :: List.replicate R [])) := by
        have h1 : (pre ++ List.replicate (N - i) ([] : List UInt8)).set i t = pre ++ t :: List.replicate R [] := by
          have e : N - i = R + 1 := by omega
          rw [e, List.replicate_succ, ← hpl, List.set_append_right _ _ (Nat.le_refl _), Nat.sub_self, List.set_cons_zero]
        have := HG.out.put i (by simp; omega) 0 (by decide) (sv t) t rfl
        rw [h1] at this
        rw [show i * elS.s + 0 = i by show i * 1 + 0 = i; omega] at this
        exact this
      have HB7 : Hid (Below w.heap.size w (wr.setCell ⟨w.heap.size, i, none⟩ (sv t))) := HB.out.setCell (p := ⟨w.heap.size, i, none⟩) (Nat.le_refl _) _
      have f9 := HG.out.frozen i
      have c9 : wr.cell? ⟨w.heap.size, i, none⟩ = some (sv []) := by
        have h2 : (pre ++ List.replicate (N - i) ([] : List UInt8)).getD i [] = [] := by
          rw [List.getD_eq_getElem?_getD, List.getElem?_append_right (by omega), hpl, Nat.sub_self, List.getElem?_replicate]
          split <;> rfl
        have h3 := HG.out.toLe.at i (by omega) 0 (sv []) (by rw [show elS.dft = [] from rfl, h2]; rfl)
        have e : 0 + (i * elS.s + 0) = i := by show 0 + (i * 1 + 0) = i; omega
        rw [e] at h3
        exact h3
      have hiN : (i : Int) < N := by omega
      have hiN2 : (i : Int) + 1 ≤ N := by omega
      have xi : IntKind.i64.wrap ((i : Int) + 1) = (i : Int) + 1 := by rw [IntKind.wrap_i64]; omega
      have HF : Hid (spl i s = pre ++ [t]) := HEND
      have HPL : Hid (pre.length = i) := hpl
      have HRR : Hid (N = i + 1 + R) := hR
      clear hpl HI hR hNK
      go_upto_region 18 with fail
      obtain ⟨W7, hW7⟩ : ∃ W7, W7 = wr.setCell ⟨w.heap.size, i, none⟩ (sv t) := ⟨_, rfl⟩
      first | rw [← hW7] at HG7 HB7 ⊢ | (rw [show (sv t : Value) = .string ⟨t.toArray⟩ from rfl] at hW7; rw [← hW7] at HG7 HB7 ⊢)
      clear hW7 f9 c9 HG HB
      go_wp2_with fail
      go_ret
      refine ⟨some ⟨w.heap.size, 0, none⟩, N, ?_, ?_, ?_, HB7.out⟩
      · have h5 : (spl i s).length = i + 1 := by rw [HF.out, List.length_append, HPL.out]; rfl
        rw [HSP.out, h5]; first | rfl | (simp; done) | (simp; omega)
      · rw [HSP.out, HF.out]
        have h6 := HG7.out.toLe
        rw [show pre ++ t :: List.replicate R [] = (pre ++ [t]) ++ List.replicate R [] by simp] at h6
        exact le_left h6 (by simp; have := HRR.out; have := HPL.out; omega)
      · rw [HSP.out, HF.out, List.length_append, HPL.out]; have := HRR.out; simp; omega
end Go.Proofs.YtiogfampfdnkcabGreatDoor
namespace Go.Proofs.YtiogfampfdnkcabGreatDoor
open Go.RowKit Go.Shelf
set_option linter.unusedVariables false

theorem splitN_any (s : List UInt8) (w : World) (hl : s.length ≤ 140737488355328) :
    Calls Tryz.prog 26 #[sv s, .string ⟨#[46]⟩, .int .i64 9] w fun e w' => ∃ a' c', e = .returned (.slice a' (spl 8 s).length c') ∧ Le elS w' a' (spl 8 s).length (spl 8 s) ∧ (spl 8 s).length ≤ c' ∧ Below w.heap.size w w' := by
  have C9 := genSplit_any s w hl
  generalize spl 8 s = P at *
  clear hl
  go_enter Tryz.func26, Tryz.ntmps26
  go_wp2_with fail
  refine C9.mono ?_
  rintro e W ⟨a', c', rfl, h1, h2, hb⟩
  clear C9
  go_wp2_with fail
  go_ret
  exact ⟨a', c', rfl, h1, h2, hb⟩
/-- Is a text a class? -/
def clB (s : List UInt8) : Bool := decide ((spl 8 s).length ≤ 8) && (spl 8 s).all wdB
/-- How Class ends. -/
def ClE (s : List UInt8) (w : World) (e : Ending) (w' : World) : Prop := (clB s = false ∧ e = .returned (.tuple #[.slice none 0 0, .int .i64 140]) ∧ Below w.heap.size w w') ∨
  (clB s = true ∧ ∃ a' c', e = .returned (.tuple #[.slice a' (spl 8 s).length c', .int .i64 0]) ∧ Le elS w' a' (spl 8 s).length (spl 8 s) ∧ (spl 8 s).length ≤ c' ∧ (spl 8 s).length ≤ 8 ∧ Below w.heap.size w w')
theorem spl_len : ∀ (k : Nat) (s : List UInt8), (spl k s).length ≤ k + 1
  | 0, s => by simp [spl]
  | k + 1, s => by
    rw [spl_succ]
    split
    · simp
    · have := spl_len k (s.drop ((ix s).toNat + 1)); simp only [List.length_cons]; omega
theorem spl_ne : ∀ (k : Nat) (s : List UInt8), 0 < (spl k s).length
  | 0, s => by simp [spl]
  | k + 1, s => by rw [spl_succ]; split <;> simp
set_option maxHeartbeats 2000000 in
theorem class_any (s : List UInt8) (w : World) (hl : s.length ≤ 140737488355328) : Calls Tryz.prog 13 #[sv s] w (ClE s w) := by
  have C9 := splitN_any s w hl
  have h9 := spl_len 8 s
  have hcl : clB s = (decide ((spl 8 s).length ≤ 8) && (spl 8 s).all wdB) := rfl
  have HE : Hid (∀ e w', ((clB s = false ∧ e = .returned (.tuple #[.slice none 0 0, .int .i64 140]) ∧ Below w.heap.size w w') ∨ (clB s = true ∧ ∃ a' c', e = .returned (.tuple #[.slice a' (spl 8 s).length c', .int .i64 0]) ∧ Le elS w' a' (spl 8 s).length (spl 8 s) ∧ (spl 8 s).length ≤ c' ∧ (spl 8 s).length ≤ 8 ∧ Below w.heap.size w w')) → ClE s w e w') := fun e w' h => h
  generalize clB s = B at *
  generalize spl 8 s = P at *
  clear hl
  have HCL : Hid (B = (decide (P.length ≤ 8) && P.all wdB)) := hcl
  clear hcl
  go_enter Tryz.func13, Tryz.ntmps13
  go_wp2_with fail
  refine C9.mono ?_
  rintro e W ⟨a', c', rfl, h1, h2, hb⟩
  have HL : Hid (Le elS W a' P.length P) := h1
  have HCP : Hid (P.length ≤ c') := h2
  have HB : Hid (Below w.heap.size w W) := hb
  clear C9 h1 h2 hb
  rcases Nat.lt_or_ge 8 P.length with h8 | h8
  · have h8' : (8 : Int) < P.length := by omega
    have HF : Hid (B = false) := by show _ = _; rw [HCL.out]; simp; intro h; omega
    go_wp2_with fail
    go_ret2
    exact HE.out _ _ (.inl ⟨HF.out, rfl, HB.out⟩)
  · have h8' : ¬ (8 : Int) < P.length := by omega
    have C2 := areWords_any P a' c' W HL.out (by omega)
    cases hw : P.all wdB with
    | false =>
      rw [hw] at C2
      have HF : Hid (B = false) := by show _ = _; rw [HCL.out, hw]; simp
      clear hw
      go_wp2_with fail
      refine C2.mono ?_
      rintro e W2 ⟨rfl, hb2⟩
      have B2 := step HB.out hb2
      clear C2 hb2
      go_wp2_with fail
      go_ret2
      exact HE.out _ _ (.inl ⟨HF.out, rfl, B2⟩)
    | true =>
      rw [hw] at C2
      have HF : Hid (B = true) := by show _ = _; rw [HCL.out, hw]; simp [h8]
      clear hw
      go_wp2_with fail
      refine C2.mono ?_
      rintro e W2 ⟨rfl, hb2⟩
      have B2 := step HB.out hb2
      have HL2 : Hid (Le elS W2 a' P.length P) := HL.out.after hb2
      clear C2 hb2
      go_wp2_with fail
      go_ret2
      exact HE.out _ _ (.inr ⟨HF.out, a', c', rfl, HL2.out, HCP.out, h8, B2⟩)
/-- What Covers answers. -/
def cvB (o s : List UInt8) : Bool := clB s && (decide (o = []) || (clB o && decide ((spl 8 o).length ≤ (spl 8 s).length) && decide (spl 8 o = (spl 8 s).take (spl 8 o).length)))
theorem map_ba_inj {l m : List (List UInt8)} : l.map (fun s => (⟨s.toArray⟩ : ByteArray)) = m.map (fun s => (⟨s.toArray⟩ : ByteArray)) ↔ l = m := by
  constructor
  · intro h
    have := congrArg (List.map (fun b : ByteArray => b.data.toList)) h
    simpa [List.map_map, Function.comp_def] using this
  · intro h; rw [h]
theorem equal_s (xs ys : List (List UInt8)) (b1 o1 c b2 o2 d : Nat) (w : World) (h1 : Le elS w (some ⟨b1, o1, none⟩) xs.length xs) (h2 : Le elS w (some ⟨b2, o2, none⟩) ys.length ys) (hx : xs.length ≤ 100) (hy : ys.length ≤ 100) :
    Calls Tryz.prog 28 #[.slice (some ⟨b1, o1, none⟩) xs.length c, .slice (some ⟨b2, o2, none⟩) ys.length d] w fun e w' => e = .returned (.bool (decide (xs = ys))) ∧ Below w.heap.size w w' := by
  have cells : ∀ (l : List (List UInt8)) (b o : Nat), Le elS w (some ⟨b, o, none⟩) l.length l → ∀ j, j < (l.map (fun s => (⟨s.toArray⟩ : ByteArray))).length → w.cell? ⟨b, o + j, none⟩ = some (.string ((l.map (fun s => (⟨s.toArray⟩ : ByteArray))).getD j ByteArray.empty)) := by
    intro l b o h j hj
    have hj' : j < l.length := by simpa using hj
    have e1 := h.at j hj' 0 (sv (l.getD j [])) rfl
    have e2 : (l.map (fun s => (⟨s.toArray⟩ : ByteArray))).getD j ByteArray.empty = ⟨(l.getD j []).toArray⟩ := by
      rw [List.getD_eq_getElem?_getD, List.getElem?_map, List.getD_eq_getElem?_getD, List.getElem?_eq_getElem hj']; rfl
    rw [e2]
    simpa [elS] using e1
  have := Tryz.slices_Equal_string b1 o1 xs.length c b2 o2 ys.length d (xs.map (fun s => (⟨s.toArray⟩ : ByteArray))) (ys.map (fun s => (⟨s.toArray⟩ : ByteArray))) w (by simp) (by simp) (by omega) (by omega) (cells xs b1 o1 h1) (cells ys b2 o2 h2)
  refine this.mono ?_
  rintro e w' ⟨rfl, q, rfl⟩
  refine ⟨?_, below_drewN (Below.refl _ _) q⟩
  congr 2
  rw [List.take_of_length_le (by simp), List.take_of_length_le (by simp), decide_eq_decide, map_ba_inj]
set_option maxHeartbeats 4000000 in
theorem covers_any (o s : List UInt8) (w : World) (ho : o.length ≤ 140737488355328) (hs : s.length ≤ 140737488355328) : Calls Tryz.prog 14 #[sv o, sv s] w fun e w' => e = .returned (.bool (cvB o s)) ∧ Below w.heap.size w w' := by
  have C1 := class_any s w hs
  have C2 := fun W => class_any o W ho
  obtain ⟨R, hR⟩ : ∃ R, cvB o s = R := ⟨_, rfl⟩
  have HR : Hid (cvB o s = R) := hR
  rw [hR]
  have hpo := spl_ne 8 o
  clear hR
  go_enter Tryz.func14, Tryz.ntmps14
  go_wp2_with fail
  refine C1.mono ?_
  rintro e W1 (⟨hc, rfl, hb⟩ | ⟨hc, a1, c1, rfl, hl1, hcp1, h81, hb⟩)
  · have HF : Hid (R = false) := by show _ = _; rw [← HR.out]; simp [cvB, hc]
    clear hc C1 C2
    go_wp2_with fail
    go_ret
    exact ⟨by rw [HF.out]; rfl, hb⟩
  · have HB1 : Hid (Below w.heap.size w W1) := hb
    have HL1 : Hid (Le elS W1 a1 (spl 8 s).length (spl 8 s)) := hl1
    have D2 := C2 W1
    have HC : Hid (clB s = true) := hc
    clear hc C1 C2 hb hl1
    cases ho0 : o with
    | nil =>
      have HF : Hid (R = true) := by show _ = _; rw [← HR.out, ho0]; simp [cvB, HC.out]
      clear D2
      go_wp2_with fail
      go_ret
      exact ⟨by rw [HF.out]; rfl, HB1.out⟩
    | cons x l =>
      have hne : o ≠ [] := by rw [ho0]; simp
      rw [← ho0]
      have n1 : (o == []) = false := by simpa using hne
      have n2 : ([] == o) = false := by simpa using hne
      have HNE : Hid (o ≠ []) := hne
      clear ho0 hne
      go_wp2_with fail
      refine D2.mono ?_
      rintro e W2 (⟨hc2, rfl, hb2⟩ | ⟨hc2, a2, c2, rfl, hl2, hcp2, h82, hb2⟩)
      · have HF : Hid (R = false) := by show _ = _; rw [← HR.out]; simp [cvB, hc2, HNE.out]
        have B2 := step HB1.out hb2
        clear hc2 D2 hb2
        go_wp2_with fail
        go_ret
        exact ⟨by rw [HF.out]; rfl, B2⟩
      · have B2 := step HB1.out hb2
        have L1 := HL1.out.after hb2
        have HRV : Hid (R = (decide ((spl 8 o).length ≤ (spl 8 s).length) && decide (spl 8 o = (spl 8 s).take (spl 8 o).length))) := by show _ = _; rw [← HR.out]; simp [cvB, HC.out, hc2, HNE.out]
        generalize spl 8 o = P at *
        generalize spl 8 s = S at *
        clear hc2 D2 hb2 HL1 HR HC HNE
        rcases Nat.lt_or_ge S.length P.length with hlt | hge
        · have hlt' : ¬ (P.length : Int) ≤ S.length := by omega
          have HF : Hid (R = false) := by show _ = _; rw [HRV.out]; simp; intro h; omega
          go_wp2_with fail
          go_ret
          exact ⟨by rw [HF.out]; rfl, B2⟩
        · have hge' : (P.length : Int) ≤ S.length := by omega
          obtain ⟨b2, o2, rfl⟩ := hl2.ex hpo
          obtain ⟨b1, o1, rfl⟩ := L1.ex (by omega)
          have hcc : (P.length : Int) ≤ c1 := by omega
          have htl : (S.take P.length).length = P.length := by rw [List.length_take]; omega
          have LT : Le elS W2 (some ⟨b1, o1, none⟩) (S.take P.length).length (S.take P.length) := by
            have h6 := L1
            rw [← List.take_append_drop P.length S] at h6
            have h7 := le_left (xs := S.take P.length) (ys := S.drop P.length) (n := S.length) (by simpa using h6) (by omega)
            exact h7
          have C9 := equal_s P (S.take P.length) b2 o2 c2 b1 o1 c1 W2 hl2 LT (by omega) (by omega)
          rw [htl] at C9
          have HRV2 : Hid (R = decide (P = S.take P.length)) := by show _ = _; rw [HRV.out]; simp [hge]
          generalize decide (P = S.take P.length) = X at *
          clear LT htl L1 hl2 HRV
          go_wp2_with fail
          refine C9.mono ?_
          rintro e W3 ⟨rfl, hb3⟩
          have B3 := step B2 hb3
          clear C9 hb3
          go_wp2_with fail
          go_ret
          exact ⟨by rw [HRV2.out]; rfl, B3⟩
end Go.Proofs.YtiogfampfdnkcabGreatDoor
namespace Go.Proofs.YtiogfampfdnkcabGreatDoor
open Go.RowKit Go.Shelf
set_option linter.unusedVariables false

def eu9 : List UInt8 := [101, 117]
def food9 : List UInt8 := [102, 111, 111, 100]
def awK : Fo := .cons ⟨4, 0, eu9, 0, 0, 0⟩ .nil (.cons ndN (.cons ⟨5, 0, food9, 0, 0, 0⟩ .nil .nil) .nil)
def awN : List Nd := (Fo.cons ⟨2, 2, [], 0, 0, 0⟩ awK .nil).flat
theorem wd_eu : wdB eu9 = true := by decide +kernel
theorem wd_food : wdB food9 = true := by decide +kernel
theorem aw_ok : (Fo.cons ⟨2, 2, [], 0, 0, 0⟩ awK .nil).Ok wdB 0 1 := by
  refine ⟨⟨.inl ⟨.inr rfl, by decide, rfl, rfl, rfl, rfl⟩, by decide, by decide, rfl, ?_⟩, trivial⟩
  refine ⟨⟨.inr (.inr (.inl ⟨.inl rfl, rfl, wd_eu, rfl, rfl, rfl⟩)), by decide, by decide, rfl, trivial⟩, ?_⟩
  refine ⟨⟨.inr (.inl ⟨rfl, rfl, rfl, rfl, rfl, rfl⟩), by decide, by decide, rfl, ?_⟩, trivial⟩
  exact ⟨⟨.inr (.inr (.inl ⟨.inr rfl, rfl, wd_food, rfl, rfl, rfl⟩)), by decide, by decide, rfl, trivial⟩, trivial⟩
theorem aw_cond : Cond wdB awN := .inr ⟨by decide, _, _, rfl, aw_ok⟩
theorem aw_64 : ∀ n ∈ awN, N64 n := by
  intro n hn
  have : n ∈ [(⟨2, 2, [], 0, 0, 0⟩ : Nd), ⟨4, 0, eu9, 0, 0, 0⟩, ndN, ⟨5, 0, food9, 0, 0, 0⟩] := hn
  simp at this
  rcases this with rfl | rfl | rfl | rfl <;> (intro x hx; simp [ndN] at hx; omega)
theorem tr_one {s : List UInt8} (h : wdB s = true) : Trs [s] := ⟨by simp, by simp [h], fun j hj => by simp at hj⟩
theorem tr_nil : Trs [] := ⟨by simp, rfl, fun j hj => by simp at hj⟩
theorem aw_one : hoB awN ⟨[eu9], [], 0, 0, 1⟩ = true ∧ hoE awN ⟨[eu9], [], 0, 0, 1⟩ = 0 := by
  have hf : FtOk [eu9] [] 0 0 1 := ⟨tr_one wd_eu, tr_nil, by decide, by decide, by decide, by decide⟩
  have hf' : Fx.Ok ⟨[eu9], [], 0, 0, 1⟩ := hf
  refine ⟨?_, ?_⟩
  · unfold hoB
    rw [if_pos ⟨aw_cond, hf'⟩, hoV_eq (ns := awN) rfl aw_ok]
    simp [val, awK, Fo.ev, Fx.vf, vfa, ndN]
  · unfold hoE
    rw [if_pos aw_cond]; exact ftE_ok hf
theorem aw_two : hoB awN ⟨[eu9], [food9], 0, 0, 1⟩ = false ∧ hoE awN ⟨[eu9], [food9], 0, 0, 1⟩ = 0 := by
  have hf : FtOk [eu9] [food9] 0 0 1 := ⟨tr_one wd_eu, tr_one wd_food, by decide, by decide, by decide, by decide⟩
  have hf' : Fx.Ok ⟨[eu9], [food9], 0, 0, 1⟩ := hf
  refine ⟨?_, ?_⟩
  · unfold hoB
    rw [if_pos ⟨aw_cond, hf'⟩, hoV_eq (ns := awN) rfl aw_ok]
    simp [val, awK, Fo.ev, Fx.vf, vfa, ndN]
  · unfold hoE
    rw [if_pos aw_cond]; exact ftE_ok hf
def bread9 : List UInt8 := [102, 111, 111, 100, 46, 98, 114, 101, 97, 100]
theorem aw_cv : cvB food9 bread9 = true := by decide +kernel
set_option maxHeartbeats 4000000 in
theorem awake13 (w : World) (hT : Tn w) : Calls Tryz.prog 7 #[] w fun e w' => e = .returned (.bool true) ∧ Below w.heap.size w w' := by
  have HT : Hid (Tn w) := hT
  clear hT
  go_enter Tryz.func7, Tryz.ntmps7
  go_upto_region 2 with fail
  refine ent1 w _ _ (Q := fun W => Code.wp _ _ _ _ W) ?_
  intro W1 hb1 hs1 V1
  have HL1 : Hid (Le elN W1 (some ⟨w.heap.size, 0, none⟩) awN.length awN) := (Ge.of (E := elN) (xs := awN) (B := 0) V1 (Nat.zero_le _) rfl rfl (by decide)).toLe
  have HB1 : Hid (Below w.heap.size w W1) := hb1
  clear V1 hb1 hs1
  go_wp2_with fail
  refine ent1 W1 _ _ (Q := fun W => Calls Tryz.prog _ _ W _) ?_
  intro W2 hb2 hs2 V2
  have B2 := step HB1.out hb2
  have HL2 : Hid (Le elN W2 (some ⟨w.heap.size, 0, none⟩) awN.length awN) := HL1.out.after hb2
  have LF : Lf W2 (some ⟨W1.heap.size, 0, none⟩) 1 none 0 ⟨[eu9], [], 0, 0, 1⟩ := ⟨(Ge.of (E := elS) (xs := [eu9]) (B := 0) V2 (Nat.zero_le _) rfl rfl (by decide)).toLe, Le.nil _ _, by constructor <;> decide, by constructor <;> decide, by constructor <;> decide⟩
  have D1 := holds_any awN (some ⟨w.heap.size, 0, none⟩) 4 (some ⟨W1.heap.size, 0, none⟩) 1 none 0 ⟨[eu9], [], 0, 0, 1⟩ W2 HL2.out aw_64 LF (HT.out.to B2)
  rw [aw_one.1, aw_one.2] at D1
  clear LF V2 hs2 hb2
  refine Calls.mono D1 ?_
  rintro e W3 ⟨rfl, hb3⟩
  have B3 := step B2 hb3
  have HL3 : Hid (Le elN W3 (some ⟨w.heap.size, 0, none⟩) awN.length awN) := HL2.out.after hb3
  clear D1 hb3 B2 HL2 HL1 HB1
  go_wp2_with fail
  refine ent2 W3 _ _ _ _ (Q := fun W => Calls Tryz.prog _ _ W _) ?_
  intro W4 hb4 hs4 V4 V5
  have B4 := step B3 hb4
  have HL4 : Hid (Le elN W4 (some ⟨w.heap.size, 0, none⟩) awN.length awN) := HL3.out.after hb4
  have LF : Lf W4 (some ⟨W3.heap.size, 0, none⟩) 1 (some ⟨W3.heap.size + 1, 0, none⟩) 1 ⟨[eu9], [food9], 0, 0, 1⟩ := ⟨(Ge.of (E := elS) (xs := [eu9]) (B := 0) V4 (Nat.zero_le _) rfl rfl (by decide)).toLe, (Ge.of (E := elS) (xs := [food9]) (B := 0) V5 (Nat.zero_le _) rfl rfl (by decide)).toLe, by constructor <;> decide, by constructor <;> decide, by constructor <;> decide⟩
  have D2 := holds_any awN (some ⟨w.heap.size, 0, none⟩) 4 (some ⟨W3.heap.size, 0, none⟩) 1 (some ⟨W3.heap.size + 1, 0, none⟩) 1 ⟨[eu9], [food9], 0, 0, 1⟩ W4 HL4.out aw_64 LF (HT.out.to B4)
  rw [aw_two.1, aw_two.2] at D2
  clear LF V4 V5 hs4 hb4
  refine Calls.mono D2 ?_
  rintro e W5 ⟨rfl, hb5⟩
  have B5 := step B4 hb5
  have D3 := covers_any food9 bread9 W5 (by decide) (by decide)
  rw [aw_cv] at D3
  clear D2 hb5 B4 B3 HL3 HL4
  go_wp2_with fail
  refine Calls.mono D3 ?_
  rintro e W6 ⟨rfl, hb6⟩
  have B6 := step B5 hb6
  clear D3 hb6 B5
  go_wp2_with fail
  go_ret
  exact ⟨rfl, B6⟩
end Go.Proofs.YtiogfampfdnkcabGreatDoor
namespace Go.Proofs.YtiogfampfdnkcabGreatDoor
open Go.RowKit Go.Shelf
set_option linter.unusedVariables false

theorem n64_ml {c : Int} {a : List Nd} (h : ∀ n ∈ a, N64 n) : ∀ n ∈ mlL c a, N64 n := by
  intro n hn
  unfold mlL at hn
  split at hn
  · exact h n (List.mem_of_mem_tail hn)
  · exact h n hn
theorem und_64 {c : Int} (hc : c = 1 ∨ c = 2) {a b : List Nd} (h1 : ∀ n ∈ a, N64 n) (h2 : ∀ n ∈ b, N64 n) (k1 : 0 ≤ kN c a ∧ kN c a ≤ 64) (k2 : 0 ≤ kN c b ∧ kN c b ≤ 64) : ∀ n ∈ und c a b, N64 n := by
  intro n hn
  unfold und at hn
  rcases List.mem_cons.1 hn with rfl | hn
  · intro x hx
    simp only [List.mem_cons, List.not_mem_nil, or_false] at hx
    rcases hx with rfl | rfl | rfl | rfl | rfl <;> omega
  · rcases List.mem_append.1 hn with hn | hn
    · exact n64_ml h1 n hn
    · exact n64_ml h2 n hn
/-- A condition that has nodes: what under is told of it. -/
theorem und_in {a : List Nd} {n : Nd} {k : Fo} (e : a = (Fo.cons n k .nil).flat) (ok : (Fo.cons n k .nil).Ok wdB 0 1) (hl : a.length ≤ 64) (c : Int) (hc : c = 1 ∨ c = 2) : 0 < a.length ∧ (0 ≤ kN c a ∧ kN c a ≤ 64) ∧ ((a.headD nd0).kd = c → 2 ≤ a.length ∧ 2 ≤ (a.headD nd0).ks ∧ (a.headD nd0).ks ≤ 64) := by
  have hh : a.headD nd0 = n := by rw [e]; rfl
  have hal : a.length = k.flat.length + 1 := by rw [e]; simp [Fo.flat]
  have hkl := Fo.len_flat k
  have hks := ok.1.2.2.2.1
  have h3 : n.kd = c → 2 ≤ n.ks := fun h => by
    rcases ok.1.1 with ⟨-, h', -⟩ | ⟨h', -⟩ | ⟨h' | h', -⟩ | ⟨h' | h', -⟩ <;> omega
  refine ⟨by omega, ?_, ?_⟩
  · unfold kN; rw [hh]; split <;> omega
  · rw [hh]; intro h; have := h3 h; omega
set_option maxHeartbeats 16000000 in
set_option maxRecDepth 20000 in
theorem traitTables_walk (a : List Nd) (xa : Option Addr) (ca : Nat) (b : List Nd) (xb : Option Addr) (cb : Nat) (a1 : Option Addr) (c1 : Nat) (a2 : Option Addr) (c2 : Nat) (f : Fx) (w : World) (hA : Le elN w xa a.length a) (qa : a.length ≤ ca) (h6a : ∀ n ∈ a, N64 n) (hB : Le elN w xb b.length b) (qb : b.length ≤ cb) (h6b : ∀ n ∈ b, N64 n) (hf : Lf w a1 c1 a2 c2 f) (hT : Tn w) :
    Calls Tryz.prog 3 #[.slice xa a.length ca, .slice xb b.length cb, fxv a1 c1 a2 c2 f] w fun e w' => e = .returned (.bool true) ∧ Below w.heap.size w w' := by
  have HA : Hid (Le elN w xa a.length a) := hA
  have HBB : Hid (Le elN w xb b.length b) := hB
  have H6A : Hid (∀ n ∈ a, N64 n) := h6a
  have H6B : Hid (∀ n ∈ b, N64 n) := h6b
  have HF : Hid (Lf w a1 c1 a2 c2 f) := hf
  have HT : Hid (Tn w) := hT
  have HQ : Hid (a.length ≤ ca ∧ b.length ≤ cb) := ⟨qa, qb⟩
  clear hA hB h6a h6b hf hT qa qb
  dsimp only [fxv]
  go_enter Tryz.func3, Tryz.ntmps3
  go_upto_region 1 with fail
  refine ent1 w _ _ (Q := fun W => Code.wp _ _ _ _ W) ?_
  intro W1 hb1 hs1 V0
  have HV0 : Hid (Va W1 w.heap.size 25 #[.slice a1 f.byr.length c1, .slice a2 f.lin.length c2, .int .i64 f.amt, .int .i64 f.dig, .int .i64 f.qty]) := V0
  have HX1 : Hid (Below W1.heap.size W1 W1) := Below.refl _ _
  have HB1 : Hid (Below w.heap.size w W1) := hb1
  clear V0 hb1 hs1
  obtain ⟨x, hx⟩ : ∃ x, hoB a f = x := ⟨_, rfl⟩
  obtain ⟨ea, hea⟩ : ∃ x, hoE a f = x := ⟨_, rfl⟩
  obtain ⟨y, hy⟩ : ∃ x, hoB b f = x := ⟨_, rfl⟩
  obtain ⟨eb, heb⟩ : ∃ x, hoE b f = x := ⟨_, rfl⟩
  have HEQ : Hid ((hoB a f = x ∧ hoE a f = ea) ∧ (hoB b f = y ∧ hoE b f = eb)) := ⟨⟨hx, hea⟩, ⟨hy, heb⟩⟩
  clear hx hea hy heb
  have v0 := (HV0.out.after HX1.out)
  have u0 := v0.f0
  have u1 := v0.f1
  have u2 := v0.f2
  have u3 := v0.f3
  have u4 := v0.f4
  have D5 := holds_any a xa ca a1 c1 a2 c2 f W1 (HA.out.after HB1.out) H6A.out (HF.out.after HB1.out) (HT.out.to HB1.out)
  rw [HEQ.out.1.1, HEQ.out.1.2] at D5
  clear v0
  dsimp only [fxv] at D5
  go_wp2_with fail
  refine Calls.mono D5 ?_
  rintro e W2 ⟨rfl, hbx⟩
  have HB2 : Hid (Below w.heap.size w W2) := step HB1.out hbx
  have HX2 : Hid (Below W1.heap.size W1 W2) := step HX1.out hbx
  clear D5 hbx u0 u1 u2 u3 u4
  have v0 := (HV0.out.after HX2.out)
  have u0 := v0.f0
  have u1 := v0.f1
  have u2 := v0.f2
  have u3 := v0.f3
  have u4 := v0.f4
  have D5 := holds_any b xb cb a1 c1 a2 c2 f W2 (HBB.out.after HB2.out) H6B.out (HF.out.after HB2.out) (HT.out.to HB2.out)
  rw [HEQ.out.2.1, HEQ.out.2.2] at D5
  clear v0
  dsimp only [fxv] at D5
  go_wp2_with fail
  refine Calls.mono D5 ?_
  rintro e W3 ⟨rfl, hbx⟩
  have HB3 : Hid (Below w.heap.size w W3) := step HB2.out hbx
  have HX3 : Hid (Below W1.heap.size W1 W3) := step HX2.out hbx
  clear D5 hbx u0 u1 u2 u3 u4
  by_cases g1 : ea = 0
  rotate_left
  · have g1' : (ea != 0) = true := by simpa using g1
    have D9 := awake13 W3 (HT.out.to HB3.out)
    go_wp2_with fail
    refine Calls.mono D9 ?_
    rintro e Wz ⟨rfl, hbz⟩
    have Bz := step HB3.out hbz
    clear D9 hbz
    go_wp2_with fail
    go_ret
    exact ⟨rfl, Bz⟩
  subst g1
  by_cases g2 : eb = 0
  rotate_left
  · have g2' : (eb != 0) = true := by simpa using g2
    have D9 := awake13 W3 (HT.out.to HB3.out)
    go_wp2_with fail
    refine Calls.mono D9 ?_
    rintro e Wz ⟨rfl, hbz⟩
    have Bz := step HB3.out hbz
    clear D9 hbz
    go_wp2_with fail
    go_ret
    exact ⟨rfl, Bz⟩
  subst g2
  rcases Nat.eq_zero_or_pos a.length with l1 | l1
  · have l1' : ((a.length : Int) == 0) = true := by rw [l1]; rfl
    have D9 := awake13 W3 (HT.out.to HB3.out)
    go_wp2_with fail
    refine Calls.mono D9 ?_
    rintro e Wz ⟨rfl, hbz⟩
    have Bz := step HB3.out hbz
    clear D9 hbz
    go_wp2_with fail
    go_ret
    exact ⟨rfl, Bz⟩
  rcases Nat.eq_zero_or_pos b.length with l2 | l2
  · have l1' : ((a.length : Int) == 0) = false := by rw [beq_eq_false_iff_ne]; omega
    have l2' : ((b.length : Int) == 0) = true := by rw [l2]; rfl
    have D9 := awake13 W3 (HT.out.to HB3.out)
    go_wp2_with fail
    refine Calls.mono D9 ?_
    rintro e Wz ⟨rfl, hbz⟩
    have Bz := step HB3.out hbz
    clear D9 hbz
    go_wp2_with fail
    go_ret
    exact ⟨rfl, Bz⟩
  have l1' : ((a.length : Int) == 0) = false := by rw [beq_eq_false_iff_ne]; omega
  have l2' : ((b.length : Int) == 0) = false := by rw [beq_eq_false_iff_ne]; omega
  obtain ⟨hca, hfo⟩ := hoE_zero HEQ.out.1.2
  obtain ⟨hcb, -⟩ := hoE_zero HEQ.out.2.2
  obtain ⟨la, n, k, ea, oka⟩ := cond_tree (fun h => by rw [h] at l1; exact absurd l1 (Nat.lt_irrefl _)) hca
  obtain ⟨lb, m, j, eb, okb⟩ := cond_tree (fun h => by rw [h] at l2; exact absurd l2 (Nat.lt_irrefl _)) hcb
  have hxa : hoV a f.vf = x := by rw [← HEQ.out.1.1]; simp [hoB, hca, hfo]
  have hxb : hoV b f.vf = y := by rw [← HEQ.out.2.1]; simp [hoB, hcb, hfo]
  obtain ⟨-, p1, q1⟩ := und_in ea oka la 1 (.inl rfl)
  obtain ⟨-, p2, q2⟩ := und_in eb okb lb 1 (.inl rfl)
  obtain ⟨-, p3, q3⟩ := und_in ea oka la 2 (.inr rfl)
  obtain ⟨-, p4, q4⟩ := und_in eb okb lb 2 (.inr rfl)
  have HK1 : Hid (∀ l, (l = a ∨ l = b) → (l.headD nd0).kd = 1 → 2 ≤ l.length ∧ 2 ≤ (l.headD nd0).ks ∧ (l.headD nd0).ks ≤ 64) := fun l hl => by rcases hl with rfl | rfl; exact q1; exact q2
  have HK2 : Hid (∀ l, (l = a ∨ l = b) → (l.headD nd0).kd = 2 → 2 ≤ l.length ∧ 2 ≤ (l.headD nd0).ks ∧ (l.headD nd0).ks ≤ 64) := fun l hl => by rcases hl with rfl | rfl; exact q3; exact q4
  have HU1 : Hid (∀ n ∈ und 1 a b, N64 n) := und_64 (.inl rfl) H6A.out H6B.out p1 p2
  have HU2 : Hid (∀ n ∈ und 2 a b, N64 n) := und_64 (.inr rfl) H6A.out H6B.out p3 p4
  have HU0 : Hid (∀ n ∈ ndN :: a, N64 n) := fun z hz => by
    rcases List.mem_cons.1 hz with rfl | hz
    · intro x hx; simp [ndN] at hx; omega
    · exact H6A.out z hz
  have HC0 : Hid ((hoE (ndN :: a) f = 0 ∧ ckE (ndN :: a) = 0 ∧ hoB (ndN :: a) f = !x) ∨ (hoE (ndN :: a) f = 131 ∧ ckE (ndN :: a) = 131)) := by
    rcases hoE_cases (ndN :: a) f hfo with ⟨h1, h2, h3, h4⟩ | ⟨h1, h2, -⟩
    · exact .inl ⟨h1, h2, by rw [h4, hoV_not ea oka h3, hxa]⟩
    · exact .inr ⟨h1, h2⟩
  have HC1 : Hid ((hoE (und 1 a b) f = 0 ∧ ckE (und 1 a b) = 0 ∧ hoB (und 1 a b) f = (x || y)) ∨ (hoE (und 1 a b) f = 131 ∧ ckE (und 1 a b) = 131)) := by
    rcases hoE_cases (und 1 a b) f hfo with ⟨h1, h2, h3, h4⟩ | ⟨h1, h2, -⟩
    · exact .inl ⟨h1, h2, by rw [h4, hoV_und ea oka eb okb 1 (.inl rfl) h3, if_pos rfl, hxa, hxb]⟩
    · exact .inr ⟨h1, h2⟩
  have HC2 : Hid ((hoE (und 2 a b) f = 0 ∧ ckE (und 2 a b) = 0 ∧ hoB (und 2 a b) f = (x && y)) ∨ (hoE (und 2 a b) f = 131 ∧ ckE (und 2 a b) = 131)) := by
    rcases hoE_cases (und 2 a b) f hfo with ⟨h1, h2, h3, h4⟩ | ⟨h1, h2, -⟩
    · exact .inl ⟨h1, h2, by rw [h4, hoV_und ea oka eb okb 2 (.inr rfl) h3, if_neg (by decide), hxa, hxb]⟩
    · exact .inr ⟨h1, h2⟩
  obtain ⟨bl, ol, rfl⟩ := HA.out.ex l1
  have HLN : Hid (([ndN] : List Nd).length + a.length ≤ 1000000000000) := by show _ ≤ _; simp; omega
  clear hca hfo hcb ea oka eb okb hxa hxb p1 p2 p3 p4 q1 q2 q3 q4 HEQ
  have hq1 := HQ.out.1
  have hq2 := HQ.out.2
  have hsz3 := HB3.out.size
  go_wp2_with (at_builtin; refine wpList_appE rfl _ _ _ rfl elN rfl W3.heap.size _ [ndN] rfl (Ge.of (Va.new W3 _ _) (Nat.le_refl _) rfl rfl (by decide)) bl ol a.length ca a rfl ((HA.out.after HB3.out).after ((Below.refl _ _).alloc (Nat.le_refl _) _)) HLN.out (by simp) ?_; intro v' W4 hg4 hgr4 hob4; obtain ⟨an, cn', rfl, -, -, -⟩ := hg4.shape)
  have HG4 : Hid (Ge elN W4 W3.heap.size (.slice an (ndN :: a).length cn') (ndN :: a)) := hg4
  have b34 : Below W3.heap.size W3 W4 := ((Below.refl _ _).alloc (Nat.le_refl _) _).trans ((Below.refl _ _).grown hgr4 (by simp) (fun k hk => by cases hk; exact Nat.le_refl _))
  have HB4 : Hid (Below w.heap.size w W4) := step HB3.out b34
  have HX4 : Hid (Below W1.heap.size W1 W4) := step HX3.out b34
  clear hg4 hgr4 hob4 b34 hsz3 HLN
  have D1 := under_any 1 (.inl rfl) a b (some ⟨bl, ol, none⟩) xb ca cb W4 (HA.out.after HB4.out) (HBB.out.after HB4.out) la lb l1 l2 hq1 hq2 HK1.out
  go_wp2_with fail
  refine Calls.mono D1 ?_
  rintro e W5 ⟨ao, co, rfl, hgo, hbx⟩
  have HG5 : Hid (Le elN W5 ao (und 1 a b).length (und 1 a b)) := hgo.toLe
  have HL5 : Hid (Le elN W5 an (ndN :: a).length (ndN :: a)) := HG4.out.toLe.after hbx
  have HB5 : Hid (Below w.heap.size w W5) := step HB4.out hbx
  have HX5 : Hid (Below W1.heap.size W1 W5) := step HX4.out hbx
  clear D1 hgo hbx HG4
  have D2 := under_any 2 (.inr rfl) a b (some ⟨bl, ol, none⟩) xb ca cb W5 (HA.out.after HB5.out) (HBB.out.after HB5.out) la lb l1 l2 hq1 hq2 HK2.out
  go_wp2_with fail
  refine Calls.mono D2 ?_
  rintro e W6 ⟨ad, cd, rfl, hgo, hbx⟩
  have HD6 : Hid (Le elN W6 ad (und 2 a b).length (und 2 a b)) := hgo.toLe
  have HG6 : Hid (Le elN W6 ao (und 1 a b).length (und 1 a b)) := HG5.out.after hbx
  have HL6 : Hid (Le elN W6 an (ndN :: a).length (ndN :: a)) := HL5.out.after hbx
  have HB6 : Hid (Below w.heap.size w W6) := step HB5.out hbx
  have HX6 : Hid (Below W1.heap.size W1 W6) := step HX5.out hbx
  clear D2 hgo hbx HG5 HL5 HK1 HK2 hq1 hq2
  obtain ⟨ln, hln⟩ : ∃ l, ndN :: a = l := ⟨_, rfl⟩
  obtain ⟨lo, hlo⟩ : ∃ l, und 1 a b = l := ⟨_, rfl⟩
  obtain ⟨ld, hld⟩ : ∃ l, und 2 a b = l := ⟨_, rfl⟩
  rw [hln] at HL6 HU0 HC0
  rw [hlo] at HG6 HU1 HC1
  rw [hld] at HD6 HU2 HC2
  first | rw [hln, hlo, hld] | (rw [hlo, hld, show a.length + 1 = ln.length by rw [← hln]; rfl]) | skip
  clear hlo hld
  have hll : a.length + 1 = ln.length := by rw [← hln]; rfl
  first | rw [hll] | skip
  clear hln hll
  obtain ⟨bn, hbn⟩ : ∃ x, hoB ln f = x := ⟨_, rfl⟩
  obtain ⟨en, hen⟩ : ∃ x, hoE ln f = x := ⟨_, rfl⟩
  obtain ⟨bo, hbo⟩ : ∃ x, hoB lo f = x := ⟨_, rfl⟩
  obtain ⟨eo, heo⟩ : ∃ x, hoE lo f = x := ⟨_, rfl⟩
  obtain ⟨bd, hbd⟩ : ∃ x, hoB ld f = x := ⟨_, rfl⟩
  obtain ⟨ed, hed⟩ : ∃ x, hoE ld f = x := ⟨_, rfl⟩
  have HEN : Hid (hoB ln f = bn ∧ hoE ln f = en) := ⟨hbn, hen⟩
  have HEO : Hid (hoB lo f = bo ∧ hoE lo f = eo) := ⟨hbo, heo⟩
  have HED : Hid (hoB ld f = bd ∧ hoE ld f = ed) := ⟨hbd, hed⟩
  rw [hbn, hen] at HC0
  rw [hbo, heo] at HC1
  rw [hbd, hed] at HC2
  clear hbn hen hbo heo hbd hed
  have v0 := (HV0.out.after HX6.out)
  have u0 := v0.f0
  have u1 := v0.f1
  have u2 := v0.f2
  have u3 := v0.f3
  have u4 := v0.f4
  have D5 := holds_any ln an cn' a1 c1 a2 c2 f W6 HL6.out HU0.out (HF.out.after HB6.out) (HT.out.to HB6.out)
  rw [HEN.out.1, HEN.out.2] at D5
  clear v0
  dsimp only [fxv] at D5
  go_wp2_with fail
  refine Calls.mono D5 ?_
  rintro e W7 ⟨rfl, hbx⟩
  have HB7 : Hid (Below w.heap.size w W7) := step HB6.out hbx
  have HX7 : Hid (Below W1.heap.size W1 W7) := step HX6.out hbx
  have HL7 : Hid (Le elN W7 an ln.length ln) := HL6.out.after hbx
  have HG7 : Hid (Le elN W7 ao lo.length lo) := HG6.out.after hbx
  have HD7 : Hid (Le elN W7 ad ld.length ld) := HD6.out.after hbx
  clear D5 hbx u0 u1 u2 u3 u4
  have v0 := (HV0.out.after HX7.out)
  have u0 := v0.f0
  have u1 := v0.f1
  have u2 := v0.f2
  have u3 := v0.f3
  have u4 := v0.f4
  have D5 := holds_any lo ao co a1 c1 a2 c2 f W7 HG7.out HU1.out (HF.out.after HB7.out) (HT.out.to HB7.out)
  rw [HEO.out.1, HEO.out.2] at D5
  clear v0
  dsimp only [fxv] at D5
  go_wp2_with fail
  refine Calls.mono D5 ?_
  rintro e W8 ⟨rfl, hbx⟩
  have HB8 : Hid (Below w.heap.size w W8) := step HB7.out hbx
  have HX8 : Hid (Below W1.heap.size W1 W8) := step HX7.out hbx
  have HL8 : Hid (Le elN W8 an ln.length ln) := HL7.out.after hbx
  have HG8 : Hid (Le elN W8 ao lo.length lo) := HG7.out.after hbx
  have HD8 : Hid (Le elN W8 ad ld.length ld) := HD7.out.after hbx
  clear D5 hbx u0 u1 u2 u3 u4
  have v0 := (HV0.out.after HX8.out)
  have u0 := v0.f0
  have u1 := v0.f1
  have u2 := v0.f2
  have u3 := v0.f3
  have u4 := v0.f4
  have D5 := holds_any ld ad cd a1 c1 a2 c2 f W8 HD8.out HU2.out (HF.out.after HB8.out) (HT.out.to HB8.out)
  rw [HED.out.1, HED.out.2] at D5
  clear v0
  dsimp only [fxv] at D5
  go_wp2_with fail
  refine Calls.mono D5 ?_
  rintro e W9 ⟨rfl, hbx⟩
  have HB9 : Hid (Below w.heap.size w W9) := step HB8.out hbx
  have HX9 : Hid (Below W1.heap.size W1 W9) := step HX8.out hbx
  have HL9 : Hid (Le elN W9 an ln.length ln) := HL8.out.after hbx
  have HG9 : Hid (Le elN W9 ao lo.length lo) := HG8.out.after hbx
  have HD9 : Hid (Le elN W9 ad ld.length ld) := HD8.out.after hbx
  clear D5 hbx u0 u1 u2 u3 u4
  clear HEN HEO HED HL6 HL7 HL8 HG6 HG7 HG8 HD6 HD7 HD8 HX2 HX3 HX4 HX5 HX6 HX7 HX8 HX9 HB1 HB2 HB3 HB4 HB5 HB6 HB7 HB8 HV0
  have DN := fun W (h : Below W9.heap.size W9 W) => check13 ln an cn' W (HL9.out.after h) HU0.out
  have DO := fun W (h : Below W9.heap.size W9 W) => check13 lo ao co W (HG9.out.after h) HU1.out
  have DD := fun W (h : Below W9.heap.size W9 W) => check13 ld ad cd W (HD9.out.after h) HU2.out
  have xl : IntKind.i64.wrap ((a.length : Int) + b.length) = (a.length : Int) + b.length := by rw [IntKind.wrap_i64]; omega
  go_upto_region 10 with fail
  go_cut [108] (fun s108 wx => s108 = .bool false ∧ wx = W9)
  case first =>
    rcases HC0.out with ⟨rfl, -, rfl⟩ | ⟨rfl, -⟩ <;> rcases HC1.out with ⟨rfl, -, rfl⟩ | ⟨rfl, -⟩ <;> rcases HC2.out with ⟨rfl, -, rfl⟩ | ⟨rfl, -⟩ <;> cases x <;> cases y <;> (go_wp2_with fail; go_meet; exact ⟨rfl, rfl⟩)
  case rest =>
    obtain ⟨rfl, rfl⟩ := hcut
    rcases HC0.out with ⟨rfl, ck0, -⟩ | ⟨rfl, ck0⟩
    ·
      rcases HC1.out with ⟨rfl, ck1, -⟩ | ⟨rfl, ck1⟩
      ·
        rcases HC2.out with ⟨rfl, ck2, -⟩ | ⟨rfl, ck2⟩
        ·
          go_wp2_with fail
          have D9 := awake13 wc (HT.out.to HB9.out)
          refine Calls.mono D9 ?_
          rintro e Wz ⟨rfl, hbz⟩
          have Bz := step HB9.out hbz
          clear D9 hbz
          go_wp2_with fail
          go_ret
          exact ⟨rfl, Bz⟩
        ·
          by_cases hlg : (62 : Int) < (a.length : Int) + b.length
          ·
            go_wp2_with fail
            have D9 := awake13 wc (HT.out.to HB9.out)
            refine Calls.mono D9 ?_
            rintro e Wz ⟨rfl, hbz⟩
            have Bz := step HB9.out hbz
            clear D9 hbz
            go_wp2_with fail
            go_ret
            exact ⟨rfl, Bz⟩
          ·
            go_wp2_with fail
            have E0 := DO wc (Below.refl _ _)
            rw [ck1] at E0
            refine Calls.mono E0 ?_
            rintro e Wy0 ⟨rfl, hy0⟩
            have bx0 := step (Below.refl _ _) hy0
            have by0 := step HB9.out hy0
            clear E0 hy0
            go_wp2_with fail
            have E1 := DD Wy0 bx0
            rw [ck2] at E1
            refine Calls.mono E1 ?_
            rintro e Wy1 ⟨rfl, hy1⟩
            have bx1 := step bx0 hy1
            have by1 := step by0 hy1
            clear E1 hy1
            go_wp2_with fail
            have D9 := awake13 Wy1 (HT.out.to by1)
            refine Calls.mono D9 ?_
            rintro e Wz ⟨rfl, hbz⟩
            have Bz := step by1 hbz
            clear D9 hbz
            go_wp2_with fail
            go_ret
            exact ⟨rfl, Bz⟩
      ·
        rcases HC2.out with ⟨rfl, ck2, -⟩ | ⟨rfl, ck2⟩
        ·
          by_cases hlg : (62 : Int) < (a.length : Int) + b.length
          ·
            go_wp2_with fail
            have D9 := awake13 wc (HT.out.to HB9.out)
            refine Calls.mono D9 ?_
            rintro e Wz ⟨rfl, hbz⟩
            have Bz := step HB9.out hbz
            clear D9 hbz
            go_wp2_with fail
            go_ret
            exact ⟨rfl, Bz⟩
          ·
            go_wp2_with fail
            have E0 := DO wc (Below.refl _ _)
            rw [ck1] at E0
            refine Calls.mono E0 ?_
            rintro e Wy0 ⟨rfl, hy0⟩
            have bx0 := step (Below.refl _ _) hy0
            have by0 := step HB9.out hy0
            clear E0 hy0
            go_wp2_with fail
            have E1 := DD Wy0 bx0
            rw [ck2] at E1
            refine Calls.mono E1 ?_
            rintro e Wy1 ⟨rfl, hy1⟩
            have bx1 := step bx0 hy1
            have by1 := step by0 hy1
            clear E1 hy1
            go_wp2_with fail
            have D9 := awake13 Wy1 (HT.out.to by1)
            refine Calls.mono D9 ?_
            rintro e Wz ⟨rfl, hbz⟩
            have Bz := step by1 hbz
            clear D9 hbz
            go_wp2_with fail
            go_ret
            exact ⟨rfl, Bz⟩
        ·
          go_wp2_with fail
          have D9 := awake13 wc (HT.out.to HB9.out)
          refine Calls.mono D9 ?_
          rintro e Wz ⟨rfl, hbz⟩
          have Bz := step HB9.out hbz
          clear D9 hbz
          go_wp2_with fail
          go_ret
          exact ⟨rfl, Bz⟩
    · by_cases h64 : (a.length : Int) = 64
      · have h64' : ((a.length : Int) == 64) = true := by simpa using h64
        clear h64
        rcases HC1.out with ⟨rfl, ck1, -⟩ | ⟨rfl, ck1⟩
        ·
          rcases HC2.out with ⟨rfl, ck2, -⟩ | ⟨rfl, ck2⟩
          ·
            go_wp2_with fail
            have D9 := awake13 wc (HT.out.to HB9.out)
            refine Calls.mono D9 ?_
            rintro e Wz ⟨rfl, hbz⟩
            have Bz := step HB9.out hbz
            clear D9 hbz
            go_wp2_with fail
            go_ret
            exact ⟨rfl, Bz⟩
          ·
            by_cases hlg : (62 : Int) < (a.length : Int) + b.length
            ·
              go_wp2_with fail
              have D9 := awake13 wc (HT.out.to HB9.out)
              refine Calls.mono D9 ?_
              rintro e Wz ⟨rfl, hbz⟩
              have Bz := step HB9.out hbz
              clear D9 hbz
              go_wp2_with fail
              go_ret
              exact ⟨rfl, Bz⟩
            ·
              go_wp2_with fail
              have E0 := DO wc (Below.refl _ _)
              rw [ck1] at E0
              refine Calls.mono E0 ?_
              rintro e Wy0 ⟨rfl, hy0⟩
              have bx0 := step (Below.refl _ _) hy0
              have by0 := step HB9.out hy0
              clear E0 hy0
              go_wp2_with fail
              have E1 := DD Wy0 bx0
              rw [ck2] at E1
              refine Calls.mono E1 ?_
              rintro e Wy1 ⟨rfl, hy1⟩
              have bx1 := step bx0 hy1
              have by1 := step by0 hy1
              clear E1 hy1
              go_wp2_with fail
              have D9 := awake13 Wy1 (HT.out.to by1)
              refine Calls.mono D9 ?_
              rintro e Wz ⟨rfl, hbz⟩
              have Bz := step by1 hbz
              clear D9 hbz
              go_wp2_with fail
              go_ret
              exact ⟨rfl, Bz⟩
        ·
          rcases HC2.out with ⟨rfl, ck2, -⟩ | ⟨rfl, ck2⟩
          ·
            by_cases hlg : (62 : Int) < (a.length : Int) + b.length
            ·
              go_wp2_with fail
              have D9 := awake13 wc (HT.out.to HB9.out)
              refine Calls.mono D9 ?_
              rintro e Wz ⟨rfl, hbz⟩
              have Bz := step HB9.out hbz
              clear D9 hbz
              go_wp2_with fail
              go_ret
              exact ⟨rfl, Bz⟩
            ·
              go_wp2_with fail
              have E0 := DO wc (Below.refl _ _)
              rw [ck1] at E0
              refine Calls.mono E0 ?_
              rintro e Wy0 ⟨rfl, hy0⟩
              have bx0 := step (Below.refl _ _) hy0
              have by0 := step HB9.out hy0
              clear E0 hy0
              go_wp2_with fail
              have E1 := DD Wy0 bx0
              rw [ck2] at E1
              refine Calls.mono E1 ?_
              rintro e Wy1 ⟨rfl, hy1⟩
              have bx1 := step bx0 hy1
              have by1 := step by0 hy1
              clear E1 hy1
              go_wp2_with fail
              have D9 := awake13 Wy1 (HT.out.to by1)
              refine Calls.mono D9 ?_
              rintro e Wz ⟨rfl, hbz⟩
              have Bz := step by1 hbz
              clear D9 hbz
              go_wp2_with fail
              go_ret
              exact ⟨rfl, Bz⟩
          ·
            go_wp2_with fail
            have D9 := awake13 wc (HT.out.to HB9.out)
            refine Calls.mono D9 ?_
            rintro e Wz ⟨rfl, hbz⟩
            have Bz := step HB9.out hbz
            clear D9 hbz
            go_wp2_with fail
            go_ret
            exact ⟨rfl, Bz⟩
      · have h64' : ((a.length : Int) == 64) = false := by rw [beq_eq_false_iff_ne]; exact h64
        clear h64
        rcases HC1.out with ⟨rfl, ck1, -⟩ | ⟨rfl, ck1⟩
        ·
          rcases HC2.out with ⟨rfl, ck2, -⟩ | ⟨rfl, ck2⟩
          ·
            go_wp2_with fail
            have E0 := DN wc (Below.refl _ _)
            rw [ck0] at E0
            refine Calls.mono E0 ?_
            rintro e Wy0 ⟨rfl, hy0⟩
            have bx0 := step (Below.refl _ _) hy0
            have by0 := step HB9.out hy0
            clear E0 hy0
            go_wp2_with fail
            have D9 := awake13 Wy0 (HT.out.to by0)
            refine Calls.mono D9 ?_
            rintro e Wz ⟨rfl, hbz⟩
            have Bz := step by0 hbz
            clear D9 hbz
            go_wp2_with fail
            go_ret
            exact ⟨rfl, Bz⟩
          ·
            by_cases hlg : (62 : Int) < (a.length : Int) + b.length
            ·
              go_wp2_with fail
              have E0 := DN wc (Below.refl _ _)
              rw [ck0] at E0
              refine Calls.mono E0 ?_
              rintro e Wy0 ⟨rfl, hy0⟩
              have bx0 := step (Below.refl _ _) hy0
              have by0 := step HB9.out hy0
              clear E0 hy0
              go_wp2_with fail
              have D9 := awake13 Wy0 (HT.out.to by0)
              refine Calls.mono D9 ?_
              rintro e Wz ⟨rfl, hbz⟩
              have Bz := step by0 hbz
              clear D9 hbz
              go_wp2_with fail
              go_ret
              exact ⟨rfl, Bz⟩
            ·
              go_wp2_with fail
              have E0 := DN wc (Below.refl _ _)
              rw [ck0] at E0
              refine Calls.mono E0 ?_
              rintro e Wy0 ⟨rfl, hy0⟩
              have bx0 := step (Below.refl _ _) hy0
              have by0 := step HB9.out hy0
              clear E0 hy0
              go_wp2_with fail
              have E1 := DO Wy0 bx0
              rw [ck1] at E1
              refine Calls.mono E1 ?_
              rintro e Wy1 ⟨rfl, hy1⟩
              have bx1 := step bx0 hy1
              have by1 := step by0 hy1
              clear E1 hy1
              go_wp2_with fail
              have E2 := DD Wy1 bx1
              rw [ck2] at E2
              refine Calls.mono E2 ?_
              rintro e Wy2 ⟨rfl, hy2⟩
              have bx2 := step bx1 hy2
              have by2 := step by1 hy2
              clear E2 hy2
              go_wp2_with fail
              have D9 := awake13 Wy2 (HT.out.to by2)
              refine Calls.mono D9 ?_
              rintro e Wz ⟨rfl, hbz⟩
              have Bz := step by2 hbz
              clear D9 hbz
              go_wp2_with fail
              go_ret
              exact ⟨rfl, Bz⟩
        ·
          rcases HC2.out with ⟨rfl, ck2, -⟩ | ⟨rfl, ck2⟩
          ·
            by_cases hlg : (62 : Int) < (a.length : Int) + b.length
            ·
              go_wp2_with fail
              have E0 := DN wc (Below.refl _ _)
              rw [ck0] at E0
              refine Calls.mono E0 ?_
              rintro e Wy0 ⟨rfl, hy0⟩
              have bx0 := step (Below.refl _ _) hy0
              have by0 := step HB9.out hy0
              clear E0 hy0
              go_wp2_with fail
              have D9 := awake13 Wy0 (HT.out.to by0)
              refine Calls.mono D9 ?_
              rintro e Wz ⟨rfl, hbz⟩
              have Bz := step by0 hbz
              clear D9 hbz
              go_wp2_with fail
              go_ret
              exact ⟨rfl, Bz⟩
            ·
              go_wp2_with fail
              have E0 := DN wc (Below.refl _ _)
              rw [ck0] at E0
              refine Calls.mono E0 ?_
              rintro e Wy0 ⟨rfl, hy0⟩
              have bx0 := step (Below.refl _ _) hy0
              have by0 := step HB9.out hy0
              clear E0 hy0
              go_wp2_with fail
              have E1 := DO Wy0 bx0
              rw [ck1] at E1
              refine Calls.mono E1 ?_
              rintro e Wy1 ⟨rfl, hy1⟩
              have bx1 := step bx0 hy1
              have by1 := step by0 hy1
              clear E1 hy1
              go_wp2_with fail
              have E2 := DD Wy1 bx1
              rw [ck2] at E2
              refine Calls.mono E2 ?_
              rintro e Wy2 ⟨rfl, hy2⟩
              have bx2 := step bx1 hy2
              have by2 := step by1 hy2
              clear E2 hy2
              go_wp2_with fail
              have D9 := awake13 Wy2 (HT.out.to by2)
              refine Calls.mono D9 ?_
              rintro e Wz ⟨rfl, hbz⟩
              have Bz := step by2 hbz
              clear D9 hbz
              go_wp2_with fail
              go_ret
              exact ⟨rfl, Bz⟩
          ·
            go_wp2_with fail
            have E0 := DN wc (Below.refl _ _)
            rw [ck0] at E0
            refine Calls.mono E0 ?_
            rintro e Wy0 ⟨rfl, hy0⟩
            have bx0 := step (Below.refl _ _) hy0
            have by0 := step HB9.out hy0
            clear E0 hy0
            go_wp2_with fail
            have D9 := awake13 Wy0 (HT.out.to by0)
            refine Calls.mono D9 ?_
            rintro e Wz ⟨rfl, hbz⟩
            have Bz := step by0 hbz
            clear D9 hbz
            go_wp2_with fail
            go_ret
            exact ⟨rfl, Bz⟩
end Go.Proofs.YtiogfampfdnkcabGreatDoor
namespace Go.Proofs.YtiogfampfdnkcabGreatDoor
open Go.RowKit Go.Shelf
set_option linter.unusedVariables false

theorem n64_of_ok : ∀ (a : Fo) (o : Int) (d : Nat), a.Ok wdB o d → a.flat.length ≤ 64 → (∀ n ∈ a.flat, N64 n) → ∀ neg, ∀ n ∈ (a.plain neg).flat, N64 n
  | .nil, _, _, _, _, _, _, n, hn => by simp [Fo.plain, Fo.flat] at hn
  | .cons n k r, o, d, h, hl, h6, neg, m, hm => by
    simp only [Fo.flat, List.length_cons, List.length_append] at hl
    have hr := n64_of_ok r o d h.2 (by omega) (fun x hx => h6 x (by simp [Fo.flat, hx])) neg
    have hkk := fun ng => n64_of_ok k n.kd (d + 1) h.1.2.2.2.2 (by omega) (fun x hx => h6 x (by simp [Fo.flat, hx])) ng
    have hn6 : N64 n := h6 n (by simp [Fo.flat])
    have hlen := plain_len k neg _ _ h.1.2.2.2.2
    unfold Fo.plain at hm
    rw [Fo.flat_app, List.mem_append] at hm
    rcases hm with hm | hm
    · have hin : ∀ (c : Int) (a : Fo), ∀ x ∈ (a.melt c).flat, x ∈ a.flat := by
        intro c a
        induction a with
        | nil => intro x hx; exact hx
        | cons n' k' r' _ ih =>
          intro x hx
          unfold Fo.melt at hx
          split at hx
          · rw [Fo.flat_app, List.mem_append] at hx
            simp only [Fo.flat, List.mem_cons, List.mem_append]
            rcases hx with hx | hx
            · exact .inr (.inl hx)
            · exact .inr (.inr (ih x hx))
          · simp only [Fo.flat, List.mem_cons, List.mem_append] at hx ⊢
            rcases hx with hx | hx | hx
            · exact .inl hx
            · exact .inr (.inl hx)
            · exact .inr (.inr (ih x hx))
      split at hm
      · rename_i e
        simp only [Fo.flat, List.mem_cons, List.append_nil] at hm
        rcases hm with rfl | hm
        · intro x hx
          have h1 := Fo.len_flat ((k.plain neg).melt (if neg = true then 3 - n.kd else n.kd))
          have h2 := melt_size (if neg = true then 3 - n.kd else n.kd) (k.plain neg)
          have h3 := plain_size k neg
          simp only [List.mem_cons, List.not_mem_nil, or_false] at hx
          rcases hx with rfl | rfl | rfl | rfl | rfl
          · split <;> omega
          all_goals omega
        · exact hkk neg m (hin _ _ m hm)
      split at hm
      · exact hkk (!neg) m hm
      split at hm
      · split at hm
        · simp [Fo.flat] at hm
          rcases hm with rfl | rfl
          · intro x hx; simp [ndN] at hx; omega
          · exact hn6
        · simp [Fo.flat] at hm
          rw [hm]; exact hn6
      · rename_i e1 e2 e3
        simp [Fo.flat] at hm
        rw [hm]
        split
        · intro x hx
          have h4 : 1 ≤ n.op ∧ n.op ≤ 4 := by
            rcases h.1.1 with ⟨h', -⟩ | ⟨h', -⟩ | ⟨h', -⟩ | ⟨-, -, -, h1, h2, -⟩
            · exact absurd h' e1
            · exact absurd h' e2
            · exact absurd h' e3
            · exact ⟨h1, h2⟩
          simp only [List.mem_cons, List.not_mem_nil, or_false] at hx
          rcases hx with rfl | rfl | rfl | rfl | rfl
          · exact hn6 _ (by simp)
          · exact hn6 _ (by simp)
          · omega
          · exact hn6 _ (by simp)
          · exact hn6 _ (by simp)
        · exact hn6
    · exact hr m hm
/-- All that is asked of a condition made plain. -/
structure Pln (ns out : List Nd) : Prop where
  c1 : Cond wdB ns
  c2 : Cond wdB out
  pl : ∀ o e, PlR out o e → o = out ∧ e = 0
  sg : sgl out = true
  n6 : ∀ n ∈ out, N64 n
  l : out.length ≤ 64
  em : (out.length = 0) ↔ (ns.length = 0)
  hB : ∀ f : Fx, hoB ns f = hoB out f
  hE : ∀ f : Fx, hoE ns f = hoE out f
  n4 : nms 4 ns = nms 4 out
  n5 : nms 5 ns = nms 5 out
theorem cond_nil : Cond wdB [] := .inl rfl
theorem hoE_of {ns out : List Nd} (h1 : Cond wdB ns) (h2 : Cond wdB out) (f : Fx) : hoE ns f = hoE out f := by simp [hoE, h1, h2]
theorem pln_of {ns out : List Nd} {er : Int} (h : PlR ns out er) (he : er = 0) (h6 : ∀ n ∈ ns, N64 n) : Pln ns out := by
  rcases h with ⟨-, -, h⟩ | ⟨rfl, rfl, -⟩ | ⟨n, k, e, ok, hl, h⟩
  · omega
  · refine ⟨cond_nil, cond_nil, ?_, rfl, by simp, by simp, Iff.rfl, fun f => rfl, fun f => rfl, rfl, rfl⟩
    rintro o e (⟨h, -⟩ | ⟨-, rfl, rfl⟩ | ⟨n, k, h, -⟩)
    · exact absurd cond_nil h
    · exact ⟨rfl, rfl⟩
    · simp [Fo.flat] at h
  · rcases h with ⟨-, -, h⟩ | ⟨hp, rfl, -⟩
    · omega
    · obtain ⟨m, j, e1, ok2, pid, sg, hev, hnm⟩ := plain_all ok
      have h6' := n64_of_ok _ _ _ ok (by rw [← e]; exact hl) (by rw [← e]; exact h6) false
      rw [e1] at hp h6' ⊢
      have c1 : Cond wdB ns := .inr ⟨hl, n, k, e, ok⟩
      have c2 : Cond wdB (Fo.cons m j .nil).flat := .inr ⟨hp, m, j, rfl, ok2⟩
      refine ⟨c1, c2, ?_, sg, h6', hp, ?_, ?_, fun f => hoE_of c1 c2 f, ?_, ?_⟩
      · rintro o er (⟨h, -⟩ | ⟨h, -⟩ | ⟨n', k', h, ok', -, h'⟩)
        · exact absurd c2 h
        · simp [Fo.flat] at h
        · have := (flat_inj _ _ _ _ _ _ [] [] ok2 ok' rfl (by rw [h])).1
          rw [← this, pid] at h'
          rcases h' with ⟨h', -⟩ | ⟨-, rfl, rfl⟩
          · omega
          · exact ⟨rfl, rfl⟩
      · rw [e]; simp [Fo.flat]
      · intro f
        unfold hoB
        by_cases hf : f.Ok
        · rw [if_pos ⟨c1, hf⟩, if_pos ⟨c2, hf⟩, hoV_eq e ok, hoV_eq rfl ok2]
          have := hev f.vf (vfa_turns _ _ _ _)
          rw [ev_cons, ev_cons] at this
          simp only [List.cons.injEq] at this
          exact this.1.symm
        · rw [if_neg (fun h => hf h.2), if_neg (fun h => hf h.2)]
      · rw [e]; exact (hnm 4 (.inl rfl)).symm
      · rw [e]; exact (hnm 5 (.inr rfl)).symm
theorem plr_bad {ns out : List Nd} {er : Int} (h : PlR ns out er) (he : er ≠ 0) : out = [] ∧ ((er = 3 ∧ Cond wdB ns) ∨ (er = 131 ∧ ¬ Cond wdB ns)) := by
  rcases h with ⟨h, rfl, rfl⟩ | ⟨-, -, h⟩ | ⟨n, k, e, ok, hl, h⟩
  · exact ⟨rfl, .inr ⟨rfl, h⟩⟩
  · exact absurd h he
  · rcases h with ⟨-, rfl, rfl⟩ | ⟨-, -, h⟩
    · exact ⟨rfl, .inl ⟨rfl, .inr ⟨hl, n, k, e, ok⟩⟩⟩
    · exact absurd h he
end Go.Proofs.YtiogfampfdnkcabGreatDoor
namespace Go.Proofs.YtiogfampfdnkcabGreatDoor
open Go.RowKit Go.Shelf
set_option linter.unusedVariables false

theorem len_srt (l : List (List UInt8)) : (srt l).length ≤ l.length := by
  unfold srt
  exact Nat.le_trans (compact_le _) (by rw [List.length_mergeSort]; exact Nat.le_refl _)
theorem len_nms (c : Int) (l : List Nd) : (nms c l).length ≤ l.length := by
  unfold nms
  rw [List.length_map]; exact List.length_filter_le _ _
theorem cond_len {ns : List Nd} (h : Cond wdB ns) : ns.length ≤ 64 := by
  rcases h with rfl | h
  · simp
  · exact h.1
end Go.Proofs.YtiogfampfdnkcabGreatDoor
namespace Go.Proofs.YtiogfampfdnkcabGreatDoor
open Go.ChangeShapes Go.WideShapes Go.ChangeAt Go.RowKit
set_option linter.unusedVariables false

theorem gTens : Tryz.prog.globalNamed "tollbook/decimal.tens" = some 0 := by kernel_rfl
theorem gTensT : (Tryz.prog.globals[0]?).map (·.type) = some 85 := by kernel_rfl
theorem cTens : Tryz.prog.cellsOf 85 = 10 := by kernel_rfl
theorem cI64 : Tryz.prog.cellsOf 2 = 1 := by kernel_rfl
theorem tnOf {W : World} {rest : List (String × DataW Unit)} (h : laidMet Tryz.prog (("tollbook/decimal.tens", Rows.laid_tollbook_decimal_tens) :: rest) W) : Tn W :=
  Go.Lib.tabIs_of_head (zs := [1, 10, 100, 1000, 10000, 100000, 1000000, 10000000, 100000000, 1000000000]) gTens gTensT Tryz.underlying85 Tryz.underlying2 cI64 cTens h
theorem list5 {α : Type} {l : List α} (h : l.length = 5) : ∃ a b c d e, l = [a, b, c, d, e] := by
  match l, h with
  | [a, b, c, d, e], _ => exact ⟨a, b, c, d, e, rfl⟩
theorem list6 {α : Type} {l : List α} (h : l.length = 6) : ∃ a b c d e f, l = [a, b, c, d, e, f] := by
  match l, h with
  | [a, b, c, d, e, f], _ => exact ⟨a, b, c, d, e, f, rfl⟩
theorem B64_of_wf {x : Int} (h : (Lit.int .i64 x).wf = true) : -9223372036854775808 ≤ x ∧ x ≤ 9223372036854775807 := by
  simp [Lit.wf, IntKind.min, IntKind.max, IntKind.signed, IntKind.bits] at h
  omega
theorem sv_of (s : ByteArray) : Value.string s = sv s.data.toList := by simp [sv]
instance : Inhabited Nd := ⟨nd0⟩
theorem cNode : Tryz.prog.cellsOf 35 = 6 := by kernel_rfl
section
variable {H : Type} {enc : TypeId × Value → H} {W : World} {sp : Nat → Bool} {hd : Bool}
theorem node_open {n : Nat} {cs : List Value} {y : DataW H × List MemPlace} (h2 : DataW.trod enc Tryz.prog W 0 sp hd n 35 cs = some y) : ∃ nd : Nd, cs = encN nd ∧ N64 nd := by
  obtain ⟨xs, k, _, _, hl, hxl, hf⟩ := DataW.trod_struct Tryz.underlying35 h2
  obtain ⟨v0, v1, v2, v3, v4, v5, rfl⟩ := list6 (hl.trans cNode)
  obtain ⟨y0, y1, y2, y3, y4, rfl⟩ := list5 hxl
  have g0 := hf 0 _ rfl
  have g1 := hf 1 _ rfl
  have g2 := hf 2 _ rfl
  have g3 := hf 3 _ rfl
  have g4 := hf 4 _ rfl
  have e1 : Tryz.prog.cellsOf 30 = 1 := by kernel_rfl
  have e2 : Tryz.prog.cellsOf 3 = 1 := by kernel_rfl
  have e3 : Tryz.prog.cellsOf 9 = 1 := by kernel_rfl
  have e4 : Tryz.prog.cellsOf 31 = 1 := by kernel_rfl
  have e5 : Tryz.prog.cellsOf 33 = 2 := by kernel_rfl
  simp [e1, e2, e3, e4, e5] at g0 g1 g2 g3 g4
  obtain ⟨kd, h0, -, w0⟩ := DataW.trod_int Tryz.underlying30 g0
  obtain ⟨ks, h1, -, w1⟩ := DataW.trod_int Tryz.underlying3 g1
  obtain ⟨nm, h2', -, -⟩ := DataW.trod_string Tryz.underlying9 g2
  obtain ⟨op, h3, -, w3⟩ := DataW.trod_int Tryz.underlying31 g3
  obtain ⟨xs5, k5, _, _, hl5, hxl5, hf5⟩ := DataW.trod_struct Tryz.underlying33 g4
  have q0 := hf5 0 _ rfl
  have q1 := hf5 1 _ rfl
  have e6 : Tryz.prog.cellsOf 2 = 1 := by kernel_rfl
  have hx5 : xs5.length = 2 := hxl5
  match xs5, hx5 with
  | [z0, z1], _ =>
    simp [e6, e2] at q0 q1
    obtain ⟨un, h4, -, w4⟩ := DataW.trod_int Tryz.underlying2 q0
    obtain ⟨pl, h5, -, w5⟩ := DataW.trod_int Tryz.underlying3 q1
    simp at h0 h1 h2' h3 h4 h5
    subst h0 h1 h2' h3 h4 h5
    refine ⟨⟨kd, ks, nm.data.toList, op, un, pl⟩, by simp [encN, sv], ?_⟩
    intro x hx
    simp only [List.mem_cons, List.not_mem_nil, or_false] at hx
    rcases hx with rfl | rfl | rfl | rfl | rfl
    · exact B64_of_wf w0
    · exact B64_of_wf w1
    · exact B64_of_wf w3
    · exact B64_of_wf w4
    · exact B64_of_wf w5
theorem open_nodes {a : Option Addr} {len cap : Nat} {d : DataW H} {p : List MemPlace} (h : DataW.Trod enc Tryz.prog W 0 sp hd 22 (.slice a len cap) d p) :
    ∃ ns : List Nd, Le elN W a len ns ∧ (∀ n ∈ ns, N64 n) := by
  obtain ⟨fuel, hf⟩ := h
  rcases Go.Deep.open_slice Tryz.underlying22 hf with ⟨hcs, _⟩ | ⟨ad, l, c, m, n, D, Pl, hcs, _, hl, hm, hmm, _, hx⟩
  · simp [Value.cells] at hcs
    obtain ⟨rfl, rfl, rfl⟩ := hcs
    exact ⟨[], Le.nil _ _, fun n hn => by simp at hn⟩
  · simp [Value.cells] at hcs
    obtain ⟨rfl, rfl, rfl⟩ := hcs
    have hlm : len ≤ m := by rw [hmm]; split <;> omega
    have each : ∀ i, i < len → ∃ nd : Nd, (∀ j u, (encN nd)[j]? = some u → W.cell? ((ad.add (i * 6)).add j) = some u) ∧ N64 nd := by
      intro i hi
      obtain ⟨cs', h1, h2⟩ := hx i (by omega)
      rw [cNode] at h1
      obtain ⟨nd, rfl, h6⟩ := node_open h2
      obtain ⟨_, hlen, hcell⟩ := World.cells?_some h1
      refine ⟨nd, fun j u hj => ?_, h6⟩
      have hj6 : j < 6 := by
        rcases Nat.lt_or_ge j 6 with h' | h'
        · exact h'
        · rw [List.getElem?_eq_none (by exact h')] at hj; cases hj
      have := hcell j hj6
      rw [this, hj]
    obtain ⟨Q, hQ⟩ := Go.Deep.choose_lt each
    refine ⟨(List.range len).map Q, ⟨by simp, fun h0 => ?_⟩, fun n hn => ?_⟩
    · obtain ⟨b, off, spot⟩ := ad
      have hspot : spot = none := by
        have := (hQ 0 h0).1 0 _ rfl
        simpa [Addr.add] using World.cell?_spot this
      subst hspot
      refine ⟨b, off, rfl, fun i u hu => ?_⟩
      have hlen : (rowE elN ((List.range len).map Q)).length = len * 6 := by rw [rowE_length]; simp; rfl
      have hi : i < len * 6 := by
        rcases Nat.lt_or_ge i (rowE elN ((List.range len).map Q)).length with h' | h'
        · omega
        · rw [List.getElem?_eq_none h'] at hu; cases hu
      have hq := rowE_get elN (i % 6) (Nat.mod_lt _ (by decide)) ((List.range len).map Q) (i / 6) (by simp; omega)
      rw [show i / 6 * elN.s + i % 6 = i by show i / 6 * 6 + i % 6 = i; omega, hu] at hq
      have hg : ((List.range len).map Q).getD (i / 6) elN.dft = Q (i / 6) := by simp [show i / 6 < len by omega]
      rw [hg] at hq
      have := (hQ (i / 6) (by omega)).1 (i % 6) u hq.symm
      rw [Go.WideShapes.add_plain, Go.WideShapes.add_plain] at this
      rw [← this]
      congr 2
      omega
    · simp only [List.mem_map, List.mem_range] at hn
      obtain ⟨i, hi, rfl⟩ := hn
      exact (hQ i hi).2
theorem texts_open {n : Nat} {cs : List Value} {y : DataW H × List MemPlace} (h : DataW.trod enc Tryz.prog W 0 sp hd n 23 cs = some y) : ∃ (a : Option Addr) (c : Nat) (l : List (List UInt8)), cs = [.slice a l.length c] ∧ Le elS W a l.length l := by
  rcases open_strings Tryz.underlying23 Tryz.underlying9 (by kernel_rfl) h with ⟨hcs, _⟩ | ⟨ad, l, c, ss, hcs, _, hl, hm, hz, hx, hcell, _⟩
  · exact ⟨none, 0, [], hcs, Le.nil _ _⟩
  · have hzl : l ≤ ss.length := by rw [hz]; split <;> omega
    have hll : ((ss.take l).map (fun s : ByteArray => s.data.toList)).length = l := by simp; omega
    refine ⟨some ad, c, (ss.take l).map (fun s : ByteArray => s.data.toList), by rw [hll]; exact hcs, rfl, fun h0 => ?_⟩
    rw [hll] at h0
    obtain ⟨b, off, spot⟩ := ad
    have hspot : spot = none := by
      have := hcell 0 (by omega)
      simpa [Addr.add] using World.cell?_spot this
    subst hspot
    refine ⟨b, off, rfl, fun i u hu => ?_⟩
    have hi : i < l := by
      rcases Nat.lt_or_ge i (rowE elS ((ss.take l).map (fun s : ByteArray => s.data.toList))).length with h' | h'
      · rw [rowE_length, hll] at h'
        have h'' : i < l * 1 := h'
        omega
      · rw [List.getElem?_eq_none h'] at hu; cases hu
    have hq := rowE_get elS 0 (by decide) ((ss.take l).map (fun s : ByteArray => s.data.toList)) i (by rw [hll]; exact hi)
    rw [show i * elS.s + 0 = i by show i * 1 + 0 = i; omega, hu] at hq
    have hg : ((ss.take l).map (fun s : ByteArray => s.data.toList)).getD i elS.dft = (ss.getD i ByteArray.empty).data.toList := by
      rw [List.getD_eq_getElem?_getD, List.getElem?_map, List.getElem?_take_of_lt hi, List.getD_eq_getElem?_getD, List.getElem?_eq_getElem (by omega)]; rfl
    rw [hg] at hq
    have e : u = sv (ss.getD i ByteArray.empty).data.toList := by simpa [elS] using hq
    have := hcell i (by omega)
    rw [Go.WideShapes.add_plain] at this
    rw [this, e, sv_of]
set_option maxRecDepth 100000 in
theorem open_facts {r : Reach} {b0 : Nat} {v : Value} {d : DataW H} {p : List MemPlace} (hv : Value.okWide Tryz.prog W r b0 25 v) (h : DataW.Trod enc Tryz.prog W 0 sp hd 25 v d p) :
    ∃ (a1 : Option Addr) (c1 : Nat) (a2 : Option Addr) (c2 : Nat) (f : Fx), v = fxv a1 c1 a2 c2 f ∧ Lf W a1 c1 a2 c2 f := by
  obtain ⟨cs, rfl, hsz⟩ := okWide_struct Tryz.underlying25 hv
  obtain ⟨fuel, hf⟩ := h
  obtain ⟨xs, k, _, _, hl, hxl, hf⟩ := DataW.trod_struct Tryz.underlying25 hf
  have hC : Tryz.prog.cellsOf 25 = 5 := by kernel_rfl
  have hcl : (Value.agg cs).cells.toList.length = 5 := hl.trans hC
  obtain ⟨v0, v1, v2, v3, v4, hcs⟩ := list5 hcl
  have hcs' : cs.toList = [v0, v1, v2, v3, v4] := hcs
  obtain rfl : cs = #[v0, v1, v2, v3, v4] := by rw [← hcs']
  obtain ⟨y0, y1, y2, y3, y4, rfl⟩ := list5 hxl
  have g0 := hf 0 _ rfl
  have g1 := hf 1 _ rfl
  have g2 := hf 2 _ rfl
  have g3 := hf 3 _ rfl
  have g4 := hf 4 _ rfl
  have e1 : Tryz.prog.cellsOf 23 = 1 := by kernel_rfl
  have e2 : Tryz.prog.cellsOf 3 = 1 := by kernel_rfl
  have e3 : Tryz.prog.cellsOf 2 = 1 := by kernel_rfl
  rw [hcs] at g0 g1 g2 g3 g4
  simp [e1, e2, e3] at g0 g1 g2 g3 g4
  obtain ⟨a1, c1, l1, h0, L1⟩ := texts_open g0
  obtain ⟨a2, c2, l2, h1, L2⟩ := texts_open g1
  obtain ⟨am, h2, -, w2⟩ := DataW.trod_int Tryz.underlying2 g2
  obtain ⟨dg, h3, -, w3⟩ := DataW.trod_int Tryz.underlying3 g3
  obtain ⟨qt, h4, -, w4⟩ := DataW.trod_int Tryz.underlying2 g4
  simp at h0 h1 h2 h3 h4
  subst h0 h1 h2 h3 h4
  exact ⟨a1, c1, a2, c2, ⟨l1, l2, am, dg, qt⟩, rfl, L1, L2, B64_of_wf w2, B64_of_wf w3, B64_of_wf w4⟩
end
end Go.Proofs.YtiogfampfdnkcabGreatDoor
namespace Go.Proofs.YtiogfampfdnkcabGreatDoor
open Go.RowKit
set_option linter.unusedVariables false
theorem nodes_cap {H : Type} {enc : TypeId × Value → H} {W : World} {sp : Nat → Bool} {hd : Bool} {a : Option Addr} {len cap : Nat} {d : DataW H} {p : List MemPlace} (h : DataW.Trod enc Tryz.prog W 0 sp hd 22 (.slice a len cap) d p) : len ≤ cap := by
  obtain ⟨fuel, hf⟩ := h
  rcases Go.Deep.open_slice Tryz.underlying22 hf with ⟨hcs, _⟩ | ⟨ad, l, c, m, n, D, Pl, hcs, _, hl, _⟩
  · simp [Value.cells] at hcs
    omega
  · simp [Value.cells] at hcs
    omega
end Go.Proofs.YtiogfampfdnkcabGreatDoor
namespace Go.Proofs.YtiogfampfdnkcabGreatDoor.traitTables
open Go.ChangeShapes Go.WideShapes Go.ChangeAt Go.RowKit
set_option linter.unusedVariables false

theorem own : ownKnob Tryz.prog.godebug = none := by kernel_rfl
theorem laidOut : laidOutB Tryz.prog = true := by kernel_rfl

set_option maxRecDepth 100000 in
theorem contract (H : Type) (enc : TypeId × Value → H) (W : World) (base : Nat) (args : Array Value) (ds gs : List (DataW H)) (before : List MemPlace)
    (hval : ∀ (j : Nat) t v, Tryz.f3.params[j]? = some t → args[j]? = some v → Value.okWide Tryz.prog W .any base t v)
    (hW : DataW.Whole enc Tryz.prog Tryz.f3.params.toList Rows.traitTablesSpec.vars false W args.toList ds gs before) (hsz : (DataW.weightsEach Tryz.prog (Tryz.f3.params.toList ++ Rows.traitTablesSpec.plain.varTypes Tryz.prog) (ds ++ gs)).all (· ≤ reachBytes) = true) (hL0 : laidMetH Tryz.prog Rows.traitTablesRow.laid W) :
    Calls Tryz.prog 3 args W fun e W' => ∃ v, e = .returned v ∧ Rows.traitTablesSpec.post enc Tryz.prog Tryz.f3 false true false false W args v W' := by
  rw [MakeChecks.laidMetH_plain _ _ _ (by kernel_rfl)] at hL0
  have tb0 := by first | exact tnOf hL0 | exact tnOf hL0.tail | exact tnOf hL0.tail.tail | exact tnOf hL0.tail.tail.tail | exact tnOf hL0.tail.tail.tail.tail | exact tnOf hL0.tail.tail.tail.tail.tail
  have hW' := hW
  obtain ⟨p, q, hA0, hV, rfl, hfz, hnd⟩ := hW
  have hA : DataW.TrodAll enc Tryz.prog W 0 (fun _ => true) true Tryz.f3.params.toList args.toList ds p := hA0
  rw [Tryz.params3] at hA hval hsz
  obtain ⟨v0, vs0, d0, ds0, p0, q0, hargs, rfl, rfl, h0, r0⟩ := trodAll_cons hA
  obtain ⟨v1, vs1, d1, ds1, p1, q1, rfl, rfl, rfl, h1, r1⟩ := trodAll_cons r0
  obtain ⟨v2, vs2, d2, ds2, p2, q2, rfl, rfl, rfl, h2, r2⟩ := trodAll_cons r1
  obtain ⟨rfl, rfl, rfl⟩ := trodAll_nil r2
  obtain rfl : args = #[v0, v1, v2] := by cases args; simp_all
  obtain ⟨rfl, rfl⟩ := trodVars_none hV
  obtain ⟨x0, len0, cap0, rfl⟩ := okWide_slice Tryz.underlying22 (hval 0 22 v0 rfl rfl)
  have k0 := h0
  have lt0 : ∀ x ∈ p0, x.block < W.heap.size := by obtain ⟨m, hm⟩ := k0; exact DataW.trod_lt m _ _ _ hm
  obtain ⟨ns0, L0, N0⟩ := open_nodes h0
  obtain rfl : ns0.length = len0 := L0.1
  obtain ⟨x1, len1, cap1, rfl⟩ := okWide_slice Tryz.underlying22 (hval 1 22 v1 rfl rfl)
  have k1 := h1
  have lt1 : ∀ x ∈ p1, x.block < W.heap.size := by obtain ⟨m, hm⟩ := k1; exact DataW.trod_lt m _ _ _ hm
  obtain ⟨ns1, L1, N1⟩ := open_nodes h1
  obtain rfl : ns1.length = len1 := L1.1
  have k2 := h2
  have lt2 : ∀ x ∈ p2, x.block < W.heap.size := by obtain ⟨m, hm⟩ := k2; exact DataW.trod_lt m _ _ _ hm
  obtain ⟨a2, c2, b2, e2, f2, rfl, F2⟩ := open_facts (hval 2 25 v2 rfl rfl) h2
  clear hA0
  refine (traitTables_walk ns0 x0 cap0 ns1 x1 cap1 a2 c2 b2 e2 f2 W L0 (nodes_cap k0) N0 L1 (nodes_cap k1) N1 F2 tb0).mono fun e W' ⟨he, bel⟩ => ?_
  subst he
  exact ⟨_, rfl, _, _, _, [], _, [], hW', trodAll_mk1 (shut_bool Tryz.underlying4 _), (trodAll_cons_mk (Below.trod laidOut (by kernel_rfl) (of_decide_eq_true (by kernel_rfl)) k0 bel lt0) (trodAll_cons_mk (Below.trod laidOut (by kernel_rfl) (of_decide_eq_true (by kernel_rfl)) k1 bel lt1) (trodAll_cons_mk (Below.trod laidOut (by kernel_rfl) (of_decide_eq_true (by kernel_rfl)) k2 bel lt2) trodAll_mk0))), rfl, bel.frame _, fun h => by cases h⟩

set_option maxRecDepth 100000 in
theorem lifted (os : Os) (started : os.Started) (H : Type) (enc : TypeId × Value → H) :
    ReturnsInHanded {} Tryz.checked os 3 .any (fun w args => (Rows.traitTablesSpec.pre enc Tryz.prog Tryz.f3 [] false w args ∧ laidMetH Tryz.prog Rows.traitTablesRow.laid w) ∧ sizedMet enc Tryz.prog Tryz.f3 (OpenSpec.ofChange Rows.traitTablesSpec) false w args)
      (Rows.traitTablesSpec.post enc Tryz.prog Tryz.f3 false true false false) := by
  refine returnsInHanded_of_change_and (C := Tryz.checked) (X := fun w _ => laidMetH Tryz.prog Rows.traitTablesRow.laid w) (fun _ _ _ hh h => h.of_heap hh) own started (by kernel_rfl) Tryz.func3
    (ChangeSpec.witness_shaped (enc := enc) (C := Tryz.checked) (os := os) (X := fun w _ => laidMetH Tryz.prog Rows.traitTablesRow.laid w) false (World.laidAll Tryz.prog os Rows.traitTablesRow.laid) #[.slice none 0 0, .slice none 0 0, .agg #[.slice none 0 0, .slice none 0 0, .int .i64 0, .int .i64 0, .int .i64 0]] 8 (World.laidAll_os _ _ _)
      (World.shaped_of_ZipB (by kernel_rfl) (by kernel_rfl)) (by kernel_rfl) (by kernel_rfl) (by kernel_rfl)
      (by rw [MakeChecks.laidMetH_plain _ _ _ (by kernel_rfl)]; exact laidMet_laidAll _ (by kernel_rfl) (by kernel_rfl))) ?_
  intro W base args ds gs before hval0 hW _ hsz0 hL _
  exact contract H enc W base args ds gs before hval0 hW hsz0 hL

theorem over : Rows.traitTablesRow.holds Tryz.pinned (OpenSpec.ofChange Rows.traitTablesSpec) :=
  OpenClaim.holds_of_wide 3 Tryz.f3 rfl rfl rfl rfl rfl rfl rfl ⟨rfl, rfl, rfl, rfl, rfl⟩ rfl rfl rfl rfl rfl (by kernel_rfl) Tryz.func3 (by kernel_rfl)
    (of_decide_eq_true (by kernel_rfl)) (by unfold Func.isWrapper; first | (rw [if_pos (by decide +kernel)]; kernel_rfl) | (rw [if_neg (by decide +kernel)]; exact ⟨rfl, rfl⟩))
    (fun os started H enc _ => lifted os started H enc)
end Go.Proofs.YtiogfampfdnkcabGreatDoor.traitTables
namespace Go.Proofs.YtiogfampfdnkcabGreatDoor
theorem traitTables_plain (f : FuncId) (fn : Func) (hf : Tryz.pinned.checked.prog.funcNamed "tollbook/tollbooklaw13.TraitTables" = some f) (hfn : Tryz.pinned.checked.prog.funcs[f]? = some fn) :
    false = Tryz.pinned.checked.prog.looks [] ∧ ∀ (j : Nat) t, fn.params[j]? = some t → Tryz.pinned.checked.prog.wantsStandIn t = false := by
  obtain rfl : f = 3 := Option.some.inj ((show Tryz.prog.funcNamed "tollbook/tollbooklaw13.TraitTables" = some 3 by kernel_rfl).symm.trans hf) |>.symm
  obtain rfl : fn = Tryz.f3 := (Option.some.inj (Tryz.func3.symm.trans hfn)).symm
  refine ⟨by kernel_rfl, fun j t ht => ?_⟩
  rw [Tryz.params3] at ht
  have hm : t ∈ [22, 22, 25] := by have := Array.mem_of_getElem? ht; simp at this; simp; omega
  have hall : ([22, 22, 25].all fun u => !Tryz.prog.wantsStandIn u) = true := by kernel_rfl
  exact (show Tryz.prog.wantsStandIn t = false by simpa using List.all_eq_true.1 hall t hm)
theorem traitTablesCard_holds : Rows.TraitTablesCardSaid :=
  Claim7.holds_tied_plain_at .later [] _ _ _ _ traitTables.over (fun _ h => by cases h) (by kernel_rfl) (fun _ h => by cases h) traitTables_row_tie rfl ⟨rfl, rfl⟩ (by kernel_rfl) rfl traitTables_plain (by kernel_rfl)
#print axioms traitTablesCard_holds
end Go.Proofs.YtiogfampfdnkcabGreatDoor
