import Derived.Test.YtenmkbofpmbedaaGreatDoorScI
namespace Go.Proofs.YtenmkbofpmbedaaGreatDoor
open Go.RowKit Go.Shelf
set_option linter.unusedVariables false
set_option maxRecDepth 20000

theorem fin_len {w : World} {ps : List Pc} {l : List Pq} {n : Nat} (hR : Rp w ps n) (hv : Vals ps l n) (ht : Sht l) : (∀ i, i < n → ((ps.getD i pz).1.l ≤ 3 ∧ (ps.getD i pz).1.m ≤ 3) ∧ ((ps.getD i pz).2.l ≤ 3 ∧ (ps.getD i pz).2.m ≤ 3)) := fun i hi => by
  have h := hR i hi
  have g := hv.2 i hi
  have t := ht i (by rw [hv.1]; exact hi)
  exact ⟨rn_len (rd_rn h.1 g.1) t.1, rn_len (rd_rn h.2 g.2) t.2⟩
theorem fin_of {w : World} {ps : List Pc} {l : List Pq} {n : Nat} (hR : Rp w ps n) (hv : Vals ps l n) (ht : Sht l) (ho : Sok l) : Fin ps n := by
  have h := fin_len hR hv ht
  have h1 := ho.one
  have h2 := ho.few
  rw [hv.1] at h1 h2
  refine ⟨⟨h1, h2⟩, fun i hi => ?_, l, hv, ho⟩
  obtain ⟨⟨a, b⟩, c, d⟩ := h i hi
  unfold Lg
  omega
theorem ps_smp {w w' : World} {ps qs : List Pc} {l : List Pq} {n : Nat} (hp : Ps w' qs l n) (hR : Rp w ps n) (hv : Vals ps l n) : Smp qs ps n := fun i hi => by
  have h := hp i hi
  have g := hv.2 i hi
  have r := hR i hi
  have a := rn_uniq h.1 (rd_rn r.1 g.1)
  have b := rn_uniq h.2 (rd_rn r.2 g.2)
  exact ⟨a, b⟩
set_option maxHeartbeats 16000000 in
theorem ofs_walk (a : Option Addr) (n c : Nat) (ps : List Pc) (w : World) (hT : Tn w) (hL : Le elP w a n ps) (hR : Rp w ps n) (hG : ∀ i, i < n → Lng (ps.getD i pz).1 ∧ Lng (ps.getD i pz).2) (hn : n ≤ 1256584717423) :
    Calls Tryz.prog 4 #[.slice a n c] w fun e w' => e = .returned (.bool true) ∧ Below w.heap.size w w' := by
  have B0 : Below w.heap.size w w := Below.refl _ _
  go_enter Tryz.func4, Tryz.ntmps4
  go_wp2_with fail
  refine (rof_any a n c ps _ hL hR).mono ?_
  rintro e x1 ⟨wr, rfl, hwr, hb⟩
  replace hT := Tn.after hb hT
  replace hL := Le.after hb hL
  replace hR := Rp.after hb hR
  replace B0 := step B0 hb
  clear hb
  go_wp2_with fail
  refine (copyPs a n c ps _ hL hR hG hn).mono ?_
  rintro e x2 ⟨a2, c2, qs, rfl, hL2, hR2, hsm, hb⟩
  replace hT := Tn.after hb hT
  replace hL := Le.after hb hL
  replace hR := Rp.after hb hR
  replace B0 := step B0 hb
  clear hb
  go_wp2_with fail
  refine (of8_any a2 n c2 qs _ hL2 hR2).mono ?_
  rintro e x3 ⟨q9, er, rfl, ho, hb⟩
  replace hT := Tn.after hb hT
  replace hL := Le.after hb hL
  replace hR := Rp.after hb hR
  replace hL2 := Le.after hb hL2
  replace hR2 := Rp.after hb hR2
  replace B0 := step B0 hb
  clear hb
  by_cases z : er = 0
  ·
    obtain ⟨g, b, xs, l, rfl, hd, hv, -, -⟩ := Or.elim ho.out (fun h => h.2) (fun h => absurd z h.1)
    subst z
    clear ho
    have HVP : Hid (Vals ps l n) := hsm.out.vals.2 hv
    obtain rfl : wr = 0 := Or.elim hwr.out (fun h => h.1) (fun h => absurd (fin_of hR HVP.out hd.sh hd.ok) (ofe_not h.2))
    have few := hd.few
    obtain ⟨lb, lo, rfl⟩ := hL.ex few.1
    have h8 := few.2
    clear hwr hsm hv few
    clear hL2 hR2
    have HFL : Hid (∀ i, i < n → ((ps.getD i pz).1.l ≤ 3 ∧ (ps.getD i pz).1.m ≤ 3) ∧ ((ps.getD i pz).2.l ≤ 3 ∧ (ps.getD i pz).2.m ≤ 3)) := fin_len hR HVP.out hd.sh
    go_wp2_with fail
    refine (pieces8_any g b 0 n n xs l _ hd).mono ?_
    rintro e x4 ⟨h, rs, rfl, hB, hrl, hP, hb⟩
    replace hT := Tn.after hb hT
    replace hL := Le.after hb hL
    replace hR := Rp.after hb hR
    replace hd := Sd.after hb hd
    replace B0 := step B0 hb
    clear hb
    clear hd
    have hL3 : Le elP x4 (some ⟨h, 0, none⟩) n rs := by have := Bk.le hB; rwa [hrl] at this
    have hR3 : Rp x4 rs n := ps_rp hP.out
    have hS3 := ps_smp hP.out hR HVP.out
    clear hB hP hrl
    go_wp2_with fail
    refine (samePs h 0 lb lo n n c rs ps _ hL3 hL hR3 hR hS3 (fun i hi => by obtain ⟨⟨-, s1, -, s2, -⟩, -, s3, -, s4, -⟩ := hS3 i hi; rw [s1, s2, s3, s4]; exact HFL.out i hi) h8).mono ?_
    rintro e x5 ⟨rfl, hb⟩
    replace hT := Tn.after hb hT
    replace hL := Le.after hb hL
    replace hR := Rp.after hb hR
    replace hL3 := Le.after hb hL3
    replace hR3 := Rp.after hb hR3
    replace B0 := step B0 hb
    clear hb
    clear hL3 hR3 hL hR
    go_wp2_with fail
    refine (awake18 _ hT).mono ?_
    rintro e x6 ⟨rfl, hb⟩
    replace hT := Tn.after hb hT
    replace B0 := step B0 hb
    clear hb
    go_wp2_with fail
    go_ret
    exact ⟨rfl, B0⟩
  ·
    obtain ⟨rfl, he⟩ := Or.elim ho.out (fun h => absurd h.1 z) (fun h => h.2)
    have hp := hsm.out.ofe he
    obtain rfl : wr = er := Or.elim hwr.out (fun h => absurd h.2 (ofe_not hp)) (fun h => ofe_uniq h.2 hp)
    have z1 : (wr != 0) = true := by simp [z]
    have z2 : (wr == 0) = false := by simp [z]
    clear ho hwr hsm he hp
    clear hL2 hR2 hL hR
    go_wp2_with fail
    refine (awake18 _ hT).mono ?_
    rintro e x7 ⟨rfl, hb⟩
    replace hT := Tn.after hb hT
    replace B0 := step B0 hb
    clear hb
    go_wp2_with fail
    go_ret
    exact ⟨rfl, B0⟩
end Go.Proofs.YtenmkbofpmbedaaGreatDoor
