/-
  The statements' named: of the names those that stand in the first list, of all others those of the second one.
-/
import Derived.Test.YthladfhjhanhlaaGreatDoorMgAn
import Derived.Laws.Cover1
import Derived.Sort.Walk0
import Derived.Test.YthladfhjhanhlaaGreatDoorMgAp
namespace Go.Proofs.YthladfhjhanhlaaGreatDoor
open Go.RowKit Go.Shelf
set_option linter.unusedVariables false
set_option linter.unusedSimpArgs false

theorem le_less (a b : List UInt8) : (Op.bytesLess a b || a == b) = decide (a ≤ b) := by
  rw [bytesLess_eq, Bool.eq_iff_iff, Bool.or_eq_true, decide_eq_true_iff, decide_eq_true_iff, beq_iff_eq]
  exact List.le_iff_lt_or_eq.symm
theorem sv_eq (a b : List UInt8) : (a == b) = decide (a = b) := by
  rw [Bool.eq_iff_iff, beq_iff_eq, decide_eq_true_iff]
theorem cellS {w w' : World} (hb : Below w.heap.size w w') {b off : Nat} {l : List (List UInt8)} {n : Nat} (h : Le elS w (some ⟨b, off, none⟩) n l) {i : Nat} (hi : i < n) : w'.cell? ⟨b, off + i, none⟩ = some (sv (l.getD i [])) := by
  have := (h.after hb).at i hi 0 (sv (l.getD i [])) rfl
  simpa [elS] using this
set_option maxRecDepth 20000 in
set_option maxHeartbeats 16000000 in
theorem nmd_any (F S N : List (List UInt8)) (af : Option Addr) (cf : Nat) (as' : Option Addr) (cs : Nat) (an : Option Addr) (cn : Nat) (w : World) (hF : Le elS w af F.length F) (hS : Le elS w as' S.length S) (hN : Le elS w an N.length N) (lF : F.length ≤ 16) (lS : S.length ≤ 16) (lN : N.length ≤ 100) :
    Calls Tryz.prog 7 #[.slice af F.length cf, .slice as' S.length cs, .slice an N.length cn] w fun e w' => ∃ a' c', e = .returned (.slice a' (nmM N F S).length c') ∧ Le elS w' a' (nmM N F S).length (nmM N F S) ∧ Below w.heap.size w w' := by
  have HF : Hid (Le elS w af F.length F) := hF
  have HS : Hid (Le elS w as' S.length S) := hS
  have HN : Hid (Le elS w an N.length N) := hN
  have HC : Hid (∀ x W, Below w.heap.size w W → Calls Tryz.prog 13 #[.slice an N.length cn, sv x] W fun e w' => e = .returned (.bool (N.contains x)) ∧ w' = W) := fun x W hb => hasS_any N an cn x W (HN.out.after hb) lN
  obtain ⟨T, hT⟩ : ∃ T, nmM N F S = T := ⟨_, rfl⟩
  have HT0 : Hid (([] : List (List UInt8)) ++ nmM N (F.drop 0) (S.drop 0) = T) := by show _ = _; rw [← hT]; rfl
  have HTl : Hid (T.length ≤ 32) := by have := nmM_len N F S; rw [hT] at this; show _ ≤ _; omega
  rw [hT]
  have HB0 : Hid (Below w.heap.size w w) := Below.refl _ _
  have HG0 : Hid (Ge elS w w.heap.size (.slice none ([] : List (List UInt8)).length 0) []) := Ge.nil _ _
  clear hF hS hN hT
  go_enter Tryz.func7, Tryz.ntmps7
  go_wp2_with fail
  go_loopw [7, 8, 9] (fun v u1 u2 wr => ∃ (i k : Nat) (out : List (List UInt8)), u1 = .int .i64 i ∧ u2 = .int .i64 k ∧ i ≤ F.length ∧ k ≤ S.length ∧ Hid (∃ a c, v = .slice a out.length c) ∧ Hid (out ++ nmM N (F.drop i) (S.drop k) = T) ∧ Hid (Ge elS wr w.heap.size v out) ∧ Hid (Below w.heap.size w wr)) (fun _ u1 u2 _ => (F.length - (intOf u1).toNat + (S.length - (intOf u2).toNat) : Nat))
  case atStart => exact ⟨0, 0, [], rfl, rfl, Nat.zero_le _, Nat.zero_le _, ⟨_, _, rfl⟩, HT0.out, HG0.out, HB0.out⟩
  case round =>
    clear HT0 HG0 HB0
    obtain ⟨i, k, out, rfl, rfl, hi, hk, HV, HT, HG, HB⟩ := hrel
    obtain ⟨av, cv, rfl⟩ := HV.out
    clear HV
    have hol : out.length ≤ 32 := by have h1 := HTl.out; rw [← HT.out, List.length_append] at h1; omega
    rcases Nat.lt_or_ge i F.length with hiF | hiF
    · obtain ⟨bf, of', rfl⟩ := HF.out.ex (by omega)
      have eF := drop_s hiF
      obtain ⟨a, ha⟩ : ∃ a, F.getD i [] = a := ⟨_, rfl⟩
      have HA : Hid (F.getD i [] = a) := ha
      rw [ha] at eF
      have HEF : Hid (F.drop i = a :: F.drop (i + 1)) := eF
      clear ha eF
      rcases Nat.lt_or_ge k S.length with hkS | hkS
      · obtain ⟨bs, os, rfl⟩ := HS.out.ex (by omega)
        have eS := drop_s hkS
        obtain ⟨b, hb⟩ : ∃ b, S.getD k [] = b := ⟨_, rfl⟩
        have HBb : Hid (S.getD k [] = b) := hb
        rw [hb] at eS
        have HES : Hid (S.drop k = b :: S.drop (k + 1)) := eS
        clear hb eS
        have di : decide ((i : Int) < (F.length : Int)) = true := by rw [decide_eq_true_iff]; omega
        have di' : decide (i < F.length) = true := by rw [decide_eq_true_iff]; omega
        have dk : decide ((k : Int) < (S.length : Int)) = true := by rw [decide_eq_true_iff]; omega
        have dk' : decide (k < S.length) = true := by rw [decide_eq_true_iff]; omega
        have dg : decide ((S.length : Int) ≤ (k : Int)) = false := by rw [decide_eq_false_iff_not]; omega
        have dg' : decide (S.length ≤ k) = false := by rw [decide_eq_false_iff_not]; omega
        have cawr := cellS HB.out HF.out hiF
        rw [HA.out] at cawr
        have cbwr := cellS HB.out HS.out hkS
        rw [HBb.out] at cbwr
        have sl := binOp_string_leq
        have sle := le_less a b
        have sqe := sv_eq b a
        have HT1 : Hid (out ++ nmM N (a :: F.drop (i + 1)) (b :: S.drop (k + 1)) = T) := by show _ = _; rw [← HEF.out, ← HES.out]; exact HT.out
        by_cases hle : a ≤ b
        · rw [decide_eq_true hle] at sle
          by_cases hba : b = a
          · subst hba
            rw [decide_eq_true rfl] at sqe
            cases hc : N.contains b
            ·
              have HT2 : Hid ((out ++ [b]) ++ nmM N (F.drop (i + 1)) (S.drop (k + 1)) = T) := by show _ = _; rw [← HT1.out, nmM]; simp only [hle, hc, if_true]; simp
              have hc' : N.contains b = false := hc
              clear hc
              go_wp2_with fail
              go_quiet (fail)
              obtain ⟨W1, hW1⟩ : ∃ W, W = wr.drewN nq := ⟨_, rfl⟩
              rw [← hW1]
              have HBW1 : Hid (Below w.heap.size w W1) := by rw [hW1]; exact below_drewN HB.out nq
              have HGW1 : Hid (Ge elS W1 w.heap.size (.slice av out.length cv) out) := by rw [hW1]; exact HG.out
              have caW1 := cellS HBW1.out HF.out hiF
              rw [HA.out] at caW1
              have cbW1 := cellS HBW1.out HS.out hkS
              rw [HBb.out] at cbW1
              clear hW1 nq
              go_wp2_with fail
              refine (HC.out b W1 HBW1.out).mono ?_
              rintro e wz ⟨rfl, hz⟩
              rw [hz, hc']
              clear hz wz
              go_wp2_with fail
              go_quiet (fail)
              obtain ⟨W3, hW3⟩ : ∃ W, W = W1.drewN nq := ⟨_, rfl⟩
              rw [← hW3]
              have HBW3 : Hid (Below w.heap.size w W3) := by rw [hW3]; exact below_drewN HBW1.out nq
              have HGW3 : Hid (Ge elS W3 w.heap.size (.slice av out.length cv) out) := by rw [hW3]; exact HGW1.out
              have caW3 := cellS HBW3.out HF.out hiF
              rw [HA.out] at caW3
              have cbW3 := cellS HBW3.out HS.out hkS
              rw [HBb.out] at cbW3
              clear hW3 nq
              go_wp2_with fail
              refine (HC.out b W3 HBW3.out).mono ?_
              rintro e wz ⟨rfl, hz⟩
              rw [hz, hc']
              clear hz wz
              have HVNW4 : Hid (Le elS (W3.alloc (.cells #[sv b] 9)) (some ⟨W3.heap.size, 0, none⟩) 1 [b]) := Le.one (Va.new W3 _ _) rfl
              have hszW4 := HBW3.out.size
              go_wp2_with (at_builtin; refine wpList_appE rfl _ _ _ rfl elS rfl w.heap.size _ out rfl (HGW3.out.al _) W3.heap.size 0 1 1 [b] rfl HVNW4.out (by omega) (by simp; omega) ?_; intro v8 W4 hg8 hgr8 hob8; have HBW4 : Hid (Below w.heap.size w W4) := (HBW3.out.alloc hszW4 _).grown hgr8 (by simp; omega) (fun q hq => HGW3.out.block q hq); have HGW4 : Hid (Ge elS W4 w.heap.size v8 (out ++ [b])) := hg8; obtain ⟨a8, c8, e8, -, -, -⟩ := hg8.shape; subst e8; clear hg8 hgr8 hob8)
              go_roundw
              case rel =>
                have h8 : out.length + 1 = (out ++ [b]).length := by rw [List.length_append]; rfl
                refine ⟨i + 1, k + 1, out ++ [b], by go_num, by go_num, by omega, by omega, ⟨a8, c8, by rw [← h8]⟩, ?_, by have h9 := HGW4.out; rw [← h8] at h9; exact h9, HBW4.out⟩
                exact HT2.out
              case measure => simp [intOf]; omega
            ·
              have HT2 : Hid ((out ++ [b]) ++ nmM N (F.drop (i + 1)) (S.drop (k + 1)) = T) := by show _ = _; rw [← HT1.out, nmM]; simp only [hle, hc, if_true]; simp
              have hc' : N.contains b = true := hc
              clear hc
              go_wp2_with fail
              go_quiet (fail)
              obtain ⟨W1, hW1⟩ : ∃ W, W = wr.drewN nq := ⟨_, rfl⟩
              rw [← hW1]
              have HBW1 : Hid (Below w.heap.size w W1) := by rw [hW1]; exact below_drewN HB.out nq
              have HGW1 : Hid (Ge elS W1 w.heap.size (.slice av out.length cv) out) := by rw [hW1]; exact HG.out
              have caW1 := cellS HBW1.out HF.out hiF
              rw [HA.out] at caW1
              have cbW1 := cellS HBW1.out HS.out hkS
              rw [HBb.out] at cbW1
              clear hW1 nq
              go_wp2_with fail
              refine (HC.out b W1 HBW1.out).mono ?_
              rintro e wz ⟨rfl, hz⟩
              rw [hz, hc']
              clear hz wz
              have HVNW2 : Hid (Le elS (W1.alloc (.cells #[sv b] 9)) (some ⟨W1.heap.size, 0, none⟩) 1 [b]) := Le.one (Va.new W1 _ _) rfl
              have hszW2 := HBW1.out.size
              go_wp2_with (at_builtin; refine wpList_appE rfl _ _ _ rfl elS rfl w.heap.size _ out rfl (HGW1.out.al _) W1.heap.size 0 1 1 [b] rfl HVNW2.out (by omega) (by simp; omega) ?_; intro v8 W2 hg8 hgr8 hob8; have HBW2 : Hid (Below w.heap.size w W2) := (HBW1.out.alloc hszW2 _).grown hgr8 (by simp; omega) (fun q hq => HGW1.out.block q hq); have HGW2 : Hid (Ge elS W2 w.heap.size v8 (out ++ [b])) := hg8; obtain ⟨a8, c8, e8, -, -, -⟩ := hg8.shape; subst e8; clear hg8 hgr8 hob8)
              have caW2 := cellS HBW2.out HF.out hiF
              rw [HA.out] at caW2
              have cbW2 := cellS HBW2.out HS.out hkS
              rw [HBb.out] at cbW2
              go_quiet (fail)
              obtain ⟨W3, hW3⟩ : ∃ W, W = W2.drewN nq := ⟨_, rfl⟩
              rw [← hW3]
              have HBW3 : Hid (Below w.heap.size w W3) := by rw [hW3]; exact below_drewN HBW2.out nq
              have HGW3 : Hid (Ge elS W3 w.heap.size (.slice a8 (out ++ [b]).length c8) (out ++ [b])) := by rw [hW3]; exact HGW2.out
              have caW3 := cellS HBW3.out HF.out hiF
              rw [HA.out] at caW3
              have cbW3 := cellS HBW3.out HS.out hkS
              rw [HBb.out] at cbW3
              clear hW3 nq
              go_wp2_with fail
              refine (HC.out b W3 HBW3.out).mono ?_
              rintro e wz ⟨rfl, hz⟩
              rw [hz, hc']
              clear hz wz
              go_wp2_with fail
              go_roundw
              case rel =>
                have h8 : out.length + 1 = (out ++ [b]).length := by rw [List.length_append]; rfl
                refine ⟨i + 1, k + 1, out ++ [b], by go_num, by go_num, by omega, by omega, ⟨a8, c8, by rw [← h8]⟩, ?_, by have h9 := HGW3.out; rw [← h8] at h9; exact h9, HBW3.out⟩
                exact HT2.out
              case measure => simp [intOf]; omega
          · rw [decide_eq_false hba] at sqe
            cases hc : N.contains a
            ·
              have HT2 : Hid (out ++ nmM N (F.drop (i + 1)) (b :: S.drop (k + 1)) = T) := by show _ = _; rw [← HT1.out, nmM]; simp only [hle, hba, hc, if_true, if_false]; simp
              have hc' : N.contains a = false := hc
              clear hc
              go_wp2_with fail
              go_quiet (fail)
              obtain ⟨W1, hW1⟩ : ∃ W, W = wr.drewN nq := ⟨_, rfl⟩
              rw [← hW1]
              have HBW1 : Hid (Below w.heap.size w W1) := by rw [hW1]; exact below_drewN HB.out nq
              have HGW1 : Hid (Ge elS W1 w.heap.size (.slice av out.length cv) out) := by rw [hW1]; exact HG.out
              have caW1 := cellS HBW1.out HF.out hiF
              rw [HA.out] at caW1
              have cbW1 := cellS HBW1.out HS.out hkS
              rw [HBb.out] at cbW1
              clear hW1 nq
              go_wp2_with fail
              refine (HC.out a W1 HBW1.out).mono ?_
              rintro e wz ⟨rfl, hz⟩
              rw [hz, hc']
              clear hz wz
              go_wp2_with fail
              go_quiet (fail)
              obtain ⟨W3, hW3⟩ : ∃ W, W = W1.drewN nq := ⟨_, rfl⟩
              rw [← hW3]
              have HBW3 : Hid (Below w.heap.size w W3) := by rw [hW3]; exact below_drewN HBW1.out nq
              have HGW3 : Hid (Ge elS W3 w.heap.size (.slice av out.length cv) out) := by rw [hW3]; exact HGW1.out
              have caW3 := cellS HBW3.out HF.out hiF
              rw [HA.out] at caW3
              have cbW3 := cellS HBW3.out HS.out hkS
              rw [HBb.out] at cbW3
              clear hW3 nq
              go_wp2_with fail
              go_roundw
              case rel =>
                refine ⟨i + 1, k, out, by go_num, by go_num, by omega, by omega, ⟨_, _, rfl⟩, ?_, HGW3.out, HBW3.out⟩
                rw [HES.out]; exact HT2.out
              case measure => simp [intOf]; omega
            ·
              have HT2 : Hid ((out ++ [a]) ++ nmM N (F.drop (i + 1)) (b :: S.drop (k + 1)) = T) := by show _ = _; rw [← HT1.out, nmM]; simp only [hle, hba, hc, if_true, if_false]; simp
              have hc' : N.contains a = true := hc
              clear hc
              go_wp2_with fail
              go_quiet (fail)
              obtain ⟨W1, hW1⟩ : ∃ W, W = wr.drewN nq := ⟨_, rfl⟩
              rw [← hW1]
              have HBW1 : Hid (Below w.heap.size w W1) := by rw [hW1]; exact below_drewN HB.out nq
              have HGW1 : Hid (Ge elS W1 w.heap.size (.slice av out.length cv) out) := by rw [hW1]; exact HG.out
              have caW1 := cellS HBW1.out HF.out hiF
              rw [HA.out] at caW1
              have cbW1 := cellS HBW1.out HS.out hkS
              rw [HBb.out] at cbW1
              clear hW1 nq
              go_wp2_with fail
              refine (HC.out a W1 HBW1.out).mono ?_
              rintro e wz ⟨rfl, hz⟩
              rw [hz, hc']
              clear hz wz
              have HVNW2 : Hid (Le elS (W1.alloc (.cells #[sv a] 9)) (some ⟨W1.heap.size, 0, none⟩) 1 [a]) := Le.one (Va.new W1 _ _) rfl
              have hszW2 := HBW1.out.size
              go_wp2_with (at_builtin; refine wpList_appE rfl _ _ _ rfl elS rfl w.heap.size _ out rfl (HGW1.out.al _) W1.heap.size 0 1 1 [a] rfl HVNW2.out (by omega) (by simp; omega) ?_; intro v8 W2 hg8 hgr8 hob8; have HBW2 : Hid (Below w.heap.size w W2) := (HBW1.out.alloc hszW2 _).grown hgr8 (by simp; omega) (fun q hq => HGW1.out.block q hq); have HGW2 : Hid (Ge elS W2 w.heap.size v8 (out ++ [a])) := hg8; obtain ⟨a8, c8, e8, -, -, -⟩ := hg8.shape; subst e8; clear hg8 hgr8 hob8)
              have caW2 := cellS HBW2.out HF.out hiF
              rw [HA.out] at caW2
              have cbW2 := cellS HBW2.out HS.out hkS
              rw [HBb.out] at cbW2
              go_quiet (fail)
              obtain ⟨W3, hW3⟩ : ∃ W, W = W2.drewN nq := ⟨_, rfl⟩
              rw [← hW3]
              have HBW3 : Hid (Below w.heap.size w W3) := by rw [hW3]; exact below_drewN HBW2.out nq
              have HGW3 : Hid (Ge elS W3 w.heap.size (.slice a8 (out ++ [a]).length c8) (out ++ [a])) := by rw [hW3]; exact HGW2.out
              clear hW3 nq
              go_wp2_with fail
              go_roundw
              case rel =>
                have h8 : out.length + 1 = (out ++ [a]).length := by rw [List.length_append]; rfl
                refine ⟨i + 1, k, out ++ [a], by go_num, by go_num, by omega, by omega, ⟨a8, c8, by rw [← h8]⟩, ?_, by have h9 := HGW3.out; rw [← h8] at h9; exact h9, HBW3.out⟩
                rw [HES.out]; exact HT2.out
              case measure => simp [intOf]; omega
        · rw [decide_eq_false hle] at sle
          cases hc : N.contains b
          ·
            have HT2 : Hid ((out ++ [b]) ++ nmM N (a :: F.drop (i + 1)) (S.drop (k + 1)) = T) := by show _ = _; rw [← HT1.out, nmM]; simp only [hle, hc, if_true, if_false]; simp
            have hc' : N.contains b = false := hc
            clear hc
            go_wp2_with fail
            go_quiet (fail)
            obtain ⟨W1, hW1⟩ : ∃ W, W = wr.drewN nq := ⟨_, rfl⟩
            rw [← hW1]
            have HBW1 : Hid (Below w.heap.size w W1) := by rw [hW1]; exact below_drewN HB.out nq
            have HGW1 : Hid (Ge elS W1 w.heap.size (.slice av out.length cv) out) := by rw [hW1]; exact HG.out
            have caW1 := cellS HBW1.out HF.out hiF
            rw [HA.out] at caW1
            have cbW1 := cellS HBW1.out HS.out hkS
            rw [HBb.out] at cbW1
            clear hW1 nq
            go_wp2_with fail
            refine (HC.out b W1 HBW1.out).mono ?_
            rintro e wz ⟨rfl, hz⟩
            rw [hz, hc']
            clear hz wz
            have HVNW2 : Hid (Le elS (W1.alloc (.cells #[sv b] 9)) (some ⟨W1.heap.size, 0, none⟩) 1 [b]) := Le.one (Va.new W1 _ _) rfl
            have hszW2 := HBW1.out.size
            go_wp2_with (at_builtin; refine wpList_appE rfl _ _ _ rfl elS rfl w.heap.size _ out rfl (HGW1.out.al _) W1.heap.size 0 1 1 [b] rfl HVNW2.out (by omega) (by simp; omega) ?_; intro v8 W2 hg8 hgr8 hob8; have HBW2 : Hid (Below w.heap.size w W2) := (HBW1.out.alloc hszW2 _).grown hgr8 (by simp; omega) (fun q hq => HGW1.out.block q hq); have HGW2 : Hid (Ge elS W2 w.heap.size v8 (out ++ [b])) := hg8; obtain ⟨a8, c8, e8, -, -, -⟩ := hg8.shape; subst e8; clear hg8 hgr8 hob8)
            go_roundw
            case rel =>
              have h8 : out.length + 1 = (out ++ [b]).length := by rw [List.length_append]; rfl
              refine ⟨i, k + 1, out ++ [b], by go_num, by go_num, by omega, by omega, ⟨a8, c8, by rw [← h8]⟩, ?_, by have h9 := HGW2.out; rw [← h8] at h9; exact h9, HBW2.out⟩
              rw [HEF.out]; exact HT2.out
            case measure => simp [intOf]; omega
          ·
            have HT2 : Hid (out ++ nmM N (a :: F.drop (i + 1)) (S.drop (k + 1)) = T) := by show _ = _; rw [← HT1.out, nmM]; simp only [hle, hc, if_true, if_false]; simp
            have hc' : N.contains b = true := hc
            clear hc
            go_wp2_with fail
            go_quiet (fail)
            obtain ⟨W1, hW1⟩ : ∃ W, W = wr.drewN nq := ⟨_, rfl⟩
            rw [← hW1]
            have HBW1 : Hid (Below w.heap.size w W1) := by rw [hW1]; exact below_drewN HB.out nq
            have HGW1 : Hid (Ge elS W1 w.heap.size (.slice av out.length cv) out) := by rw [hW1]; exact HG.out
            have caW1 := cellS HBW1.out HF.out hiF
            rw [HA.out] at caW1
            have cbW1 := cellS HBW1.out HS.out hkS
            rw [HBb.out] at cbW1
            clear hW1 nq
            go_wp2_with fail
            refine (HC.out b W1 HBW1.out).mono ?_
            rintro e wz ⟨rfl, hz⟩
            rw [hz, hc']
            clear hz wz
            go_wp2_with fail
            go_roundw
            case rel =>
              refine ⟨i, k + 1, out, by go_num, by go_num, by omega, by omega, ⟨_, _, rfl⟩, ?_, HGW1.out, HBW1.out⟩
              rw [HEF.out]; exact HT2.out
            case measure => simp [intOf]; omega
      · obtain rfl : k = S.length := by omega
        have di : decide ((i : Int) < (F.length : Int)) = true := by rw [decide_eq_true_iff]; omega
        have di' : decide (i < F.length) = true := by rw [decide_eq_true_iff]; omega
        have dk : decide ((S.length : Int) < (S.length : Int)) = false := by rw [decide_eq_false_iff_not]; omega
        have dk' : decide (S.length < S.length) = false := by rw [decide_eq_false_iff_not]; omega
        have dg : decide ((S.length : Int) ≤ (S.length : Int)) = true := by rw [decide_eq_true_iff]; omega
        have dg' : decide (S.length ≤ S.length) = true := by rw [decide_eq_true_iff]; omega
        have cawr := cellS HB.out HF.out hiF
        rw [HA.out] at cawr
        have HT1 : Hid (out ++ nmM N (a :: F.drop (i + 1)) [] = T) := by show _ = _; have h9 := HT.out; rw [HEF.out, List.drop_length] at h9; exact h9
        cases hc : N.contains a
        ·
          have HT2 : Hid (out ++ nmM N (F.drop (i + 1)) [] = T) := by show _ = _; rw [← HT1.out]; (conv => rhs; rw [nmM]); simp only [hc, if_true, if_false]; simp
          have hc' : N.contains a = false := hc
          clear hc
          go_wp2_with fail
          go_quiet (fail)
          obtain ⟨W1, hW1⟩ : ∃ W, W = wr.drewN nq := ⟨_, rfl⟩
          rw [← hW1]
          have HBW1 : Hid (Below w.heap.size w W1) := by rw [hW1]; exact below_drewN HB.out nq
          have HGW1 : Hid (Ge elS W1 w.heap.size (.slice av out.length cv) out) := by rw [hW1]; exact HG.out
          have caW1 := cellS HBW1.out HF.out hiF
          rw [HA.out] at caW1
          clear hW1 nq
          go_wp2_with fail
          refine (HC.out a W1 HBW1.out).mono ?_
          rintro e wz ⟨rfl, hz⟩
          rw [hz, hc']
          clear hz wz
          go_wp2_with fail
          go_quiet (fail)
          obtain ⟨W3, hW3⟩ : ∃ W, W = W1.drewN nq := ⟨_, rfl⟩
          rw [← hW3]
          have HBW3 : Hid (Below w.heap.size w W3) := by rw [hW3]; exact below_drewN HBW1.out nq
          have HGW3 : Hid (Ge elS W3 w.heap.size (.slice av out.length cv) out) := by rw [hW3]; exact HGW1.out
          have caW3 := cellS HBW3.out HF.out hiF
          rw [HA.out] at caW3
          clear hW3 nq
          go_wp2_with fail
          go_roundw
          case rel =>
            refine ⟨i + 1, S.length, out, by go_num, by go_num, by omega, by omega, ⟨_, _, rfl⟩, ?_, HGW3.out, HBW3.out⟩
            rw [List.drop_length]; exact HT2.out
          case measure => simp [intOf]; omega
        ·
          have HT2 : Hid ((out ++ [a]) ++ nmM N (F.drop (i + 1)) [] = T) := by show _ = _; rw [← HT1.out]; (conv => rhs; rw [nmM]); simp only [hc, if_true, if_false]; simp
          have hc' : N.contains a = true := hc
          clear hc
          go_wp2_with fail
          go_quiet (fail)
          obtain ⟨W1, hW1⟩ : ∃ W, W = wr.drewN nq := ⟨_, rfl⟩
          rw [← hW1]
          have HBW1 : Hid (Below w.heap.size w W1) := by rw [hW1]; exact below_drewN HB.out nq
          have HGW1 : Hid (Ge elS W1 w.heap.size (.slice av out.length cv) out) := by rw [hW1]; exact HG.out
          have caW1 := cellS HBW1.out HF.out hiF
          rw [HA.out] at caW1
          clear hW1 nq
          go_wp2_with fail
          refine (HC.out a W1 HBW1.out).mono ?_
          rintro e wz ⟨rfl, hz⟩
          rw [hz, hc']
          clear hz wz
          have HVNW2 : Hid (Le elS (W1.alloc (.cells #[sv a] 9)) (some ⟨W1.heap.size, 0, none⟩) 1 [a]) := Le.one (Va.new W1 _ _) rfl
          have hszW2 := HBW1.out.size
          go_wp2_with (at_builtin; refine wpList_appE rfl _ _ _ rfl elS rfl w.heap.size _ out rfl (HGW1.out.al _) W1.heap.size 0 1 1 [a] rfl HVNW2.out (by omega) (by simp; omega) ?_; intro v8 W2 hg8 hgr8 hob8; have HBW2 : Hid (Below w.heap.size w W2) := (HBW1.out.alloc hszW2 _).grown hgr8 (by simp; omega) (fun q hq => HGW1.out.block q hq); have HGW2 : Hid (Ge elS W2 w.heap.size v8 (out ++ [a])) := hg8; obtain ⟨a8, c8, e8, -, -, -⟩ := hg8.shape; subst e8; clear hg8 hgr8 hob8)
          go_quiet (fail)
          obtain ⟨W3, hW3⟩ : ∃ W, W = W2.drewN nq := ⟨_, rfl⟩
          rw [← hW3]
          have HBW3 : Hid (Below w.heap.size w W3) := by rw [hW3]; exact below_drewN HBW2.out nq
          have HGW3 : Hid (Ge elS W3 w.heap.size (.slice a8 (out ++ [a]).length c8) (out ++ [a])) := by rw [hW3]; exact HGW2.out
          clear hW3 nq
          go_wp2_with fail
          go_roundw
          case rel =>
            have h8 : out.length + 1 = (out ++ [a]).length := by rw [List.length_append]; rfl
            refine ⟨i + 1, S.length, out ++ [a], by go_num, by go_num, by omega, by omega, ⟨a8, c8, by rw [← h8]⟩, ?_, by have h9 := HGW3.out; rw [← h8] at h9; exact h9, HBW3.out⟩
            rw [List.drop_length]; exact HT2.out
          case measure => simp [intOf]; omega
    · obtain rfl : i = F.length := by omega
      rcases Nat.lt_or_ge k S.length with hkS | hkS
      · obtain ⟨bs, os, rfl⟩ := HS.out.ex (by omega)
        have eS := drop_s hkS
        obtain ⟨b, hb⟩ : ∃ b, S.getD k [] = b := ⟨_, rfl⟩
        have HBb : Hid (S.getD k [] = b) := hb
        rw [hb] at eS
        have HES : Hid (S.drop k = b :: S.drop (k + 1)) := eS
        clear hb eS
        have di : decide ((F.length : Int) < (F.length : Int)) = false := by rw [decide_eq_false_iff_not]; omega
        have dk : decide ((k : Int) < (S.length : Int)) = true := by rw [decide_eq_true_iff]; omega
        have dk' : decide (k < S.length) = true := by rw [decide_eq_true_iff]; omega
        have dg : decide ((S.length : Int) ≤ (k : Int)) = false := by rw [decide_eq_false_iff_not]; omega
        have dg' : decide (S.length ≤ k) = false := by rw [decide_eq_false_iff_not]; omega
        have cbwr := cellS HB.out HS.out hkS
        rw [HBb.out] at cbwr
        have HT1 : Hid (out ++ nmM N [] (b :: S.drop (k + 1)) = T) := by show _ = _; have h9 := HT.out; rw [HES.out, List.drop_length] at h9; exact h9
        cases hc : N.contains b
        ·
          have HT2 : Hid ((out ++ [b]) ++ nmM N [] (S.drop (k + 1)) = T) := by show _ = _; rw [← HT1.out]; (conv => rhs; rw [nmM]); simp only [hc, if_true, if_false]; simp
          have hc' : N.contains b = false := hc
          clear hc
          go_wp2_with fail
          go_quiet (fail)
          obtain ⟨W1, hW1⟩ : ∃ W, W = wr.drewN nq := ⟨_, rfl⟩
          rw [← hW1]
          have HBW1 : Hid (Below w.heap.size w W1) := by rw [hW1]; exact below_drewN HB.out nq
          have HGW1 : Hid (Ge elS W1 w.heap.size (.slice av out.length cv) out) := by rw [hW1]; exact HG.out
          have cbW1 := cellS HBW1.out HS.out hkS
          rw [HBb.out] at cbW1
          clear hW1 nq
          go_wp2_with fail
          refine (HC.out b W1 HBW1.out).mono ?_
          rintro e wz ⟨rfl, hz⟩
          rw [hz, hc']
          clear hz wz
          have HVNW2 : Hid (Le elS (W1.alloc (.cells #[sv b] 9)) (some ⟨W1.heap.size, 0, none⟩) 1 [b]) := Le.one (Va.new W1 _ _) rfl
          have hszW2 := HBW1.out.size
          go_wp2_with (at_builtin; refine wpList_appE rfl _ _ _ rfl elS rfl w.heap.size _ out rfl (HGW1.out.al _) W1.heap.size 0 1 1 [b] rfl HVNW2.out (by omega) (by simp; omega) ?_; intro v8 W2 hg8 hgr8 hob8; have HBW2 : Hid (Below w.heap.size w W2) := (HBW1.out.alloc hszW2 _).grown hgr8 (by simp; omega) (fun q hq => HGW1.out.block q hq); have HGW2 : Hid (Ge elS W2 w.heap.size v8 (out ++ [b])) := hg8; obtain ⟨a8, c8, e8, -, -, -⟩ := hg8.shape; subst e8; clear hg8 hgr8 hob8)
          go_roundw
          case rel =>
            have h8 : out.length + 1 = (out ++ [b]).length := by rw [List.length_append]; rfl
            refine ⟨F.length, k + 1, out ++ [b], by go_num, by go_num, by omega, by omega, ⟨a8, c8, by rw [← h8]⟩, ?_, by have h9 := HGW2.out; rw [← h8] at h9; exact h9, HBW2.out⟩
            rw [List.drop_length]; exact HT2.out
          case measure => simp [intOf]; omega
        ·
          have HT2 : Hid (out ++ nmM N [] (S.drop (k + 1)) = T) := by show _ = _; rw [← HT1.out]; (conv => rhs; rw [nmM]); simp only [hc, if_true, if_false]; simp
          have hc' : N.contains b = true := hc
          clear hc
          go_wp2_with fail
          go_quiet (fail)
          obtain ⟨W1, hW1⟩ : ∃ W, W = wr.drewN nq := ⟨_, rfl⟩
          rw [← hW1]
          have HBW1 : Hid (Below w.heap.size w W1) := by rw [hW1]; exact below_drewN HB.out nq
          have HGW1 : Hid (Ge elS W1 w.heap.size (.slice av out.length cv) out) := by rw [hW1]; exact HG.out
          have cbW1 := cellS HBW1.out HS.out hkS
          rw [HBb.out] at cbW1
          clear hW1 nq
          go_wp2_with fail
          refine (HC.out b W1 HBW1.out).mono ?_
          rintro e wz ⟨rfl, hz⟩
          rw [hz, hc']
          clear hz wz
          go_wp2_with fail
          go_roundw
          case rel =>
            refine ⟨F.length, k + 1, out, by go_num, by go_num, by omega, by omega, ⟨_, _, rfl⟩, ?_, HGW1.out, HBW1.out⟩
            rw [List.drop_length]; exact HT2.out
          case measure => simp [intOf]; omega
      · obtain rfl : k = S.length := by omega
        have HO : Hid (out = T) := by show _ = _; have h9 := HT.out; rw [List.drop_length, List.drop_length, nmM, List.append_nil] at h9; exact h9
        go_wp2_with fail
        go_ret
        exact ⟨av, cv, by rw [← HO.out]; rfl, by rw [← HO.out]; exact HG.out.toLe, HB.out⟩
end Go.Proofs.YthladfhjhanhlaaGreatDoor
namespace Go.Proofs.YthladfhjhanhlaaGreatDoor
open Go.RowKit Go.Shelf
set_option linter.unusedVariables false

def eu9 : List UInt8 := [101, 117]
def food9 : List UInt8 := [102, 111, 111, 100]
def awK : Fo := .cons ⟨4, 0, eu9, 0, 0, 0⟩ .nil (.cons ndN (.cons ⟨5, 0, food9, 0, 0, 0⟩ .nil .nil) .nil)
def awN : List Nd := (Fo.cons ⟨2, 2, [], 0, 0, 0⟩ awK .nil).flat
theorem wd_eu : wdB eu9 = true := by decide +kernel
theorem wd_food : wdB food9 = true := by decide +kernel
theorem aw_ok : (Fo.cons ⟨2, 2, [], 0, 0, 0⟩ awK .nil).Ok wdB 0 1 := by
  refine ⟨⟨.inl ⟨.inr rfl, by decide, rfl, rfl, rfl, rfl⟩, by decide, by decide, rfl, ?_⟩, trivial⟩
  refine ⟨⟨.inr (.inr (.inl ⟨.inl rfl, rfl, wd_eu, rfl, rfl, rfl⟩)), by decide, by decide, rfl, trivial⟩, ?_⟩
  refine ⟨⟨.inr (.inl ⟨rfl, rfl, rfl, rfl, rfl, rfl⟩), by decide, by decide, rfl, ?_⟩, trivial⟩
  exact ⟨⟨.inr (.inr (.inl ⟨.inr rfl, rfl, wd_food, rfl, rfl, rfl⟩)), by decide, by decide, rfl, trivial⟩, trivial⟩
theorem aw_cond : Cond wdB awN := .inr ⟨by decide, _, _, rfl, aw_ok⟩
theorem aw_64 : ∀ n ∈ awN, N64 n := by
  intro n hn
  have : n ∈ [(⟨2, 2, [], 0, 0, 0⟩ : Nd), ⟨4, 0, eu9, 0, 0, 0⟩, ndN, ⟨5, 0, food9, 0, 0, 0⟩] := hn
  simp at this
  rcases this with rfl | rfl | rfl | rfl <;> (intro x hx; simp [ndN] at hx; omega)
theorem tr_one {s : List UInt8} (h : wdB s = true) : Trs [s] := ⟨by simp, by simp [h], fun j hj => by simp at hj⟩
theorem tr_nil : Trs [] := ⟨by simp, rfl, fun j hj => by simp at hj⟩
theorem aw_one : hoB awN ⟨[eu9], [], 0, 0, 1⟩ = true ∧ hoE awN ⟨[eu9], [], 0, 0, 1⟩ = 0 := by
  have hf : FtOk [eu9] [] 0 0 1 := ⟨tr_one wd_eu, tr_nil, by decide, by decide, by decide, by decide⟩
  have hf' : Fx.Ok ⟨[eu9], [], 0, 0, 1⟩ := hf
  refine ⟨?_, ?_⟩
  · unfold hoB
    rw [if_pos ⟨aw_cond, hf'⟩, hoV_eq (ns := awN) rfl aw_ok]
    simp [val, awK, Fo.ev, Fx.vf, vfa, ndN]
  · unfold hoE
    rw [if_pos aw_cond]; exact ftE_ok hf
theorem aw_two : hoB awN ⟨[eu9], [food9], 0, 0, 1⟩ = false ∧ hoE awN ⟨[eu9], [food9], 0, 0, 1⟩ = 0 := by
  have hf : FtOk [eu9] [food9] 0 0 1 := ⟨tr_one wd_eu, tr_one wd_food, by decide, by decide, by decide, by decide⟩
  have hf' : Fx.Ok ⟨[eu9], [food9], 0, 0, 1⟩ := hf
  refine ⟨?_, ?_⟩
  · unfold hoB
    rw [if_pos ⟨aw_cond, hf'⟩, hoV_eq (ns := awN) rfl aw_ok]
    simp [val, awK, Fo.ev, Fx.vf, vfa, ndN]
  · unfold hoE
    rw [if_pos aw_cond]; exact ftE_ok hf
def bread9 : List UInt8 := [102, 111, 111, 100, 46, 98, 114, 101, 97, 100]
theorem aw_cv : cvB food9 bread9 = true := by decide +kernel
set_option maxHeartbeats 4000000 in
theorem awake13 (w : World) (hT : Tn w) : Calls Tryz.prog 6 #[] w fun e w' => e = .returned (.bool true) ∧ Below w.heap.size w w' := by
  have HT : Hid (Tn w) := hT
  clear hT
  go_enter Tryz.func6, Tryz.ntmps6
  go_upto_region 2 with fail
  refine ent1 w _ _ (Q := fun W => Code.wp _ _ _ _ W) ?_
  intro W1 hb1 hs1 V1
  have HL1 : Hid (Le elN W1 (some ⟨w.heap.size, 0, none⟩) awN.length awN) := (Ge.of (E := elN) (xs := awN) (B := 0) V1 (Nat.zero_le _) rfl rfl (by decide)).toLe
  have HB1 : Hid (Below w.heap.size w W1) := hb1
  clear V1 hb1 hs1
  go_wp2_with fail
  refine ent1 W1 _ _ (Q := fun W => Calls Tryz.prog _ _ W _) ?_
  intro W2 hb2 hs2 V2
  have B2 := step HB1.out hb2
  have HL2 : Hid (Le elN W2 (some ⟨w.heap.size, 0, none⟩) awN.length awN) := HL1.out.after hb2
  have LF : Lf W2 (some ⟨W1.heap.size, 0, none⟩) 1 none 0 ⟨[eu9], [], 0, 0, 1⟩ := ⟨(Ge.of (E := elS) (xs := [eu9]) (B := 0) V2 (Nat.zero_le _) rfl rfl (by decide)).toLe, Le.nil _ _, by constructor <;> decide, by constructor <;> decide, by constructor <;> decide⟩
  have D1 := holds_any awN (some ⟨w.heap.size, 0, none⟩) 4 (some ⟨W1.heap.size, 0, none⟩) 1 none 0 ⟨[eu9], [], 0, 0, 1⟩ W2 HL2.out aw_64 LF (HT.out.to B2)
  rw [aw_one.1, aw_one.2] at D1
  clear LF V2 hs2 hb2
  refine Calls.mono D1 ?_
  rintro e W3 ⟨rfl, hb3⟩
  have B3 := step B2 hb3
  have HL3 : Hid (Le elN W3 (some ⟨w.heap.size, 0, none⟩) awN.length awN) := HL2.out.after hb3
  clear D1 hb3 B2 HL2 HL1 HB1
  go_wp2_with fail
  refine ent2 W3 _ _ _ _ (Q := fun W => Calls Tryz.prog _ _ W _) ?_
  intro W4 hb4 hs4 V4 V5
  have B4 := step B3 hb4
  have HL4 : Hid (Le elN W4 (some ⟨w.heap.size, 0, none⟩) awN.length awN) := HL3.out.after hb4
  have LF : Lf W4 (some ⟨W3.heap.size, 0, none⟩) 1 (some ⟨W3.heap.size + 1, 0, none⟩) 1 ⟨[eu9], [food9], 0, 0, 1⟩ := ⟨(Ge.of (E := elS) (xs := [eu9]) (B := 0) V4 (Nat.zero_le _) rfl rfl (by decide)).toLe, (Ge.of (E := elS) (xs := [food9]) (B := 0) V5 (Nat.zero_le _) rfl rfl (by decide)).toLe, by constructor <;> decide, by constructor <;> decide, by constructor <;> decide⟩
  have D2 := holds_any awN (some ⟨w.heap.size, 0, none⟩) 4 (some ⟨W3.heap.size, 0, none⟩) 1 (some ⟨W3.heap.size + 1, 0, none⟩) 1 ⟨[eu9], [food9], 0, 0, 1⟩ W4 HL4.out aw_64 LF (HT.out.to B4)
  rw [aw_two.1, aw_two.2] at D2
  clear LF V4 V5 hs4 hb4
  refine Calls.mono D2 ?_
  rintro e W5 ⟨rfl, hb5⟩
  have B5 := step B4 hb5
  have D3 := covers_any food9 bread9 W5 (by decide) (by decide)
  rw [aw_cv] at D3
  clear D2 hb5 B4 B3 HL3 HL4
  go_wp2_with fail
  refine Calls.mono D3 ?_
  rintro e W6 ⟨rfl, hb6⟩
  have B6 := step B5 hb6
  clear D3 hb6 B5
  go_wp2_with fail
  go_ret
  exact ⟨rfl, B6⟩
end Go.Proofs.YthladfhjhanhlaaGreatDoor
