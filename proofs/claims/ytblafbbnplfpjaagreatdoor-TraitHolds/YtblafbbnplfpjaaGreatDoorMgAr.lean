import Derived.Test.YtblafbbnplfpjaaGreatDoorMgAa
import Derived.Test.YtblafbbnplfpjaaGreatDoorMgAq
import Derived.Test.YtblafbbnplfpjaaGreatDoorMgAn
import Derived.Test.YtblafbbnplfpjaaGreatDoorTr9
import Derived.Test.YtblafbbnplfpjaaGreatDoorMgAp
import Derived.Test.YtblafbbnplfpjaaGreatDoorMgAj
import Derived.Test.YtblafbbnplfpjaaGreatDoorBsI
namespace Go.Proofs.YtblafbbnplfpjaaGreatDoor
open Go.RowKit Go.Shelf
set_option linter.unusedVariables false
set_option linter.unusedSimpArgs false

def mkT (k : Nat) : List UInt8 := [35, 1, 0, 0, 47, UInt8.ofNat k, 0, 0]
theorem convT (w : World) (l : List UInt8) : (convert 108 9 (.slice (some ⟨w.heap.size, 0, none⟩) l.length l.length)).run Tryz.prog (w.alloc (.cells (l.map (fun c => Value.int .u8 (c.toNat : Int))).toArray 5)) = .ok (sv l) (w.alloc (.cells (l.map (fun c => Value.int .u8 (c.toNat : Int))).toArray 5)) := by
  have V := Va.new w 5 (l.map (fun c => Value.int .u8 (c.toNat : Int))).toArray
  refine run_convert_bytes_back (P := Tryz.prog) _ 108 9 5 ⟨w.heap.size, 0, none⟩ l.length l Tryz.underlying108 Tryz.underlying5 Tryz.underlying9 (fun j hj => ?_)
  rw [Go.Lib.add_plain, V.cellAt]
  simp [hj]
set_option maxRecDepth 20000 in
set_option maxHeartbeats 4000000 in
theorem markT_any (i : Nat) (h1 : i < 12) (w : World) : Calls Tryz.prog 47 #[.int .i64 1, .int .i64 i] w fun e w' => e = .returned (sv (mkT i)) ∧ Below w.heap.size w w' := by
  match i, h1 with
  | 0, _ =>
    have hcv : (convert 108 9 (.slice (some ⟨w.heap.size, 0, none⟩) 8 8)).run Tryz.prog (w.alloc (.cells #[.int .u8 35, .int .u8 1, .int .u8 0, .int .u8 0, .int .u8 47, .int .u8 0, .int .u8 0, .int .u8 0] 5)) = .ok (.string ⟨#[35, 1, 0, 0, 47, 0, 0, 0]⟩) (w.alloc (.cells #[.int .u8 35, .int .u8 1, .int .u8 0, .int .u8 0, .int .u8 47, .int .u8 0, .int .u8 0, .int .u8 0] 5)) := convT w (mkT 0)
    go_enter Tryz.func47, Tryz.ntmps47
    go_wp2_with fail
    go_ret
    exact ⟨rfl, (Below.refl _ _).alloc (Nat.le_refl _) _⟩
  | 1, _ =>
    have hcv : (convert 108 9 (.slice (some ⟨w.heap.size, 0, none⟩) 8 8)).run Tryz.prog (w.alloc (.cells #[.int .u8 35, .int .u8 1, .int .u8 0, .int .u8 0, .int .u8 47, .int .u8 1, .int .u8 0, .int .u8 0] 5)) = .ok (.string ⟨#[35, 1, 0, 0, 47, 1, 0, 0]⟩) (w.alloc (.cells #[.int .u8 35, .int .u8 1, .int .u8 0, .int .u8 0, .int .u8 47, .int .u8 1, .int .u8 0, .int .u8 0] 5)) := convT w (mkT 1)
    go_enter Tryz.func47, Tryz.ntmps47
    go_wp2_with fail
    go_ret
    exact ⟨rfl, (Below.refl _ _).alloc (Nat.le_refl _) _⟩
  | 2, _ =>
    have hcv : (convert 108 9 (.slice (some ⟨w.heap.size, 0, none⟩) 8 8)).run Tryz.prog (w.alloc (.cells #[.int .u8 35, .int .u8 1, .int .u8 0, .int .u8 0, .int .u8 47, .int .u8 2, .int .u8 0, .int .u8 0] 5)) = .ok (.string ⟨#[35, 1, 0, 0, 47, 2, 0, 0]⟩) (w.alloc (.cells #[.int .u8 35, .int .u8 1, .int .u8 0, .int .u8 0, .int .u8 47, .int .u8 2, .int .u8 0, .int .u8 0] 5)) := convT w (mkT 2)
    go_enter Tryz.func47, Tryz.ntmps47
    go_wp2_with fail
    go_ret
    exact ⟨rfl, (Below.refl _ _).alloc (Nat.le_refl _) _⟩
  | 3, _ =>
    have hcv : (convert 108 9 (.slice (some ⟨w.heap.size, 0, none⟩) 8 8)).run Tryz.prog (w.alloc (.cells #[.int .u8 35, .int .u8 1, .int .u8 0, .int .u8 0, .int .u8 47, .int .u8 3, .int .u8 0, .int .u8 0] 5)) = .ok (.string ⟨#[35, 1, 0, 0, 47, 3, 0, 0]⟩) (w.alloc (.cells #[.int .u8 35, .int .u8 1, .int .u8 0, .int .u8 0, .int .u8 47, .int .u8 3, .int .u8 0, .int .u8 0] 5)) := convT w (mkT 3)
    go_enter Tryz.func47, Tryz.ntmps47
    go_wp2_with fail
    go_ret
    exact ⟨rfl, (Below.refl _ _).alloc (Nat.le_refl _) _⟩
  | 4, _ =>
    have hcv : (convert 108 9 (.slice (some ⟨w.heap.size, 0, none⟩) 8 8)).run Tryz.prog (w.alloc (.cells #[.int .u8 35, .int .u8 1, .int .u8 0, .int .u8 0, .int .u8 47, .int .u8 4, .int .u8 0, .int .u8 0] 5)) = .ok (.string ⟨#[35, 1, 0, 0, 47, 4, 0, 0]⟩) (w.alloc (.cells #[.int .u8 35, .int .u8 1, .int .u8 0, .int .u8 0, .int .u8 47, .int .u8 4, .int .u8 0, .int .u8 0] 5)) := convT w (mkT 4)
    go_enter Tryz.func47, Tryz.ntmps47
    go_wp2_with fail
    go_ret
    exact ⟨rfl, (Below.refl _ _).alloc (Nat.le_refl _) _⟩
  | 5, _ =>
    have hcv : (convert 108 9 (.slice (some ⟨w.heap.size, 0, none⟩) 8 8)).run Tryz.prog (w.alloc (.cells #[.int .u8 35, .int .u8 1, .int .u8 0, .int .u8 0, .int .u8 47, .int .u8 5, .int .u8 0, .int .u8 0] 5)) = .ok (.string ⟨#[35, 1, 0, 0, 47, 5, 0, 0]⟩) (w.alloc (.cells #[.int .u8 35, .int .u8 1, .int .u8 0, .int .u8 0, .int .u8 47, .int .u8 5, .int .u8 0, .int .u8 0] 5)) := convT w (mkT 5)
    go_enter Tryz.func47, Tryz.ntmps47
    go_wp2_with fail
    go_ret
    exact ⟨rfl, (Below.refl _ _).alloc (Nat.le_refl _) _⟩
  | 6, _ =>
    have hcv : (convert 108 9 (.slice (some ⟨w.heap.size, 0, none⟩) 8 8)).run Tryz.prog (w.alloc (.cells #[.int .u8 35, .int .u8 1, .int .u8 0, .int .u8 0, .int .u8 47, .int .u8 6, .int .u8 0, .int .u8 0] 5)) = .ok (.string ⟨#[35, 1, 0, 0, 47, 6, 0, 0]⟩) (w.alloc (.cells #[.int .u8 35, .int .u8 1, .int .u8 0, .int .u8 0, .int .u8 47, .int .u8 6, .int .u8 0, .int .u8 0] 5)) := convT w (mkT 6)
    go_enter Tryz.func47, Tryz.ntmps47
    go_wp2_with fail
    go_ret
    exact ⟨rfl, (Below.refl _ _).alloc (Nat.le_refl _) _⟩
  | 7, _ =>
    have hcv : (convert 108 9 (.slice (some ⟨w.heap.size, 0, none⟩) 8 8)).run Tryz.prog (w.alloc (.cells #[.int .u8 35, .int .u8 1, .int .u8 0, .int .u8 0, .int .u8 47, .int .u8 7, .int .u8 0, .int .u8 0] 5)) = .ok (.string ⟨#[35, 1, 0, 0, 47, 7, 0, 0]⟩) (w.alloc (.cells #[.int .u8 35, .int .u8 1, .int .u8 0, .int .u8 0, .int .u8 47, .int .u8 7, .int .u8 0, .int .u8 0] 5)) := convT w (mkT 7)
    go_enter Tryz.func47, Tryz.ntmps47
    go_wp2_with fail
    go_ret
    exact ⟨rfl, (Below.refl _ _).alloc (Nat.le_refl _) _⟩
  | 8, _ =>
    have hcv : (convert 108 9 (.slice (some ⟨w.heap.size, 0, none⟩) 8 8)).run Tryz.prog (w.alloc (.cells #[.int .u8 35, .int .u8 1, .int .u8 0, .int .u8 0, .int .u8 47, .int .u8 8, .int .u8 0, .int .u8 0] 5)) = .ok (.string ⟨#[35, 1, 0, 0, 47, 8, 0, 0]⟩) (w.alloc (.cells #[.int .u8 35, .int .u8 1, .int .u8 0, .int .u8 0, .int .u8 47, .int .u8 8, .int .u8 0, .int .u8 0] 5)) := convT w (mkT 8)
    go_enter Tryz.func47, Tryz.ntmps47
    go_wp2_with fail
    go_ret
    exact ⟨rfl, (Below.refl _ _).alloc (Nat.le_refl _) _⟩
  | 9, _ =>
    have hcv : (convert 108 9 (.slice (some ⟨w.heap.size, 0, none⟩) 8 8)).run Tryz.prog (w.alloc (.cells #[.int .u8 35, .int .u8 1, .int .u8 0, .int .u8 0, .int .u8 47, .int .u8 9, .int .u8 0, .int .u8 0] 5)) = .ok (.string ⟨#[35, 1, 0, 0, 47, 9, 0, 0]⟩) (w.alloc (.cells #[.int .u8 35, .int .u8 1, .int .u8 0, .int .u8 0, .int .u8 47, .int .u8 9, .int .u8 0, .int .u8 0] 5)) := convT w (mkT 9)
    go_enter Tryz.func47, Tryz.ntmps47
    go_wp2_with fail
    go_ret
    exact ⟨rfl, (Below.refl _ _).alloc (Nat.le_refl _) _⟩
  | 10, _ =>
    have hcv : (convert 108 9 (.slice (some ⟨w.heap.size, 0, none⟩) 8 8)).run Tryz.prog (w.alloc (.cells #[.int .u8 35, .int .u8 1, .int .u8 0, .int .u8 0, .int .u8 47, .int .u8 10, .int .u8 0, .int .u8 0] 5)) = .ok (.string ⟨#[35, 1, 0, 0, 47, 10, 0, 0]⟩) (w.alloc (.cells #[.int .u8 35, .int .u8 1, .int .u8 0, .int .u8 0, .int .u8 47, .int .u8 10, .int .u8 0, .int .u8 0] 5)) := convT w (mkT 10)
    go_enter Tryz.func47, Tryz.ntmps47
    go_wp2_with fail
    go_ret
    exact ⟨rfl, (Below.refl _ _).alloc (Nat.le_refl _) _⟩
  | 11, _ =>
    have hcv : (convert 108 9 (.slice (some ⟨w.heap.size, 0, none⟩) 8 8)).run Tryz.prog (w.alloc (.cells #[.int .u8 35, .int .u8 1, .int .u8 0, .int .u8 0, .int .u8 47, .int .u8 11, .int .u8 0, .int .u8 0] 5)) = .ok (.string ⟨#[35, 1, 0, 0, 47, 11, 0, 0]⟩) (w.alloc (.cells #[.int .u8 35, .int .u8 1, .int .u8 0, .int .u8 0, .int .u8 47, .int .u8 11, .int .u8 0, .int .u8 0] 5)) := convT w (mkT 11)
    go_enter Tryz.func47, Tryz.ntmps47
    go_wp2_with fail
    go_ret
    exact ⟨rfl, (Below.refl _ _).alloc (Nat.le_refl _) _⟩
  | n + 12, h => exact absurd h (by omega)
set_option maxHeartbeats 4000000 in
theorem lentT_any (a : Option Addr) (la ca : Nat) (ps : List (List UInt8)) (w : World) (h : Le elS w a la ps) (hn : a = none → la = 0 ∧ ca = 0) (hl : la ≤ 9000000000000) :
    Calls Tryz.prog 24 #[.slice a la ca] w fun e w' => e = .returned (.slice (some ⟨w.heap.size, 0, none⟩) la (la + 12)) ∧ Va w' w.heap.size 9 (rowE elS (ps ++ mkE mkT 12)).toArray ∧ Below w.heap.size w w' := by
  have hz := h.1
  obtain ⟨i0, hi, hz0, hz1, hz2⟩ := info_parts elS.inf
  have HB8 : Hid (i0.bytes * (la + 12) ≤ 281474976710656) := by show _ ≤ _; rw [hz2]; show 16 * _ ≤ _; omega
  have HNN : Hid (a = none → la = 0 ∧ ca = 0) := hn
  have HSL : Hid (Le elS w a la ps) := h
  have HLZ : Hid ((rowE elS ps).length = la * 1) := by show _ = _; rw [rowE_length, hz]; rfl
  clear hn h
  go_enter Tryz.func24, Tryz.ntmps24
  go_wp2_with (at_make; refine wpList_make_own w rfl _ _ 23 rfl w.heap.size 9 i0 (.string ⟨#[]⟩) 1 Tryz.underlying23 hi hz0 hz1 .i64 .i64 _ (la + 12) rfl rfl ?c1 HB8.out ?c2 (Nat.le_refl _) ?_)
  case c1 => omega
  case c2 => unfold maxLen; omega
  intro w1 ho1 hg1
  have hb1 : Below w.heap.size w w1 := (Below.refl _ _).grown hg1 (Nat.le_refl _) (fun k hk => by cases hk)
  have HR1 : Hid (∀ ad, a = some ad → ∀ (j : Nat) (u : Value), (rowE elS ps)[j]? = some u → w1.cell? (ad.add j) = some u) := le_row (HSL.out.after hb1)
  have HO1 : Hid (w1.ownsRow w.heap.size 9 1 (.slice (some ⟨w.heap.size, 0, none⟩) 0 (la + 12)) 0 []) := ho1
  have HB1 : Hid (Below w.heap.size w w1) := hb1
  have HZ : Hid (∀ u ∈ rowE elS ps, u.oneCell' = true) := rowE_one _ ps
  clear ho1 hg1 hb1
  go_wp2_with (at_builtin; refine wpList_append_fits_any w1 rfl _ _ 23 rfl w.heap.size 9 i0 1 Tryz.underlying23 hi hz1 w.heap.size 0 (la + 12) [] rfl HO1.out a la ca (rowE elS ps) rfl HLZ.out HNN.out HR1.out HZ.out (by omega) ?_; intro w2 ho2 hg2; simp only [Nat.zero_add, List.nil_append] at ho2 ⊢)
  have hb2 : Below w.heap.size w w2 := HB1.out.grown hg2 HB1.out.size (fun k hk => by cases hk; exact Nat.le_refl _)
  have HO2 : Hid (w2.ownsRow w.heap.size 9 1 (.slice (some ⟨w.heap.size, 0, none⟩) la (la + 12)) la (rowE elS ps)) := ho2
  have HB2 : Hid (Below w.heap.size w w2) := hb2
  clear ho2 hg2 hb2 HR1 HO1 HB1
  go_loopw [3, 4] (fun v ii wr => ∃ k : Nat, k ≤ 12 ∧ ii = .int .i64 k ∧ v = .slice (some ⟨w.heap.size, 0, none⟩) (la + k) (la + 12) ∧ Hid (wr.ownsRow w.heap.size 9 1 (.slice (some ⟨w.heap.size, 0, none⟩) (la + k) (la + 12)) (la + k) (rowE elS (ps ++ mkE mkT k))) ∧ Hid (Below w.heap.size w wr)) (fun _ ii _ => 12 - (intOf ii).toNat)
  case atStart => exact ⟨0, by omega, rfl, rfl, by rw [mkE, List.append_nil]; exact HO2, HB2.out⟩
  case round =>
    clear HO2 HB2
    obtain ⟨k, hk, rfl, rfl, HO, HB⟩ := hrel
    by_cases hlt : k < 12
    · have hki : (k : Int) < 12 := by omega
      have mk := markT_any k (by omega) wr
      go_wp2_with fail
      refine mk.mono ?_
      rintro e w3 ⟨rfl, hb3⟩
      have HB3 : Hid (Below w.heap.size w w3) := step HB.out hb3
      have HLK : Hid ((ps ++ mkE mkT k).length = la + k) := by show _ = _; rw [List.length_append, mkE_length]; omega
      have HO3 : Hid ((w3.alloc (.cells #[sv (mkT k)] 9)).ownsRow w.heap.size 9 1 (.slice (some ⟨w.heap.size, 0, none⟩) (la + k) (la + 12)) (la + k) (rowE elS (ps ++ mkE mkT k))) :=
        own_of_ge (E := elS) (((ge_of_own (E := elS) HO.out HLK.out).after hb3).al _) HLK.out
      have HC : Hid (∀ (j : Nat) (u : Value), (rowE elS [mkT k])[j]? = some u → (w3.alloc (.cells #[sv (mkT k)] 9)).cell? ((⟨w3.heap.size, 0, none⟩ : Addr).add j) = some u) :=
        Le.news (Le.one (E := elS) (Va.new w3 9 #[sv (mkT k)]) rfl)
      have HZ1 : Hid (∀ u ∈ rowE elS [mkT k], u.oneCell' = true) := rowE_one _ _
      have hs3 := HB3.out.size
      clear hb3 HO HB mk
      go_wp2_with (at_builtin; refine wpList_append_fits _ rfl _ _ 23 rfl w.heap.size 9 i0 1 Tryz.underlying23 hi hz1 w.heap.size (la + k) (la + 12) (rowE elS (ps ++ mkE mkT k)) rfl HO3.out ⟨w3.heap.size, 0, none⟩ 1 1 (rowE elS [mkT k]) rfl rfl HC.out HZ1.out (by omega) ?_; intro w4 ho4 hg4)
      have hb4 : Below w.heap.size w w4 := (HB3.out.alloc hs3 _).grown hg4 (by simp; omega) (fun k hk => by cases hk; exact Nat.le_refl _)
      have HO5 : Hid (w4.ownsRow w.heap.size 9 1 (.slice (some ⟨w.heap.size, 0, none⟩) (la + (k + 1)) (la + 12)) (la + (k + 1)) (rowE elS (ps ++ mkE mkT (k + 1)))) := by
        have := ho4
        rw [← rowE_append, List.append_assoc] at this
        exact this
      clear ho4 hg4 HO3 HC HZ1 HB3
      go_wp2_with fail
      go_roundw
      case rel => exact ⟨k + 1, by omega, by go_num, rfl, HO5, hb4⟩
      case measure => simp [intOf]; omega
    · obtain rfl : k = 12 := by omega
      have HV : Hid (Va wr w.heap.size 9 (rowE elS (ps ++ mkE mkT 12)).toArray) := full_rowE (E := elS) HO.out
      clear HO
      go_wp2_with fail
      go_ret
      exact ⟨rfl, HV.out, HB.out⟩
set_option maxRecDepth 20000 in
set_option maxHeartbeats 8000000 in
theorem keptT_any (a : Option Addr) (la ca g : Nat) (ps : List (List UInt8)) (w : World) (h : Le elS w a la ps) (ho : Va w g 9 (rowE elS (ps ++ mkE mkT 12)).toArray) (hl : la ≤ 9000000000000) :
    Calls Tryz.prog 31 #[.slice (some ⟨g, 0, none⟩) la (la + 12), .slice a la ca] w fun e w' => e = .returned (.bool true) ∧ Below w.heap.size w w' := by
  have hz := h.1; (have g1 : ((la : Int) != la) = false := by simp); (have HLEN : Hid ((ps ++ mkE mkT 12).length = la + 12) := by show _ = _; rw [List.length_append, mkE_length]; omega)
  have HO : Hid (Le elS w (some ⟨g, 0, none⟩) (la + 12) (ps ++ mkE mkT 12)) := by
    have := le_allE (E := elS) ho
    rwa [HLEN.out] at this
  have HSL : Hid (Le elS w a la ps) := h; clear ho h
  go_enter Tryz.func31, Tryz.ntmps31
  (go_wp2_with fail)
  go_loopw [6] (fun ii wr => ∃ k : Nat, k ≤ la + 12 ∧ ii = .int .i64 k ∧ Hid (Below w.heap.size w wr)) (fun ii _ => la + 12 - (intOf ii).toNat)
  case atStart => exact ⟨0, by omega, rfl, Below.refl _ _⟩
  case round =>
    obtain ⟨k, hk, rfl, HB⟩ := hrel
    by_cases hlt : k < la + 12
    · have hsz := HB.out.size
      (obtain ⟨y, hy⟩ : ∃ y, (ps ++ mkE mkT 12).getD k [] = y := ⟨_, rfl⟩); (have d0 : wr.cell? ⟨g, k, none⟩ = some (sv y) := by have := (HO.out.after HB.out).at k hlt 0 (sv y) (by rw [show elS.dft = [] from rfl, hy]; rfl); simpa [elS] using this)
      by_cases hkl : k < la
      · obtain ⟨b, o, rfl⟩ := HSL.out.ex (by omega)
        (have ez : ps.getD k [] = y := by rw [← hy, List.getD_eq_getElem?_getD, List.getD_eq_getElem?_getD, List.getElem?_append_left (by omega)]); (have e0 : wr.cell? ⟨b, o + k, none⟩ = some (sv y) := by have := (HSL.out.after HB.out).at k hkl 0 (sv y) (by rw [show elS.dft = [] from rfl, ez]; rfl); simpa [elS, Nat.add_assoc] using this); (have q1 : decide (k < la) = true := by simp; omega); (have q2 : decide (la ≤ k) = false := by simp; omega); clear ez hy; (go_wp2_with fail)
        go_quiet (fail)
        (go_wp2_with fail)
        go_roundw
        case rel => exact ⟨k + 1, by omega, by go_num, below_drewN HB.out _⟩
        case measure => simp [intOf]; omega
      · have ez : y = mkT (k - la) := by
          rw [← hy, List.getD_eq_getElem?_getD, List.getElem?_append_right (by omega), ← List.getD_eq_getElem?_getD, hz, mkE_getD _ _ 12 (k - la) (by omega)]
        clear hy; subst ez; (have q1 : decide (k < la) = false := by simp; omega); (have q2 : decide (la ≤ k) = true := by simp; omega); (have q1i : ¬ (k : Int) < la := by omega); (have q2i : (la : Int) ≤ k := by omega); (have hm1 : k - la < 12 := by omega); (have ew : IntKind.i64.wrap ((k : Int) - la) = k - la := by rw [IntKind.wrap_i64]; omega); (have hki : (k : Int) < (la : Int) + 12 := by omega); (have hki0 : ¬ (k : Int) < 0 := by omega); (obtain ⟨m, hm⟩ : ∃ m : Nat, k - la = m := ⟨_, rfl⟩); (have hmi : (k : Int) - la = (m : Int) := by omega); have HM : Hid ((k : Int) - la = (m : Int)) := hmi; have HMN : Hid (k - la = m) := hm; rw [hm] at d0 hm1; rw [hmi] at ew; (have ewm : IntKind.i64.wrap (m : Int) = (m : Int) := by rw [IntKind.wrap_i64]; omega); (have HMK : Hid (∀ X : World, Calls Tryz.prog 47 #[.int .i64 1, .int .i64 (IntKind.i64.wrap ((k : Int) - (la : Int)))] X fun e w' => e = .returned (sv (mkT m)) ∧ Below X.heap.size X w') := fun X => by rw [hmi, ewm]; exact markT_any m hm1 X)
        clear hmi; have hS0 : wr.drew.cell? ⟨g, k, none⟩ = some (sv (mkT m)) ∧ Hid (Below wr.heap.size wr wr.drew) := ⟨d0, below_drw wr⟩; (go_wp2_with fail); refine wp_region_noPanic ?_; refine wp_region_held_drew (S := (fun X : World => X.cell? ⟨g, k, none⟩ = some (sv (mkT m)) ∧ Hid (Below wr.heap.size wr X))) (by kernel_rfl) hS0 (fun hHeld => ?_); refine tjz 0 hHeld ?_; refine tjz 1 hHeld ?_; refine tjz 2 hHeld ?_; refine tjz 3 hHeld ?_; refine tjz 4 hHeld ?_; refine wpAnyH_take (i := 5) (v := undef) rfl (by kernel_rfl) (by kernel_rfl) (by kernel_rfl) (fun _ _ _ h => h) (Or.inr ⟨by rfl, rfl⟩) hHeld ?_; simp only [gA, gB, gC, Act.put, gD, gE, gF]; refine wpAnyH_take (i := 6) (v := undef) rfl (by kernel_rfl) (by kernel_rfl) (by kernel_rfl) (fun _ _ _ h => h) (Or.inr ⟨by rfl, rfl⟩) hHeld ?_
        simp only [gA, gB, gC, Act.put, gD, gE, gF]; refine wpAnyH_take (i := 7) (v := undef) rfl (by kernel_rfl) (by kernel_rfl) (by kernel_rfl) (fun _ _ _ h => h) (Or.inr ⟨by rfl, rfl⟩) hHeld ?_; simp only [gA, gB, gC, Act.put, gD, gE, gF]; refine wpAnyH_take (i := 8) (v := undef) rfl (by kernel_rfl) (by kernel_rfl) (by kernel_rfl) (fun _ _ _ h => h) (Or.inr ⟨by rfl, rfl⟩) hHeld ?_; simp only [gA, gB, gC, Act.put, gD, gE, gF]; refine wpAnyH_take (i := 9) (v := undef) rfl (by kernel_rfl) (by kernel_rfl) (by kernel_rfl) (fun _ _ _ h => h) (Or.inr ⟨by rfl, rfl⟩) hHeld ?_; simp only [gA, gB, gC, Act.put, gD, gE, gF]; refine wpAnyH_take (i := 10) (v := undef) rfl (by kernel_rfl) (by kernel_rfl) (by kernel_rfl) (fun _ _ _ h => h) (Or.inr ⟨by rfl, rfl⟩) hHeld ?_; simp only [gA, gB, gC, Act.put, gD, gE, gF]; refine wpAnyH_take (i := 11) (v := undef) rfl (by kernel_rfl) (by kernel_rfl) (by kernel_rfl) (fun _ _ _ h => h) (Or.inr ⟨by rfl, rfl⟩) hHeld ?_
        simp only [gA, gB, gC, Act.put, gD, gE, gF]; refine wpAnyH_take (i := 12) (v := undef) rfl (by kernel_rfl) (by kernel_rfl) (by kernel_rfl) (fun _ _ _ h => h) (Or.inr ⟨by rfl, rfl⟩) hHeld ?_; simp only [gA, gB, gC, Act.put, gD, gE, gF]; refine wpAnyH_take (i := 13) (v := undef) rfl (by kernel_rfl) (by kernel_rfl) (by kernel_rfl) (fun _ _ _ h => h) (Or.inr ⟨by rfl, rfl⟩) hHeld ?_; simp only [gA, gB, gC, Act.put, gD, gE, gF]; refine wpAnyH_take (i := 14) (v := undef) rfl (by kernel_rfl) (by kernel_rfl) (by kernel_rfl) (fun _ _ _ h => h) (Or.inr ⟨by rfl, rfl⟩) hHeld ?_; simp only [gA, gB, gC, Act.put, gD, gE, gF]; refine tjz 15 hHeld ?_; refine tjz 16 hHeld ?_; refine tjz 17 hHeld ?_; refine tjz 18 hHeld ?_; refine tk 19 rfl hHeld ?_
        simp only [gA, gB, gC, Act.put, gD, gE, gF]; refine tjz 20 hHeld ?_; refine tjz 21 hHeld ?_; refine tjz 22 hHeld ?_; refine tjz 23 hHeld ?_; refine tjz 24 hHeld ?_; refine tjz 25 hHeld ?_; refine tjz 26 hHeld ?_; refine tjz 27 hHeld ?_; refine tjz 28 hHeld ?_; refine tjz 29 hHeld ?_; refine ryz 30 (fun K hK => ?_); simp only [gA, gB, gC]; (go_simp); refine (HMK.out _).mono ?_; rintro e y ⟨rfl, hby⟩
        have hSy : y.cell? ⟨g, k, none⟩ = some (sv (mkT m)) ∧ Hid (Below wr.heap.size wr y) := ⟨(hby.cell (p := ⟨g, k, none⟩) (cell_lt hHeld.1)).trans hHeld.1, step hHeld.2.out hby⟩; (try go_wp2_with fail); refine hK.out _ _ hSy (fun hHeld => ?_); clear hK K; refine tjz 31 hHeld ?_; refine tjz 32 hHeld ?_; refine tjz 33 hHeld ?_; refine tjz 34 hHeld ?_; refine dnz ?_; have HBy : Hid (Below w.heap.size w y) := step HB.out hSy.2.out; clear hSy hS0; (go_wp2_with fail)
        go_roundw
        case rel => exact ⟨k + 1, by omega, by go_num, HBy.out⟩
        case measure => simp [intOf]; omega
    · go_wp2_with fail
      go_ret
      exact ⟨rfl, HB.out⟩
end Go.Proofs.YtblafbbnplfpjaaGreatDoor
namespace Go.Proofs.YtblafbbnplfpjaaGreatDoor
open Go.RowKit Go.Shelf
set_option linter.unusedVariables false
set_option linter.unusedSimpArgs false

set_option maxHeartbeats 4000000 in
theorem sameTextsL (l : List (List UInt8)) (a1 : Option Addr) (c1 : Nat) (a2 : Option Addr) (c2 : Nat) (w : World) (h1 : Le elS w a1 l.length l) (h2 : Le elS w a2 l.length l) (hl : l.length ≤ 9000000000000) :
    Calls Tryz.prog 22 #[.slice a1 l.length c1, .slice a2 l.length c2] w fun e w' => e = .returned (.bool true) ∧ Below w.heap.size w w' := by
  have H1 : Hid (Le elS w a1 l.length l) := h1
  have H2 : Hid (Le elS w a2 l.length l) := h2
  clear h1 h2
  go_enter Tryz.func22, Tryz.ntmps22
  go_wp2_with fail
  go_loopw [5] (fun j wr => ∃ i : Nat, j = .int .i64 i ∧ i ≤ l.length ∧ Hid (Below w.heap.size w wr)) (fun j _ => (l.length - (intOf j).toNat : Nat))
  case atStart => exact ⟨0, rfl, Nat.zero_le _, Below.refl _ _⟩
  case round =>
    obtain ⟨i, rfl, hi, HB⟩ := hrel
    rcases Nat.lt_or_ge i l.length with hlt | hge
    · have hii : (i : Int) < l.length := by omega
      obtain ⟨b1, o1, rfl⟩ := H1.out.ex (by omega)
      obtain ⟨b2, o2, rfl⟩ := H2.out.ex (by omega)
      have k1 : wr.cell? ⟨b1, o1 + i, none⟩ = some (sv (l.getD i [])) := by have := (H1.out.after HB.out).at i hlt 0 (sv (l.getD i [])) rfl; simpa [elS] using this
      have k2 : wr.cell? ⟨b2, o2 + i, none⟩ = some (sv (l.getD i [])) := by have := (H2.out.after HB.out).at i hlt 0 (sv (l.getD i [])) rfl; simpa [elS] using this
      generalize l.getD i [] = x at *
      go_wp2_with fail
      go_quiet (fail)
      refine nameR wr _ (Q := fun W => Exit.then _ _ _ _ W) (fun wq hcell hBw hsq => ?_)
      have HBq : Hid (Below w.heap.size w wq) := step HB.out hBw
      clear hcell hBw hsq HB k1 k2
      go_wp2_with fail
      go_roundw
      case rel => exact ⟨i + 1, rfl, by omega, HBq.out⟩
      case measure => simp [intOf]; omega
    · obtain rfl : i = l.length := by omega
      clear hge hi
      go_wp2_with fail
      go_ret
      exact ⟨rfl, HB.out⟩
theorem Va.setF {w : World} {b : Nat} {t : TypeId} {x0 x1 x2 x3 x4 : Value} (h : Va w b t #[x0, x1, x2, x3, x4]) (y0 y1 y2 y3 y4 : Value) :
    Va (((((w.setCell ⟨b, 0, none⟩ y0).setCell ⟨b, 1, none⟩ y1).setCell ⟨b, 2, none⟩ y2).setCell ⟨b, 3, none⟩ y3).setCell ⟨b, 4, none⟩ y4) b t #[y0, y1, y2, y3, y4] := by
  unfold Va at *
  simp [World.setCell, Array.getElem?_modify, h]
theorem faF (w : World) (b : Nat) (y0 y1 y2 y3 y4 : Value) : ∀ c, c ≠ b → (((((w.setCell ⟨b, 0, none⟩ y0).setCell ⟨b, 1, none⟩ y1).setCell ⟨b, 2, none⟩ y2).setCell ⟨b, 3, none⟩ y3).setCell ⟨b, 4, none⟩ y4).heap[c]? = w.heap[c]? := fun c hc => by
  rw [heap_setCell_other _ _ _ _ (by exact hc), heap_setCell_other _ _ _ _ (by exact hc), heap_setCell_other _ _ _ _ (by exact hc), heap_setCell_other _ _ _ _ (by exact hc), heap_setCell_other _ _ _ _ (by exact hc)]
theorem beloF {B : Nat} {a w : World} (h : Below B a w) {b : Nat} (hc : B ≤ b) (y0 y1 y2 y3 y4 : Value) : Below B a (((((w.setCell ⟨b, 0, none⟩ y0).setCell ⟨b, 1, none⟩ y1).setCell ⟨b, 2, none⟩ y2).setCell ⟨b, 3, none⟩ y3).setCell ⟨b, 4, none⟩ y4) :=
  ((((h.setCell (p := ⟨b, 0, none⟩) hc y0).setCell (p := ⟨b, 1, none⟩) hc y1).setCell (p := ⟨b, 2, none⟩) hc y2).setCell (p := ⟨b, 3, none⟩) hc y3).setCell (p := ⟨b, 4, none⟩) hc y4
theorem stoF0 {W : World} {b : Nat} {t : TypeId} {x0 x1 x2 x3 x4 : Value} (h : Va W b t #[x0, x1, x2, x3, x4]) (y : Value) {Q : World → Prop}
    (k : ∀ V, Va V b t #[y, x1, x2, x3, x4] → W.grownBy V (some b) → V.heap.size = W.heap.size → Q V) : Q (W.setCell ⟨b, 0, none⟩ y) := by
  refine k _ ?_ (gr_set (gr_refl W b) 0 y) (by simp [World.setCell])
  unfold Va at *
  simp [World.setCell, Array.getElem?_modify, h]
theorem stoF1 {W : World} {b : Nat} {t : TypeId} {x0 x1 x2 x3 x4 : Value} (h : Va W b t #[x0, x1, x2, x3, x4]) (y : Value) {Q : World → Prop}
    (k : ∀ V, Va V b t #[x0, y, x2, x3, x4] → W.grownBy V (some b) → V.heap.size = W.heap.size → Q V) : Q (W.setCell ⟨b, 1, none⟩ y) := by
  refine k _ ?_ (gr_set (gr_refl W b) 1 y) (by simp [World.setCell])
  unfold Va at *
  simp [World.setCell, Array.getElem?_modify, h]
theorem results_fx {fn : Func} {j b : Nat} {x0 x1 x2 x3 x4 : Value} {tmps : Array Value} {w : World} (h : fn.results = #[.cell j 25]) (hj : tmps.getD j undef = .pointer (some ⟨b, 0, none⟩)) (hv : Va w b 25 #[x0, x1, x2, x3, x4]) :
    (results fn tmps).run Tryz.prog w = .ok (.agg #[x0, x1, x2, x3, x4]) w := by
  have c0 := hv.f0
  have c1 := hv.f1
  have c2 := hv.f2
  have c3 := hv.f3
  have c4 := hv.f4
  rw [Array.getD_eq_getD_getElem?] at hj
  simp [results, h, hj, c0, c1, c2, c3, c4, go_sem]
set_option maxHeartbeats 8000000 in
theorem lentF_any (a1 : Option Addr) (c1 : Nat) (a2 : Option Addr) (c2 : Nat) (f : Fx) (w : World) (hf : Lf w a1 c1 a2 c2 f) (hn1 : a1 = none → f.byr.length = 0 ∧ c1 = 0) (hn2 : a2 = none → f.lin.length = 0 ∧ c2 = 0) (hl1 : f.byr.length ≤ 9000000000000) (hl2 : f.lin.length ≤ 9000000000000) :
    Calls Tryz.prog 7 #[fxv a1 c1 a2 c2 f] w fun e w' => ∃ g1 g2, e = .returned (fxv (some ⟨g1, 0, none⟩) (f.byr.length + 12) (some ⟨g2, 0, none⟩) (f.lin.length + 12) f) ∧ Va w' g1 9 (rowE elS (f.byr ++ mkE mkT 12)).toArray ∧ Va w' g2 9 (rowE elS (f.lin ++ mkE mkT 12)).toArray ∧ Below w.heap.size w w' := by
  have H1 : Hid (Le elS w a1 f.byr.length f.byr) := hf.l1
  have H2 : Hid (Le elS w a2 f.lin.length f.lin) := hf.l2
  have N1 : Hid (a1 = none → f.byr.length = 0 ∧ c1 = 0) := hn1
  have N2 : Hid (a2 = none → f.lin.length = 0 ∧ c2 = 0) := hn2
  clear hf hn1 hn2
  obtain ⟨byr, lin, am, dg, qt⟩ := f
  dsimp only at *
  go_enter Tryz.func7, Tryz.ntmps7
  go_upto_region 1 with fail
  refine ent2 w _ _ _ _ (Q := fun W => Code.wp _ _ _ _ W) ?_
  intro W1 hb1 hs1 V0 V1
  have f0 := V0.f0
  have r0 := V0.frozen 0
  have HB1 : Hid (Below w.heap.size w W1) := hb1
  have HV0 : Hid (Va W1 w.heap.size 25 #[.slice a1 byr.length c1, .slice a2 lin.length c2, .int .i64 am, .int .i64 dg, .int .i64 qt]) := V0
  have HV1 : Hid (Va W1 (w.heap.size + 1) 25 #[.slice none 0 0, .slice none 0 0, .int .i64 0, .int .i64 0, .int .i64 0]) := V1
  clear hb1 V0 V1
  have D1 := lentT_any a1 byr.length c1 byr W1 (H1.out.after HB1.out) N1.out hl1
  go_wp2_with fail
  refine D1.mono ?_
  rintro e W2 ⟨rfl, G1, hb2⟩
  rw [hs1] at G1
  have V0 := HV0.out.after hb2
  have r0 := V0.frozen 0
  have q0 := V0.f0
  have HV1' : Hid (Va W2 (w.heap.size + 1) 25 #[.slice none 0 0, .slice none 0 0, .int .i64 0, .int .i64 0, .int .i64 0]) := HV1.out.after hb2
  have HB2 : Hid (Below w.heap.size w W2) := step HB1.out hb2
  have hs2 := hb2.size
  clear D1 f0 HV0 HV1 HB1 hb2
  go_upto_region 2 with fail
  refine stoF0 V0 _ (Q := fun W => Code.wp _ _ _ _ W) ?_
  intro W3 V3 hg3 hs3
  have HB3 : Hid (Below w.heap.size w W3) := HB2.out.trans (gr_to hg3 (Nat.le_refl _) (by omega))
  have HV1 : Hid (Va W3 (w.heap.size + 1) 25 #[.slice none 0 0, .slice none 0 0, .int .i64 0, .int .i64 0, .int .i64 0]) := HV1'.out.gr hg3 (by omega)
  have HG1 : Hid (Va W3 (w.heap.size + 2) 9 (rowE elS (byr ++ mkE mkT 12)).toArray) := G1.gr hg3 (by omega)
  have f1 := V3.f1
  have HV3 : Hid (Va W3 w.heap.size 25 #[.slice (some ⟨w.heap.size + 2, 0, none⟩) byr.length (byr.length + 12), .slice a2 lin.length c2, .int .i64 am, .int .i64 dg, .int .i64 qt]) := V3
  have D2 := lentT_any a2 lin.length c2 lin W3 (H2.out.after HB3.out) N2.out hl2
  clear r0 V0 V3 hg3 G1 HV1' HB2
  go_wp2_with fail
  refine D2.mono ?_
  rintro e W4 ⟨rfl, G2, hb4⟩
  have V4 := HV3.out.after hb4
  have r1 := V4.frozen 1
  have q1 := V4.f1
  have HV1' : Hid (Va W4 (w.heap.size + 1) 25 #[.slice none 0 0, .slice none 0 0, .int .i64 0, .int .i64 0, .int .i64 0]) := HV1.out.after hb4
  have HG1' : Hid (Va W4 (w.heap.size + 2) 9 (rowE elS (byr ++ mkE mkT 12)).toArray) := HG1.out.after hb4
  have HB4 : Hid (Below w.heap.size w W4) := step HB3.out hb4
  have hs4 := hb4.size
  have hg1 := HG1.out.lt
  clear D2 f1 HV3 HV1 HB3 HG1 hb4
  go_upto_region 3 with fail
  refine stoF1 V4 _ (Q := fun W => Code.wp _ _ _ _ W) ?_
  intro W5 V5 hg5 hs5
  have HB5 : Hid (Below w.heap.size w W5) := HB4.out.trans (gr_to hg5 (Nat.le_refl _) (by omega))
  have HV1 : Hid (Va W5 (w.heap.size + 1) 25 #[.slice none 0 0, .slice none 0 0, .int .i64 0, .int .i64 0, .int .i64 0]) := HV1'.out.gr hg5 (by omega)
  have HG1 : Hid (Va W5 (w.heap.size + 2) 9 (rowE elS (byr ++ mkE mkT 12)).toArray) := HG1'.out.gr hg5 (by omega)
  have HG2 : Hid (Va W5 W2.heap.size 9 (rowE elS (lin ++ mkE mkT 12)).toArray) := by rw [hs3] at G2; exact G2.gr hg5 (by omega)
  have f0 := V5.f0
  have f1 := V5.f1
  have f2 := V5.f2
  have f3 := V5.f3
  have f4 := V5.f4
  have r0 := HV1.out.frozen 0
  have r1 := HV1.out.frozen 1
  have r2 := HV1.out.frozen 2
  have r3 := HV1.out.frozen 3
  have r4 := HV1.out.frozen 4
  have z0 := HV1.out.f0
  have z1 := HV1.out.f1
  have z2 := HV1.out.f2
  have z3 := HV1.out.f3
  have z4 := HV1.out.f4
  clear V4 V5 hg5 G2 HV1' HG1' HB4
  go_wp2_with fail
  refine bodyPost_ret (results_fx rfl rfl (HV1.out.setF _ _ _ _ _)) rfl ?_
  exact ⟨w.heap.size + 2, W2.heap.size, rfl, HG1.out.keptW (faF _ _ _ _ _ _ _ _ (by omega)), HG2.out.keptW (faF _ _ _ _ _ _ _ _ (by omega)), beloF HB5.out (by omega) _ _ _ _ _⟩
set_option maxHeartbeats 8000000 in
theorem sameF_any (f : Fx) (a1 : Option Addr) (c1 : Nat) (a2 : Option Addr) (c2 : Nat) (b1 : Option Addr) (d1 : Nat) (b2 : Option Addr) (d2 : Nat) (w : World) (h1 : Le elS w a1 f.byr.length f.byr) (h2 : Le elS w a2 f.lin.length f.lin) (k1 : Le elS w b1 f.byr.length f.byr) (k2 : Le elS w b2 f.lin.length f.lin) (hl1 : f.byr.length ≤ 9000000000000) (hl2 : f.lin.length ≤ 9000000000000) :
    Calls Tryz.prog 30 #[fxv a1 c1 a2 c2 f, fxv b1 d1 b2 d2 f] w fun e w' => e = .returned (.bool true) ∧ Below w.heap.size w w' := by
  have H1 : Hid (Le elS w a1 f.byr.length f.byr) := h1
  have H2 : Hid (Le elS w a2 f.lin.length f.lin) := h2
  have K1 : Hid (Le elS w b1 f.byr.length f.byr) := k1
  have K2 : Hid (Le elS w b2 f.lin.length f.lin) := k2
  clear h1 h2 k1 k2
  obtain ⟨byr, lin, am, dg, qt⟩ := f
  dsimp only at *
  go_enter Tryz.func30, Tryz.ntmps30
  go_upto_region 1 with fail
  refine ent2 w _ _ _ _ (Q := fun W => Code.wp _ _ _ _ W) ?_
  intro W1 hb1 hs1 V0 V1
  have f0 := V0.f0
  have g0 := V1.f0
  have D1 := sameTextsL byr a1 c1 b1 d1 W1 (H1.out.after hb1) (K1.out.after hb1) hl1
  go_wp2_with fail
  refine D1.mono ?_
  rintro e W2 ⟨rfl, hb2⟩
  have V0 := V0.after hb2
  have V1 := V1.after hb2
  have hb := step hb1 hb2
  have f1 := V0.f1
  have g1 := V1.f1
  have D2 := sameTextsL lin a2 c2 b2 d2 W2 (H2.out.after hb) (K2.out.after hb) hl2
  clear D1 f0 g0
  go_wp2_with fail
  refine D2.mono ?_
  rintro e W3 ⟨rfl, hb3⟩
  have V0 := V0.after hb3
  have V1 := V1.after hb3
  have HB3 : Hid (Below w.heap.size w W3) := step hb hb3
  have f2 := V0.f2
  have f3 := V0.f3
  have f4 := V0.f4
  have g2 := V1.f2
  have g3 := V1.f3
  have g4 := V1.f4
  clear D2 f1 g1
  go_wp2_with fail
  go_ret
  exact ⟨rfl, HB3.out⟩
set_option maxHeartbeats 8000000 in
theorem keptF_any (f : Fx) (g1 g2 : Nat) (a1 : Option Addr) (c1 : Nat) (a2 : Option Addr) (c2 : Nat) (w : World) (hf : Lf w a1 c1 a2 c2 f) (o1 : Va w g1 9 (rowE elS (f.byr ++ mkE mkT 12)).toArray) (o2 : Va w g2 9 (rowE elS (f.lin ++ mkE mkT 12)).toArray) (hl1 : f.byr.length ≤ 9000000000000) (hl2 : f.lin.length ≤ 9000000000000) :
    Calls Tryz.prog 13 #[fxv (some ⟨g1, 0, none⟩) (f.byr.length + 12) (some ⟨g2, 0, none⟩) (f.lin.length + 12) f, fxv a1 c1 a2 c2 f] w fun e w' => e = .returned (.bool true) ∧ Below w.heap.size w w' := by
  have H1 : Hid (Le elS w a1 f.byr.length f.byr) := hf.l1
  have H2 : Hid (Le elS w a2 f.lin.length f.lin) := hf.l2
  have O1 : Hid (Va w g1 9 (rowE elS (f.byr ++ mkE mkT 12)).toArray) := o1
  have O2 : Hid (Va w g2 9 (rowE elS (f.lin ++ mkE mkT 12)).toArray) := o2
  have HS : Hid (∀ W, Below w.heap.size w W → Calls Tryz.prog 30 #[fxv (some ⟨g1, 0, none⟩) (f.byr.length + 12) (some ⟨g2, 0, none⟩) (f.lin.length + 12) f, fxv a1 c1 a2 c2 f] W fun e w' => e = .returned (.bool true) ∧ Below W.heap.size W w') := fun W hb =>
    sameF_any f _ _ _ _ _ _ _ _ W (le_preE (E := elS) (o1.after hb)) (le_preE (E := elS) (o2.after hb)) (hf.l1.after hb) (hf.l2.after hb) hl1 hl2
  clear hf o1 o2
  obtain ⟨byr, lin, am, dg, qt⟩ := f
  dsimp only at *
  go_enter Tryz.func13, Tryz.ntmps13
  go_upto_region 1 with fail
  refine ent2 w _ _ _ _ (Q := fun W => Code.wp _ _ _ _ W) ?_
  intro W1 hb1 hs1 V0 V1
  have f0 := V0.f0
  have f1 := V0.f1
  have f2 := V0.f2
  have f3 := V0.f3
  have f4 := V0.f4
  have e0 := V1.f0
  have e1 := V1.f1
  have e2 := V1.f2
  have e3 := V1.f3
  have e4 := V1.f4
  have D0 := HS.out W1 hb1
  go_wp2_with fail
  refine D0.mono ?_
  rintro e W2 ⟨rfl, hb2⟩
  have V0 := V0.after hb2
  have V1 := V1.after hb2
  have hb := step hb1 hb2
  clear f0 f1 f2 f3 f4 e0 e1 e2 e3 e4 D0
  have f0 := V0.f0
  have e0 := V1.f0
  have D1 := keptT_any a1 byr.length c1 g1 byr W2 (H1.out.after hb) (O1.out.after hb) hl1
  go_wp2_with fail
  refine D1.mono ?_
  rintro e W3 ⟨rfl, hb3⟩
  have V0 := V0.after hb3
  have V1 := V1.after hb3
  have hb := step hb hb3
  clear f0 e0 D1
  have f1 := V0.f1
  have e1 := V1.f1
  have D2 := keptT_any a2 lin.length c2 g2 lin W3 (H2.out.after hb) (O2.out.after hb) hl2
  go_wp2_with fail
  refine D2.mono ?_
  rintro e W4 ⟨rfl, hb4⟩
  have HB4 : Hid (Below w.heap.size w W4) := step hb hb4
  clear f1 e1 D2
  go_wp2_with fail
  go_ret
  exact ⟨rfl, HB4.out⟩
end Go.Proofs.YtblafbbnplfpjaaGreatDoor
namespace Go.Proofs.YtblafbbnplfpjaaGreatDoor
open Go.RowKit Go.Shelf
set_option linter.unusedVariables false

def FmR (B : Nat) (W : World) (x : Fm) (y n : List Nd) : Prop := Ge elN W B (.slice x.ya x.yl x.yc) y ∧ Ge elN W B (.slice x.na x.nl x.nc) n
theorem Ge.blk {w : World} {B g n cap : Nat} {xs : List Nd} (h : Ge elN w B (.slice (some ⟨g, 0, none⟩) n cap) xs) : B ≤ g ∧ ∃ cur, w.heap[g]? = some (.cells cur 48 (0, 0)) := by
  obtain ⟨h1, h2 | ⟨g', cap', cur, e, hB, hh, r⟩⟩ := h
  · cases h2.1
  · cases e; exact ⟨hB, cur, hh⟩
def KpN (B : Nat) (W W' : World) : Prop := ∀ g cur, B ≤ g → W.heap[g]? = some (.cells cur 48 (0, 0)) → W'.heap[g]? = W.heap[g]?
theorem Ge.kp {W W' : World} {B : Nat} {v : Value} {xs : List Nd} (h : Ge elN W B v xs) (hk : KpN B W W') : Ge elN W' B v xs := by
  obtain ⟨h1, h2 | ⟨g, cap, cur, e, hB, hh, r⟩⟩ := h
  · exact ⟨h1, .inl h2⟩
  · exact ⟨h1, .inr ⟨g, cap, cur, e, hB, by rw [hk g cur hB hh]; exact hh, r⟩⟩
theorem FmR.kp {W W' : World} {B : Nat} {x : Fm} {y n : List Nd} (h : FmR B W x y n) (hk : KpN B W W') : FmR B W' x y n := ⟨h.1.kp hk, h.2.kp hk⟩
def FmL (B : Nat) (W : World) (xs : List Fm) (ys ns : List (List Nd)) : Prop := ys.length = xs.length ∧ ns.length = xs.length ∧ ∀ i, i < xs.length → FmR B W (xs.getD i fm0) (ys.getD i []) (ns.getD i [])
theorem FmL.kp {W W' : World} {B : Nat} {xs : List Fm} {ys ns : List (List Nd)} (h : FmL B W xs ys ns) (hk : KpN B W W') : FmL B W' xs ys ns := ⟨h.1, h.2.1, fun i hi => (h.2.2 i hi).kp hk⟩
end Go.Proofs.YtblafbbnplfpjaaGreatDoor
namespace Go.Proofs.YtblafbbnplfpjaaGreatDoor
open Go.RowKit Go.Shelf
set_option linter.unusedVariables false

end Go.Proofs.YtblafbbnplfpjaaGreatDoor
namespace Go.Proofs.YtblafbbnplfpjaaGreatDoor
open Go.RowKit Go.Shelf
set_option linter.unusedVariables false

end Go.Proofs.YtblafbbnplfpjaaGreatDoor
