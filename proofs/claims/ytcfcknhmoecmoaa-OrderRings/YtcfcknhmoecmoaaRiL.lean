/-
  The walk of OrderRings.
-/
import Derived.Test.YtcfcknhmoecmoaaRrS
import Derived.Test.YtcfcknhmoecmoaaKeA
import Derived.Test.YtcfcknhmoecmoaaOvA
import Derived.Test.YtcfcknhmoecmoaaOdW
namespace Go.Proofs.Ytcfcknhmoecmoaa
open Go.RowKit Go.Shelf
set_option linter.unusedVariables false
set_option linter.unusedSimpArgs false

set_option maxHeartbeats 4000000 in
theorem rring_bad (n : Int) (a : Option Addr) (len cap : Nat) (xs : List Pr) (w : World) (h : La w a len xs) (hc : ckE n xs ≠ 0) :
    Calls Try.prog 17 #[.int .i64 n, .slice a len cap] w fun e w' => e = .returned (.tuple #[.slice none 0 0, .int .i64 (ckE n xs)]) ∧ Below w.heap.size w w' := by
  have hC := rcheck_any n a len cap xs w h
  clear h
  generalize ckE n xs = k at *
  have hk : (k != 0) = true := by simp; exact hc
  go_enter Try.func17, Try.ntmps17
  go_wp2_with (go_at_call 32; refine hC.mono ?_; rintro e w1 ⟨rfl, hw1⟩; rw [hw1]; clear hw1 w1 hC)
  go_ret2
  exact ⟨rfl, Below.refl _ _⟩
theorem rring_all (n : Int) (a : Option Addr) (len cap : Nat) (xs : List Pr) (w : World) (h : La w a len xs) :
    Calls Try.prog 17 #[.int .i64 n, .slice a len cap] w fun e w' => (∃ v k, e = .returned (.tuple #[v, .int .i64 k]) ∧ RiR w' w.heap.size n xs v k) ∧ Below w.heap.size w w' := by
  by_cases hc : ckE n xs = 0
  · obtain ⟨h0, -, -, -⟩ := ckE_ok hc
    obtain ⟨m, rfl⟩ : ∃ m : Nat, n = m := ⟨n.toNat, by omega⟩
    exact rring_ok m a len cap xs w h hc
  · refine (rring_bad n a len cap xs w h hc).mono ?_
    rintro e w' ⟨rfl, hb⟩
    exact ⟨⟨_, _, rfl, .bad hc⟩, hb⟩
/-- Two that answer so answer the same. -/
theorem RiR.same {w w' : World} {B B' : Nat} {n : Int} {xs : List Pr} {v v' : Value} {k k' : Int} (h : RiR w B n xs v k) (h' : RiR w' B' n xs v' k') :
    k' = k ∧ ∃ (l : List Int) (a a' : Option Addr) (c c' : Nat), v = .slice a l.length c ∧ v' = .slice a' l.length c' ∧ Ge elI w B (.slice a l.length c) l ∧ Ge elI w' B' (.slice a' l.length c') l ∧ l.length ≤ 4096 := by
  cases h with
  | bad h =>
    cases h' with
    | bad h' => exact ⟨rfl, [], Option.none, Option.none, 0, 0, rfl, rfl, Ge.nil _ _, Ge.nil _ _, by simp⟩
    | none h' hr => exact absurd h' h
    | ring h' m L out hm hl hr hf a c hg => exact absurd h' h
  | none h hr =>
    cases h' with
    | bad h' => exact absurd h h'
    | none h' hr' => exact ⟨rfl, [], Option.none, Option.none, 0, 0, rfl, rfl, Ge.nil _ _, Ge.nil _ _, by simp⟩
    | ring h' m L out hm hl hr' hf a c hg => exact absurd hm (hr m)
  | ring h m L out hm hl hr hf a c hg =>
    cases h' with
    | bad h' => exact absurd h h'
    | none h' hr' => exact absurd hm (hr' m)
    | ring h' m' L' out' hm' hl' hr' hf' a' c' hg' =>
      obtain rfl : m = m' := Nat.le_antisymm (hl m' hm') (hl' m hm)
      obtain rfl := hr.unique hr' hf hf'
      obtain ⟨h0, h1, -, h3⟩ := ckE_ok h
      obtain ⟨q, rfl⟩ : ∃ q : Nat, n = q := ⟨n.toNat, by omega⟩
      have hlen : out.length ≤ q := by
        refine few_nat ?_ (fun y hy => ?_)
        · rw [List.Nodup, List.pairwise_iff_getElem]
          intro i j hi hj hij e
          have := hr.apart (List.getElem?_eq_getElem hi) (by rw [List.getElem?_eq_getElem hj, e])
          omega
        · obtain ⟨i, hi⟩ := List.mem_iff_getElem?.1 hy
          obtain ⟨d1, d2, -⟩ := hr.dist i y hi
          obtain ⟨j, hj⟩ : ∃ j, L - i = j + 1 := ⟨L - i - 1, by omega⟩
          rw [hj] at d2
          obtain ⟨z, h4, -⟩ := d2
          exact (nlf_ok h3 y z h4).1
      refine ⟨rfl, ints out, a, a', c, c', by rw [ints_length], by rw [ints_length], by rw [ints_length]; exact hg, by rw [ints_length]; exact hg', by rw [ints_length]; omega⟩
set_option maxRecDepth 20000 in
set_option maxHeartbeats 16000000 in
theorem ringsAll (n : Int) (a : Option Addr) (len cap : Nat) (xs : List Pr) (w : World) (hw : (Lit.int .i64 n).wf = true) (h : La w a len xs) (hc : len ≤ cap) (hb : cap ≤ 8796093021952) (hn : a = none → len = 0 ∧ cap = 0) (h64 : ∀ q ∈ xs, b64 q.1 ∧ b64 q.2) :
    Calls Try.prog 4 #[.int .i64 n, .slice a len cap] w fun e w' => e = .returned (.bool true) ∧ Below w.heap.size w w' := by
  have HL : Hid (La w a len xs) := h
  have HLn : Hid (xs.length = len) := h.1
  have hl9 : len ≤ 9000000000000 := by omega
  have HNo : Hid (a = none → len = 0 ∧ cap = 0) := hn
  have hAw := awake17 w
  clear h hn hw h64 hb
  go_enter Try.func4, Try.ntmps4
  go_wp2_with fail
  refine hAw.mono ?_
  rintro e w1 ⟨rfl, hb1⟩
  have HB1 : Hid (Below w.heap.size w w1) := hb1
  clear hb1 hAw
  go_wp2_with fail
  refine (lentS_any a len cap xs w1 (La.ls (HL.out.after HB1.out)) HNo.out hl9).mono ?_
  rintro e w2 ⟨rfl, hv2, hb2⟩
  have HV2 : Hid (Va w2 w1.heap.size 40 (rowS (xs ++ mkS 12)).toArray) := hv2
  have HB2 : Hid (Below w.heap.size w w2) := step HB1.out hb2
  have HS1 : Hid (w.heap.size ≤ w1.heap.size ∧ w1.heap.size < w2.heap.size) := ⟨HB1.out.size, hv2.lt⟩
  clear hv2 hb2 HB1
  go_wp2_with fail
  refine (oring_all n (some ⟨w1.heap.size, 0, none⟩) len (len + 12) xs w2 (by have h9 := la_pre HV2.out; rwa [HLn.out] at h9)).mono ?_
  rintro e w3 ⟨⟨v, k, rfl, hS⟩, hb3⟩
  have HS : Hid (RiR w3 w2.heap.size n xs v k) := hS
  have HB3 : Hid (Below w.heap.size w w3) := step HB2.out hb3
  have HV3 : Hid (Va w3 w1.heap.size 40 (rowS (xs ++ mkS 12)).toArray) := HV2.out.after hb3
  have HS3 : Hid (w2.heap.size ≤ w3.heap.size) := hb3.size
  clear hS hb3 HV2 HB2
  go_wp2_with fail
  refine (rring_all n a len cap xs w3 (HL.out.after HB3.out)).mono ?_
  rintro e w4 ⟨⟨v', k', rfl, hS'⟩, hb4⟩
  obtain ⟨rfl, l, al, al', cl, cl', rfl, rfl, hg, hg', hl4⟩ := (HS.out.after hb4).same hS'
  have HG : Hid (Ge elI w4 w2.heap.size (.slice al l.length cl) l) := hg
  have HG' : Hid (Ge elI w4 w3.heap.size (.slice al' l.length cl') l) := hg'
  have HB4 : Hid (Below w.heap.size w w4) := step HB3.out hb4
  have HV4 : Hid (Va w4 w1.heap.size 40 (rowS (xs ++ mkS 12)).toArray) := HV3.out.after hb4
  have hkk : (k' == k') = true := by simp
  clear hS' hg hg' hb4 HS HV3 HB3
  go_wp2_with fail
  refine (keptS_any a len cap w1.heap.size xs w4 (La.ls (HL.out.after HB4.out)) HV4.out hl9).mono ?_
  rintro e w5 ⟨rfl, hb5⟩
  have HG5 : Hid (Ge elI w5 w2.heap.size (.slice al l.length cl) l) := HG.out.after hb5
  have HG5' : Hid (Ge elI w5 w3.heap.size (.slice al' l.length cl') l) := HG'.out.after hb5
  have HB5 : Hid (Below w.heap.size w w5) := step HB4.out hb5
  have HV5 : Hid (Va w5 w1.heap.size 40 (rowS (xs ++ mkS 12)).toArray) := HV4.out.after hb5
  clear hb5 HG HG' HV4 HB4
  go_wp2_with fail
  refine (overS_any len w1.heap.size (xs ++ mkS 12) w5 HV5.out (by rw [List.length_append, mkS_length, HLn.out]) hl9).mono ?_
  rintro e w6 ⟨rfl, hb6, hk6⟩
  have HG6 : Hid (Ge elI w6 w2.heap.size (.slice al l.length cl) l) := HG5.out.kept (fun b hb => hk6 b (HG5.out.lt b hb) (by have := HG5.out.block b hb; have := HS1.out; omega))
  have HG6' : Hid (Ge elI w6 w3.heap.size (.slice al' l.length cl') l) := HG5'.out.kept (fun b hb => hk6 b (HG5'.out.lt b hb) (by have := HG5'.out.block b hb; have := HS1.out; have := HS3.out; omega))
  have HB6 : Hid (Below w.heap.size w w6) := HB5.out.trans (hb6.mono HS1.out.1)
  clear hb6 hk6 HG5 HG5' HV5 HB5
  go_wp2_with (go_at_call 15; refine (osame l al cl al' cl' w6 HG6.out.toLe.li HG6'.out.toLe.li (by omega)).mono ?_; rintro e w7 ⟨rfl, hb7⟩; have HB7 : Hid (Below w.heap.size w w7) := step HB6.out hb7; clear hb7)
  go_ret
  exact ⟨rfl, HB7.out⟩
end Go.Proofs.Ytcfcknhmoecmoaa
