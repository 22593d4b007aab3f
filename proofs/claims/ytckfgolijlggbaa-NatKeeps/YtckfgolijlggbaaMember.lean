/-
  Members of Euclid's row: next, from; the highest bits of a number.
-/
import Derived.Test.YtckfgolijlggbaaApart
import Derived.Test.YtckfgolijlggbaaLehmer
import Derived.Test.YtckfgolijlggbaaVals2
namespace Go.Proofs.Ytckfgolijlggbaa
open Go.RowKit Go.Shelf

theorem results_m {fn : Func} {i b : Nat} {x y z : Value} {tmps : Array Value} {w : World} (h : fn.results = #[.cell i 67]) (hi : tmps.getD i undef = .pointer (some ⟨b, 0, none⟩)) (hv : Va w b 67 #[x, y, z]) :
    (results fn tmps).run Try.prog w = .ok (.agg #[x, y, z]) w := by
  have c0 := hv.cellAt 0
  have c1 := hv.cellAt 1
  have c2 := hv.cellAt 2
  simp at c0 c1 c2
  rw [Array.getD_eq_getD_getElem?] at hi
  simp [results, h, hi, c0, c1, c2, go_sem]

set_option maxHeartbeats 1000000 in
theorem next_any (u1 v1 u2 v2 q : Int) (o o2 : Bool) (w : World) (h1 : 0 ≤ u1) (h2 : 0 ≤ v1) (h3 : 0 ≤ u2) (h4 : 0 ≤ v2) (h5 : 0 ≤ q) (h6 : u1 + q * u2 < 18446744073709551616) (h7 : v1 + q * v2 < 18446744073709551616) :
    Calls Try.prog 61 #[.agg #[.int .u64 u1, .int .u64 v1, .bool o], .agg #[.int .u64 u2, .int .u64 v2, .bool o2], .int .u64 q] w fun e w' =>
      e = .returned (.agg #[.int .u64 (u1 + q * u2), .int .u64 (v1 + q * v2), .bool o]) ∧ Below w.heap.size w w' := by
  have p1 : 0 ≤ q * u2 := Int.mul_nonneg h5 h3
  have p2 : 0 ≤ q * v2 := Int.mul_nonneg h5 h4
  have e1 : IntKind.u64.wrap (q * u2) = q * u2 := by rw [IntKind.wrap_u64]; omega
  have e2 : IntKind.u64.wrap (q * v2) = q * v2 := by rw [IntKind.wrap_u64]; omega
  obtain ⟨a, ha⟩ : ∃ a, q * u2 = a := ⟨_, rfl⟩
  obtain ⟨b, hb⟩ : ∃ b, q * v2 = b := ⟨_, rfl⟩
  rw [ha] at e1 p1 h6 ⊢
  rw [hb] at e2 p2 h7 ⊢
  have e3 : IntKind.u64.wrap (u1 + a) = u1 + a := by rw [IntKind.wrap_u64]; omega
  have e4 : IntKind.u64.wrap (v1 + b) = v1 + b := by rw [IntKind.wrap_u64]; omega
  go_enter Try.func61, Try.ntmps61
  go_wp2_with fail
  refine ent3 w _ _ _ _ _ _ (Q := fun W => bodyPost Try.prog _ _ _ _ W) ?_
  intro w0 B0 hs V0 V1 V2
  exact bodyPost_ret (results_m rfl rfl V2) rfl ⟨rfl, B0⟩

set_option maxHeartbeats 1000000 in
theorem from_any (u v : Int) (o : Bool) (a b : Option Addr) (la ca lb cb : Nat) (xs ys : List Int) (w : World) (hu : Word u) (hv : Word v) (ha : Nt w a la ca xs) (hb : Nt w b lb cb ys) (N : Int) (hN : sg o * (u * num xs - v * num ys) = N) (h0 : 0 ≤ N) (hfit : ∀ cs, Limbs cs → num cs = N → usedN cs ≤ 4096) :
    Calls Try.prog 46 #[.agg #[.int .u64 u, .int .u64 v, .bool o], .agg #[.slice a la ca], .agg #[.slice b lb cb]] w fun e w' =>
      ∃ a' l' c' zs, e = .returned (.agg #[.slice a' l' c']) ∧ Nt w' a' l' c' zs ∧ num zs = N ∧ Below w.heap.size w w' := by
  have l1 := ha.2; have l2 := hb.2
  cases o with
  | false =>
    simp only [sg, Bool.false_eq_true, if_false, Int.one_mul] at hN
    go_enter Try.func46, Try.ntmps46
    go_wp2_with fail
    refine ent4 w _ _ _ _ _ _ _ _ (Q := fun W => Calls Try.prog _ _ W _) ?_
    intro w0 B0 hs V0 V1 V2 V3
    replace ha := Nt.after B0 ha
    replace hb := Nt.after B0 hb
    refine (apart_any a b la ca lb cb xs ys u v w0 ha.1 hb.1 (by omega) (by omega) hu hv N (by rw [Int.mul_comm (num xs), Int.mul_comm (num ys)]; exact hN) h0 hfit).mono ?_
    rintro e w1 ⟨a', l', c', zs, rfl, h1, n1, hb1⟩
    replace V3 := V3.kept hb1
    replace B0 := step B0 hb1
    have c3 := V3.cell
    have f3 := V3.frozen 0
    go_wp2_with fail
    refine bodyPost_ret (results_c rfl rfl (V3.set _)) rfl ?_
    exact ⟨_, _, _, zs, rfl, h1.store V3 _, n1, B0.setCell (p := ⟨w.heap.size + 1 + 1 + 1, 0, none⟩) (by show _ ≤ w.heap.size + 1 + 1 + 1; omega) _⟩
  | true =>
    simp only [sg, if_true] at hN
    go_enter Try.func46, Try.ntmps46
    go_wp2_with fail
    refine ent4 w _ _ _ _ _ _ _ _ (Q := fun W => Calls Try.prog _ _ W _) ?_
    intro w0 B0 hs V0 V1 V2 V3
    replace ha := Nt.after B0 ha
    replace hb := Nt.after B0 hb
    refine (apart_any b a lb cb la ca ys xs v u w0 hb.1 ha.1 (by omega) (by omega) hv hu N (by rw [Int.mul_comm (num xs), Int.mul_comm (num ys)]; omega) h0 hfit).mono ?_
    rintro e w1 ⟨a', l', c', zs, rfl, h1, n1, hb1⟩
    replace V3 := V3.kept hb1
    replace B0 := step B0 hb1
    have c3 := V3.cell
    have f3 := V3.frozen 0
    go_wp2_with fail
    refine bodyPost_ret (results_c rfl rfl (V3.set _)) rfl ?_
    exact ⟨_, _, _, zs, rfl, h1.store V3 _, n1, B0.setCell (p := ⟨w.heap.size + 1 + 1 + 1, 0, none⟩) (by show _ ≤ w.heap.size + 1 + 1 + 1; omega) _⟩

theorem highest_any (a : Option Addr) (la ca : Nat) (xs : List Int) (t : Nat) (w : World) (ha : Nt w a la ca xs) (ht : t ≤ 9223372036854775807) (hlt : num xs / 2 ^ t < 18446744073709551616) :
    Calls Try.prog 45 #[.agg #[.slice a la ca], .int .i64 t] w fun e w' => e = .returned (.int .u64 (num xs / 2 ^ t)) ∧ Below w.heap.size w w' := by
  go_enter Try.func45, Try.ntmps45
  go_wp2_with fail
  refine ent1 w _ _ (Q := fun W => Calls Try.prog _ _ W _) ?_
  intro w0 B0 hs V0
  replace ha := Nt.after B0 ha
  refine (nright_ok a la ca xs t w0 ha ht).mono ?_
  rintro e w1 ⟨a1, l1, c1, zs, rfl, h1, n1, hb1⟩
  replace B0 := step B0 hb1
  go_wp2_with fail
  refine ent1 w1 _ _ (Q := fun W => Calls Try.prog _ _ W _) ?_
  intro w2 B2 hs2 V2
  replace h1 := Nt.after B2 h1
  replace B0 := step B0 B2
  refine (uint64_small a1 l1 c1 zs w2 h1 (by rw [n1]; exact hlt)).mono ?_
  rintro e w3 ⟨rfl, hb3⟩
  rw [n1]
  go_wp2_with fail
  go_ret
  exact ⟨rfl, step B0 hb3⟩
end Go.Proofs.Ytckfgolijlggbaa
