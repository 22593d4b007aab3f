/-
  Pow of numbers.
-/
import Derived.Test.YtebbblhafjaaiaaGreatDoorBsN
import Derived.Test.YtebbblhafjaaiaaGreatDoorMgAh
import Derived.Laws.OwnMore
import Derived.Lib.AppendIntMem
import Derived.Test.YtebbblhafjaaiaaGreatDoorMgAp
import Derived.Test.YtebbblhafjaaiaaGreatDoorBsO
namespace Go.Proofs.YtebbblhafjaaiaaGreatDoor
open Go.RowKit Go.Shelf

/-- Not long, and long. -/
structure Fit (x : Int) : Prop where
  lt : x < pw 4096
structure Big (x : Int) : Prop where
  ge : pw 4096 ≤ x
theorem fit_or_big (x : Int) : Fit x ∨ Big x := by
  rcases Int.lt_or_le x (pw 4096) with h | h
  · exact .inl ⟨h⟩
  · exact .inr ⟨h⟩
theorem bits_nat {zs : List Int} (h : Limbs zs) {n : Nat} (e : num zs = n) (hn : n ≤ 9223372036854775807) : ∃ s : Nat, bitsN zs = s ∧ n < 2 ^ s ∧ s ≤ 63 := by
  rcases Nat.eq_zero_or_pos (usedN zs) with h0 | h0
  · refine ⟨0, bits_nought h0, ?_, by omega⟩
    have := (num_eq_zero h).2 h0
    simp; omega
  · obtain ⟨k, e1, k1, k2⟩ := bits_spec h h0
    rw [e] at k1 k2
    have k3 : n < 2 ^ (k + 1) := by
      have : (n : Int) < ((2 ^ (k + 1) : Nat) : Int) := by simpa using k2
      omega
    refine ⟨k + 1, by omega, k3, ?_⟩
    rcases Nat.lt_or_ge k 63 with h' | h'
    · omega
    · have h5 : (2 : Int) ^ 63 ≤ 2 ^ k := p2_mono h'
      have h6 : (2 : Int) ^ 63 = 9223372036854775808 := by decide
      omega
theorem and_one (g : Nat) (hg : g < 9223372036854775808) : bits .and .i64 (g : Int) 1 = ((g % 2 : Nat) : Int) := by
  have h1 : (BitVec.ofInt 64 (g : Int)).toNat = g := by
    rw [BitVec.ofInt_natCast, BitVec.toNat_ofNat]; exact Nat.mod_eq_of_lt (by omega)
  have h2 : (BitVec.ofInt 64 (1 : Int)).toNat = 1 := by decide
  show IntKind.i64.wrap ((BitVec.ofInt 64 (g : Int) &&& BitVec.ofInt 64 1).toNat : Int) = _
  rw [BitVec.toNat_and, h1, h2, Nat.and_one_is_mod, IntKind.wrap_i64]
  omega
theorem shr_nat (n d : Nat) : (n : Int) / 2 ^ d = ((n / 2 ^ d : Nat) : Int) := by
  rw [Int.natCast_ediv]; simp
theorem pow_ge_one {x : Int} (hx : 1 ≤ x) : ∀ k : Nat, 1 ≤ x ^ k
  | 0 => by rw [Int.pow_zero]; omega
  | k + 1 => by
    have h := pow_ge_one hx k
    rw [Int.pow_succ]
    have : 1 * 1 ≤ x ^ k * x := Int.mul_le_mul h hx (by decide) (by omega)
    omega
theorem big_up {x : Int} {j n : Nat} (h : Big (x ^ j)) (hx : 0 ≤ x) (hjn : j ≤ n) : Big (x ^ n) := by
  obtain ⟨h⟩ := h
  have h1 := pw_mono (show 1 ≤ 4096 by decide)
  have h2 : pw 1 = 18446744073709551616 := by decide
  rcases Int.lt_or_le x 1 with h3 | h3
  · obtain rfl : x = 0 := by omega
    exfalso
    rcases Nat.eq_zero_or_pos j with h4 | h4
    · subst h4; rw [Int.pow_zero] at h; omega
    · rw [Int.zero_pow (by omega)] at h; omega
  · obtain ⟨d, rfl⟩ := Nat.exists_eq_add_of_le hjn
    refine ⟨?_⟩
    rw [Int.pow_add]
    have h4 := pow_ge_one h3 d
    have h5 := pow_ge_one h3 j
    have : x ^ j * 1 ≤ x ^ j * x ^ d := Int.mul_le_mul_of_nonneg_left h4 (by omega)
    omega
set_option maxHeartbeats 4000000 in
theorem pow_any (a : Option Addr) (la ca : Nat) (xs : List Int) (n : Nat) (w : World) (ha : Nt w a la ca xs) (hn : n ≤ 9223372036854775807) :
    Calls Tryz.prog 83 #[.agg #[.slice a la ca], .int .i64 n] w fun e w' =>
      (∃ a' l' c' zs, e = .returned (.tuple #[.agg #[.slice a' l' c'], .int .i64 0]) ∧ Nt w' a' l' c' zs ∧ num zs = num xs ^ n ∧ Below w.heap.size w w') ∨ (e = .returned (.tuple #[.agg #[.slice none 0 0], .int .i64 3]) ∧ Big (num xs ^ n) ∧ Below w.heap.size w w') := by
  have ew : IntKind.u64.wrap (n : Int) = n := by rw [IntKind.wrap_u64]; omega
  go_enter Tryz.func83, Tryz.ntmps83
  go_wp2_with fail
  refine ent2 w _ _ _ _ (Q := fun W => Calls Tryz.prog _ _ W _) ?_
  intro w0 B0 hs V0 V1
  replace ha := Nt.after B0 ha
  refine (small_any 1 ⟨by decide, by decide⟩ w0).mono ?_
  rintro e w1 ⟨a1, l1, k1, z1, rfl, h1, n1, hb1⟩
  replace V0 := V0.kept hb1
  replace V1 := V1.kept hb1
  replace B0 := step B0 hb1
  replace ha := Nt.after hb1 ha
  go_wp2_with fail
  refine ent1 w1 _ _ (Q := fun W => Calls Tryz.prog _ _ W _) ?_
  intro w2 B2 hs2 Vp
  replace V0 := V0.kept B2
  replace V1 := V1.kept B2
  replace B0 := step B0 B2
  replace ha := Nt.after B2 ha
  replace h1 := Nt.after B2 h1
  refine (small_any n ⟨by omega, by omega⟩ w2).mono ?_
  rintro e w3 ⟨a3, l3, k3, z3, rfl, h3, n3, hb3⟩
  replace V0 := V0.kept hb3
  replace V1 := V1.kept hb3
  replace Vp := Vp.kept hb3
  replace B0 := step B0 hb3
  replace ha := Nt.after hb3 ha
  replace h1 := Nt.after hb3 h1
  go_wp2_with fail
  refine (nbits_any a3 l3 k3 z3 w3 h3).mono ?_
  rintro e w4 ⟨rfl, hb4⟩
  replace V0 := V0.kept hb4
  replace V1 := V1.kept hb4
  replace Vp := Vp.kept hb4
  replace B0 := step B0 hb4
  replace ha := Nt.after hb4 ha
  replace h1 := Nt.after hb4 h1
  obtain ⟨sz, hsz, hlt, hs63⟩ := bits_nat h3.limbs n3 hn
  rw [hsz]
  have hbw : w1.heap.size < w4.heap.size := Vp.lt
  have hbw1 : w.heap.size + 1 < w1.heap.size := by
    have := hb1.size
    omega
  clear hb1 B2 hs2 hb3 hb4 hs
  have HV0 : Hid (Va w4 w.heap.size 41 #[.slice a la ca]) := V0
  have HV1 : Hid (Va w4 (w.heap.size + 1) 41 #[.slice none 0 0]) := V1
  have HVp : Hid (Va w4 w1.heap.size 41 #[.slice a1 l1 k1]) := Vp
  have HA : Hid (Nt w4 a la ca xs) := ha
  have H1 : Hid (Nt w4 a1 l1 k1 z1) := h1
  have HB : Hid (Below w.heap.size w w4) := B0
  have HN1 : Hid (num z1 = num xs ^ (n / 2 ^ (sz - 0))) := by
    show _ = _
    rw [Nat.sub_zero, Nat.div_eq_of_lt hlt, n1, Int.pow_zero]
  clear V0 V1 Vp ha h1 B0 n1 n3 h3 hsz
  go_wp2_with fail
  go_loopw [19] (fun ii wr => ∃ (k : Nat) (ap : Option Addr) (lp kp : Nat) (zp : List Int), k ≤ sz ∧ ii = .int .i64 k ∧ Hid (Va wr w.heap.size 41 #[.slice a la ca]) ∧ Hid (Va wr (w.heap.size + 1) 41 #[.slice none 0 0]) ∧ Hid (Va wr w1.heap.size 41 #[.slice ap lp kp]) ∧ Hid (Nt wr a la ca xs) ∧ Hid (Nt wr ap lp kp zp) ∧ Hid (num zp = num xs ^ (n / 2 ^ (sz - k))) ∧ Hid (Below w.heap.size w wr)) (fun ii _ => sz - (intOf ii).toNat)
  case atStart => exact ⟨0, a1, l1, k1, z1, Nat.zero_le _, rfl, HV0, HV1, HVp, HA, H1, HN1, HB⟩
  case round =>
    clear HV0 HV1 HVp HA H1 HN1 HB
    obtain ⟨k, ap, lp, kp, zp, hk, rfl, U0, U1, Up, hA, hP, hN, hB⟩ := hrel
    have c0 := U0.out.cell
    have c1 := U1.out.cell
    have cp := Up.out.cell
    have f1 := U1.out.frozen 0
    have fp := Up.out.frozen 0
    have x0 := hA.out.nonneg
    by_cases hlt2 : k < sz
    · obtain ⟨d, hd⟩ : ∃ d, d = sz - 1 - k := ⟨_, rfl⟩
      have hm : n / 2 ^ (sz - k) = n / 2 ^ d / 2 := by rw [Nat.div_div_eq_div_mul, ← Nat.pow_succ]; congr 2; omega
      rw [hm] at hN
      obtain ⟨g, hg⟩ : ∃ g, n / 2 ^ d = g := ⟨_, rfl⟩
      rw [hg] at hN
      have hgn : g ≤ n := by rw [← hg]; exact Nat.div_le_self _ _
      rcases fit_or_big (num zp * num zp) with hf | hf
      · go_wp2_with fail
        refine (nmul_ok ap ap lp kp lp kp zp zp wr hP.out hP.out hf.lt).mono ?_
        rintro e w5 ⟨aq, lq, kq, zq, rfl, hq, nq, hb5⟩
        have T0 := U0.out.kept hb5
        have T1 := U1.out.kept hb5
        have Tp := Up.out.kept hb5
        have B5 := step hB.out hb5
        have hA5 := Nt.after hb5 hA.out
        clear c0 c1 cp f1 fp
        have c0 := T0.cell
        have c1 := T1.cell
        have cp := Tp.cell
        have f1 := T1.frozen 0
        have fp := Tp.frozen 0
        have hne1 : w.heap.size ≠ w1.heap.size := by omega
        have hne2 : w.heap.size + 1 ≠ w1.heap.size := by omega
        have S0 := T0.other (p := ⟨w1.heap.size, 0, none⟩) hne1 (.slice aq lq kq)
        have S1 := T1.other (p := ⟨w1.heap.size, 0, none⟩) hne2 (.slice aq lq kq)
        have Sp := Tp.set (.slice aq lq kq)
        have SA := hA5.store Tp (.slice aq lq kq)
        have SQ := hq.store Tp (.slice aq lq kq)
        have SB := B5.setCell (p := ⟨w1.heap.size, 0, none⟩) (by show _ ≤ w1.heap.size; omega) (.slice aq lq kq)
        rw [hN.out, ← Int.pow_add] at nq
        have hbit : g % 2 = 0 ∨ g % 2 = 1 := by omega
        have eb := and_one g (by omega)
        rw [← hg, ← shr_nat, hg, hd] at eb
        rcases hbit with hb0 | hb1
        · rw [hb0] at eb
          have HN2 : Hid (num zq = num xs ^ (n / 2 ^ (sz - (k + 1)))) := by
            show _ = _
            rw [nq, show sz - (k + 1) = d by omega, hg]
            congr 1; omega
          go_wp2_with fail
          go_roundw
          case rel => exact ⟨k + 1, aq, lq, kq, zq, by omega, by go_num, S0, S1, Sp, SA, SQ, HN2, SB⟩
          case measure => simp [intOf]; omega
        · rw [hb1] at eb
          go_wp2_with fail
          generalize w5.setCell ⟨w1.heap.size, 0, none⟩ (.slice aq lq kq) = w6 at *
          rcases fit_or_big (num zq * num xs) with hf2 | hf2
          · refine (nmul_ok aq a lq kq la ca zq xs w6 SQ SA hf2.lt).mono ?_
            rintro e w7 ⟨ar, lr, kr, zr, rfl, hr, nr, hb7⟩
            have R0 := S0.kept hb7
            have R1 := S1.kept hb7
            have Rp := Sp.kept hb7
            have B7 := step SB hb7
            have hA7 := Nt.after hb7 SA
            have HN2 : Hid (num zr = num xs ^ (n / 2 ^ (sz - (k + 1)))) := by
              show _ = _
              rw [nr, nq, ← Int.pow_succ, show sz - (k + 1) = d by omega, hg]
              congr 1; omega
            have Q0 := R0.other (p := ⟨w1.heap.size, 0, none⟩) hne1 (.slice ar lr kr)
            have Q1 := R1.other (p := ⟨w1.heap.size, 0, none⟩) hne2 (.slice ar lr kr)
            have Qp := Rp.set (.slice ar lr kr)
            have QA := hA7.store Rp (.slice ar lr kr)
            have QR := hr.store Rp (.slice ar lr kr)
            have QB := B7.setCell (p := ⟨w1.heap.size, 0, none⟩) (by show _ ≤ w1.heap.size; omega) (.slice ar lr kr)
            clear c0 c1 cp f1 fp
            have cp := Rp.cell
            have fp := Rp.frozen 0
            go_wp2_with fail
            go_roundw
            case rel => exact ⟨k + 1, ar, lr, kr, zr, by omega, by go_num, Q0, Q1, Qp, QA, QR, HN2, QB⟩
            case measure => simp [intOf]; omega
          · have hbig : Big (num xs ^ n) := by
              rw [nq, ← Int.pow_succ] at hf2
              exact big_up hf2 x0 (by omega)
            refine (nmul_long aq a lq kq la ca zq xs w6 SQ SA hf2.ge).mono ?_
            rintro e w7 ⟨rfl, hb7⟩
            have R1 := S1.kept hb7
            have Rp := Sp.kept hb7
            have B7 := step SB hb7
            clear c0 c1 cp f1 fp
            have c1 := R1.cell
            have cp := Rp.cell
            have f1 := R1.frozen 0
            have fp := Rp.frozen 0
            go_wp2_with fail
            refine bodyPost_ret (results_ct rfl rfl ((R1.other (p := ⟨w1.heap.size, 0, none⟩) hne2 _).set _)) rfl ?_
            exact .inr ⟨rfl, hbig, (B7.setCell (p := ⟨w1.heap.size, 0, none⟩) (by show _ ≤ w1.heap.size; omega) _).setCell (p := ⟨w.heap.size + 1, 0, none⟩) (by show _ ≤ w.heap.size + 1; omega) _⟩
      · have hbig : Big (num xs ^ n) := by
          rw [hN.out, ← Int.pow_add] at hf
          exact big_up hf x0 (by omega)
        go_wp2_with fail
        refine (nmul_long ap ap lp kp lp kp zp zp wr hP.out hP.out hf.ge).mono ?_
        rintro e w5 ⟨rfl, hb5⟩
        have T1 := U1.out.kept hb5
        have Tp := Up.out.kept hb5
        have B5 := step hB.out hb5
        clear c0 c1 cp f1 fp
        have c1 := T1.cell
        have cp := Tp.cell
        have f1 := T1.frozen 0
        have fp := Tp.frozen 0
        go_wp2_with fail
        refine bodyPost_ret (results_ct rfl rfl ((T1.other (p := ⟨w1.heap.size, 0, none⟩) (by show w.heap.size + 1 ≠ w1.heap.size; omega) _).set _)) rfl ?_
        exact .inr ⟨rfl, hbig, (B5.setCell (p := ⟨w1.heap.size, 0, none⟩) (by show _ ≤ w1.heap.size; omega) _).setCell (p := ⟨w.heap.size + 1, 0, none⟩) (by show _ ≤ w.heap.size + 1; omega) _⟩
    · obtain rfl : k = sz := by omega
      have hN2 := hN.out
      rw [Nat.sub_self, Nat.pow_zero, Nat.div_one] at hN2
      go_wp2_with fail
      refine bodyPost_ret (results_ct rfl rfl (U1.out.set _)) rfl ?_
      exact .inl ⟨_, _, _, zp, rfl, hP.out.store U1.out _, hN2, hB.out.setCell (p := ⟨w.heap.size + 1, 0, none⟩) (by show _ ≤ w.heap.size + 1; omega) _⟩
end Go.Proofs.YtebbblhafjaaiaaGreatDoor
namespace Go.Proofs.YtebbblhafjaaiaaGreatDoor
open Go.RowKit Go.Shelf
set_option linter.unusedVariables false

def AllS (l : List Value) : Prop := ∀ x ∈ l, ∃ a n c, x = Value.slice a n c
def Rx (W : World) (g cap : Nat) (ss : List Value) : Prop := ∃ rest, W.heap[g]? = some (.cells (ss ++ rest).toArray 41 (0, 0)) ∧ (ss ++ rest).length = cap ∧ AllS (ss ++ rest)
theorem Rx.lt {W : World} {g cap : Nat} {ss : List Value} (h : Rx W g cap ss) : g < W.heap.size := by
  obtain ⟨rest, h, -⟩ := h
  exact (Array.getElem?_eq_some_iff.1 h).1
theorem Rx.after {W W' : World} (hb : Below W.heap.size W W') {g cap : Nat} {ss : List Value} (h : Rx W g cap ss) : Rx W' g cap ss := by
  have hl := h.lt
  obtain ⟨rest, h, h'⟩ := h
  exact ⟨rest, (hb.block g hl).trans h, h'⟩
theorem Rx.at {W W' : World} {g cap : Nat} {ss : List Value} (h : Rx W g cap ss) (k : W'.heap[g]? = W.heap[g]?) : Rx W' g cap ss := by
  obtain ⟨rest, h, h'⟩ := h
  exact ⟨rest, k.trans h, h'⟩
theorem Rx.cell {W : World} {g cap : Nat} {ss : List Value} (h : Rx W g cap ss) {i : Nat} {x : Value} (hx : ss[i]? = some x) : W.cell? ⟨g, i, none⟩ = some x := by
  obtain ⟨rest, h, h'⟩ := h
  have hi := (List.getElem?_eq_some_iff.1 hx).1
  simp only [World.cell?, h]
  rw [List.getElem?_toArray, List.getElem?_append_left hi]
  exact hx
theorem Rx.cap {W : World} {g cap : Nat} {ss : List Value} (h : Rx W g cap ss) : ss.length ≤ cap := by
  obtain ⟨rest, h, h', -⟩ := h
  rw [← h', List.length_append]; omega
/-- A number never lies in such a row. -/
theorem Rx.ne {W : World} {g cap : Nat} {ss : List Value} (h : Rx W g cap ss) {a : Option Addr} {l c : Nat} {zs : List Int} (hn : Nt W a l c zs) (h0 : 0 < l) {p : Addr} (hp : a = some p) : p.block ≠ g := by
  intro e
  obtain ⟨rest, hh, -, hs⟩ := h
  obtain ⟨bb, off, e', hc⟩ := hn.1.2.2 h0
  rw [hp] at e'
  cases e'
  have hz := hc 0 h0
  have eb : bb = g := e
  subst eb
  simp only [World.cell?, hh] at hz
  rw [List.getElem?_toArray] at hz
  obtain ⟨a', n', c', hx⟩ := hs _ (List.mem_of_getElem? hz)
  cases hx
theorem Nt.past {W W' : World} {a : Option Addr} {l c : Nat} {zs : List Int} (h : Nt W a l c zs) {g : Nat} (hne : 0 < l → ∀ p, a = some p → p.block ≠ g) (far : ∀ k, k ≠ g → W'.heap[k]? = W.heap[k]?) : Nt W' a l c zs := by
  obtain ⟨⟨h1, h2, h3⟩, h4⟩ := h
  refine ⟨⟨h1, h2, fun h0 => ?_⟩, h4⟩
  obtain ⟨bb, off, e, hc⟩ := h3 h0
  exact ⟨bb, off, e, fun i hi => (World.cell?_of_block (w := W) (far bb (hne h0 _ e))).trans (hc i hi)⟩
theorem run_mkrow (w : World) (c : Nat) (hc : c ≤ 1000000) : ∃ w', (Instr.makeSlice 129 (.int .i64 0) (.int .i64 (c : Int))).run Tryz.prog w = .ok (.slice (some ⟨w.heap.size, 0, none⟩) 0 c) w' ∧ Rx w' w.heap.size c [] ∧ Below w.heap.size w w' := by
  obtain ⟨i0, hi, hz0, hz1, hz2⟩ := info_parts infoN
  have hr := run_make (P := Tryz.prog) w 129 41 i0 (.agg #[.slice none 0 0]) Tryz.underlying129 hi hz0 .i64 .i64 0 c (Int.le_refl _) (by omega) (by rw [hz2]; omega) (by omega)
  have hc' : (c : Int).toNat = c := by omega
  rw [hz1, Nat.mul_one, hc'] at hr
  have e : madeCells (Value.agg #[.slice none 0 0]).cells c = (List.replicate c (Value.slice none 0 0)).toArray := by
    apply Array.ext
    · simp [madeCells]
    · intro i h1 h2
      simp [madeCells, Value.cells, Nat.mod_one]
  rw [e] at hr
  refine ⟨_, hr, ⟨List.replicate c (.slice none 0 0), ?_, by simp, fun x hx => ?_⟩, (Below.refl _ _).alloc (Nat.le_refl _) _⟩
  · rw [List.nil_append]; exact heap_alloc_new w _
  · exact ⟨none, 0, 0, (List.mem_replicate.1 (by simpa using hx)).2⟩
/-- append into the room that is there; all other blocks stay. -/
theorem wpList_appx {ops : Array Oper} {rest : List Oper} {o : Oper} {a : Act} {w : World} {Q : Exit → Act → World → Prop} (hgd : o.guard = none) (s x : Operand)
    (ho : o.op = .call { callee := .builtin .append, args := #[s, x], argTypes := #[129, 129] })
    (g n cap : Nat) (ss : List Value) (hs : a.eval s = .slice (some ⟨g, 0, none⟩) n cap) (hn : n = ss.length) (hg : Rx w g cap ss) (b m c : Nat) (news : List Value) (hx : a.eval x = .slice (some ⟨b, 0, none⟩) m c) (hm : news.length = m) (hc : ∀ j u, news[j]? = some u → w.cell? ⟨b, j, none⟩ = some u) (hS : AllS news)
    (hfit : n + m ≤ cap)
    (h : ∀ w', Hid (Rx w' g cap (ss ++ news)) → Hid (∀ k, k ≠ g → w'.heap[k]? = w.heap[k]?) → Hid (w'.heap.size = w.heap.size) → Hid (Below g w w') → wpList Tryz.prog ops Q rest (a.put o.dst (.slice (some ⟨g, 0, none⟩) (n + m) cap)) w') : wpList Tryz.prog ops Q (o :: rest) a w := by
  subst hn hm
  obtain ⟨i0, hi, hz0, hz1, hz2⟩ := info_parts infoN
  obtain ⟨rest', hh, hl, hA⟩ := hg
  have one : ∀ u ∈ news, u.oneCell' = true := fun u hu => by obtain ⟨a', n', c', rfl⟩ := hS u hu; rfl
  have hr := run_append_room (P := Tryz.prog) w 129 o.type 41 i0 Tryz.underlying129 hi g ss.length cap (ss ++ rest').toArray hh ⟨b, 0, none⟩ news.length c news (by rw [hz1, Nat.mul_one]) (fun j u hu => by rw [Go.Lib.add_plain, Nat.zero_add]; exact hc j u hu) one hfit (by rw [hz1, Nat.mul_one]; simp only [List.size_toArray]; omega)
  have eL : (ss ++ rest').toArray.toList.take ss.length ++ news ++ (ss ++ rest').toArray.toList.drop (ss.length + news.length) = ss ++ news ++ rest'.drop news.length := by
    show (ss ++ rest').take ss.length ++ news ++ (ss ++ rest').drop (ss.length + news.length) = _
    rw [List.take_left, List.drop_append]
    simp
  refine wpList_plain hgd fun K hK => ?_
  unfold Oper.wp execOp
  simp only [ho, resolve, invoke, builtin, Sem.run_bind, Sem.run_pure, Result.andThen_ok, List.map_toArray, List.map_cons, List.map_nil, hs, hx, hr]
  rw [hz1, Nat.mul_one]
  refine hK _ _ (h _ ⟨rest'.drop news.length, ?_, ?_, ?_⟩ (fun k hk => setRow_other w g k _ hk) (by show (w.setRow g _).heap.size = _; simp [World.setRow]) ⟨rfl, rfl, rfl, by simp [World.setRow], fun k hk => setRow_other w g k _ (by omega)⟩)
  · rw [setRow_heap w g _ _ 41 (0, 0) hh, eL]
  · rw [List.length_append] at hl
    simp; omega
  · intro x hx
    rcases List.mem_append.1 hx with hx | hx
    · rcases List.mem_append.1 hx with hx | hx
      · exact hA x (by simp [hx])
      · exact hS x hx
    · exact hA x (by simp [List.mem_of_mem_drop hx])
end Go.Proofs.YtebbblhafjaaiaaGreatDoor
namespace Go.Proofs.YtebbblhafjaaiaaGreatDoor
open Go.RowKit Go.Shelf
set_option linter.unusedVariables false

/-- What digits say, the lowest first. -/
def pv (B : Int) (D : Nat → Int) : Nat → Int
  | 0 => 0
  | n + 1 => pv B D n + D n * B ^ n
theorem fold_from (B : Int) (D : Nat → Dg) : ∀ (l : List Nat) (s : Int), l.foldl (fun s i => s * B + num (D i).2.2.2) s = s * B ^ l.length + dsum B D l := by
  intro l
  induction l with
  | nil => intro s; simp [dsum]
  | cons x l ih =>
    intro s
    have e : dsum B D (x :: l) = (0 * B + num (D x).2.2.2) * B ^ l.length + dsum B D l := ih _
    rw [List.foldl_cons, ih, e, List.length_cons, Int.pow_succ]
    grind
theorem down_top (n : Nat) : down (n + 1) (n + 1) = n :: down n n := by
  unfold down
  rw [List.range_succ_eq_map, List.map_cons, List.map_map]
  congr 1
  apply List.map_congr_left
  intro j hj
  show n + 1 - 1 - (j + 1) = n - 1 - j
  omega
theorem dsum_pv (B : Int) (D : Nat → Dg) : ∀ n, dsum B D (down n n) = pv B (fun j => num (D j).2.2.2) n
  | 0 => by simp [dsum, down, pv]
  | n + 1 => by
    have e : dsum B D (down (n + 1) (n + 1)) = (0 * B + num (D n).2.2.2) * B ^ (down n n).length + dsum B D (down n n) := by
      rw [down_top]; exact fold_from B D (down n n) _
    rw [e, dsum_pv B D n, down_length]
    simp only [pv]
    grind
theorem pv_pair {B : Int} {D E : Nat → Int} : ∀ n, (∀ j, j < n → D j = E (2 * j) + E (2 * j + 1) * B) → pv B E (2 * n) = pv (B * B) D n
  | 0, _ => rfl
  | n + 1, h => by
    have ih := pv_pair n (fun j hj => h j (by omega))
    have e2 : 2 * (n + 1) = 2 * n + 1 + 1 := by omega
    have e3 : (B * B) ^ n = B ^ (2 * n) := by rw [Int.mul_pow, show 2 * n = n + n by omega, Int.pow_add]
    rw [e2]
    simp only [pv]
    rw [ih, h n (by omega), e3, Int.pow_succ]
    grind
theorem pv_nonneg {B : Int} (hB : 0 ≤ B) {D : Nat → Int} (hD : ∀ j, 0 ≤ D j) : ∀ n, 0 ≤ pv B D n
  | 0 => Int.le_refl _
  | n + 1 => by
    have h1 := pv_nonneg hB hD n
    have h2 := Int.mul_nonneg (hD n) (Int.pow_nonneg (m := n) hB)
    simp only [pv]; omega
theorem pv_low {B : Int} (hB : 0 ≤ B) {D : Nat → Int} (hD : ∀ j, 0 ≤ D j) {n : Nat} (h : 1 ≤ D n) : B ^ n ≤ pv B D (n + 1) := by
  have h1 := pv_nonneg hB hD n
  have h2 : 1 * B ^ n ≤ D n * B ^ n := Int.mul_le_mul_of_nonneg_right h (Int.pow_nonneg (m := n) hB)
  simp only [pv]; omega
theorem len_bound {B V : Int} (hB : 2 ≤ B) {n : Nat} (h : B ^ n ≤ V) (hV : V < pw 4096) : n < 262144 := by
  rcases Nat.lt_or_ge n 262144 with h' | h'
  · exact h'
  · exfalso
    have h1 := two_le_pow hB n
    have h2 : (2 : Int) ^ 262144 ≤ 2 ^ n := by
      obtain ⟨k, rfl⟩ := Nat.exists_eq_add_of_le h'
      rw [Int.pow_add]
      have h3 : (1 : Int) ≤ 2 ^ k := Int.add_one_le_of_lt (Int.pow_pos (show (0 : Int) < 2 by omega))
      have h4 : (0 : Int) ≤ 2 ^ 262144 := Int.pow_nonneg (by omega)
      have h5 : (2 : Int) ^ 262144 * 1 ≤ 2 ^ 262144 * 2 ^ k := Int.mul_le_mul_of_nonneg_left h3 h4
      generalize (2 : Int) ^ 262144 = X at *
      omega
    rw [pw_eq, show 64 * 4096 = 262144 from rfl] at hV
    generalize (2 : Int) ^ 262144 = X at *
    omega

/-- What stands behind k pairs. -/
def ApI (len k : Nat) (D : Nat → Dg) (By : Int) (ds : List Dg) : Prop := ds.length = 2 * k ∧ ∀ j, j < k → ∀ x y, ds[2 * j]? = some x → ds[2 * j + 1]? = some y → num (D j).2.2.2 = num y.2.2.2 * By + num x.2.2.2 ∧ 0 ≤ num x.2.2.2 ∧ num x.2.2.2 < By ∧ 0 ≤ num y.2.2.2
theorem apI_on {len k : Nat} {D : Nat → Dg} {By : Int} {ds : List Dg} (h : ApI len k D By ds) {x y : Dg} (e : num (D k).2.2.2 = num y.2.2.2 * By + num x.2.2.2) (h1 : 0 ≤ num x.2.2.2) (h2 : num x.2.2.2 < By) (h3 : 0 ≤ num y.2.2.2) : ApI len (k + 1) D By (ds ++ [x, y]) := by
  obtain ⟨hl, hv⟩ := h
  refine ⟨by rw [List.length_append, hl]; rfl, fun j hj a b ha hb => ?_⟩
  rcases Nat.lt_or_ge j k with hjk | hjk
  · rw [List.getElem?_append_left (by omega)] at ha hb
    exact hv j hjk a b ha hb
  · obtain rfl : j = k := by omega
    rw [List.getElem?_append_right (by omega), hl, Nat.sub_self] at ha
    rw [List.getElem?_append_right (by omega), hl, show 2 * j + 1 - 2 * j = 1 by omega] at hb
    cases ha
    cases hb
    exact ⟨e, h1, h2, h3⟩
/-- The digits of all pairs, as a function. -/
def lD (ds : List Dg) (j : Nat) : Dg := ds.getD j d0
theorem lD_some {ds : List Dg} {j : Nat} (h : j < ds.length) : ds[j]? = some (lD ds j) := by
  unfold lD; rw [List.getD_eq_getElem?_getD, List.getElem?_eq_getElem h]; rfl
theorem lD_mem {ds : List Dg} {P : Dg → Prop} (h : ∀ d ∈ ds, P d) (h0 : P d0) (j : Nat) : P (lD ds j) := by
  unfold lD; rw [List.getD_eq_getElem?_getD]
  cases hj : ds[j]? with
  | none => exact h0
  | some d => exact h d (List.mem_of_getElem? hj)
theorem ap_done {W : World} {g len : Nat} {D : Nat → Dg} {V By : Int} {ds : List Dg} (hB : 2 ≤ By) (hI : ApI len len D By ds) (h1 : 1 ≤ len) (hV : V < pw 4096) (hD : dsum (By * By) D (down len len) = V) (hDb : ∀ j, j < len → num (D j).2.2.2 < By * By) (htop : 1 < len → num (D (len - 1)).2.2.2 ≠ 0) (hge : len = 1 → By ≤ V)
    (hN : ∀ d ∈ ds, Nt W d.1 d.2.1 d.2.2.1 d.2.2.2) (hg : g < W.heap.size) (hc : ∀ j x, ds[j]? = some x → W.cell? ⟨g, j, none⟩ = some (dv x)) :
    AP W g 0 (if num (lD ds (2 * len - 1)).2.2.2 = 0 then 2 * len - 1 else 2 * len) (lD ds) V By := by
  obtain ⟨hl, hv⟩ := hI
  have hNj : ∀ j, Nt W (lD ds j).1 (lD ds j).2.1 (lD ds j).2.2.1 (lD ds j).2.2.2 := lD_mem (P := fun d => Nt W d.1 d.2.1 d.2.2.1 d.2.2.2) hN (Nt.nil _)
  have hnn : ∀ j, 0 ≤ num (lD ds j).2.2.2 := fun j => (hNj j).nonneg
  have hpair : ∀ j, j < len → num (D j).2.2.2 = num (lD ds (2 * j + 1)).2.2.2 * By + num (lD ds (2 * j)).2.2.2 ∧ num (lD ds (2 * j)).2.2.2 < By := fun j hj => by
    have h := hv j hj _ _ (lD_some (by omega)) (lD_some (by omega))
    exact ⟨h.1, h.2.2.1⟩
  have hlt : ∀ j, num (lD ds j).2.2.2 < By := fun j => by
    by_cases hj : j < 2 * len
    · rcases Nat.mod_two_eq_zero_or_one j with hm | hm
      · have := (hpair (j / 2) (by omega)).2
        rwa [show 2 * (j / 2) = j by omega] at this
      · have hp := hpair (j / 2) (by omega)
        have hb := hDb (j / 2) (by omega)
        rw [show 2 * (j / 2) + 1 = j by omega] at hp
        have h0 := hnn (2 * (j / 2))
        rcases Int.lt_or_le (num (lD ds j).2.2.2) By with h | h
        · exact h
        · have := Int.mul_le_mul_of_nonneg_right h (show 0 ≤ By by omega)
          omega
    · have e : lD ds j = d0 := by unfold lD; rw [List.getD_eq_getElem?_getD, List.getElem?_eq_none (by omega)]; rfl
      rw [e]; show num [] < _; simp [num]; omega
  have hval : pv By (fun j => num (lD ds j).2.2.2) (2 * len) = V := by
    rw [pv_pair (D := fun j => num (D j).2.2.2) len (fun j hj => by have := (hpair j hj).1; omega), ← dsum_pv]
    exact hD
  by_cases hz : num (lD ds (2 * len - 1)).2.2.2 = 0
  · rw [if_pos hz]
    have hl1 : 1 < len := by
      rcases Nat.lt_or_ge 1 len with h | h
      · exact h
      · exfalso
        obtain rfl : len = 1 := by omega
        have hp := hpair 0 (by omega)
        have e0 : dsum (By * By) D (down 1 1) = num (D 0).2.2.2 := by rw [dsum_pv]; simp [pv]
        rw [e0] at hD
        rw [show 2 * 1 - 1 = 2 * 0 + 1 from rfl] at hz
        rw [hz] at hp
        have := hge rfl
        omega
    have hv2 : pv By (fun j => num (lD ds j).2.2.2) (2 * len - 1) = V := by
      have e : 2 * len = (2 * len - 1) + 1 := by omega
      rw [e] at hval
      simp only [pv] at hval
      rw [hz, Int.zero_mul] at hval
      omega
    have ht : num (lD ds (2 * len - 2)).2.2.2 ≠ 0 := by
      have hp := (hpair (len - 1) (by omega)).1
      rw [show 2 * (len - 1) + 1 = 2 * len - 1 by omega, hz, show 2 * (len - 1) = 2 * len - 2 by omega] at hp
      have := htop hl1
      omega
    have hb : 2 * len - 2 < 262144 := by
      refine len_bound hB ?_ hV
      have := pv_low (B := By) (by omega) hnn (n := 2 * len - 2) (by have := hnn (2 * len - 2); omega)
      rwa [show 2 * len - 2 + 1 = 2 * len - 1 by omega, hv2] at this
    refine ⟨by omega, by omega, hg, fun j hj => ?_, hNj, hlt, by rw [dsum_pv]; exact hv2, fun _ => by rw [show 2 * len - 1 - 1 = 2 * len - 2 by omega]; exact ht⟩
    rw [Nat.zero_add]; exact hc j _ (lD_some (by omega))
  · rw [if_neg hz]
    have hb : 2 * len - 1 < 262144 := by
      refine len_bound hB ?_ hV
      have := pv_low (B := By) (by omega) hnn (n := 2 * len - 1) (by have := hnn (2 * len - 1); omega)
      rwa [show 2 * len - 1 + 1 = 2 * len by omega, hval] at this
    refine ⟨by omega, by omega, hg, fun j hj => ?_, hNj, hlt, by rw [dsum_pv]; exact hval, fun _ => hz⟩
    rw [Nat.zero_add]; exact hc j _ (lD_some (by omega))
end Go.Proofs.YtebbblhafjaaiaaGreatDoor
