/-
  juris: the document's Order.
-/
import Derived.Test.YtfmbloagmeodeaaJrB
import Derived.Test.YtfmbloagmeodeaaJuL
namespace Go.Proofs.Ytfmbloagmeodeaa
open Go.RowKit Go.Shelf
set_option linter.unusedVariables false

/-- What holds between two rounds. -/
structure Oz (ps : List Int) (w wr : World) (v : Value) (o : List Nat) : Prop where
  row : Ow 4 Value.bool wr w.heap.size (bR (ofL o) ps.length)
  out : Ge elI wr (w.heap.size + 1) v (ints o)
  go : Go15 ps o
  below : Below w.heap.size w wr
theorem Oz.at {ps : List Int} {w wr : World} {v : Value} {o : List Nat} (h : Oz ps w wr v o) {p : Nat} (hp : p < ps.length) : wr.cell? ⟨w.heap.size, p, none⟩ = some (.bool (ofL o p)) := by
  have := h.row.cell p true (by simp [bR, hp])
  rwa [show (bR (ofL o) ps.length).getD p true = ofL o p from mr_get _ true hp] at this
theorem ofL_iff (o : List Nat) (p : Nat) : ofL o p = true ↔ p ∈ o := by simp [ofL]
/-- May a place come next? -/
def avB (ps : List Int) (o : List Nat) (p : Nat) : Bool := !ofL o p && (decide (ps.getD p (-1) < 0) || ofL o (ps.getD p (-1)).toNat)
theorem avB_iff {ps : List Int} (h : Okp ps) {o : List Nat} {p : Nat} (hp : p < ps.length) : avB ps o p = true ↔ Av ps o p := by
  have hg := getD_of_pa h hp
  have hk := okp_in h hp
  unfold avB
  rw [Bool.and_eq_true, Bool.or_eq_true, decide_eq_true_eq, Bool.not_eq_true', ofL_iff]
  constructor
  · rintro ⟨h1, h2⟩
    refine ⟨hp, fun hm => (by rw [(ofL_iff o p).2 hm] at h1; cases h1), fun k hk' => ?_⟩
    have e := (hg.2 k).1 hk'
    rcases h2 with h2 | h2
    · omega
    · rw [e] at h2; simpa using h2
  · rintro ⟨-, h1, h2⟩
    refine ⟨by cases e : ofL o p; rfl; exact absurd ((ofL_iff o p).1 e) h1, ?_⟩
    rcases hk with e | e
    · left; omega
    · right
      exact h2 _ ((hg.2 _).2 (by omega))
/-- The least that may come next among those from j on, or -1. -/
def LsA (ps : List Int) (o : List Nat) (j : Nat) (y : Int) : Prop := (y = -1 ∧ ∀ p, j ≤ p → ¬ Av ps o p) ∨ ∃ x : Nat, y = x ∧ j ≤ x ∧ Av ps o x ∧ ∀ p, j ≤ p → Av ps o p → x ≤ p
set_option maxRecDepth 20000 in
set_option maxHeartbeats 8000000 in
theorem rorder_any (ps : List Int) (hT : Tre ps) (hl : ps.length ≤ 4096) (a : Option Addr) (cap : Nat) (w : World) (hL : Li w a ps.length ps) :
    Calls Try.prog 13 #[.slice a ps.length cap] w fun e w' => (∃ v o, e = .returned v ∧ Go15 ps o ∧ o.length = ps.length ∧ Ge elI w' w.heap.size v (ints o)) ∧ Below w.heap.size w w' := by
  have hm := make_bool ps.length (by omega)
  have HL : Hid (Li w a ps.length ps) := hL
  have HT : Hid (Tre ps) := hT
  clear hL hT
  go_enter Try.func13, Try.ntmps13
  go_wp2_with fail
  refine ent1 w _ _ (Q := fun W => Code.wp _ _ _ _ W) ?_
  intro W0 hB0 hs0 V0
  have HZ0 : Hid (Oz ps w W0 (.slice none 0 0) []) := ⟨by show Va _ _ _ _; rw [show bR (ofL []) ps.length = List.replicate ps.length false from by rw [mr_zero]; rfl]; simpa using V0, Ge.nil _ _, Go15.nil ps, hB0⟩
  clear V0 hB0 hm hs0
  go_loopw [3, 5, 6] (fun v _ _ wr => ∃ o : List Nat, Hid (Oz ps w wr v o)) (fun v _ _ _ => (ps.length + 1 - lenV v : Nat))
  case atStart => exact ⟨[], HZ0.out⟩
  case round =>
    clear HZ0
    obtain ⟨o, HZ⟩ := hrel
    obtain ⟨al, cl, rfl, -, -, -⟩ := HZ.out.out.shape
    have hol := told_le HZ.out.go
    have hLn := ints_length o
    have HLn : Hid ((ints o).length = o.length) := hLn
    rcases Nat.lt_or_ge o.length ps.length with hlt | hge
    · have hli : ((ints o).length : Int) < ps.length := by rw [hLn]; omega
      have hw1 : IntKind.i64.wrap ((ps.length : Int) - 1) = (ps.length : Int) - 1 := by rw [IntKind.wrap_i64]; omega
      clear hLn
      go_wp2_with fail
      obtain ⟨w0, hw0⟩ : ∃ w0, wr = w0 := ⟨_, rfl⟩
      rw [hw0] at HZ ⊢
      clear hw0
      go_loopw [5, 6] (fun y u wr => ∃ (j : Nat) (z : Int), y = .int .i64 z ∧ u = .int .i64 ((j : Int) - 1) ∧ j ≤ ps.length ∧ Hid (LsA ps o j z) ∧ wr = w0) (fun _ u _ => (intOf u + 1).toNat)
      case atStart => exact ⟨ps.length, -1, rfl, by go_num, Nat.le_refl _, .inl ⟨rfl, fun p hp h => absurd h.1 (by omega)⟩, rfl⟩
      case round =>
        obtain ⟨j, z, rfl, rfl, hj, HA, hwr⟩ := hrel
        subst hwr
        rcases Nat.eq_zero_or_pos j with h0 | h0
        · subst h0
          obtain ⟨x, hx, hav, hmin⟩ : ∃ x : Nat, z = x ∧ Av ps o x ∧ ∀ p, Av ps o p → x ≤ p := by
            obtain ⟨x0, hx0, -⟩ := next_there HT.out hlt
            rcases HA.out with ⟨-, h⟩ | ⟨x, e, -, h1, h2⟩
            · exact absurd hx0 (h x0 (Nat.zero_le _))
            · exact ⟨x, e, h1, fun p hp => h2 p (Nat.zero_le _) hp⟩
          subst hx
          have hxl := hav.1
          have hxi : (x : Int) < ps.length := by omega
          have cx := HZ.out.at hxl
          have fx := HZ.out.row.frozen x
          have HX : Hid (Av ps o x ∧ ∀ p, Av ps o p → x ≤ p) := ⟨hav, hmin⟩
          have HLn2 : Hid ((ints o).length + 1 ≤ 1000000000000) := by show _ ≤ _; rw [HLn.out]; omega
          have HG1 : Hid (Ge elI (wr.setCell ⟨w.heap.size, x, none⟩ (.bool true)) (w.heap.size + 1) (.slice al (ints o).length cl) (ints o)) := HZ.out.out.far (p := ⟨w.heap.size, x, none⟩) (fun e => by have := HZ.out.out.block _ e; simp at this; omega) _
          have HR1 : Hid (Ow 4 Value.bool (wr.setCell ⟨w.heap.size, x, none⟩ (.bool true)) w.heap.size (bR (ofL (o ++ [x])) ps.length)) := by
            have := HZ.out.row.set x true _ rfl
            rw [bR_set, ofL_snoc] at this
            exact this
          have hsz : w.heap.size + 1 ≤ wr.heap.size := HZ.out.row.lt
          have HVn : Hid (Va ((wr.setCell ⟨w.heap.size, x, none⟩ (.bool true)).alloc (.cells #[.int .i64 (x : Int)] 3)) wr.heap.size 3 #[.int .i64 (x : Int)]) := by
            have := Va.new (wr.setCell ⟨w.heap.size, x, none⟩ (.bool true)) 3 #[.int .i64 (x : Int)]
            rwa [show (wr.setCell ⟨w.heap.size, x, none⟩ (.bool true)).heap.size = wr.heap.size by simp] at this
          clear hav hmin
          go_wp2_with (at_builtin; refine wpList_appE rfl _ _ _ rfl elI rfl (w.heap.size + 1) _ (ints o) rfl (HG1.out.al _) wr.heap.size 0 1 1 [(x : Int)] rfl (Le.one HVn.out rfl) HLn2.out (by simp; omega) ?_; intro v3 w3 hg3 hgr3 hob3; have HG3 : Hid (Ge elI w3 (w.heap.size + 1) v3 (ints o ++ [(x : Int)])) := hg3; have HGr : Hid _ := hgr3; obtain ⟨a3, c3, rfl, -, -, -⟩ := hg3.shape; clear hg3 hgr3 hob3)
          go_roundw
          case rel =>
            refine ⟨o ++ [x], ?_, ?_, HZ.out.go.snoc HX.out.1 HX.out.2, ?_⟩
            · exact (HGr.out.block _ (by simp; omega) (fun e => by have := HG1.out.block _ e.symm; omega)).trans (Va.old HR1.out _)
            · rw [ints_snoc]
              have h8 := HG3.out
              rw [show (ints o ++ [(x : Int)]).length = (ints o).length + 1 by simp] at h8
              exact h8
            · exact ((HZ.out.below.setCell (p := ⟨w.heap.size, x, none⟩) (by simp) _).alloc (by simp; omega) _).trans ((Below.refl _ _).grown HGr.out (by simp; omega) (fun b hb => by have := HG1.out.block b hb; omega))
          case measure =>
            have h9 := told_le (HZ.out.go.snoc HX.out.1 HX.out.2)
            rw [List.length_append] at h9
            simp only [lenV, ints_length, List.length_cons, List.length_nil] at h9 ⊢
            omega
        · obtain ⟨i, rfl⟩ : ∃ i, j = i + 1 := ⟨j - 1, by omega⟩
          have hil : i < ps.length := by omega
          have hii : (i : Int) < ps.length := by omega
          have ei : ((i + 1 : Nat) : Int) - 1 = i := by omega
          rw [ei]
          have ci := HZ.out.at hil
          obtain ⟨b, off, rfl, hc⟩ := (HL.out.after HZ.out.below).at hil
          have hok := okp_in HT.out.1 hil
          have HB : Hid (avB ps o i = true ↔ Av ps o i) := avB_iff HT.out.1 hil
          have hB2 : avB ps o i = (!ofL o i && (decide (ps.getD i (-1) < 0) || ofL o (ps.getD i (-1)).toNat)) := rfl
          have HAt := HZ.out
          have hw2 : IntKind.i64.wrap ((i : Int) - 1) = (i : Int) - 1 := by rw [IntKind.wrap_i64]; omega
          have Hno : Hid (avB ps o i = false → LsA ps o i z) := fun hf => by
            have hna : ¬ Av ps o i := fun h => by rw [HB.out.2 h] at hf; cases hf
            rcases HA.out with ⟨e, h⟩ | ⟨x, e, h1, h2, h3⟩
            · exact .inl ⟨e, fun p hp hv => by
                rcases Nat.lt_or_ge i p with h4 | h4
                · exact h p (by omega) hv
                · obtain rfl : p = i := by omega
                  exact hna hv⟩
            · exact .inr ⟨x, e, by omega, h2, fun p hp hv => by
                rcases Nat.lt_or_ge i p with h4 | h4
                · exact h3 p (by omega) hv
                · obtain rfl : p = i := by omega
                  exact absurd hv hna⟩
          have Hyes : Hid (avB ps o i = true → LsA ps o i i) := fun ht => .inr ⟨i, rfl, Nat.le_refl _, HB.out.1 ht, fun p hp _ => hp⟩
          cases hd : ofL o i with
          | true =>
            rw [hd] at ci hB2
            have HF : Hid (avB ps o i = false) := hB2.trans (by simp)
            clear hd hB2 hok HAt
            go_wp2_with fail
            go_roundw
            case rel => exact ⟨i, z, rfl, by go_num, by omega, Hno.out HF.out, by trivial⟩
            case measure => simp [intOf] <;> omega
          | false =>
            rw [hd] at ci hB2
            by_cases hr : ps.getD i (-1) = -1
            · rw [hr] at hc hB2
              have HF : Hid (avB ps o i = true) := hB2.trans (by simp)
              clear hd hB2 hok HAt hr
              go_wp2_with fail
              go_roundw
              case rel => exact ⟨i, i, rfl, by go_num, by omega, Hyes.out HF.out, by trivial⟩
              case measure => simp [intOf] <;> omega
            · obtain ⟨r, hrr⟩ : ∃ r : Nat, ps.getD i (-1) = r := ⟨(ps.getD i (-1)).toNat, by omega⟩
              rw [hrr] at hc hok hB2
              have hrl : r < ps.length := by omega
              have hri : (r : Int) < ps.length := by omega
              have hr0 : ¬ (r : Int) < 0 := by omega
              have cr := HAt.at hrl
              simp only [Int.toNat_natCast] at hB2
              rw [decide_eq_false hr0] at hB2
              cases hd2 : ofL o r with
              | true =>
                rw [hd2] at cr hB2
                have HF : Hid (avB ps o i = true) := hB2.trans (by simp)
                clear hd hB2 hok HAt hr hrr hd2
                go_wp2_with fail
                go_roundw
                case rel => exact ⟨i, i, rfl, by go_num, by omega, Hyes.out HF.out, by trivial⟩
                case measure => simp [intOf] <;> omega
              | false =>
                rw [hd2] at cr hB2
                have HF : Hid (avB ps o i = false) := hB2.trans (by simp)
                clear hd hB2 hok HAt hr hrr hd2
                go_wp2_with fail
                go_roundw
                case rel => exact ⟨i, z, rfl, by go_num, by omega, Hno.out HF.out, by trivial⟩
                case measure => simp [intOf] <;> omega
    · have hli : ¬ ((ints o).length : Int) < ps.length := by rw [hLn]; omega
      have HE : Hid (o.length = ps.length) := by show _ = _; omega
      clear hLn
      go_wp2_with fail
      go_ret
      have hge9 : Ge elI wr w.heap.size (.slice al (ints o).length cl) (ints o) := HZ.out.out.le (by omega)
      first | exact ⟨⟨_, o, rfl, HZ.out.go, HE.out, hge9⟩, HZ.out.below⟩ | exact ⟨⟨_, rfl, o, HZ.out.go, HE.out, hge9⟩, HZ.out.below⟩
end Go.Proofs.Ytfmbloagmeodeaa
