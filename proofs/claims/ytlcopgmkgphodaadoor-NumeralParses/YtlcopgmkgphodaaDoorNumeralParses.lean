/-
  NumeralParses (P3.2): of any text and base its number, or what is wrong, and where, is what the document has it. For every text and every base; under the condition that the listed variables (the powers of ten of strconv, the tables of math/bits, among others) hold what the program's text lays.
-/
import Derived.Test.YtlcopgmkgphodaaDoorOfW
import Derived.Test.YtlcopgmkgphodaaDoorNBackW
import Derived.Test.YtlcopgmkgphodaaDoorCards
import Derived.Test.YtlcopgmkgphodaaDoorTie
import Derived.Lay
import Derived.LaidLaws
import Derived.MakeChecks
import Derived.SevenTiedAt
import Derived.WalkKit
import Derived.Test.YtlcopgmkgphodaaDoorLaidP
import Derived.Test.YtlcopgmkgphodaaDoorLaidZ
import Derived.ProofKit
import Derived.OpenShut
import Derived.ShutString
import Derived.ChangeOld
import Derived.SizedLaws
namespace Go.Proofs.YtlcopgmkgphodaaDoor
open Go.RowKit Go.Shelf
set_option linter.unusedVariables false

theorem rworth3 (c : UInt8) (w : World) : Calls Tryd.prog 9 #[.int .u8 (c.toNat : Int)] w fun e w' => e = .returned (.int .u64 (wv c : Int)) ∧ w' = w := by
  have hc := c.toNat_lt
  obtain ⟨v, hv⟩ : ∃ v, (c.toNat : Int) = v := ⟨_, rfl⟩
  have HV : Hid (wv c = if 48 ≤ c.toNat ∧ c.toNat ≤ 57 then c.toNat - 48 else if 97 ≤ c.toNat ∧ c.toNat ≤ 122 then c.toNat - 87 else 36) := rfl
  obtain ⟨q, hq⟩ : ∃ q, (wv c : Int) = q := ⟨_, rfl⟩
  rw [hv, hq]
  by_cases h1 : 48 ≤ v
  · by_cases h2 : v ≤ 57
    · have e : q = v - 48 := by rw [← hq, HV.out, if_pos (by omega)]; omega
      rw [e]
      have v0 : 0 ≤ v := by omega
      clear hv hq HV e
      go_enter Tryd.func9, Tryd.ntmps9
      go_wp2_with fail
      go_ret
      exact ⟨rfl, rfl⟩
    · by_cases h3 : 97 ≤ v
      · by_cases h4 : v ≤ 122
        · have e : q = v - 97 + 10 := by rw [← hq, HV.out, if_neg (by omega), if_pos (by omega)]; omega
          rw [e]
          clear hv hq HV e
          go_enter Tryd.func9, Tryd.ntmps9
          go_wp2_with fail
          go_ret
          exact ⟨rfl, rfl⟩
        · have e : q = 36 := by rw [← hq, HV.out, if_neg (by omega), if_neg (by omega)]; rfl
          rw [e]
          clear hv hq HV e
          go_enter Tryd.func9, Tryd.ntmps9
          go_wp2_with fail
          go_ret
          exact ⟨rfl, rfl⟩
      · have e : q = 36 := by rw [← hq, HV.out, if_neg (by omega), if_neg (by omega)]; rfl
        rw [e]
        clear hv hq HV e
        go_enter Tryd.func9, Tryd.ntmps9
        go_wp2_with fail
        go_ret
        exact ⟨rfl, rfl⟩
  · have h3 : ¬ 97 ≤ v := by omega
    have e : q = 36 := by rw [← hq, HV.out, if_neg (by omega), if_neg (by omega)]; rfl
    rw [e]
    clear hv hq HV e
    go_enter Tryd.func9, Tryd.ntmps9
    go_wp2_with fail
    go_ret
    exact ⟨rfl, rfl⟩
theorem rbad_no (b : Int) (h2 : 2 ≤ b) (h36 : b ≤ 36) (w : World) : Calls Tryd.prog 8 #[.int .i64 b] w fun e w' => e = .returned (.bool false) ∧ w' = w := by
  go_enter Tryd.func8, Tryd.ntmps8
  go_wp2_with fail
  go_ret
  exact ⟨by first | rfl | (congr 2; simp; omega), rfl⟩
theorem rbad_yes (b : Int) (h : b < 2 ∨ 36 < b) (w : World) : Calls Tryd.prog 8 #[.int .i64 b] w fun e w' => e = .returned (.bool true) ∧ w' = w := by
  rcases h with h | h
  · go_enter Tryd.func8, Tryd.ntmps8
    go_wp2_with fail
    go_ret
    exact ⟨by first | rfl | (congr 2; simp; omega), rfl⟩
  · have h' : ¬ b < 2 := by omega
    go_enter Tryd.func8, Tryd.ntmps8
    go_wp2_with fail
    go_ret
    exact ⟨by first | rfl | (congr 2; simp; omega), rfl⟩
/-- What the document's Parse answers at a base. -/
def PdR (b : Nat) (s : List UInt8) (w w' : World) (e : Ending) : Prop :=
  (262144 < s.length ∧ e = .returned (.tuple #[.slice none 0 0, .int .i64 0, .int .i64 3])) ∨
  (s.length ≤ 262144 ∧ ((s.length = 0 ∧ e = .returned (.tuple #[.slice none 0 0, .int .i64 0, .int .i64 31])) ∨
    (0 < s.length ∧ Dig b s ∧ ((((tv b s : Nat) : Int) < pw 4096 ∧ ∃ a m c zs, e = .returned (.tuple #[.slice a m c, .int .i64 0, .int .i64 0]) ∧ m ≤ c ∧ Sl w' a m zs ∧ usedN zs = m ∧ num zs = ((tv b s : Nat) : Int) ∧ (a = none → m = 0 ∧ c = 0)) ∨ (pw 4096 ≤ ((tv b s : Nat) : Int) ∧ e = .returned (.tuple #[.slice none 0 0, .int .i64 0, .int .i64 3])))) ∨
    (∃ k, k < s.length ∧ e = .returned (.tuple #[.slice none 0 0, .int .i64 k, .int .i64 31]) ∧ Dig b (s.take k) ∧ b ≤ wv (s.getD k 0))))
/-- k digits are laid, from the end of the row on. -/
def PdI (b : Nat) (s : List UInt8) (k : Nat) (cs : List Int) : Prop := cs.length = s.length ∧ Dig b (s.take k) ∧ (∀ j, j < k → cs.getD (s.length - 1 - j) 0 = (wv (s.getD j 0) : Int)) ∧ Limbs cs
theorem PdI.step {b : Nat} {s : List UInt8} {k : Nat} {cs : List Int} (h : PdI b s k cs) (hk : k < s.length) (hw : wv (s.getD k 0) < b) (hb : b ≤ 36) : PdI b s (k + 1) (cs.set (s.length - 1 - k) (wv (s.getD k 0) : Int)) := by
  obtain ⟨h1, h2, h3, h4⟩ := h
  refine ⟨by rw [List.length_set]; exact h1, ?_, fun j hj => ?_, fun z hz => ?_⟩
  · rw [List.take_succ_eq_append_getElem hk]
    refine h2.append (fun c hc => ?_)
    rw [List.mem_singleton.1 hc]
    rw [List.getD_eq_getElem?_getD, List.getElem?_eq_getElem hk] at hw
    exact hw
  · by_cases e : j = k
    · subst e
      rw [List.getD_eq_getElem?_getD, List.getElem?_set_self (by omega)]; rfl
    · rw [List.getD_eq_getElem?_getD, List.getElem?_set_ne (by omega), ← List.getD_eq_getElem?_getD]
      exact h3 j (by omega)
  · rcases List.mem_or_eq_of_mem_set hz with h' | h'
    · exact h4 z h'
    · rw [h']; exact ⟨by omega, by omega⟩
theorem PdI.start (b : Nat) (s : List UInt8) : PdI b s 0 (List.replicate s.length 0) :=
  ⟨by simp, by simp [Dig.nil], fun j hj => by omega, fun z hz => by rw [List.eq_of_mem_replicate hz]; exact ⟨by decide, by decide⟩⟩
theorem PdI.end_ {b : Nat} {s : List UInt8} {cs : List Int} (h : PdI b s s.length cs) : cs.reverse = txI s ∧ Dig b s := by
  obtain ⟨h1, h2, h3, h4⟩ := h
  rw [List.take_of_length_le (Nat.le_refl _)] at h2
  refine ⟨?_, h2⟩
  apply List.ext_getElem
  · rw [List.length_reverse, txI_len, h1]
  · intro i hi1 hi2
    rw [txI_len] at hi2
    have e := h3 i hi2
    rw [List.getElem_reverse]
    rw [List.getD_eq_getElem?_getD, List.getElem?_eq_getElem (by omega)] at e
    rw [List.getD_eq_getElem?_getD, List.getElem?_eq_getElem hi2] at e
    simp only [Option.getD_some] at e
    simp only [txI, List.getElem_map]
    rw [← e]
    congr 1
    omega
theorem bsize3 (l : List UInt8) : (ByteArray.mk l.toArray).size = l.length := by rw [Go.Lib.size_eq]
theorem byte_at3 (s : List UInt8) (p : Nat) (h : p < s.length) : (ByteArray.mk s.toArray)[p]'(by rw [bsize3]; exact h) = s.getD p 0 := by
  rw [List.getD_eq_getElem?_getD, List.getElem?_eq_getElem h]; rfl
set_option maxHeartbeats 2000000 in
set_option maxRecDepth 20000 in
theorem rparse3 (b : Nat) (h2 : 2 ≤ b) (h36 : b ≤ 36) (s : List UInt8) (w : World) (hs : s.length ≤ 140737488351232) :
    Calls Tryd.prog 4 #[.string ⟨s.toArray⟩, .int .i64 b] w fun e w' => PdR b s w w' e ∧ Below w.heap.size w w' := by
  have bn := rbad_no (b : Int) (by omega) (by omega) w
  by_cases hl : 262144 < s.length
  · have hli : (262144 : Int) < s.length := by omega
    have HR : Hid (PdR b s w w (.returned (.tuple #[.slice none 0 0, .int .i64 0, .int .i64 3]))) := .inl ⟨hl, rfl⟩
    go_enter Tryd.func4, Tryd.ntmps4
    go_wp2_with (go_at_call 8; refine bn.mono ?_; rintro e w2 ⟨rfl, hw2⟩; rw [hw2]; clear hw2)
    go_ret3
    exact ⟨HR.out, Below.refl _ _⟩
  · have hli : ¬ (262144 : Int) < s.length := by omega
    by_cases h0 : s.length = 0
    · have es := List.length_eq_zero_iff.1 h0
      subst es
      have HR : Hid (PdR b [] w w (.returned (.tuple #[.slice none 0 0, .int .i64 0, .int .i64 31]))) := .inr ⟨by simp, .inl ⟨rfl, rfl⟩⟩
      go_enter Tryd.func4, Tryd.ntmps4
      go_wp2_with (go_at_call 8; refine bn.mono ?_; rintro e w2 ⟨rfl, hw2⟩; rw [hw2]; clear hw2)
      go_ret3
      exact ⟨HR.out, Below.refl _ _⟩
    · have he : s.isEmpty = false := by cases s with | nil => simp at h0 | cons x r => rfl
      have he2 : (ByteArray.mk s.toArray).toList.isEmpty = false := by rw [Go.Lib.toList_data]; exact he
      obtain ⟨n, hn⟩ : ∃ n, s.length = n := ⟨_, rfl⟩
      have mk := make_row n (by omega) w
      have HN : Hid (s.length = n) := hn
      have hni : (s.length : Int) = n := by omega
      have n1 : 0 < n := by omega
      have n2 : n ≤ 262144 := by omega
      have dn : decide ((262144 : Int) < n) = false := by simp; omega
      clear hl hli h0
      go_enter Tryd.func4, Tryd.ntmps4
      go_wp2_with (go_at_call 8; refine bn.mono ?_; rintro e w2 ⟨rfl, hw2⟩; rw [hw2]; clear hw2)
      have S0 : Hid (PdI b s 0 (List.replicate n 0)) := by rw [← HN.out]; exact PdI.start b s
      have O0 : Hid (Own (w.alloc (.cells (row (List.replicate n 0)).toArray 34)) w.heap.size (List.replicate n 0)) := heap_alloc_new _ _
      clear mk bn
      go_loopw [8] (fun i W => ∃ (k : Nat) (cs : List Int), i = .int .i64 k ∧ k ≤ n ∧ Hid (PdI b s k cs) ∧ Hid (Own W w.heap.size cs) ∧ Hid (Below w.heap.size w W)) (fun i _ => ((n : Int) - intOf i).toNat)
      case atStart => exact ⟨0, _, rfl, by omega, S0, O0, (Below.refl _ _).alloc (Nat.le_refl _) _⟩
      case round =>
        obtain ⟨k, cs, rfl, hk, HP, HO, HB⟩ := hrel
        clear S0 O0
        have wb : IntKind.u64.wrap (b : Int) = b := by rw [IntKind.wrap_u64]; omega
        have hcl : cs.length = n := by rw [HP.out.1]; exact HN.out
        by_cases hlt : k < n
        · have hki : (k : Int) < n := by omega
          have hby := byte_at3 s k (by omega)
          have hwo := rworth3 (s.getD k 0) wr
          have hw36 : wv (s.getD k 0) ≤ 36 := by unfold wv; split <;> (try split) <;> omega
          obtain ⟨c, hc⟩ : ∃ c, s.getD k 0 = c := ⟨_, rfl⟩
          have HC : Hid (s.getD k 0 = c) := hc
          rw [hc] at hby hwo hw36
          obtain ⟨q, hq⟩ : ∃ q, wv c = q := ⟨_, rfl⟩
          have HQ : Hid (wv c = q) := hq
          rw [hq] at hwo hw36
          clear hc hq
          by_cases hqb : q < b
          · have hqi : ¬ (b : Int) ≤ q := by omega
            have hst := HP.out.step (by omega) (by rw [HC.out, HQ.out]; exact hqb) h36
            rw [HC.out, HQ.out, HN.out] at hst
            have HST : Hid (PdI b s (k + 1) (cs.set (n - 1 - k) (q : Int))) := hst
            have hfz := HO.out.frozen (n - 1 - k)
            have hcx := HO.out.cell (n - 1 - k) (by omega)
            have ei : ((n : Int) - 1 - k).toNat = n - 1 - k := by omega
            have in0 : (0 : Int) ≤ (n : Int) - 1 - k := by omega
            have in1 : (n : Int) - 1 - k < n := by omega
            clear hst HP
            go_wp2_with fail
            go_at_call 9
            refine hwo.mono ?_
            rintro e w3 ⟨rfl, hw3⟩
            rw [hw3]
            clear hw3 hwo
            go_wp2_with fail
            go_roundw
            case rel => exact ⟨k + 1, _, by go_num, by omega, HST, HO.out.set (n - 1 - k) (q : Int), HB.out.setCell (p := ⟨w.heap.size, n - 1 - k, none⟩) (Nat.le_refl _) _⟩
            case measure => simp [intOf]; omega
          · have hqi : (b : Int) ≤ q := by omega
            have HR : Hid (PdR b s w wr (.returned (.tuple #[.slice none 0 0, .int .i64 k, .int .i64 31]))) := .inr ⟨by omega, .inr (.inr ⟨k, by omega, rfl, HP.out.2.1, by rw [HC.out, HQ.out]; omega⟩)⟩
            clear HP
            go_wp2_with fail
            go_at_call 9
            refine hwo.mono ?_
            rintro e w3 ⟨rfl, hw3⟩
            rw [hw3]
            clear hw3 hwo
            go_wp2_with fail
            go_ret3
            exact ⟨HR.out, HB.out⟩
        · have hki : ¬ (k : Int) < n := by omega
          obtain rfl : k = n := by omega
          have hend := HP.out
          rw [← HN.out] at hend
          obtain ⟨hrev, hdig⟩ := hend.end_
          have hdg : DgI b cs := fun z hz => (txI_dig hdig) z (by rw [← hrev]; exact List.mem_reverse.2 hz)
          have hsl := HO.out.sl hend.2.2.2
          have of := rof3 b h2 h36 (some ⟨w.heap.size, 0, none⟩) cs.length k cs wr hsl (by omega) hdg
          rw [hrev, txI_val, hcl] at of
          have HD : Hid (Dig b s) := hdig
          clear hend hrev hdig hdg hsl HP
          go_wp2_with fail
          go_at_call 10
          refine of.mono ?_
          rintro e w3 ⟨hof, hb3⟩
          have HB3 : Hid (Below w.heap.size w w3) := step HB.out hb3
          rcases hof with ⟨hlt4, a, m, c, zs, rfl, hmc, hs4, hu4, hn4, hnil⟩ | ⟨hge, rfl⟩
          · have HR : Hid (PdR b s w w3 (.returned (.tuple #[.slice a m c, .int .i64 0, .int .i64 0]))) := .inr ⟨by omega, .inr (.inl ⟨by omega, HD.out, .inl ⟨hlt4, a, m, c, zs, rfl, hmc, hs4, hu4, hn4, hnil⟩⟩)⟩
            clear hlt4 hs4 hu4 hn4 hnil of hb3
            go_wp2_with fail
            go_ret3
            exact ⟨HR.out, HB3.out⟩
          · have HR : Hid (PdR b s w w3 (.returned (.tuple #[.slice none 0 0, .int .i64 0, .int .i64 3]))) := .inr ⟨by omega, .inr (.inl ⟨by omega, HD.out, .inr ⟨hge, rfl⟩⟩)⟩
            clear hge of hb3
            go_wp2_with fail
            go_ret3
            exact ⟨HR.out, HB3.out⟩
theorem rparse3_bad (b : Int) (hb : b < 2 ∨ 36 < b) (s : List UInt8) (w : World) :
    Calls Tryd.prog 4 #[.string ⟨s.toArray⟩, .int .i64 b] w fun e w' => e = .returned (.tuple #[.slice none 0 0, .int .i64 0, .int .i64 30]) ∧ w' = w := by
  have bn := rbad_yes b hb w
  go_enter Tryd.func4, Tryd.ntmps4
  go_wp2_with (go_at_call 8; refine bn.mono ?_; rintro e w2 ⟨rfl, rfl⟩)
  go_ret3
  exact ⟨rfl, rfl⟩
end Go.Proofs.YtlcopgmkgphodaaDoor
namespace Go.Proofs.YtlcopgmkgphodaaDoor
open Go.RowKit Go.Shelf
set_option linter.unusedVariables false

set_option maxHeartbeats 1000000 in
theorem same3 (a b : Option Addr) (la ca cb : Nat) (xs : List Int) (w : World) (ha : Sl w a la xs) (hb : Sl w b la xs) (h1 : la ≤ 40000000000000) :
    Calls Tryd.prog 16 #[.slice a la ca, .slice b la cb] w fun e w' => e = .returned (.bool true) ∧ ∃ n, w' = w.drewN n := by
  have hza := ha.1
  have g1 : ((la : Int) != la) = false := by simp
  by_cases h0 : la = 0
  · subst h0
    clear ha hb
    go_enter Tryd.func16, Tryd.ntmps16
    go_wp2_with fail
    refine wp_loop_rounds 1 ?_
    rw [rounds_succ]
    go_wp2_with fail
    go_ret
    exact ⟨rfl, 0, rfl⟩
  · obtain ⟨ba, oa, rfl, hca⟩ := ha.2.2 (by omega)
    obtain ⟨bb, ob, rfl, hcb⟩ := hb.2.2 (by omega)
    clear ha hb
    go_enter Tryd.func16, Tryd.ntmps16
    go_wp2_with fail
    go_loopw [5] (fun i wr => ∃ k : Nat, k ≤ la ∧ i = .int .i64 k ∧ ∃ q, wr = w.drewN q) (fun i _ => la - (intOf i).toNat)
    case atStart => exact ⟨0, Nat.zero_le _, rfl, 0, rfl⟩
    case round =>
      obtain ⟨k, hk, rfl, q, rfl⟩ := hrel
      by_cases hlt : k < la
      · have hcx := hca k (by omega)
        have hcy := hcb k (by omega)
        obtain ⟨x, hx⟩ : ∃ x, xs.getD k 0 = x := ⟨_, rfl⟩
        rw [hx] at hcx hcy
        clear hx
        have g2 : (x != x) = false := by simp
        go_wp2_with fail
        go_quiet (fail)
        go_wp2_with fail
        go_roundw
        case rel => exact ⟨k + 1, by omega, by go_num, q + nq, rfl⟩
        case measure => simp [intOf]; omega
      · go_wp2_with fail
        go_ret
        exact ⟨rfl, q, rfl⟩
theorem is3_ok (a b : Option Addr) (la ca m cb : Nat) (zs ds : List Int) (w : World) (h : Nt w a la ca zs) (s : Sl w b m ds) (u : usedN ds = m) (e : num ds = num zs) (hc : m ≤ cb) (hn : b = none → m = 0 ∧ cb = 0) :
    Calls Tryd.prog 6 #[.agg #[.slice a la ca], .slice b m cb] w fun e w' => e = .returned (.bool true) ∧ Below w.heap.size w w' := by
  have hz := h.1.1
  have l1 := h.2
  obtain ⟨e1, e2⟩ : m = la ∧ ds = zs := by
    obtain ⟨e1, e2⟩ := one_list s.2.1 h.limbs s.1 u e
    rw [h.2.1] at e1 e2
    rw [List.take_of_length_le (by omega)] at e2
    exact ⟨e1, e2⟩
  subst e2
  subst e1
  go_enter Tryd.func6, Tryd.ntmps6
  go_wp2_with fail
  refine ent1 w _ _ (Q := fun W => Calls Tryd.prog _ _ W _) ?_
  intro w0 B0 hs V0
  replace h := Nt.after B0 h
  replace s := s.below B0 (Nat.le_refl _)
  refine (limbs_any a m ca ds w0 h).mono ?_
  rintro e w1 ⟨g, rfl, hg, ho, hb1⟩
  replace s := s.below hb1 (Nat.le_refl _)
  replace h := Nt.after hb1 h
  have B1 := step B0 hb1
  clear hb1 hs V0
  go_wp2_with fail
  refine (rtrim_any b m cb ds w1 s hn (by omega) hc).mono ?_
  rintro e w2 ⟨a2, c2, rfl, s2, hc2, hb2⟩
  have s1 := (ho.sl h.limbs).below hb2 (Nat.le_refl _)
  rw [hz] at s1
  rw [u, List.take_of_length_le (by omega)] at s2
  rw [u] at hc2 ⊢
  have B2 := step B1 hb2
  clear hb2 B1 B0
  go_wp2_with fail
  refine (same3 (some ⟨g, 0, none⟩) a2 m m c2 ds w2 s1 s2 (by omega)).mono ?_
  rintro e w3 ⟨rfl, nn, rfl⟩
  go_wp2_with fail
  go_ret
  exact ⟨rfl, below_drewN B2 nn⟩
theorem nil_nt (w : World) : Nt w none 0 0 [] := ⟨⟨rfl, Limbs.nil, fun h => absurd h (by decide)⟩, rfl, by omega, by omega⟩
theorem is3_nil (w : World) : Calls Tryd.prog 6 #[.agg #[.slice none 0 0], .slice none 0 0] w fun e w' => e = .returned (.bool true) ∧ Below w.heap.size w w' :=
  is3_ok none none 0 0 0 0 [] [] w (nil_nt w) ⟨rfl, Limbs.nil, fun h => absurd h (by decide)⟩ rfl rfl (Nat.le_refl _) (fun _ => ⟨rfl, rfl⟩)
theorem parse_bad3 (b : Int) (hb : b < 2 ∨ 36 < b) (s : ByteArray) (w : World) :
    Calls Tryd.prog 5 #[.string s, .int .i64 b] w fun e W' => e = .returned (.tuple #[.agg #[.slice none 0 0], .int .i64 0, .int .i64 30]) ∧ Below w.heap.size w W' := by
  have hI : ∀ W, Calls Tryd.prog 11 #[.int .i64 b] W fun e W' => e = .returned (.bool false) ∧ W' = W := fun W => by
    rcases hb with hb | hb
    · go_enter Tryd.func11, Tryd.ntmps11
      go_wp2_with fail
      go_ret
      exact ⟨rfl, rfl⟩
    · have h1 : ¬ b < 2 := by omega
      have h3 : ¬ b ≤ 36 := by omega
      go_enter Tryd.func11, Tryd.ntmps11
      go_wp2_with fail
      go_ret
      exact ⟨by first | rfl | simp [h3], rfl⟩
  go_enter Tryd.func5, Tryd.ntmps5
  go_wp2_with fail
  refine ent1 w _ _ (Q := fun W => Calls Tryd.prog _ _ W _) ?_
  intro w0 B0 hs V0
  refine (hI w0).mono ?_
  rintro e w' ⟨rfl, rfl⟩
  have c0 := V0.cell
  have f0 := V0.frozen 0
  have l0 := V0.lt
  have m0 := Nat.le_of_lt l0
  have B1 := B0.setCell (p := ⟨w.heap.size, 0, none⟩) (Nat.le_refl _) (.slice none 0 0)
  go_wp2_with fail
  refine bodyPost_ret (results_ctt rfl rfl (V0.set _)) rfl ?_
  exact ⟨rfl, B1⟩
/-- One place alone is the first that is no digit. -/
theorem first_one {b : Nat} {s : List UInt8} {k k' : Nat} (hk : k < s.length) (hk' : k' < s.length) (h1 : Dig b (s.take k)) (h2 : b ≤ wv (s.getD k 0)) (h1' : Dig b (s.take k')) (h2' : b ≤ wv (s.getD k' 0)) : k = k' := by
  have key : ∀ {i j : Nat}, i < j → i < s.length → j ≤ s.length → Dig b (s.take j) → b ≤ wv (s.getD i 0) → False := by
    intro i j hij hi hj hd hw
    have hm : s.getD i 0 ∈ s.take j := by
      rw [List.getD_eq_getElem?_getD, List.getElem?_eq_getElem hi]
      exact List.mem_take_iff_getElem.2 ⟨i, by omega, rfl⟩
    have := hd _ hm
    omega
  rcases Nat.lt_trichotomy k k' with h | h | h
  · exact (key h hk (by omega) h1' h2).elim
  · exact h
  · exact (key h hk' (by omega) h1 h2').elim
theorem dig_at {b : Nat} {s : List UInt8} {k : Nat} (hk : k < s.length) (h : Dig b s) (h2 : b ≤ wv (s.getD k 0)) : False := by
  have := h (s.getD k 0) (by rw [List.getD_eq_getElem?_getD, List.getElem?_eq_getElem hk]; exact List.getElem_mem hk)
  omega
/-- Both answers agree: the same place, the same error, and numbers that are one. -/
def Both (w1 w2 : World) (e1 e2 : Ending) : Prop :=
  ∃ a l c zs b m d ys at_ er, e1 = .returned (.tuple #[.slice b m d, .int .i64 at_, .int .i64 er]) ∧ e2 = .returned (.tuple #[.agg #[.slice a l c], .int .i64 at_, .int .i64 er]) ∧ Nt w2 a l c zs ∧ Sl w1 b m ys ∧ usedN ys = m ∧ num ys = num zs ∧ m ≤ d ∧ (b = none → m = 0 ∧ d = 0)
theorem both_nil (w1 w2 : World) (k er : Int) : Both w1 w2 (.returned (.tuple #[.slice none 0 0, .int .i64 k, .int .i64 er])) (.returned (.tuple #[.agg #[.slice none 0 0], .int .i64 k, .int .i64 er])) :=
  ⟨none, 0, 0, [], none, 0, 0, [], k, er, rfl, rfl, nil_nt w2, ⟨rfl, Limbs.nil, fun h => absurd h (by decide)⟩, rfl, rfl, Nat.le_refl _, fun _ => ⟨rfl, rfl⟩⟩
theorem both_of {b : Nat} {s : List UInt8} {w w1 w2 : World} {e1 e2 : Ending} (hd : PdR b s w w1 e1) (hp : PsR b ⟨s.toArray⟩ w2 e2) : Both w1 w2 e1 e2 := by
  have hsz := bsize3 s
  have hl : (ByteArray.mk s.toArray).data.toList = s := by simp
  unfold PsR at hp
  rw [hl] at hp
  rcases hd with ⟨h1, rfl⟩ | ⟨h1, hd⟩
  · rcases hp with ⟨-, rfl⟩ | ⟨h2, -⟩
    · exact both_nil _ _ _ _
    · omega
  · rcases hp with ⟨h2, -⟩ | ⟨-, hp⟩
    · omega
    · rcases hd with ⟨h0, rfl⟩ | ⟨h0, hdg, hd⟩ | ⟨k, hk, rfl, hk1, hk2⟩
      · rcases hp with ⟨-, rfl⟩ | ⟨g0, -⟩ | ⟨k', hk', -⟩
        · exact both_nil _ _ _ _
        · omega
        · omega
      · rcases hp with ⟨g0, -⟩ | ⟨-, hdg', er, a, l, c, zs, rfl, hnt, had⟩ | ⟨k', hk', -, -, hk2'⟩
        · omega
        · rcases hd with ⟨hlt, b', m, d, ys, rfl, hmd, hs, hu, hn, hnil⟩ | ⟨hge, rfl⟩
          · rcases had with ⟨rfl, hv, -⟩ | ⟨-, -, -, -, -, hge⟩
            · exact ⟨a, l, c, zs, b', m, d, ys, 0, 0, rfl, rfl, hnt, hs, hu, by rw [hn, hv], hmd, hnil⟩
            · exact absurd hlt (Int.not_lt.2 hge)
          · rcases had with ⟨-, -, hlt⟩ | ⟨rfl, rfl, rfl, rfl, rfl, -⟩
            · exact absurd hlt (Int.not_lt.2 hge)
            · exact both_nil _ _ _ _
        · rw [byte_at3 s k' (by omega)] at hk2'
          exact (dig_at (by omega) hdg hk2').elim
      · rcases hp with ⟨g0, -⟩ | ⟨-, hdg', -⟩ | ⟨k', hk', rfl, hk1', hk2'⟩
        · omega
        · exact (dig_at hk hdg' hk2).elim
        · rw [byte_at3 s k' (by omega)] at hk2'
          have e := first_one hk (show k' < s.length by omega) hk1 hk2 hk1' hk2'
          subst e
          exact both_nil _ _ _ _
theorem pdr_shape {b : Nat} {s : List UInt8} {w w1 : World} {e1 : Ending} (h : PdR b s w w1 e1) : ∃ b' m d k er, e1 = .returned (.tuple #[.slice b' m d, .int .i64 k, .int .i64 er]) ∧ m ≤ d ∧ (b' = none → m = 0 ∧ d = 0) := by
  rcases h with ⟨h1, rfl⟩ | ⟨h1, ⟨h0, rfl⟩ | ⟨h0, hdg, ⟨hlt, b', m, d, ys, rfl, hmd, hs, hu, hn, hnil⟩ | ⟨hge, rfl⟩⟩ | ⟨k, hk, rfl, hk1, hk2⟩⟩
  · exact ⟨none, 0, 0, _, _, rfl, Nat.le_refl _, fun _ => ⟨rfl, rfl⟩⟩
  · exact ⟨none, 0, 0, _, _, rfl, Nat.le_refl _, fun _ => ⟨rfl, rfl⟩⟩
  · exact ⟨b', m, d, _, _, rfl, hmd, hnil⟩
  · exact ⟨none, 0, 0, _, _, rfl, Nat.le_refl _, fun _ => ⟨rfl, rfl⟩⟩
  · exact ⟨none, 0, 0, _, _, rfl, Nat.le_refl _, fun _ => ⟨rfl, rfl⟩⟩
/-- What the program answers, where the document's answer is told. -/
def Ans (b' : Option Addr) (m : Nat) (k er : Int) (w1 W : World) (e2 : Ending) (w2 : World) : Prop :=
  ∃ a l c zs ys, e2 = .returned (.tuple #[.agg #[.slice a l c], .int .i64 k, .int .i64 er]) ∧ Nt w2 a l c zs ∧ Sl w1 b' m ys ∧ usedN ys = m ∧ num ys = num zs ∧ Below W.heap.size W w2
def Fst (s : List UInt8) (b : Int) (w : World) (e1 : Ending) (w1 : World) : Prop :=
  ∃ b' m d k er, e1 = .returned (.tuple #[.slice b' m d, .int .i64 k, .int .i64 er]) ∧ m ≤ d ∧ (b' = none → m = 0 ∧ d = 0) ∧ Below w.heap.size w w1 ∧ ∀ W, Calls Tryd.prog 5 #[.string ⟨s.toArray⟩, .int .i64 b] W fun e2 w2 => Ans b' m k er w1 W e2 w2
theorem fst_any (s : List UInt8) (b : Int) (w : World) (hs : s.length ≤ 140737488351232) : Calls Tryd.prog 4 #[.string ⟨s.toArray⟩, .int .i64 b] w fun e1 w1 => Fst s b w e1 w1 := by
  by_cases hb : b < 2 ∨ 36 < b
  · refine (rparse3_bad b hb s w).mono ?_
    rintro e w1 ⟨rfl, rfl⟩
    refine ⟨none, 0, 0, 0, 30, rfl, Nat.le_refl _, fun _ => ⟨rfl, rfl⟩, Below.refl _ _, fun W => (parse_bad3 b hb _ W).mono ?_⟩
    rintro e w2 ⟨rfl, hb2⟩
    exact ⟨none, 0, 0, [], [], rfl, nil_nt w2, ⟨rfl, Limbs.nil, fun h => absurd h (by decide)⟩, rfl, rfl, hb2⟩
  · obtain ⟨B, rfl⟩ : ∃ B : Nat, b = B := ⟨b.toNat, by omega⟩
    refine (rparse3 B (by omega) (by omega) s w hs).mono ?_
    rintro e1 w1 ⟨hd, hb1⟩
    obtain ⟨b', m, d, k, er, he, hmd, hnil⟩ := pdr_shape hd
    refine ⟨b', m, d, k, er, he, hmd, hnil, hb1, fun W => (parse_b B (by omega) (by omega) _ W).mono ?_⟩
    rintro e2 w2 ⟨hp, hb2⟩
    obtain ⟨a, l, c, zs, b2, m2, d2, ys, k2, er2, g1, g2, hnt, hsl, hu, hn, -, -⟩ := both_of hd hp
    rw [he] at g1
    simp only [Ending.returned.injEq, Value.tuple.injEq, Array.mk.injEq, List.cons.injEq, Value.slice.injEq, Value.int.injEq, and_true, true_and] at g1
    obtain ⟨⟨rfl, rfl, rfl⟩, rfl, rfl⟩ := g1
    exact ⟨a, l, c, zs, ys, g2, hnt, hsl, hu, hn, hb2⟩
set_option maxHeartbeats 2000000 in
set_option maxRecDepth 20000 in
theorem nparses_walk (s : List UInt8) (b : Int) (w : World) (hs : s.length ≤ 140737488351232) (hT : Tb w) :
    Calls Tryd.prog 3 #[.string ⟨s.toArray⟩, .int .i64 b] w fun e w' => e = .returned (.bool true) ∧ Below w.heap.size w w' := by
  have c1 := fst_any s b w hs
  have HT : Hid (Tb w) := hT
  clear hT
  go_enter Tryd.func3, Tryd.ntmps3
  go_wp2_with fail
  go_at_call 4
  refine c1.mono ?_
  rintro e1 w1 ⟨b', m, d, k, er, rfl, hmd, hnil, hb1, c2⟩
  have HB1 : Hid (Below w.heap.size w w1) := hb1
  have HC2 : Hid (∀ W, Calls Tryd.prog 5 #[.string ⟨s.toArray⟩, .int .i64 b] W fun e2 w2 => Ans b' m k er w1 W e2 w2) := c2
  clear hb1 c2 c1
  go_wp2_with fail
  go_at_call 5
  refine (HC2.out _).mono ?_
  rintro e2 w2 ⟨a, l, c, zs, ys, rfl, hnt, hsl, hu, hn, hb2⟩
  have HB2 : Hid (Below w.heap.size w w2) := step HB1.out hb2
  have hsl2 := hsl.below hb2 (Nat.le_refl _)
  clear hb2 hsl HC2
  go_wp2_with fail
  have al : Below w2.heap.size w2 (w2.alloc (Obj.cells #[.slice a l c] 26)) := (Below.refl _ _).alloc (Nat.le_refl _) _
  have is_ := is3_ok a b' l c m d zs ys _ (Nt.after al hnt) (hsl2.below al (Nat.le_refl _)) hu hn hmd hnil
  have HB3 : Hid (Below w.heap.size w (w2.alloc (Obj.cells #[.slice a l c] 26))) := step HB2.out al
  clear al hnt hsl2 hu hn hnil HB1 HB2
  refine is_.mono ?_
  rintro e w3 ⟨rfl, hb3⟩
  have HB4 : Hid (Below w.heap.size w w3) := step HB3.out hb3
  clear hb3 is_ HB3
  go_wp2_with fail
  go_at_call 7
  refine (awake3 _ (HT.out.to HB4.out)).mono ?_
  rintro e w4 ⟨rfl, hb4⟩
  have HB5 : Hid (Below w.heap.size w w4) := step HB4.out hb4
  clear hb4
  go_wp2_with fail
  go_ret
  exact ⟨rfl, HB5.out⟩
end Go.Proofs.YtlcopgmkgphodaaDoor
namespace Go.Proofs.YtlcopgmkgphodaaDoor
set_option linter.unusedVariables false
theorem numeralParses_walk0 (s : ByteArray) (b : Int) (w : World) (ws : s.data.toList.length ≤ 140737488351232) (wb : (Lit.int .i64 b).wf = true) (hP : Pt w) (hZ : Tz w) :
    Calls Tryd.prog 3 #[.string s, .int .i64 b] w fun e w' => e = .returned (.bool true) ∧ Go.RowKit.Below w.heap.size w w' := by
  have h := nparses_walk s.data.toList b w ws ⟨hP, hZ⟩
  rw [show (⟨s.data.toList.toArray⟩ : ByteArray) = s by simp] at h
  exact h
end Go.Proofs.YtlcopgmkgphodaaDoor
namespace Go.Proofs.YtlcopgmkgphodaaDoor.numeralParses
open Go.ChangeShapes Go.WideShapes Go.ChangeAt Go.RowKit
set_option linter.unusedVariables false

theorem own : ownKnob Tryd.prog.godebug = none := by kernel_rfl
theorem laidOut : laidOutB Tryd.prog = true := by kernel_rfl
theorem bytes8 : Tryd.prog.bytesOf 34 = 8 := by kernel_rfl

set_option maxRecDepth 100000 in
theorem contract (H : Type) (enc : TypeId × Value → H) (W : World) (base : Nat) (args : Array Value) (ds gs : List (DataW H)) (before : List MemPlace)
    (hval : ∀ (j : Nat) t v, Tryd.f3.params[j]? = some t → args[j]? = some v → Value.okWide Tryd.prog W .any base t v)
    (hW : DataW.Whole enc Tryd.prog Tryd.f3.params.toList Rows.numeralParsesSpec.vars false W args.toList ds gs before) (hsz : (DataW.weightsEach Tryd.prog (Tryd.f3.params.toList ++ Rows.numeralParsesSpec.plain.varTypes Tryd.prog) (ds ++ gs)).all (· ≤ reachBytes) = true) (hL0 : laidMetH Tryd.prog Rows.numeralParsesRow.laid W) :
    Calls Tryd.prog 3 args W fun e W' => ∃ v, e = .returned v ∧ Rows.numeralParsesSpec.post enc Tryd.prog Tryd.f3 false true false false W args v W' := by
  rw [MakeChecks.laidMetH_plain _ _ _ (by kernel_rfl)] at hL0
  have tb0 := by first | exact ptOf hL0 | exact ptOf hL0.tail | exact ptOf hL0.tail.tail | exact ptOf hL0.tail.tail.tail | exact ptOf hL0.tail.tail.tail.tail | exact ptOf hL0.tail.tail.tail.tail.tail | exact ptOf hL0.tail.tail.tail.tail.tail.tail | exact ptOf hL0.tail.tail.tail.tail.tail.tail.tail
  have tb1 := by first | exact tzOf hL0 | exact tzOf hL0.tail | exact tzOf hL0.tail.tail | exact tzOf hL0.tail.tail.tail | exact tzOf hL0.tail.tail.tail.tail | exact tzOf hL0.tail.tail.tail.tail.tail | exact tzOf hL0.tail.tail.tail.tail.tail.tail | exact tzOf hL0.tail.tail.tail.tail.tail.tail.tail
  have hW' := hW
  obtain ⟨p, q, hA0, hV, rfl, hfz, hnd⟩ := hW
  have hA : DataW.TrodAll enc Tryd.prog W 0 (fun _ => true) true Tryd.f3.params.toList args.toList ds p := hA0
  rw [Tryd.params3] at hA hval hsz
  obtain ⟨v0, vs0, d0, ds0, p0, q0, hargs, rfl, rfl, h0, r0⟩ := trodAll_cons hA
  obtain ⟨v1, vs1, d1, ds1, p1, q1, rfl, rfl, rfl, h1, r1⟩ := trodAll_cons r0
  obtain ⟨rfl, rfl, rfl⟩ := trodAll_nil r1
  obtain rfl : args = #[v0, v1] := by cases args; simp_all
  obtain ⟨rfl, rfl⟩ := trodVars_none hV
  obtain ⟨s0, rfl, rfl, rfl, hs0⟩ := Go.ChangeMaps.open_string Tryd.underlying9 (hval 0 9 v0 rfl rfl) h0
  have b0 : s0.data.toList.length ≤ 140737488351232 := by have := sized_string hsz (j := 0) (t := 9) rfl rfl; simpa [reachBytes] using this
  obtain ⟨a1, rfl, rfl, rfl, w1⟩ := open_int Tryd.underlying3 (hval 1 3 v1 rfl rfl) h1
  clear hA0
  refine (numeralParses_walk0 s0 a1 W b0 w1 tb0 tb1).mono fun e W' ⟨he, bel⟩ => ?_
  subst he
  exact ⟨_, rfl, _, _, _, [], _, [], hW', trodAll_mk1 (shut_bool Tryd.underlying4 _), (trodAll_cons_mk (Go.ChangeMaps.shut_string Tryd.underlying9 hs0) (trodAll_cons_mk (shut_int Tryd.underlying3 w1) trodAll_mk0)), rfl, bel.frame _, fun h => by cases h⟩

set_option maxRecDepth 100000 in
theorem lifted (os : Os) (started : os.Started) (H : Type) (enc : TypeId × Value → H) :
    ReturnsInHanded {} Tryd.checked os 3 .any (fun w args => (Rows.numeralParsesSpec.pre enc Tryd.prog Tryd.f3 [] false w args ∧ laidMetH Tryd.prog Rows.numeralParsesRow.laid w) ∧ sizedMet enc Tryd.prog Tryd.f3 (OpenSpec.ofChange Rows.numeralParsesSpec) false w args)
      (Rows.numeralParsesSpec.post enc Tryd.prog Tryd.f3 false true false false) := by
  refine returnsInHanded_of_change_and (C := Tryd.checked) (X := fun w _ => laidMetH Tryd.prog Rows.numeralParsesRow.laid w) (fun _ _ _ hh h => h.of_heap hh) own started (by kernel_rfl) Tryd.func3
    (ChangeSpec.witness_shaped (enc := enc) (C := Tryd.checked) (os := os) (X := fun w _ => laidMetH Tryd.prog Rows.numeralParsesRow.laid w) false (World.laidAll Tryd.prog os Rows.numeralParsesRow.laid) #[.string ⟨#[]⟩, .int .i64 0] 8 (World.laidAll_os _ _ _)
      (World.shaped_of_ZipB (by kernel_rfl) (by kernel_rfl)) (by kernel_rfl) (by kernel_rfl) (by kernel_rfl)
      (by rw [MakeChecks.laidMetH_plain _ _ _ (by kernel_rfl)]; exact laidMet_laidAll _ (by kernel_rfl) (by kernel_rfl))) ?_
  intro W base args ds gs before hval0 hW _ hsz0 hL _
  exact contract H enc W base args ds gs before hval0 hW hsz0 hL

theorem over : Rows.numeralParsesRow.holds Tryd.pinned (OpenSpec.ofChange Rows.numeralParsesSpec) :=
  OpenClaim.holds_of_wide 3 Tryd.f3 rfl rfl rfl rfl rfl rfl rfl ⟨rfl, rfl, rfl, rfl, rfl⟩ rfl rfl rfl rfl rfl (by kernel_rfl) Tryd.func3 (by kernel_rfl)
    (of_decide_eq_true (by kernel_rfl)) (by unfold Func.isWrapper; first | (rw [if_pos (by decide +kernel)]; kernel_rfl) | (rw [if_neg (by decide +kernel)]; exact ⟨rfl, rfl⟩))
    (fun os started H enc _ => lifted os started H enc)
end Go.Proofs.YtlcopgmkgphodaaDoor.numeralParses
namespace Go.Proofs.YtlcopgmkgphodaaDoor
theorem numeralParses_plain (f : FuncId) (fn : Func) (hf : Tryd.pinned.checked.prog.funcNamed "tollbook/tollbooklaw03.NumeralParses" = some f) (hfn : Tryd.pinned.checked.prog.funcs[f]? = some fn) :
    false = Tryd.pinned.checked.prog.looks [] ∧ ∀ (j : Nat) t, fn.params[j]? = some t → Tryd.pinned.checked.prog.wantsStandIn t = false := by
  obtain rfl : f = 3 := Option.some.inj ((show Tryd.prog.funcNamed "tollbook/tollbooklaw03.NumeralParses" = some 3 by kernel_rfl).symm.trans hf) |>.symm
  obtain rfl : fn = Tryd.f3 := (Option.some.inj (Tryd.func3.symm.trans hfn)).symm
  refine ⟨by kernel_rfl, fun j t ht => ?_⟩
  rw [Tryd.params3] at ht
  have hm : t ∈ [9, 3] := by have := Array.mem_of_getElem? ht; simp at this; simp; omega
  have hall : ([9, 3].all fun u => !Tryd.prog.wantsStandIn u) = true := by kernel_rfl
  exact (show Tryd.prog.wantsStandIn t = false by simpa using List.all_eq_true.1 hall t hm)
theorem numeralParsesCard_holds : Rows.NumeralParsesCardSaid :=
  Claim7.holds_tied_plain_at .later [] _ _ _ _ numeralParses.over (fun _ h => by cases h) (by kernel_rfl) (fun _ h => by cases h) numeralParses_row_tie rfl ⟨rfl, rfl⟩ (by kernel_rfl) rfl numeralParses_plain (by kernel_rfl)
#print axioms numeralParsesCard_holds
end Go.Proofs.YtlcopgmkgphodaaDoor
