/-
  The walk of TraitPlains.
-/
import Derived.Test.YtblafbbnplfpjaaGreatDoorMgAq
import Derived.Test.YtblafbbnplfpjaaGreatDoorMgAr
import Derived.Test.YtblafbbnplfpjaaGreatDoorCards
import Derived.ProofKit
import Derived.OpenShut
import Derived.ShutString
import Derived.ChangeOld
import Derived.SizedLaws
import Derived.SliceStrings
import Derived.Deep.Slices
import Derived.Lib.SmallJoins
import Derived.Lib.LaidTab
import Derived.Stop.LaidErr
namespace Go.Proofs.YtblafbbnplfpjaaGreatDoor
open Go.RowKit Go.Shelf
set_option linter.unusedVariables false
set_option linter.unusedSimpArgs false

/-- What both forms of Names tell. -/
def NmR (ns : List Nd) (b l : List (List UInt8)) (er : Int) : Prop := (Cond wdB ns ∧ b = srt (nms 4 ns) ∧ l = srt (nms 5 ns) ∧ er = 0) ∨ (¬ Cond wdB ns ∧ b = [] ∧ l = [] ∧ er = 131)
def NmE (ns : List Nd) (w : World) (e : Ending) (w' : World) : Prop := ∃ b l er a1 c1 a2 c2, e = .returned (.tuple #[.slice a1 b.length c1, .slice a2 l.length c2, .int .i64 er]) ∧ NmR ns b l er ∧ Le elS w' a1 b.length b ∧ Le elS w' a2 l.length l ∧ Below w.heap.size w w'
theorem nmR_same {ns : List Nd} {b l b' l' : List (List UInt8)} {er er' : Int} (h : NmR ns b l er) (k : NmR ns b' l' er') : b = b' ∧ l = l' ∧ er = er' := by
  rcases h with ⟨h, rfl, rfl, rfl⟩ | ⟨h, rfl, rfl, rfl⟩ <;> rcases k with ⟨k, rfl, rfl, rfl⟩ | ⟨k, rfl, rfl, rfl⟩
  · exact ⟨rfl, rfl, rfl⟩
  · exact absurd h k
  · exact absurd k h
  · exact ⟨rfl, rfl, rfl⟩
theorem srt_lenP (l : List (List UInt8)) : (srt l).length ≤ l.length := by
  unfold srt
  refine Nat.le_trans (compact_le _) ?_
  rw [List.length_mergeSort]; exact Nat.le_refl _
theorem nmR_len {ns : List Nd} {b l : List (List UInt8)} {er : Int} (h : NmR ns b l er) : b.length ≤ 64 ∧ l.length ≤ 64 := by
  rcases h with ⟨h, rfl, rfl, -⟩ | ⟨-, rfl, rfl, -⟩
  · have hl : ns.length ≤ 64 := by
      rcases h with rfl | h
      · simp
      · exact h.1
    have h3 : ∀ c, (nms c ns).length ≤ 64 := fun c => by
      unfold nms
      rw [List.length_map]
      exact Nat.le_trans (List.length_filter_le _ _) hl
    exact ⟨Nat.le_trans (srt_lenP _) (h3 4), Nat.le_trans (srt_lenP _) (h3 5)⟩
  · simp
theorem names_both (ns : List Nd) (a : Option Addr) (cap : Nat) (w : World) (hL : Le elN w a ns.length ns) (h64 : ∀ n ∈ ns, N64 n) : Calls Tryz.prog 19 #[.slice a ns.length cap] w (NmE ns w) := by
  by_cases hc : Cond wdB ns
  · exact (names_ok ns a cap w hL h64 hc).mono fun e w' ⟨a1, c1, a2, c2, h1, h2, h3, h4⟩ => ⟨_, _, 0, a1, c1, a2, c2, h1, .inl ⟨hc, rfl, rfl, rfl⟩, h2, h3, h4⟩
  · exact (names_noP ns a cap w hL h64 hc).mono fun e w' ⟨h1, h2⟩ => ⟨[], [], 131, none, 0, none, 0, h1, .inr ⟨hc, rfl, rfl, rfl⟩, Le.nil _ _, Le.nil _ _, h2⟩
theorem rnames_both (ns : List Nd) (a : Option Addr) (cap : Nat) (w : World) (hL : Le elN w a ns.length ns) (h64 : ∀ n ∈ ns, N64 n) : Calls Tryz.prog 20 #[.slice a ns.length cap] w (NmE ns w) := by
  refine (rNames_any ns a cap w hL h64).mono ?_
  rintro e w' (⟨hc, a1, c1, a2, c2, h1, h2, h3, h4⟩ | ⟨hc, h1, h2⟩)
  · exact ⟨_, _, 0, a1, c1, a2, c2, h1, .inl ⟨hc, rfl, rfl, rfl⟩, h2, h3, h4⟩
  · exact ⟨[], [], 131, none, 0, none, 0, h1, .inr ⟨hc, rfl, rfl, rfl⟩, Le.nil _ _, Le.nil _ _, h2⟩
set_option maxRecDepth 20000 in
set_option maxHeartbeats 16000000 in
theorem traitPlains_walk (ns : List Nd) (xa : Option Addr) (ca : Nat) (w : World) (hA : Le elN w xa ns.length ns) (h6 : ∀ n ∈ ns, N64 n) (hn : xa = none → ns.length = 0 ∧ ca = 0) (hl : ns.length ≤ 5000000000000) (hT : Tn w) :
    Calls Tryz.prog 5 #[.slice xa ns.length ca] w fun e w' => e = .returned (.bool true) ∧ Below w.heap.size w w' := by
  have HA : Hid (Le elN w xa ns.length ns) := hA
  have H6 : Hid (∀ n ∈ ns, N64 n) := h6
  have HT : Hid (Tn w) := hT
  have HN : Hid (ns.length ≤ 5000000000000) := hl
  have D1 := lentN_any xa ns.length ca ns w hA hn hl
  clear hA h6 hT hn hl
  go_enter Tryz.func5, Tryz.ntmps5
  go_wp2_with fail
  refine D1.mono ?_
  rintro e W1 ⟨rfl, hv, hb⟩
  obtain ⟨g, hg⟩ : ∃ g, w.heap.size = g := ⟨_, rfl⟩
  have HO1 : Hid (Va W1 g 48 (rowE elN (ns ++ mkE mkN 12)).toArray) := by rw [← hg]; exact hv
  have HB1 : Hid (Below w.heap.size w W1) := hb
  rw [hg]
  clear D1 hv hb hg
  have D2 := plain13 ns (some ⟨g, 0, none⟩) (ns.length + 12) W1 (le_preE (E := elN) HO1.out) H6.out
  go_wp2_with fail
  refine D2.mono ?_
  rintro e W2 ⟨o2, a2, c2, e2, rfl, hg2, hp2, hb⟩
  have HO2 : Hid (Va W2 g 48 (rowE elN (ns ++ mkE mkN 12)).toArray) := HO1.out.after hb
  have HB2 : Hid (Below w.heap.size w W2) := step HB1.out hb
  have HL2 : Hid (Le elN W2 a2 o2.length o2) := hg2.toLe
  have HP2 : Hid (PlR ns o2 e2) := hp2
  clear D2 hg2 hp2 hb HO1 HB1
  have D3 := rPlain_any ns xa ca W2 (HA.out.after HB2.out) H6.out
  go_wp2_with fail
  refine D3.mono ?_
  rintro e W3 ⟨o3, a3, c3, e3, rfl, hg3, hp3, hb⟩
  obtain ⟨rfl, rfl⟩ := plR_same HP2.out hp3
  have HO3 : Hid (Va W3 g 48 (rowE elN (ns ++ mkE mkN 12)).toArray) := HO2.out.after hb
  have HB3 : Hid (Below w.heap.size w W3) := step HB2.out hb
  have HL3 : Hid (Le elN W3 a2 o2.length o2) := HL2.out.after hb
  have HM3 : Hid (Le elN W3 a3 o2.length o2) := hg3.toLe
  clear D3 hg3 hp3 hb HO2 HB2 HL2
  have D4 := names_both ns (some ⟨g, 0, none⟩) (ns.length + 12) W3 (le_preE (E := elN) HO3.out) H6.out
  go_wp2_with fail
  refine D4.mono ?_
  rintro e W4 ⟨b4, l4, e4, a4, c4, a5, c5, rfl, hr4, hb4, hl4, hb⟩
  have HO4 : Hid (Va W4 g 48 (rowE elN (ns ++ mkE mkN 12)).toArray) := HO3.out.after hb
  have HB4 : Hid (Below w.heap.size w W4) := step HB3.out hb
  have HL4 : Hid (Le elN W4 a2 o2.length o2) := HL3.out.after hb
  have HM4 : Hid (Le elN W4 a3 o2.length o2) := HM3.out.after hb
  have HX4 : Hid (Le elS W4 a4 b4.length b4 ∧ Le elS W4 a5 l4.length l4) := ⟨hb4, hl4⟩
  have HR4 : Hid (NmR ns b4 l4 e4) := hr4
  clear D4 hr4 hb4 hl4 hb HO3 HB3 HL3 HM3
  have D5 := rnames_both ns xa ca W4 (HA.out.after HB4.out) H6.out
  go_wp2_with fail
  refine D5.mono ?_
  rintro e W5 ⟨b5, l5, e5, a6, c6, a7, c7, rfl, hr5, hb5, hl5, hb⟩
  obtain ⟨rfl, rfl, rfl⟩ := nmR_same HR4.out hr5
  have HO5 : Hid (Va W5 g 48 (rowE elN (ns ++ mkE mkN 12)).toArray) := HO4.out.after hb
  have HB5 : Hid (Below w.heap.size w W5) := step HB4.out hb
  have HL5 : Hid (Le elN W5 a2 o2.length o2) := HL4.out.after hb
  have HM5 : Hid (Le elN W5 a3 o2.length o2) := HM4.out.after hb
  have HX5 : Hid (Le elS W5 a4 b4.length b4 ∧ Le elS W5 a5 l4.length l4) := ⟨HX4.out.1.after hb, HX4.out.2.after hb⟩
  have HY5 : Hid (Le elS W5 a6 b4.length b4 ∧ Le elS W5 a7 l4.length l4) := ⟨hb5, hl5⟩
  have q2 : (e2 == e2) = true := by simp
  have q4 : (e4 == e4) = true := by simp
  have D6 := sameNodesL o2 a2 c2 a3 c3 W5 HL5.out HM5.out (by have := plR_len HP2.out; omega)
  clear D5 hr5 hb5 hl5 hb HO4 HB4 HL4 HM4 HX4
  go_wp2_with fail
  refine D6.mono ?_
  rintro e W6 ⟨rfl, hb⟩
  have D7 := sameTextsL b4 a4 c4 a6 c6 W6 (HX5.out.1.after hb) (HY5.out.1.after hb) (by have := (nmR_len HR4.out).1; omega)
  have HX6 : Hid (Le elS W6 a5 l4.length l4 ∧ Le elS W6 a7 l4.length l4) := ⟨HX5.out.2.after hb, HY5.out.2.after hb⟩
  have HO6 : Hid (Va W6 g 48 (rowE elN (ns ++ mkE mkN 12)).toArray) := HO5.out.after hb
  have HB6 : Hid (Below w.heap.size w W6) := step HB5.out hb
  clear D6 hb HX5 HY5 HO5 HB5 HL5 HM5
  go_wp2_with fail
  refine D7.mono ?_
  rintro e W7 ⟨rfl, hb⟩
  have D8 := sameTextsL l4 a5 c5 a7 c7 W7 (HX6.out.1.after hb) (HX6.out.2.after hb) (by have := (nmR_len HR4.out).2; omega)
  have HO7 : Hid (Va W7 g 48 (rowE elN (ns ++ mkE mkN 12)).toArray) := HO6.out.after hb
  have HB7 : Hid (Below w.heap.size w W7) := step HB6.out hb
  clear D7 hb HX6 HO6 HB6
  go_wp2_with fail
  refine D8.mono ?_
  rintro e W8 ⟨rfl, hb⟩
  have HB8 : Hid (Below w.heap.size w W8) := step HB7.out hb
  have D9 := keptN_any xa ns.length ca g ns W8 (HA.out.after HB8.out) (HO7.out.after hb) HN.out
  clear D8 hb HO7 HB7
  go_wp2_with fail
  refine D9.mono ?_
  rintro e W9 ⟨rfl, hb⟩
  have HB9 : Hid (Below w.heap.size w W9) := step HB8.out hb
  have D10 := awake13 W9 (HT.out.to HB9.out)
  clear D9 hb HB8
  go_wp2_with fail
  refine D10.mono ?_
  rintro e W10 ⟨rfl, hb⟩
  have HB10 : Hid (Below w.heap.size w W10) := step HB9.out hb
  clear D10 hb
  go_wp2_with fail
  go_ret
  exact ⟨rfl, HB10.out⟩
end Go.Proofs.YtblafbbnplfpjaaGreatDoor
namespace Go.Proofs.YtblafbbnplfpjaaGreatDoor
open Go.RowKit Go.Shelf
set_option linter.unusedVariables false

end Go.Proofs.YtblafbbnplfpjaaGreatDoor
namespace Go.Proofs.YtblafbbnplfpjaaGreatDoor
open Go.RowKit Go.Shelf
set_option linter.unusedVariables false

end Go.Proofs.YtblafbbnplfpjaaGreatDoor
namespace Go.Proofs.YtblafbbnplfpjaaGreatDoor
open Go.ChangeShapes Go.WideShapes Go.ChangeAt Go.RowKit
set_option linter.unusedVariables false

theorem gTens : Tryz.prog.globalNamed "tollbook/decimal.tens" = some 0 := by kernel_rfl
theorem gTensT : (Tryz.prog.globals[0]?).map (·.type) = some 118 := by kernel_rfl
theorem cTens : Tryz.prog.cellsOf 118 = 10 := by kernel_rfl
theorem cI64 : Tryz.prog.cellsOf 2 = 1 := by kernel_rfl
theorem tnOf {W : World} {rest : List (String × DataW Unit)} (h : laidMet Tryz.prog (("tollbook/decimal.tens", Rows.laid_tollbook_decimal_tens) :: rest) W) : Tn W :=
  Go.Lib.tabIs_of_head (zs := [1, 10, 100, 1000, 10000, 100000, 1000000, 10000000, 100000000, 1000000000]) gTens gTensT Tryz.underlying118 Tryz.underlying2 cI64 cTens h
theorem list5 {α : Type} {l : List α} (h : l.length = 5) : ∃ a b c d e, l = [a, b, c, d, e] := by
  match l, h with
  | [a, b, c, d, e], _ => exact ⟨a, b, c, d, e, rfl⟩
theorem list6 {α : Type} {l : List α} (h : l.length = 6) : ∃ a b c d e f, l = [a, b, c, d, e, f] := by
  match l, h with
  | [a, b, c, d, e, f], _ => exact ⟨a, b, c, d, e, f, rfl⟩
theorem B64_of_wf {x : Int} (h : (Lit.int .i64 x).wf = true) : -9223372036854775808 ≤ x ∧ x ≤ 9223372036854775807 := by
  simp [Lit.wf, IntKind.min, IntKind.max, IntKind.signed, IntKind.bits] at h
  omega
instance : Inhabited Nd := ⟨nd0⟩
theorem cNode : Tryz.prog.cellsOf 48 = 6 := by kernel_rfl
section
variable {H : Type} {enc : TypeId × Value → H} {W : World} {sp : Nat → Bool} {hd : Bool}
theorem node_open {n : Nat} {cs : List Value} {y : DataW H × List MemPlace} (h2 : DataW.trod enc Tryz.prog W 0 sp hd n 48 cs = some y) : ∃ nd : Nd, cs = encN nd ∧ N64 nd := by
  obtain ⟨xs, k, _, _, hl, hxl, hf⟩ := DataW.trod_struct Tryz.underlying48 h2
  obtain ⟨v0, v1, v2, v3, v4, v5, rfl⟩ := list6 (hl.trans cNode)
  obtain ⟨y0, y1, y2, y3, y4, rfl⟩ := list5 hxl
  have g0 := hf 0 _ rfl
  have g1 := hf 1 _ rfl
  have g2 := hf 2 _ rfl
  have g3 := hf 3 _ rfl
  have g4 := hf 4 _ rfl
  have e1 : Tryz.prog.cellsOf 43 = 1 := by kernel_rfl
  have e2 : Tryz.prog.cellsOf 3 = 1 := by kernel_rfl
  have e3 : Tryz.prog.cellsOf 9 = 1 := by kernel_rfl
  have e4 : Tryz.prog.cellsOf 44 = 1 := by kernel_rfl
  have e5 : Tryz.prog.cellsOf 46 = 2 := by kernel_rfl
  simp [e1, e2, e3, e4, e5] at g0 g1 g2 g3 g4
  obtain ⟨kd, h0, -, w0⟩ := DataW.trod_int Tryz.underlying43 g0
  obtain ⟨ks, h1, -, w1⟩ := DataW.trod_int Tryz.underlying3 g1
  obtain ⟨nm, h2', -, -⟩ := DataW.trod_string Tryz.underlying9 g2
  obtain ⟨op, h3, -, w3⟩ := DataW.trod_int Tryz.underlying44 g3
  obtain ⟨xs5, k5, _, _, hl5, hxl5, hf5⟩ := DataW.trod_struct Tryz.underlying46 g4
  have q0 := hf5 0 _ rfl
  have q1 := hf5 1 _ rfl
  have e6 : Tryz.prog.cellsOf 2 = 1 := by kernel_rfl
  have hx5 : xs5.length = 2 := hxl5
  match xs5, hx5 with
  | [z0, z1], _ =>
    simp [e6, e2] at q0 q1
    obtain ⟨un, h4, -, w4⟩ := DataW.trod_int Tryz.underlying2 q0
    obtain ⟨pl, h5, -, w5⟩ := DataW.trod_int Tryz.underlying3 q1
    simp at h0 h1 h2' h3 h4 h5
    subst h0 h1 h2' h3 h4 h5
    refine ⟨⟨kd, ks, nm.data.toList, op, un, pl⟩, by simp [encN, sv], ?_⟩
    intro x hx
    simp only [List.mem_cons, List.not_mem_nil, or_false] at hx
    rcases hx with rfl | rfl | rfl | rfl | rfl
    · exact B64_of_wf w0
    · exact B64_of_wf w1
    · exact B64_of_wf w3
    · exact B64_of_wf w4
    · exact B64_of_wf w5
theorem open_nodes {a : Option Addr} {len cap : Nat} {d : DataW H} {p : List MemPlace} (h : DataW.Trod enc Tryz.prog W 0 sp hd 22 (.slice a len cap) d p) :
    ∃ ns : List Nd, Le elN W a len ns ∧ (∀ n ∈ ns, N64 n) := by
  obtain ⟨fuel, hf⟩ := h
  rcases Go.Deep.open_slice Tryz.underlying22 hf with ⟨hcs, _⟩ | ⟨ad, l, c, m, n, D, Pl, hcs, _, hl, hm, hmm, _, hx⟩
  · simp [Value.cells] at hcs
    obtain ⟨rfl, rfl, rfl⟩ := hcs
    exact ⟨[], Le.nil _ _, fun n hn => by simp at hn⟩
  · simp [Value.cells] at hcs
    obtain ⟨rfl, rfl, rfl⟩ := hcs
    have hlm : len ≤ m := by rw [hmm]; split <;> omega
    have each : ∀ i, i < len → ∃ nd : Nd, (∀ j u, (encN nd)[j]? = some u → W.cell? ((ad.add (i * 6)).add j) = some u) ∧ N64 nd := by
      intro i hi
      obtain ⟨cs', h1, h2⟩ := hx i (by omega)
      rw [cNode] at h1
      obtain ⟨nd, rfl, h6⟩ := node_open h2
      obtain ⟨_, hlen, hcell⟩ := World.cells?_some h1
      refine ⟨nd, fun j u hj => ?_, h6⟩
      have hj6 : j < 6 := by
        rcases Nat.lt_or_ge j 6 with h' | h'
        · exact h'
        · rw [List.getElem?_eq_none (by exact h')] at hj; cases hj
      have := hcell j hj6
      rw [this, hj]
    obtain ⟨Q, hQ⟩ := Go.Deep.choose_lt each
    refine ⟨(List.range len).map Q, ⟨by simp, fun h0 => ?_⟩, fun n hn => ?_⟩
    · obtain ⟨b, off, spot⟩ := ad
      have hspot : spot = none := by
        have := (hQ 0 h0).1 0 _ rfl
        simpa [Addr.add] using World.cell?_spot this
      subst hspot
      refine ⟨b, off, rfl, fun i u hu => ?_⟩
      have hlen : (rowE elN ((List.range len).map Q)).length = len * 6 := by rw [rowE_length]; simp; rfl
      have hi : i < len * 6 := by
        rcases Nat.lt_or_ge i (rowE elN ((List.range len).map Q)).length with h' | h'
        · omega
        · rw [List.getElem?_eq_none h'] at hu; cases hu
      have hq := rowE_get elN (i % 6) (Nat.mod_lt _ (by decide)) ((List.range len).map Q) (i / 6) (by simp; omega)
      rw [show i / 6 * elN.s + i % 6 = i by show i / 6 * 6 + i % 6 = i; omega, hu] at hq
      have hg : ((List.range len).map Q).getD (i / 6) elN.dft = Q (i / 6) := by simp [show i / 6 < len by omega]
      rw [hg] at hq
      have := (hQ (i / 6) (by omega)).1 (i % 6) u hq.symm
      rw [Go.WideShapes.add_plain, Go.WideShapes.add_plain] at this
      rw [← this]
      congr 2
      omega
    · simp only [List.mem_map, List.mem_range] at hn
      obtain ⟨i, hi, rfl⟩ := hn
      exact (hQ i hi).2
end
end Go.Proofs.YtblafbbnplfpjaaGreatDoor
namespace Go.Proofs.YtblafbbnplfpjaaGreatDoor
open Go.ChangeShapes Go.WideShapes Go.ChangeAt Go.RowKit
set_option linter.unusedVariables false

theorem bNode : Tryz.prog.bytesOf 48 = 56 := by kernel_rfl
section
variable {H : Type} {enc : TypeId × Value → H} {W : World} {sp : Nat → Bool} {hd : Bool}
theorem nodes_need {a : Option Addr} {len cap : Nat} {d : DataW H} {p : List MemPlace} {ts : List TypeId} {ds : List (DataW H)} {j : Nat} (h : DataW.Trod enc Tryz.prog W 0 sp hd 22 (.slice a len cap) d p)
    (hsz : (DataW.weightsEach Tryz.prog ts ds).all (· ≤ reachBytes) = true) (ht : ts[j]? = some 22) (hj : ds[j]? = some d) : (a = none → len = 0 ∧ cap = 0) ∧ len ≤ 5000000000000 := by
  obtain ⟨fuel, hf⟩ := h
  rcases Go.Deep.open_slice Tryz.underlying22 hf with ⟨hcs, _⟩ | ⟨ad, l, c, m, n, D, Pl, hcs, _, hl, hm, hmm, hx, _⟩
  · simp [Value.cells] at hcs
    obtain ⟨rfl, rfl, rfl⟩ := hcs
    exact ⟨fun _ => ⟨rfl, rfl⟩, by omega⟩
  · simp [Value.cells] at hcs
    obtain ⟨rfl, rfl, rfl⟩ := hcs
    have hd' : d = _ := congrArg Prod.fst hx
    have hs := sized_slice hsz (j := j) (t := 22) (e := 48) ht (by rw [hj, hd']) Tryz.underlying22
    rw [bNode] at hs
    refine ⟨fun h => (by cases h), ?_⟩
    simp only [List.length_map, List.length_range, reachBytes] at hs
    omega
end
end Go.Proofs.YtblafbbnplfpjaaGreatDoor
