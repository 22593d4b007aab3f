/-
  The walk of TraitPlain.
-/
import Derived.Test.YthladfhjhanhlaaGreatDoorMgAo
import Derived.Test.YthladfhjhanhlaaGreatDoorCards
import Derived.ProofKit
import Derived.OpenShut
import Derived.ShutString
import Derived.ChangeOld
import Derived.SizedLaws
import Derived.SliceStrings
import Derived.Deep.Slices
import Derived.Lib.SmallJoins
import Derived.Lib.LaidTab
import Derived.Stop.LaidErr
namespace Go.Proofs.YthladfhjhanhlaaGreatDoor
open Go.RowKit Go.Shelf
set_option linter.unusedVariables false

theorem n64_of_ok : ∀ (a : Fo) (o : Int) (d : Nat), a.Ok wdB o d → a.flat.length ≤ 64 → (∀ n ∈ a.flat, N64 n) → ∀ neg, ∀ n ∈ (a.plain neg).flat, N64 n
  | .nil, _, _, _, _, _, _, n, hn => by simp [Fo.plain, Fo.flat] at hn
  | .cons n k r, o, d, h, hl, h6, neg, m, hm => by
    simp only [Fo.flat, List.length_cons, List.length_append] at hl
    have hr := n64_of_ok r o d h.2 (by omega) (fun x hx => h6 x (by simp [Fo.flat, hx])) neg
    have hkk := fun ng => n64_of_ok k n.kd (d + 1) h.1.2.2.2.2 (by omega) (fun x hx => h6 x (by simp [Fo.flat, hx])) ng
    have hn6 : N64 n := h6 n (by simp [Fo.flat])
    have hlen := plain_len k neg _ _ h.1.2.2.2.2
    unfold Fo.plain at hm
    rw [Fo.flat_app, List.mem_append] at hm
    rcases hm with hm | hm
    · have hin : ∀ (c : Int) (a : Fo), ∀ x ∈ (a.melt c).flat, x ∈ a.flat := by
        intro c a
        induction a with
        | nil => intro x hx; exact hx
        | cons n' k' r' _ ih =>
          intro x hx
          unfold Fo.melt at hx
          split at hx
          · rw [Fo.flat_app, List.mem_append] at hx
            simp only [Fo.flat, List.mem_cons, List.mem_append]
            rcases hx with hx | hx
            · exact .inr (.inl hx)
            · exact .inr (.inr (ih x hx))
          · simp only [Fo.flat, List.mem_cons, List.mem_append] at hx ⊢
            rcases hx with hx | hx | hx
            · exact .inl hx
            · exact .inr (.inl hx)
            · exact .inr (.inr (ih x hx))
      split at hm
      · rename_i e
        simp only [Fo.flat, List.mem_cons, List.append_nil] at hm
        rcases hm with rfl | hm
        · intro x hx
          have h1 := Fo.len_flat ((k.plain neg).melt (if neg = true then 3 - n.kd else n.kd))
          have h2 := melt_size (if neg = true then 3 - n.kd else n.kd) (k.plain neg)
          have h3 := plain_size k neg
          simp only [List.mem_cons, List.not_mem_nil, or_false] at hx
          rcases hx with rfl | rfl | rfl | rfl | rfl
          · split <;> omega
          all_goals omega
        · exact hkk neg m (hin _ _ m hm)
      split at hm
      · exact hkk (!neg) m hm
      split at hm
      · split at hm
        · simp [Fo.flat] at hm
          rcases hm with rfl | rfl
          · intro x hx; simp [ndN] at hx; omega
          · exact hn6
        · simp [Fo.flat] at hm
          rw [hm]; exact hn6
      · rename_i e1 e2 e3
        simp [Fo.flat] at hm
        rw [hm]
        split
        · intro x hx
          have h4 : 1 ≤ n.op ∧ n.op ≤ 4 := by
            rcases h.1.1 with ⟨h', -⟩ | ⟨h', -⟩ | ⟨h', -⟩ | ⟨-, -, -, h1, h2, -⟩
            · exact absurd h' e1
            · exact absurd h' e2
            · exact absurd h' e3
            · exact ⟨h1, h2⟩
          simp only [List.mem_cons, List.not_mem_nil, or_false] at hx
          rcases hx with rfl | rfl | rfl | rfl | rfl
          · exact hn6 _ (by simp)
          · exact hn6 _ (by simp)
          · omega
          · exact hn6 _ (by simp)
          · exact hn6 _ (by simp)
        · exact hn6
    · exact hr m hm
/-- All that is asked of a condition made plain. -/
structure Pln (ns out : List Nd) : Prop where
  c1 : Cond wdB ns
  c2 : Cond wdB out
  pl : ∀ o e, PlR out o e → o = out ∧ e = 0
  sg : sgl out = true
  n6 : ∀ n ∈ out, N64 n
  l : out.length ≤ 64
  em : (out.length = 0) ↔ (ns.length = 0)
  hB : ∀ f : Fx, hoB ns f = hoB out f
  hE : ∀ f : Fx, hoE ns f = hoE out f
  n4 : nms 4 ns = nms 4 out
  n5 : nms 5 ns = nms 5 out
theorem cond_nil : Cond wdB [] := .inl rfl
theorem hoE_of {ns out : List Nd} (h1 : Cond wdB ns) (h2 : Cond wdB out) (f : Fx) : hoE ns f = hoE out f := by simp [hoE, h1, h2]
theorem pln_of {ns out : List Nd} {er : Int} (h : PlR ns out er) (he : er = 0) (h6 : ∀ n ∈ ns, N64 n) : Pln ns out := by
  rcases h with ⟨-, -, h⟩ | ⟨rfl, rfl, -⟩ | ⟨n, k, e, ok, hl, h⟩
  · omega
  · refine ⟨cond_nil, cond_nil, ?_, rfl, by simp, by simp, Iff.rfl, fun f => rfl, fun f => rfl, rfl, rfl⟩
    rintro o e (⟨h, -⟩ | ⟨-, rfl, rfl⟩ | ⟨n, k, h, -⟩)
    · exact absurd cond_nil h
    · exact ⟨rfl, rfl⟩
    · simp [Fo.flat] at h
  · rcases h with ⟨-, -, h⟩ | ⟨hp, rfl, -⟩
    · omega
    · obtain ⟨m, j, e1, ok2, pid, sg, hev, hnm⟩ := plain_all ok
      have h6' := n64_of_ok _ _ _ ok (by rw [← e]; exact hl) (by rw [← e]; exact h6) false
      rw [e1] at hp h6' ⊢
      have c1 : Cond wdB ns := .inr ⟨hl, n, k, e, ok⟩
      have c2 : Cond wdB (Fo.cons m j .nil).flat := .inr ⟨hp, m, j, rfl, ok2⟩
      refine ⟨c1, c2, ?_, sg, h6', hp, ?_, ?_, fun f => hoE_of c1 c2 f, ?_, ?_⟩
      · rintro o er (⟨h, -⟩ | ⟨h, -⟩ | ⟨n', k', h, ok', -, h'⟩)
        · exact absurd c2 h
        · simp [Fo.flat] at h
        · have := (flat_inj _ _ _ _ _ _ [] [] ok2 ok' rfl (by rw [h])).1
          rw [← this, pid] at h'
          rcases h' with ⟨h', -⟩ | ⟨-, rfl, rfl⟩
          · omega
          · exact ⟨rfl, rfl⟩
      · rw [e]; simp [Fo.flat]
      · intro f
        unfold hoB
        by_cases hf : f.Ok
        · rw [if_pos ⟨c1, hf⟩, if_pos ⟨c2, hf⟩, hoV_eq e ok, hoV_eq rfl ok2]
          have := hev f.vf (vfa_turns _ _ _ _)
          rw [ev_cons, ev_cons] at this
          simp only [List.cons.injEq] at this
          exact this.1.symm
        · rw [if_neg (fun h => hf h.2), if_neg (fun h => hf h.2)]
      · rw [e]; exact (hnm 4 (.inl rfl)).symm
      · rw [e]; exact (hnm 5 (.inr rfl)).symm
theorem plr_bad {ns out : List Nd} {er : Int} (h : PlR ns out er) (he : er ≠ 0) : out = [] ∧ ((er = 3 ∧ Cond wdB ns) ∨ (er = 131 ∧ ¬ Cond wdB ns)) := by
  rcases h with ⟨h, rfl, rfl⟩ | ⟨-, -, h⟩ | ⟨n, k, e, ok, hl, h⟩
  · exact ⟨rfl, .inr ⟨rfl, h⟩⟩
  · exact absurd h he
  · rcases h with ⟨-, rfl, rfl⟩ | ⟨-, -, h⟩
    · exact ⟨rfl, .inl ⟨rfl, .inr ⟨hl, n, k, e, ok⟩⟩⟩
    · exact absurd h he
end Go.Proofs.YthladfhjhanhlaaGreatDoor
namespace Go.Proofs.YthladfhjhanhlaaGreatDoor
open Go.RowKit Go.Shelf
set_option linter.unusedVariables false

theorem len_srt (l : List (List UInt8)) : (srt l).length ≤ l.length := by
  unfold srt
  exact Nat.le_trans (compact_le _) (by rw [List.length_mergeSort]; exact Nat.le_refl _)
theorem len_nms (c : Int) (l : List Nd) : (nms c l).length ≤ l.length := by
  unfold nms
  rw [List.length_map]; exact List.length_filter_le _ _
theorem cond_len {ns : List Nd} (h : Cond wdB ns) : ns.length ≤ 64 := by
  rcases h with rfl | h
  · simp
  · exact h.1
end Go.Proofs.YthladfhjhanhlaaGreatDoor
namespace Go.Proofs.YthladfhjhanhlaaGreatDoor
open Go.ChangeShapes Go.WideShapes Go.ChangeAt Go.RowKit
set_option linter.unusedVariables false

theorem gTens : Tryz.prog.globalNamed "tollbook/decimal.tens" = some 0 := by kernel_rfl
theorem gTensT : (Tryz.prog.globals[0]?).map (·.type) = some 83 := by kernel_rfl
theorem cTens : Tryz.prog.cellsOf 83 = 10 := by kernel_rfl
theorem cI64 : Tryz.prog.cellsOf 2 = 1 := by kernel_rfl
theorem tnOf {W : World} {rest : List (String × DataW Unit)} (h : laidMet Tryz.prog (("tollbook/decimal.tens", Rows.laid_tollbook_decimal_tens) :: rest) W) : Tn W :=
  Go.Lib.tabIs_of_head (zs := [1, 10, 100, 1000, 10000, 100000, 1000000, 10000000, 100000000, 1000000000]) gTens gTensT Tryz.underlying83 Tryz.underlying2 cI64 cTens h
theorem list5 {α : Type} {l : List α} (h : l.length = 5) : ∃ a b c d e, l = [a, b, c, d, e] := by
  match l, h with
  | [a, b, c, d, e], _ => exact ⟨a, b, c, d, e, rfl⟩
theorem list6 {α : Type} {l : List α} (h : l.length = 6) : ∃ a b c d e f, l = [a, b, c, d, e, f] := by
  match l, h with
  | [a, b, c, d, e, f], _ => exact ⟨a, b, c, d, e, f, rfl⟩
theorem B64_of_wf {x : Int} (h : (Lit.int .i64 x).wf = true) : -9223372036854775808 ≤ x ∧ x ≤ 9223372036854775807 := by
  simp [Lit.wf, IntKind.min, IntKind.max, IntKind.signed, IntKind.bits] at h
  omega
theorem sv_of (s : ByteArray) : Value.string s = sv s.data.toList := by simp [sv]
instance : Inhabited Nd := ⟨nd0⟩
theorem cNode : Tryz.prog.cellsOf 37 = 6 := by kernel_rfl
section
variable {H : Type} {enc : TypeId × Value → H} {W : World} {sp : Nat → Bool} {hd : Bool}
theorem node_open {n : Nat} {cs : List Value} {y : DataW H × List MemPlace} (h2 : DataW.trod enc Tryz.prog W 0 sp hd n 37 cs = some y) : ∃ nd : Nd, cs = encN nd ∧ N64 nd := by
  obtain ⟨xs, k, _, _, hl, hxl, hf⟩ := DataW.trod_struct Tryz.underlying37 h2
  obtain ⟨v0, v1, v2, v3, v4, v5, rfl⟩ := list6 (hl.trans cNode)
  obtain ⟨y0, y1, y2, y3, y4, rfl⟩ := list5 hxl
  have g0 := hf 0 _ rfl
  have g1 := hf 1 _ rfl
  have g2 := hf 2 _ rfl
  have g3 := hf 3 _ rfl
  have g4 := hf 4 _ rfl
  have e1 : Tryz.prog.cellsOf 32 = 1 := by kernel_rfl
  have e2 : Tryz.prog.cellsOf 3 = 1 := by kernel_rfl
  have e3 : Tryz.prog.cellsOf 9 = 1 := by kernel_rfl
  have e4 : Tryz.prog.cellsOf 33 = 1 := by kernel_rfl
  have e5 : Tryz.prog.cellsOf 35 = 2 := by kernel_rfl
  simp [e1, e2, e3, e4, e5] at g0 g1 g2 g3 g4
  obtain ⟨kd, h0, -, w0⟩ := DataW.trod_int Tryz.underlying32 g0
  obtain ⟨ks, h1, -, w1⟩ := DataW.trod_int Tryz.underlying3 g1
  obtain ⟨nm, h2', -, -⟩ := DataW.trod_string Tryz.underlying9 g2
  obtain ⟨op, h3, -, w3⟩ := DataW.trod_int Tryz.underlying33 g3
  obtain ⟨xs5, k5, _, _, hl5, hxl5, hf5⟩ := DataW.trod_struct Tryz.underlying35 g4
  have q0 := hf5 0 _ rfl
  have q1 := hf5 1 _ rfl
  have e6 : Tryz.prog.cellsOf 2 = 1 := by kernel_rfl
  have hx5 : xs5.length = 2 := hxl5
  match xs5, hx5 with
  | [z0, z1], _ =>
    simp [e6, e2] at q0 q1
    obtain ⟨un, h4, -, w4⟩ := DataW.trod_int Tryz.underlying2 q0
    obtain ⟨pl, h5, -, w5⟩ := DataW.trod_int Tryz.underlying3 q1
    simp at h0 h1 h2' h3 h4 h5
    subst h0 h1 h2' h3 h4 h5
    refine ⟨⟨kd, ks, nm.data.toList, op, un, pl⟩, by simp [encN, sv], ?_⟩
    intro x hx
    simp only [List.mem_cons, List.not_mem_nil, or_false] at hx
    rcases hx with rfl | rfl | rfl | rfl | rfl
    · exact B64_of_wf w0
    · exact B64_of_wf w1
    · exact B64_of_wf w3
    · exact B64_of_wf w4
    · exact B64_of_wf w5
theorem open_nodes {a : Option Addr} {len cap : Nat} {d : DataW H} {p : List MemPlace} (h : DataW.Trod enc Tryz.prog W 0 sp hd 22 (.slice a len cap) d p) :
    ∃ ns : List Nd, Le elN W a len ns ∧ (∀ n ∈ ns, N64 n) := by
  obtain ⟨fuel, hf⟩ := h
  rcases Go.Deep.open_slice Tryz.underlying22 hf with ⟨hcs, _⟩ | ⟨ad, l, c, m, n, D, Pl, hcs, _, hl, hm, hmm, _, hx⟩
  · simp [Value.cells] at hcs
    obtain ⟨rfl, rfl, rfl⟩ := hcs
    exact ⟨[], Le.nil _ _, fun n hn => by simp at hn⟩
  · simp [Value.cells] at hcs
    obtain ⟨rfl, rfl, rfl⟩ := hcs
    have hlm : len ≤ m := by rw [hmm]; split <;> omega
    have each : ∀ i, i < len → ∃ nd : Nd, (∀ j u, (encN nd)[j]? = some u → W.cell? ((ad.add (i * 6)).add j) = some u) ∧ N64 nd := by
      intro i hi
      obtain ⟨cs', h1, h2⟩ := hx i (by omega)
      rw [cNode] at h1
      obtain ⟨nd, rfl, h6⟩ := node_open h2
      obtain ⟨_, hlen, hcell⟩ := World.cells?_some h1
      refine ⟨nd, fun j u hj => ?_, h6⟩
      have hj6 : j < 6 := by
        rcases Nat.lt_or_ge j 6 with h' | h'
        · exact h'
        · rw [List.getElem?_eq_none (by exact h')] at hj; cases hj
      have := hcell j hj6
      rw [this, hj]
    obtain ⟨Q, hQ⟩ := Go.Deep.choose_lt each
    refine ⟨(List.range len).map Q, ⟨by simp, fun h0 => ?_⟩, fun n hn => ?_⟩
    · obtain ⟨b, off, spot⟩ := ad
      have hspot : spot = none := by
        have := (hQ 0 h0).1 0 _ rfl
        simpa [Addr.add] using World.cell?_spot this
      subst hspot
      refine ⟨b, off, rfl, fun i u hu => ?_⟩
      have hlen : (rowE elN ((List.range len).map Q)).length = len * 6 := by rw [rowE_length]; simp; rfl
      have hi : i < len * 6 := by
        rcases Nat.lt_or_ge i (rowE elN ((List.range len).map Q)).length with h' | h'
        · omega
        · rw [List.getElem?_eq_none h'] at hu; cases hu
      have hq := rowE_get elN (i % 6) (Nat.mod_lt _ (by decide)) ((List.range len).map Q) (i / 6) (by simp; omega)
      rw [show i / 6 * elN.s + i % 6 = i by show i / 6 * 6 + i % 6 = i; omega, hu] at hq
      have hg : ((List.range len).map Q).getD (i / 6) elN.dft = Q (i / 6) := by simp [show i / 6 < len by omega]
      rw [hg] at hq
      have := (hQ (i / 6) (by omega)).1 (i % 6) u hq.symm
      rw [Go.WideShapes.add_plain, Go.WideShapes.add_plain] at this
      rw [← this]
      congr 2
      omega
    · simp only [List.mem_map, List.mem_range] at hn
      obtain ⟨i, hi, rfl⟩ := hn
      exact (hQ i hi).2
theorem texts_open {n : Nat} {cs : List Value} {y : DataW H × List MemPlace} (h : DataW.trod enc Tryz.prog W 0 sp hd n 23 cs = some y) : ∃ (a : Option Addr) (c : Nat) (l : List (List UInt8)), cs = [.slice a l.length c] ∧ Le elS W a l.length l := by
  rcases open_strings Tryz.underlying23 Tryz.underlying9 (by kernel_rfl) h with ⟨hcs, _⟩ | ⟨ad, l, c, ss, hcs, _, hl, hm, hz, hx, hcell, _⟩
  · exact ⟨none, 0, [], hcs, Le.nil _ _⟩
  · have hzl : l ≤ ss.length := by rw [hz]; split <;> omega
    have hll : ((ss.take l).map (fun s : ByteArray => s.data.toList)).length = l := by simp; omega
    refine ⟨some ad, c, (ss.take l).map (fun s : ByteArray => s.data.toList), by rw [hll]; exact hcs, rfl, fun h0 => ?_⟩
    rw [hll] at h0
    obtain ⟨b, off, spot⟩ := ad
    have hspot : spot = none := by
      have := hcell 0 (by omega)
      simpa [Addr.add] using World.cell?_spot this
    subst hspot
    refine ⟨b, off, rfl, fun i u hu => ?_⟩
    have hi : i < l := by
      rcases Nat.lt_or_ge i (rowE elS ((ss.take l).map (fun s : ByteArray => s.data.toList))).length with h' | h'
      · rw [rowE_length, hll] at h'
        have h'' : i < l * 1 := h'
        omega
      · rw [List.getElem?_eq_none h'] at hu; cases hu
    have hq := rowE_get elS 0 (by decide) ((ss.take l).map (fun s : ByteArray => s.data.toList)) i (by rw [hll]; exact hi)
    rw [show i * elS.s + 0 = i by show i * 1 + 0 = i; omega, hu] at hq
    have hg : ((ss.take l).map (fun s : ByteArray => s.data.toList)).getD i elS.dft = (ss.getD i ByteArray.empty).data.toList := by
      rw [List.getD_eq_getElem?_getD, List.getElem?_map, List.getElem?_take_of_lt hi, List.getD_eq_getElem?_getD, List.getElem?_eq_getElem (by omega)]; rfl
    rw [hg] at hq
    have e : u = sv (ss.getD i ByteArray.empty).data.toList := by simpa [elS] using hq
    have := hcell i (by omega)
    rw [Go.WideShapes.add_plain] at this
    rw [this, e, sv_of]
set_option maxRecDepth 100000 in
theorem open_facts {r : Reach} {b0 : Nat} {v : Value} {d : DataW H} {p : List MemPlace} (hv : Value.okWide Tryz.prog W r b0 25 v) (h : DataW.Trod enc Tryz.prog W 0 sp hd 25 v d p) :
    ∃ (a1 : Option Addr) (c1 : Nat) (a2 : Option Addr) (c2 : Nat) (f : Fx), v = fxv a1 c1 a2 c2 f ∧ Lf W a1 c1 a2 c2 f := by
  obtain ⟨cs, rfl, hsz⟩ := okWide_struct Tryz.underlying25 hv
  obtain ⟨fuel, hf⟩ := h
  obtain ⟨xs, k, _, _, hl, hxl, hf⟩ := DataW.trod_struct Tryz.underlying25 hf
  have hC : Tryz.prog.cellsOf 25 = 5 := by kernel_rfl
  have hcl : (Value.agg cs).cells.toList.length = 5 := hl.trans hC
  obtain ⟨v0, v1, v2, v3, v4, hcs⟩ := list5 hcl
  have hcs' : cs.toList = [v0, v1, v2, v3, v4] := hcs
  obtain rfl : cs = #[v0, v1, v2, v3, v4] := by rw [← hcs']
  obtain ⟨y0, y1, y2, y3, y4, rfl⟩ := list5 hxl
  have g0 := hf 0 _ rfl
  have g1 := hf 1 _ rfl
  have g2 := hf 2 _ rfl
  have g3 := hf 3 _ rfl
  have g4 := hf 4 _ rfl
  have e1 : Tryz.prog.cellsOf 23 = 1 := by kernel_rfl
  have e2 : Tryz.prog.cellsOf 3 = 1 := by kernel_rfl
  have e3 : Tryz.prog.cellsOf 2 = 1 := by kernel_rfl
  rw [hcs] at g0 g1 g2 g3 g4
  simp [e1, e2, e3] at g0 g1 g2 g3 g4
  obtain ⟨a1, c1, l1, h0, L1⟩ := texts_open g0
  obtain ⟨a2, c2, l2, h1, L2⟩ := texts_open g1
  obtain ⟨am, h2, -, w2⟩ := DataW.trod_int Tryz.underlying2 g2
  obtain ⟨dg, h3, -, w3⟩ := DataW.trod_int Tryz.underlying3 g3
  obtain ⟨qt, h4, -, w4⟩ := DataW.trod_int Tryz.underlying2 g4
  simp at h0 h1 h2 h3 h4
  subst h0 h1 h2 h3 h4
  exact ⟨a1, c1, a2, c2, ⟨l1, l2, am, dg, qt⟩, rfl, L1, L2, B64_of_wf w2, B64_of_wf w3, B64_of_wf w4⟩
end
end Go.Proofs.YthladfhjhanhlaaGreatDoor
