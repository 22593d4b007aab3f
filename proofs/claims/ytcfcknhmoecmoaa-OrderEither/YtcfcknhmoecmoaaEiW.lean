/-
  The walk of OrderEither.
-/
import Derived.Test.YtcfcknhmoecmoaaOdW
import Derived.Test.YtcfcknhmoecmoaaOrF
namespace Go.Proofs.Ytcfcknhmoecmoaa
open Go.RowKit Go.Shelf
set_option linter.unusedVariables false
set_option linter.unusedSimpArgs false

theorem ckE_cases (n : Int) (xs : List Pr) : ckE n xs = 0 ∨ ckE n xs = 2 ∨ ckE n xs = 3 ∨ ckE n xs = 170 := by
  unfold ckE
  split
  · exact .inr (.inl rfl)
  · split
    · exact .inr (.inr (.inl rfl))
    · split
      · exact .inl rfl
      · exact .inr (.inr (.inr rfl))
theorem SoR.bad' {w : World} {B : Nat} {n : Int} {xs : List Pr} {v : Value} {k : Int} (h : SoR w B n xs v k) (hc : ckE n xs ≠ 0) : v = .slice none 0 0 ∧ k = ckE n xs := by
  cases h with
  | bad h => exact ⟨rfl, rfl⟩
  | ring h y hr => exact absurd h hc
  | ok h out ho hl hr a c hg => exact absurd h hc
theorem RiR.bad' {w : World} {B : Nat} {n : Int} {xs : List Pr} {v : Value} {k : Int} (h : RiR w B n xs v k) (hc : ckE n xs ≠ 0) : v = .slice Option.none 0 0 ∧ k = ckE n xs := by
  cases h with
  | bad h => exact ⟨rfl, rfl⟩
  | none h hr => exact absurd h hc
  | ring h m L out hm hl hr hf a c hg => exact absurd h hc
theorem Rtl.few {N : Nat → List Nat} {n a L : Nat} {out : List Nat} (hN : ∀ x y, y ∈ N x → x < n ∧ y < n) (h : Rtl (Rn N) a L out) : out.Nodup ∧ (∀ x ∈ out, x < n) ∧ out.length ≤ n := by
  have h1 : out.Nodup := by
    rw [List.Nodup, List.pairwise_iff_getElem]
    intro i j hi hj hij e
    have := h.apart (List.getElem?_eq_getElem hi) (by rw [List.getElem?_eq_getElem hj, e])
    omega
  have h2 : ∀ x ∈ out, x < n := fun y hy => by
    obtain ⟨i, hi⟩ := List.mem_iff_getElem?.1 hy
    obtain ⟨d1, d2, -⟩ := h.dist i y hi
    obtain ⟨j, hj⟩ : ∃ j, L - i = j + 1 := ⟨L - i - 1, by omega⟩
    rw [hj] at d2
    obtain ⟨z, h3, -⟩ := d2
    exact (hN y z h3).1
  exact ⟨h1, h2, few_nat h1 h2⟩
/-- Each of the ring needs the next one, and the last one the first. -/
theorem Rtl.round {N : Nat → List Nat} {a L : Nat} {out : List Nat} (h : Rtl (Rn N) a L out) (hl : out.length = L) {i : Nat} (hi : i < L) : out.getD ((i + 1) % L) 0 ∈ N (out.getD i 0) := by
  have hx : out[i]? = some (out.getD i 0) := by rw [List.getD_eq_getElem?_getD, List.getElem?_eq_getElem (by omega)]; rfl
  by_cases e : i + 1 < L
  · rw [Nat.mod_eq_of_lt e]
    have hy : out[i + 1]? = some (out.getD (i + 1) 0) := by rw [List.getD_eq_getElem?_getD, List.getElem?_eq_getElem (by omega)]; rfl
    exact (h.next i _ _ hx hy).1
  · have e2 : i + 1 = L := by omega
    rw [e2, Nat.mod_self]
    have h0 : out.getD 0 0 = a := by rw [List.getD_eq_getElem?_getD, h.first]; rfl
    rw [h0]
    exact h.last hl (by rw [← e2, Nat.add_sub_cancel]; exact hx)
set_option maxRecDepth 20000 in
set_option maxHeartbeats 16000000 in
theorem either_walk (n : Int) (a : Option Addr) (len cap : Nat) (xs : List Pr) (w : World) (h : La w a len xs) (hcap : cap ≤ 8796093022208) (hc : len ≤ cap) (hn : a = none → len = 0 ∧ cap = 0) :
    Calls Try.prog 6 #[.int .i64 n, .slice a len cap] w fun e w' => e = .returned (.bool true) ∧ Below w.heap.size w w' := by
  have HL : Hid (La w a len xs) := h
  have HLn : Hid (xs.length = len) := h.1
  have hl8 : len ≤ 8796093022208 := by omega
  have HNo : Hid (a = none → len = 0 ∧ cap = 0) := hn
  have hAw := awake17 w
  clear h hn
  go_enter Try.func6, Try.ntmps6
  go_wp2_with fail
  refine hAw.mono ?_
  rintro e w1 ⟨rfl, hb1⟩
  have HB1 : Hid (Below w.heap.size w w1) := hb1
  clear hb1 hAw
  go_wp2_with fail
  refine (ocopyA a len cap xs w1 (HL.out.after HB1.out) HNo.out hl8).mono ?_
  rintro e w2 ⟨⟨a2, c2, rfl, hL2⟩, hb2⟩
  have HL2 : Hid (La w2 a2 len xs) := hL2
  have HB2 : Hid (Below w.heap.size w w2) := step HB1.out hb2
  clear hL2 hb2 HB1
  go_wp2_with fail
  refine (sort_all n a2 len c2 xs w2 HL2.out).mono ?_
  rintro e w3 ⟨⟨v, k, rfl, hS⟩, hb3⟩
  have HS : Hid (SoR w3 w2.heap.size n xs v k) := hS
  have HB3 : Hid (Below w.heap.size w w3) := step HB2.out hb3
  clear hS hb3 HL2 HB2
  go_wp2_with fail
  refine (ocopyA a len cap xs w3 (HL.out.after HB3.out) HNo.out hl8).mono ?_
  rintro e w4 ⟨⟨a4, c4, rfl, hL4⟩, hb4⟩
  have HL4 : Hid (La w4 a4 len xs) := hL4
  have HS4 : Hid (SoR w4 w2.heap.size n xs v k) := HS.out.after hb4
  have HB4 : Hid (Below w.heap.size w w4) := step HB3.out hb4
  clear hL4 hb4 HS HB3
  go_wp2_with fail
  refine (oring_all n a4 len c4 xs w4 HL4.out).mono ?_
  rintro e w5 ⟨⟨v5, k5, rfl, hR⟩, hb5⟩
  have HR : Hid (RiR w5 w4.heap.size n xs v5 k5) := hR
  have HS5 : Hid (SoR w5 w2.heap.size n xs v k) := HS4.out.after hb5
  have HB5 : Hid (Below w.heap.size w w5) := step HB4.out hb5
  clear hR hb5 HS4 HB4 HL4
  have hW := owithin n a len cap xs w5 (HL.out.after HB5.out)
  by_cases hck : ckE n xs = 0
  · obtain ⟨h0, h1, h2, h3⟩ := ckE_ok hck
    obtain ⟨m, rfl⟩ : ∃ m : Nat, n = m := ⟨n.toNat, by omega⟩
    have HOk : Hid (xs.all (okA m) = true) := h3
    have hm4 : m ≤ 4096 := by omega
    have hl6 : len ≤ 65536 := by have := HLn.out; omega
    rw [decide_eq_true hck] at hW
    have hS6 := HS5.out
    have hR6 := HR.out
    clear HS5 HR h0 h1 h2 h3
    cases hS6 with
    | bad h => exact absurd hck h
    | ok hc2 out ho hlo hr av cv hg =>
      have hR7 : v5 = .slice none 0 0 ∧ k5 = 0 := by
        cases hR6 with
        | bad h => exact absurd hck h
        | none h hr => exact ⟨rfl, rfl⟩
        | ring h m2 L out2 hm hl hr2 hf a c hg => exact absurd hm (hr m2)
      obtain ⟨rfl, rfl⟩ := hR7
      rw [Int.toNat_natCast] at ho hlo
      have HSo : Hid (So (Rn (nlf xs)) m out) := ho
      have HOl : Hid (out.length = m) := hlo
      rw [hlo] at hg ⊢
      have HLi : Hid (Li w5 av m (ints out)) := by
        have h9 := hg
        rw [show m = (ints out).length by rw [ints_length, hlo]] at h9
        have h8 := h9.toLe.li
        rwa [show (ints out).length = m by rw [ints_length, hlo]] at h8
      have hP := oplaces m hm4 av cv out w5 HLi.out hlo ho.nodup (fun x hx => ho.lt hx)
      clear hg ho hlo hr hR6 hc2
      go_wp2_with (first
        | (go_at_call 24; refine hW.mono ?_; rintro e w6 ⟨rfl, hw6⟩; rw [hw6]; clear hw6 w6 hW)
        | (go_at_call 25; refine hP.mono ?_; rintro e w6 ⟨⟨g, pl, rfl, hF, -, hPl⟩, hb6⟩; have HF : Hid (Fn m w6 g pl) := hF; have HPl : Hid (Plc out m pl) := hPl; have HB6 : Hid (Below w.heap.size w w6) := step HB5.out hb6; have HG6 : Hid (Below w6.heap.size w6 w6) := Below.refl _ _; clear hF hPl hb6 hP))
      go_loopw [10, 11] (fun ok i wz => ∃ k : Nat, ok = .bool true ∧ i = .int .i64 k ∧ k ≤ len ∧ Hid (Below w6.heap.size w6 wz)) (fun _ i _ => (len - (intOf i).toNat : Nat))
      case atStart => exact ⟨0, rfl, rfl, Nat.zero_le _, HG6.out⟩
      case round =>
        clear HG6
        obtain ⟨k, rfl, rfl, hk, HBz⟩ := hrel
        have HBw : Hid (Below w.heap.size w wr) := step HB6.out HBz.out
        rcases Nat.lt_or_ge k len with hlt | hge
        · have hki : (k : Int) < len := by omega
          obtain ⟨b, off, rfl, c0, c1⟩ := (HL.out.after HBw.out).arc hlt
          have hok := okA_iff.1 (okA_at HOk.out (i := k) (by rw [HLn.out]; exact hlt))
          have hmem : xs.getD k (0, 0) ∈ xs := by rw [List.getD_eq_getElem?_getD, List.getElem?_eq_getElem (by rw [HLn.out]; exact hlt)]; exact List.getElem_mem _
          obtain ⟨x, hx⟩ : ∃ x : Nat, (xs.getD k (0, 0)).1 = x := ⟨(xs.getD k (0, 0)).1.toNat, by omega⟩
          obtain ⟨y, hy⟩ : ∃ y : Nat, (xs.getD k (0, 0)).2 = y := ⟨(xs.getD k (0, 0)).2.toNat, by omega⟩
          have hxy : y ∈ nlf xs x := (nlf_iff HOk.out x y).2 (by rw [← hx, ← hy]; exact hmem)
          rw [hx] at c0 hok
          rw [hy] at c1 hok
          have hxm : x < m := by omega
          have hym : y < m := by omega
          have hxi : (x : Int) < m := by omega
          have hyi : (y : Int) < m := by omega
          have hpl : pl y < pl x := by
            have hxo : x ∈ out := by
              refine Classical.byContradiction (fun hxo => ?_)
              have := few_nat (n := m) (l := out ++ [x]) (by
                rw [List.nodup_append]
                exact ⟨HSo.out.nodup, by simp, fun a ha b hb => by simp at hb; subst hb; exact fun e => hxo (by rw [← e]; exact ha)⟩) (fun z hz => by
                  rcases List.mem_append.1 hz with h1 | h1
                  · exact HSo.out.lt h1
                  · simp at h1; rw [h1]; exact hxm)
              rw [List.length_append, HOl.out] at this
              simp only [List.length_singleton] at this
              omega
            obtain ⟨i, hi⟩ := List.mem_iff_getElem?.1 hxo
            obtain ⟨j, hji, hj⟩ := HSo.out.ahead hi (show Rn (nlf xs) x y from hxy)
            have hil := (List.getElem?_eq_some_iff.1 hi).1
            rw [HOl.out] at hil
            rw [HPl.out.1 i x hil hi, HPl.out.1 j y (by omega) hj]
            omega
          have px := Fn.cell (show Fn m wr g pl from Fv.after HBz.out HF.out) hxm
          have py := Fn.cell (show Fn m wr g pl from Fv.after HBz.out HF.out) hym
          clear hx hy hmem hok hxy
          generalize pl x = qx at *
          generalize pl y = qy at *
          have hq : ((qy : Nat) : Int) < ((qx : Nat) : Int) := by omega
          have hqd := decide_eq_true hq
          go_wp2_with fail
          go_quiet (fail)
          refine nameW (Q := fun W => Exit.inBlock _ _ _ _ W) (fun wq hwq => ?_)
          have HBq : Hid (Below w6.heap.size w6 wq) := by rw [hwq]; exact below_drewN HBz.out _
          clear hwq
          go_wp2_with fail
          go_roundw
          case rel => exact ⟨k + 1, rfl, rfl, by omega, HBq.out⟩
          case measure => simp [intOf]; omega
        · obtain rfl : k = len := by omega
          clear hge hk
          go_wp2_with fail
          go_ret
          exact ⟨rfl, HBw.out⟩
    | ring hc2 y hry =>
      cases hR6 with
      | bad h => exact absurd hck h
      | none h hr => exact absurd hry (hr y)
      | ring h a0 L out hm hl hr2 hf av cv hg =>
      have HRt : Hid (Rtl (Rn (nlf xs)) a0 L out ∧ out.length = L) := ⟨hr2, hf⟩
      obtain ⟨hnd, hlt9, hfew⟩ := hr2.few (nlf_ok HOk.out)
      have HFe : Hid (out.Nodup ∧ ∀ x ∈ out, x < m) := ⟨hnd, hlt9⟩
      have hL1 : 1 ≤ L := hr2.far.1
      rw [hf] at hg hfew ⊢
      have HLi : Hid (Li w5 av out.length (ints out)) := by
        have h9 := hg
        rw [show L = (ints out).length by rw [ints_length, hf]] at h9
        have h8 := h9.toLe.li
        rwa [ints_length] at h8
      have hLm : (L : Int) ≤ m := by omega
      have hL0 : ¬ (L : Int) = 0 := by omega
      have hL0n : ¬ L = 0 := by omega
      have hmL2 : ¬ m < L := by omega
      have hL0b : ((L : Int) == 0) = false := by simp; omega
      have hmL : decide ((m : Int) < L) = false := decide_eq_false (by omega)
      have hmb := fun W => make_bool m (by omega) W
      have hLd : Hid (∀ W, Below w.heap.size w W → ∀ x y : Nat, y ∈ nlf xs x → Calls Try.prog 26 #[.slice a len cap, .int .i64 (x : Int), .int .i64 (y : Int)] W fun e w' => e = .returned (.bool true) ∧ w' = W) := fun W hb x y hxy => by
        have h9 := oleads a len cap xs x y W (HL.out.after hb) hl8
        rwa [decide_eq_true ((nlf_iff HOk.out x y).1 hxy)] at h9
      clear hg hm hl hnd hlt9 hr2 hf hc2 hry h
      go_wp2_with (go_at_call 24; refine hW.mono ?_; rintro e w6 ⟨rfl, hw6⟩; rw [hw6]; clear hw6 w6 hW)
      refine ent1 w5 _ _ (Q := fun W => Code.wp _ _ _ _ W) ?_
      intro W6 hB6 hs6 V6
      have HF6 : Hid (Fb m W6 w5.heap.size (fun _ => false)) := Fb.falses (by simpa using V6)
      have HB6 : Hid (Below w5.heap.size w5 W6) := hB6
      clear V6 hB6 hs6 hmb
      go_loopw [13] (fun i wz => ∃ (k : Nat) (met : Nat → Bool), i = .int .i64 k ∧ k ≤ L ∧ Hid (Fb m wz w5.heap.size met) ∧ Hid (∀ x, met x = true → x ∈ out.take k) ∧ Hid (Below w5.heap.size w5 wz)) (fun i _ => (L - (intOf i).toNat : Nat))
      case atStart => exact ⟨0, _, rfl, Nat.zero_le _, HF6.out, fun x hx => by simp at hx, HB6.out⟩
      case round =>
        clear HF6 HB6
        obtain ⟨k, met, rfl, hk, HF, HMt, HBz⟩ := hrel
        have HBw : Hid (Below w.heap.size w wr) := step HB5.out HBz.out
        rcases Nat.lt_or_ge k L with hlt | hge
        · have hki : (k : Int) < L := by omega
          have hko : k < out.length := by rw [HRt.out.2]; exact hlt
          obtain ⟨j, hj⟩ : ∃ j, j = (k + 1) % L := ⟨_, rfl⟩
          have hjL : j < L := by rw [hj]; exact Nat.mod_lt _ (by omega)
          have hjo : j < out.length := by rw [HRt.out.2]; exact hjL
          have hji : (j : Int) < L := by omega
          have hw1 : IntKind.i64.wrap ((k : Int) + 1) = (k : Int) + 1 := by rw [IntKind.wrap_i64]; omega
          have hrem : ((k : Int) + 1).tmod (L : Int) = (j : Int) := by
            rw [hj, Int.tmod_eq_emod_of_nonneg (by omega)]; push_cast; rfl
          have hwj : IntKind.i64.wrap (j : Int) = (j : Int) := by rw [IntKind.wrap_i64]; omega
          have hro := HRt.out.1.round HRt.out.2 hlt
          rw [← hj] at hro
          obtain ⟨b, off, rfl, ck⟩ := Li.node (HLi.out.after HBz.out) hko
          obtain ⟨b', off', e', cj⟩ := Li.node (HLi.out.after HBz.out) hjo
          cases e'
          have hxg : out[k]? = some (out.getD k 0) := by rw [List.getD_eq_getElem?_getD, List.getElem?_eq_getElem hko]; rfl
          have hxm := HFe.out.2 _ (List.mem_of_getElem? hxg)
          have hnot : met (out.getD k 0) = false := by
            cases hmt : met (out.getD k 0) with
            | false => rfl
            | true =>
              exfalso
              have hmm := HMt.out _ hmt
              have h9 := List.nodup_iff_count.1 HFe.out.1 (out.getD k 0)
              have h8 : (out.take (k + 1)).count (out.getD k 0) ≤ out.count (out.getD k 0) := (List.take_sublist _ _).count_le _
              rw [take_snoc 0 hko, List.count_append, List.count_singleton_self] at h8
              have := List.count_pos_iff.2 hmm
              omega
          have HT : Hid (out.take (k + 1) = out.take k ++ [out.getD k 0]) := take_snoc 0 hko
          clear hxg hj
          generalize out.getD k 0 = x at *
          generalize out.getD j 0 = y at *
          have HRo : Hid (y ∈ nlf xs x) := hro
          have hxi : (x : Int) < m := by omega
          have hxd0 : decide ((x : Int) < 0) = false := decide_eq_false (by omega)
          have hxd : decide ((m : Int) ≤ x) = false := decide_eq_false (by omega)
          have cm := HF.out.cell hxm
          rw [hnot] at cm
          clear hro hnot
          go_wp2_with fail
          go_quiet ((go_at_call 26; refine (hLd.out (wr.drewN _) (below_drewN HBw.out _) x y HRo.out).mono ?_; rintro e w2 ⟨rfl, rfl⟩; exact ⟨rfl, _, rfl⟩))
          refine nameW (Q := fun W => Exit.then _ _ _ _ W) (fun wq hwq => ?_)
          have HBq : Hid (Below w5.heap.size w5 wq) := by rw [hwq]; exact below_drewN HBz.out _
          have HFq : Hid (Fb m wq w5.heap.size met) := by rw [hwq]; exact Fv.after (below_drewN (Below.refl _ _) _) HF.out
          have ckq : wq.cell? ⟨b, off + k, none⟩ = some (.int .i64 (x : Int)) := by rw [hwq]; exact ck
          have hxn : ¬ m ≤ x := by omega
          have fmq := Fv.frozen HFq.out x
          have HF2 : Hid (Fb m (wq.setCell ⟨w5.heap.size, x, none⟩ (.bool true)) w5.heap.size (upf met x true)) := Fb.set HFq.out x true
          have HM2 : Hid (∀ z, upf met x true z = true → z ∈ out.take (k + 1)) := fun z hz => by
            rw [HT.out]
            by_cases e : z = x
            · rw [e]; simp
            · rw [upf_ne _ _ e] at hz
              exact List.mem_append_left _ (HMt.out z hz)
          have HB2 : Hid (Below w5.heap.size w5 (wq.setCell ⟨w5.heap.size, x, none⟩ (.bool true))) := HBq.out.setCell (p := ⟨w5.heap.size, x, none⟩) (Nat.le_refl _) _
          have cmq := HFq.out.cell hxm
          clear hwq cm ck cj
          go_wp2_with fail
          go_roundw
          case rel => exact ⟨k + 1, _, rfl, hlt, HF2.out, HM2.out, HB2.out⟩
          case measure => simp [intOf]; omega
        · obtain rfl : k = L := by omega
          clear hge hk
          go_wp2_with fail
          go_ret
          exact ⟨rfl, HBw.out⟩
  · obtain ⟨rfl, rfl⟩ := HS5.out.bad' hck
    obtain ⟨rfl, rfl⟩ := HR.out.bad' hck
    rw [decide_eq_false hck] at hW
    have hcc := ckE_cases n xs
    clear HS5 HR
    generalize ckE n xs = kk at *
    have h171 : ¬ kk = 171 := by omega
    go_wp2_with (go_at_call 24; refine hW.mono ?_; rintro e w6 ⟨rfl, hw6⟩; rw [hw6]; clear hw6 w6 hW)
    have hfin : (kk != 0 && kk != 171) = true := by simp; omega
    go_ret
    exact ⟨by show Ending.returned (Value.bool (kk != 0 && kk != 171)) = _; rw [hfin], HB5.out⟩
theorem eitherAll (n : Int) (a : Option Addr) (len cap : Nat) (xs : List Pr) (w : World) (hw : (Lit.int .i64 n).wf = true) (h : La w a len xs) (hc : len ≤ cap) (hb : cap ≤ 8796093021952) (hn : a = none → len = 0 ∧ cap = 0) (h64 : ∀ q ∈ xs, b64 q.1 ∧ b64 q.2) :
    Calls Try.prog 6 #[.int .i64 n, .slice a len cap] w fun e w' => e = .returned (.bool true) ∧ Below w.heap.size w w' :=
  either_walk n a len cap xs w h (by omega) hc hn
end Go.Proofs.Ytcfcknhmoecmoaa
