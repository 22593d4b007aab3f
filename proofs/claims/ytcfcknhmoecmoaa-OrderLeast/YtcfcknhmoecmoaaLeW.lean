/-
  The walk of OrderLeast.
-/
import Derived.Test.YtcfcknhmoecmoaaOdW
import Derived.Test.YtcfcknhmoecmoaaOrF
namespace Go.Proofs.Ytcfcknhmoecmoaa
open Go.RowKit Go.Shelf
set_option linter.unusedVariables false
set_option linter.unusedSimpArgs false

/-- A node ahead of a lesser one is needed by it, where it stands beside it. -/
theorem So.least_next {N : Nat → List Nat} {n : Nat} {out : List Nat} (h : So (Rn N) n out) {k x y : Nat} (hx : out[k]? = some x) (hy : out[k + 1]? = some y) (hlt : y < x) : x ∈ N y := by
  obtain ⟨⟨h1, h2, h3⟩, -⟩ := h (k + 1) y hy
  obtain ⟨-, h5⟩ := h k x hx
  have e : out.take (k + 1) = out.take k ++ [x] := by
    rw [List.take_add_one, hx]; rfl
  rw [e] at h2 h3
  refine Classical.byContradiction (fun hno => ?_)
  have h6 := h5 y ⟨h1, fun hm => h2 (List.mem_append_left _ hm), fun r hr => by
    rcases List.mem_append.1 (h3 r hr) with h7 | h7
    · exact h7
    · simp at h7
      subst h7
      exact absurd hr hno⟩
  omega
set_option maxRecDepth 20000 in
set_option maxHeartbeats 16000000 in
theorem leastAll (n : Int) (a : Option Addr) (len cap : Nat) (xs : List Pr) (w : World) (hw : (Lit.int .i64 n).wf = true) (h : La w a len xs) (hc : len ≤ cap) (hb : cap ≤ 8796093021952) (hn : a = none → len = 0 ∧ cap = 0) (h64 : ∀ q ∈ xs, b64 q.1 ∧ b64 q.2) :
    Calls Try.prog 8 #[.int .i64 n, .slice a len cap] w fun e w' => e = .returned (.bool true) ∧ Below w.heap.size w w' := by
  have HL : Hid (La w a len xs) := h
  have HLn : Hid (xs.length = len) := h.1
  have hl8 : len ≤ 8796093022208 := by omega
  have HNo : Hid (a = none → len = 0 ∧ cap = 0) := hn
  have hAw := awake17 w
  clear h hn hw h64 hb
  go_enter Try.func8, Try.ntmps8
  go_wp2_with fail
  refine hAw.mono ?_
  rintro e w1 ⟨rfl, hb1⟩
  have HB1 : Hid (Below w.heap.size w w1) := hb1
  clear hb1 hAw
  go_wp2_with fail
  refine (ocopyA a len cap xs w1 (HL.out.after HB1.out) HNo.out hl8).mono ?_
  rintro e w2 ⟨⟨a2, c2, rfl, hL2⟩, hb2⟩
  have HL2 : Hid (La w2 a2 len xs) := hL2
  have HB2 : Hid (Below w.heap.size w w2) := step HB1.out hb2
  clear hL2 hb2 HB1
  go_wp2_with fail
  refine (sort_all n a2 len c2 xs w2 HL2.out).mono ?_
  rintro e w3 ⟨⟨v, kk, rfl, hS⟩, hb3⟩
  have HB3 : Hid (Below w.heap.size w w3) := step HB2.out hb3
  clear hb3 HL2 HB2
  cases hS with
  | bad hck =>
    generalize ckE n xs = kk at *
    have hk : (kk != 0) = true := by simp; exact hck
    go_wp2_with fail
    go_ret
    exact ⟨rfl, HB3.out⟩
  | ring hck y hr =>
    go_wp2_with fail
    go_ret
    exact ⟨rfl, HB3.out⟩
  | ok hck out ho hlo hr av cv hg =>
    obtain ⟨h0, h1, h2, h3⟩ := ckE_ok hck
    obtain ⟨m, rfl⟩ : ∃ m : Nat, n = m := ⟨n.toNat, by omega⟩
    have HOk : Hid (xs.all (okA m) = true) := h3
    rw [Int.toNat_natCast] at ho hlo
    have HSo : Hid (So (Rn (nlf xs)) m out) := ho
    have HOl : Hid (out.length = m) := hlo
    rw [hlo] at hg ⊢
    have HLi : Hid (Li w3 av m (ints out)) := by
      have h9 := hg
      rw [show m = (ints out).length by rw [ints_length, hlo]] at h9
      have h8 := h9.toLe.li
      rwa [show (ints out).length = m by rw [ints_length, hlo]] at h8
    have hLd : Hid (∀ W, Below w.heap.size w W → ∀ x y : Nat, y ∈ nlf xs x → Calls Try.prog 26 #[.slice a len cap, .int .i64 (x : Int), .int .i64 (y : Int)] W fun e w' => e = .returned (.bool true) ∧ w' = W) := fun W hb x y hxy => by
      have h9 := oleads a len cap xs x y W (HL.out.after hb) hl8
      rwa [decide_eq_true ((nlf_iff HOk.out x y).1 hxy)] at h9
    have hm4 : m ≤ 4096 := by omega
    clear hg ho hlo hr hck h0 h1 h2 h3
    by_cases hn3 : (300 : Int) < (m : Int)
    · go_wp2_with fail
      go_ret
      exact ⟨rfl, HB3.out⟩
    by_cases hl3 : (1000 : Int) < (len : Int)
    · go_wp2_with fail
      go_ret
      exact ⟨rfl, HB3.out⟩
    have HG : Hid (Below w3.heap.size w3 w3) := Below.refl _ _
    go_wp2_with fail
    go_loopw [7] (fun i wz => ∃ k : Nat, i = .int .i64 k ∧ k ≤ m ∧ Hid (Below w3.heap.size w3 wz)) (fun i _ => (m - (intOf i).toNat : Nat))
    case atStart => exact ⟨0, rfl, Nat.zero_le _, HG.out⟩
    case round =>
      clear HG
      obtain ⟨k, rfl, hk, HBz⟩ := hrel
      have HBw : Hid (Below w.heap.size w wr) := step HB3.out HBz.out
      obtain ⟨j, hj⟩ : ∃ j, j = k + 1 := ⟨_, rfl⟩
      have hw1 : IntKind.i64.wrap ((k : Int) + 1) = (j : Int) := by rw [IntKind.wrap_i64]; omega
      rcases Nat.lt_or_ge j m with hlt | hge
      · have hji : (j : Int) < m := by omega
        have hki : (k : Int) < m := by omega
        have hko : k < out.length := by rw [HOl.out]; omega
        have hjo : j < out.length := by rw [HOl.out]; omega
        obtain ⟨b, off, rfl, ck⟩ := Li.node (by have := HLi.out.after HBz.out; rw [← HOl.out] at this; exact this) hko
        obtain ⟨b', off', e', cj⟩ := Li.node (by have := HLi.out.after HBz.out; rw [← HOl.out] at this; exact this) hjo
        cases e'
        have hxg : out[k]? = some (out.getD k 0) := by rw [List.getD_eq_getElem?_getD, List.getElem?_eq_getElem hko]; rfl
        have hyg : out[j]? = some (out.getD j 0) := by rw [List.getD_eq_getElem?_getD, List.getElem?_eq_getElem hjo]; rfl
        have HNx : Hid (out.getD j 0 < out.getD k 0 → out.getD k 0 ∈ nlf xs (out.getD j 0)) := fun h => HSo.out.least_next hxg (by rw [← hj]; exact hyg) h
        clear hxg hyg
        have hkm : j ≤ m := by omega
        have HJ : Hid (j = k + 1) := hj
        clear hj hko hjo
        generalize out.getD k 0 = x at *
        generalize out.getD j 0 = y at *
        by_cases hyx : y < x
        · have HRo : Hid (x ∈ nlf xs y) := HNx.out hyx
          have hd : decide ((y : Int) < x) = true := decide_eq_true (by omega)
          have hd2 : (y : Int) < x := by omega
          go_wp2_with fail
          go_quiet ((go_at_call 26; refine (hLd.out (wr.drewN _) (below_drewN HBw.out _) y x HRo.out).mono ?_; rintro e w2 ⟨rfl, rfl⟩; exact ⟨rfl, _, rfl⟩))
          refine nameW (Q := fun W => Exit.then _ _ _ _ W) (fun wq hwq => ?_)
          have HBq : Hid (Below w3.heap.size w3 wq) := by rw [hwq]; exact below_drewN HBz.out _
          clear hwq ck cj
          go_wp2_with fail
          go_roundw
          case rel => exact ⟨j, rfl, hkm, HBq.out⟩
          case measure => have := HJ.out; simp [intOf]; omega
        · have hd : decide ((y : Int) < x) = false := decide_eq_false (by omega)
          have hd2 : ¬ (y : Int) < x := by omega
          go_wp2_with fail
          go_quiet (fail)
          refine nameW (Q := fun W => Exit.then _ _ _ _ W) (fun wq hwq => ?_)
          have HBq : Hid (Below w3.heap.size w3 wq) := by rw [hwq]; exact below_drewN HBz.out _
          clear hwq ck cj
          go_wp2_with fail
          go_roundw
          case rel => exact ⟨j, rfl, hkm, HBq.out⟩
          case measure => have := HJ.out; simp [intOf]; omega
      · have hji : ¬ (j : Int) < m := by omega
        go_wp2_with fail
        go_ret
        exact ⟨rfl, HBw.out⟩
end Go.Proofs.Ytcfcknhmoecmoaa
