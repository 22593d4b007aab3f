/-
  juris: leastOnRing.
-/
import Derived.Test.YtfmbloagmeodeaaJu1
namespace Go.Proofs.Ytfmbloagmeodeaa
open Go.RowKit Go.Shelf
set_option linter.unusedVariables false
variable {α : Type}

theorem mr_len (f : Nat → α) (n : Nat) : ((List.range n).map f).length = n := by simp
theorem mr_get (f : Nat → α) {n p : Nat} (d : α) (h : p < n) : ((List.range n).map f).getD p d = f p := by
  simp [List.getD_eq_getElem?_getD, h]
theorem mr_set {f g : Nat → α} {x n : Nat} {v : α} (hx : g x = v) (h : ∀ p, p < n → p ≠ x → g p = f p) : ((List.range n).map f).set x v = (List.range n).map g := by
  apply List.ext_getElem
  · simp
  · intro i h1 h2
    simp at h2
    rw [List.getElem_set]
    split
    · next e => subst e; simp [hx]
    · next e => simp [h i h2 (fun e' => e e'.symm)]
theorem mr_congr {f g : Nat → α} {n : Nat} (h : ∀ p, p < n → g p = f p) : (List.range n).map f = (List.range n).map g := by
  apply List.ext_getElem
  · simp
  · intro i h1 h2
    simp at h2
    simp [h i h2]
theorem mr_zero (n : Nat) (v : α) : List.replicate n v = (List.range n).map (fun _ => v) := by
  apply List.ext_getElem
  · simp
  · intro i h1 h2
    simp
/-- Of each place how many it is the parent of. -/
def kR (ps : List Int) (off : Nat → Bool) (k n : Nat) : List Int := (List.range n).map (fun p => ((kd ps off p k : Nat) : Int))
/-- Of each place whether it is off. -/
def bR (off : Nat → Bool) (n : Nat) : List Bool := (List.range n).map off
theorem kR_zero (ps : List Int) (off : Nat → Bool) (n : Nat) : List.replicate n (0 : Int) = kR ps off 0 n := mr_zero n 0
theorem kR_put {ps : List Int} {k n p : Nat} (h : ps.getD k (-1) = (p : Int)) : (kR ps (fun _ => false) k n).set p ((kd ps (fun _ => false) p k : Nat) + 1 : Int) = kR ps (fun _ => false) (k + 1) n := by
  refine mr_set ?_ (fun q hq hne => ?_)
  · rw [kd_step, if_pos h]; simp
  · rw [kd_step, if_neg (by rw [h]; omega)]; simp
theorem kR_skip {ps : List Int} {k n : Nat} (h : ps.getD k (-1) = -1) : kR ps (fun _ => false) (k + 1) n = kR ps (fun _ => false) k n := by
  refine mr_congr (fun q hq => ?_)
  rw [kd_step, if_neg (by rw [h]; omega)]; simp
theorem kR_off {ps : List Int} {off : Nat → Bool} {x p n : Nat} (hx : off x = false) (hn : x < n) (h : ps.getD x (-1) = (p : Int)) : (kR ps off n n).set p ((kd ps off p n : Nat) - 1 : Int) = kR ps (upd off x) n n := by
  refine mr_set ?_ (fun q hq hne => ?_)
  · rw [kd_upd hx hn, if_pos h]; omega
  · rw [kd_upd hx hn (p := q), if_neg (by rw [h]; omega)]; simp
theorem kR_root {ps : List Int} {off : Nat → Bool} {x n : Nat} (hx : off x = false) (hn : x < n) (h : ps.getD x (-1) = -1) : kR ps off n n = kR ps (upd off x) n n := by
  refine mr_congr (fun q hq => ?_)
  rw [kd_none hx h hn]
theorem bR_set (off : Nat → Bool) (x n : Nat) : (bR off n).set x true = bR (upd off x) n :=
  mr_set (upd_same off x) (fun q hq hne => upd_other hne)
open Classical in
/-- How many of a block's first cells are false. -/
noncomputable def lf (w : World) (g n : Nat) : Nat := cn (fun k => decide (w.cell? ⟨g, k, none⟩ = some (.bool false))) n
theorem lf_of {w : World} {g n : Nat} {off : Nat → Bool} (h : Ow 4 Value.bool w g (bR off n)) : lf w g n = cn (fun k => !off k) n := by
  refine cn_congr (fun k hk => ?_)
  have := h.cell k true (by simp [bR, hk])
  rw [show (bR off n).getD k true = off k from mr_get off true hk] at this
  rw [this]
  cases off k <;> simp
/-- What leastOnRing answers. -/
def LR (ps : List Int) (r : Int) : Prop := (r = -1 ∧ ∀ i, i < ps.length → ¬ Rg ps i) ∨ ∃ i : Nat, i < ps.length ∧ r = i ∧ Rg ps i ∧ ∀ k, k < i → ¬ Rg ps k
theorem LR.of {ps : List Int} (hO : Okp ps) {off : Nat → Bool} (hP : Pl ps off) (hd : ∀ p, p < ps.length → kd ps off p ps.length = 0 → off p = true) {r : Int} (h : ixB (bR off ps.length) r) : LR ps r := by
  unfold ixB at h
  rw [show (bR off ps.length).length = ps.length from mr_len off _] at h
  rcases h with ⟨rfl, h1⟩ | ⟨i, hi, rfl, h2, h3⟩
  · refine .inl ⟨rfl, fun i hi hr => ?_⟩
    have := h1 i hi
    rw [show (bR off ps.length).getD i true = off i from mr_get off true hi, (peeled hO hP hd hi).2 hr] at this
    cases this
  · refine .inr ⟨i, hi, rfl, ?_, fun k hk hr => ?_⟩
    · rw [show (bR off ps.length).getD i true = off i from mr_get off true hi] at h2
      exact (peeled hO hP hd hi).1 h2
    · have := h3 k hk
      rw [show (bR off ps.length).getD k true = off k from mr_get off true (by omega), (peeled hO hP hd (by omega)).2 hr] at this
      cases this
/-- What holds between two rounds. -/
structure Lo (ps : List Int) (w wr : World) (off : Nat → Bool) : Prop where
  kids : Ow 3 (Value.int .i64) wr w.heap.size (kR ps off ps.length ps.length)
  offs : Ow 4 Value.bool wr (w.heap.size + 1) (bR off ps.length)
  pl : Pl ps off
  below : Below w.heap.size w wr
theorem Lo.kid {ps : List Int} {w wr : World} {off : Nat → Bool} (h : Lo ps w wr off) {p : Nat} (hp : p < ps.length) : wr.cell? ⟨w.heap.size, p, none⟩ = some (.int .i64 (kd ps off p ps.length : Nat)) := by
  have := h.kids.cell p 0 (by simp [kR, hp])
  rwa [show (kR ps off ps.length ps.length).getD p 0 = (kd ps off p ps.length : Nat) from mr_get _ 0 hp] at this
theorem Lo.isOff {ps : List Int} {w wr : World} {off : Nat → Bool} (h : Lo ps w wr off) {p : Nat} (hp : p < ps.length) : wr.cell? ⟨w.heap.size + 1, p, none⟩ = some (.bool (off p)) := by
  have := h.offs.cell p true (by simp [bR, hp])
  rwa [show (bR off ps.length).getD p true = off p from mr_get _ true hp] at this
theorem Lo.root {ps : List Int} (hO : Okp ps) {w wr : World} {off : Nat → Bool} (h : Lo ps w wr off) {x : Nat} (hx : x < ps.length) (h0 : kd ps off x ps.length = 0) (ho : off x = false) (hr : ps.getD x (-1) = -1) : Lo ps w (wr.setCell ⟨w.heap.size + 1, x, none⟩ (.bool true)) (upd off x) := by
  refine ⟨?_, ?_, h.pl.off hO h0, h.below.setCell (p := ⟨w.heap.size + 1, x, none⟩) (by simp) _⟩
  · rw [← kR_root ho hx hr]
    exact h.kids.other (p := ⟨w.heap.size + 1, x, none⟩) (by simp) _
  · have := h.offs.set x true _ rfl
    rwa [bR_set] at this
theorem Lo.up {ps : List Int} (hO : Okp ps) {w wr : World} {off : Nat → Bool} (h : Lo ps w wr off) {x p : Nat} (hx : x < ps.length) (h0 : kd ps off x ps.length = 0) (ho : off x = false) (hr : ps.getD x (-1) = (p : Int)) : Lo ps w ((wr.setCell ⟨w.heap.size + 1, x, none⟩ (.bool true)).setCell ⟨w.heap.size, p, none⟩ (.int .i64 ((kd ps off p ps.length : Nat) - 1))) (upd off x) := by
  refine ⟨?_, ?_, h.pl.off hO h0, (h.below.setCell (p := ⟨w.heap.size + 1, x, none⟩) (by simp) _).setCell (p := ⟨w.heap.size, p, none⟩) (by simp) _⟩
  · rw [← kR_off ho hx hr]
    exact (h.kids.other (p := ⟨w.heap.size + 1, x, none⟩) (by simp) _).set p _ _ rfl
  · have := (h.offs.set x true _ rfl).other (p := ⟨w.heap.size, p, none⟩) (by simp) (.int .i64 ((kd ps off p ps.length : Nat) - 1))
    rwa [bR_set] at this
set_option maxHeartbeats 4000000 in
theorem least_any (ps : List Int) (hO : Okp ps) (hl : ps.length ≤ 4096) (a : Option Addr) (cap : Nat) (w : World) (hL : Li w a ps.length ps) :
    Calls Try.prog 44 #[.slice a ps.length cap] w fun e w' => (∃ r : Int, e = .returned (.int .i64 r) ∧ LR ps r) ∧ Below w.heap.size w w' := by
  have hm1 := make_int ps.length (by omega)
  have hm2 := make_bool ps.length (by omega)
  have HL : Hid (Li w a ps.length ps) := hL
  have HO : Hid (Okp ps) := hO
  clear hL hO
  go_enter Try.func44, Try.ntmps44
  go_wp2_with fail
  refine ent1 w _ _ (Q := fun W => Code.wp _ _ _ _ W) ?_
  intro W0 hB0 hs0 V0
  have HK0 : Hid (Ow 3 (Value.int .i64) W0 w.heap.size (kR ps (fun _ => false) 0 ps.length)) := by
    show Va _ _ _ _
    rw [← kR_zero]; simpa using V0
  have HB0 : Hid (Below w.heap.size w W0) := hB0
  clear hB0 V0 hm1
  go_loopw [5, 14] (fun _ j wr => ∃ k : Nat, j = .int .i64 k ∧ k ≤ ps.length ∧ Hid (Ow 3 (Value.int .i64) wr w.heap.size (kR ps (fun _ => false) k ps.length)) ∧ Hid (Below w.heap.size w wr) ∧ wr.heap.size = w.heap.size + 1) (fun _ j _ => (ps.length - (intOf j).toNat : Nat))
  case atStart => exact ⟨0, rfl, Nat.zero_le _, HK0.out, HB0.out, hs0⟩
  case round =>
    clear HK0 HB0 hs0
    obtain ⟨k, rfl, hk, HK, HB, hs⟩ := hrel
    rcases Nat.lt_or_ge k ps.length with hlt | hge
    · obtain ⟨b, off, rfl, hc⟩ := (HL.out.after HB.out).at hlt
      have hki : (k : Int) < ps.length := by omega
      have hok := HO.out k (ps.getD k (-1)) (by rw [List.getD_eq_getElem?_getD, List.getElem?_eq_getElem hlt]; rfl)
      obtain ⟨x, hx⟩ : ∃ x, ps.getD k (-1) = x := ⟨_, rfl⟩
      rw [hx] at hc hok
      have HX : Hid (ps.getD k (-1) = x) := hx
      clear hx
      by_cases hn : x = -1
      · subst hn
        clear hok
        go_wp2_with fail
        go_roundw
        case rel => exact ⟨k + 1, rfl, by omega, by rw [kR_skip HX.out]; exact HK.out, HB.out, hs⟩
        case measure => simp [intOf]; omega
      · obtain ⟨p, rfl⟩ : ∃ p : Nat, x = p := ⟨x.toNat, by omega⟩
        have hp : p < ps.length := by omega
        have hpi : (p : Int) < ps.length := by omega
        have c1 := HK.out.cell p 0 (by simp [kR, hp])
        rw [show (kR ps (fun _ => false) k ps.length).getD p 0 = (kd ps (fun _ => false) p k : Nat) from mr_get _ 0 hp] at c1
        have f1 := HK.out.frozen p
        have hkd : kd ps (fun _ => false) p k ≤ 4096 := Nat.le_trans (cn_le _ _) (by omega)
        have HE : Hid ((kR ps (fun _ => false) k ps.length).set p ((kd ps (fun _ => false) p k : Nat) + 1 : Int) = kR ps (fun _ => false) (k + 1) ps.length) := kR_put HX.out
        generalize kd ps (fun _ => false) p k = m at *
        clear hok
        go_wp2_with fail
        go_roundw
        case rel => exact ⟨k + 1, rfl, by omega, by rw [← HE.out]; exact HK.out.set p _ _ rfl, HB.out.setCell (p := ⟨w.heap.size, p, none⟩) (by simp) _, by simp [hs]⟩
        case measure => simp [intOf]; omega
    · obtain rfl : k = ps.length := by omega
      clear hge hk
      go_wp2_with fail
      refine ent1 wr _ _ (Q := fun W => Code.wp _ _ _ _ W) ?_
      intro W1 hB1 hs1 V1
      rw [hs] at V1
      have HL1 : Hid (Lo ps w W1 (fun _ => false)) := ⟨HK.out.after hB1, by show Va _ _ _ _; rw [show bR (fun _ => false) ps.length = List.replicate ps.length false from (mr_zero _ _).symm]; simpa using V1, Pl.nil ps, HB.out.trans (hB1.mono (by omega))⟩
      clear HK HB hB1 V1 hm2 hs1 hs
      go_loopw [7, 8, 32] (fun _ _ j wr => ∃ (k : Nat) (off : Nat → Bool), j = .int .i64 k ∧ k ≤ ps.length ∧ Hid (Lo ps w wr off) ∧ Hid (∀ p, p < k → kd ps off p ps.length = 0 → off p = true)) (fun _ _ j _ => (ps.length - (intOf j).toNat : Nat))
      case atStart => exact ⟨0, _, rfl, Nat.zero_le _, HL1.out, fun p hp => absurd hp (Nat.not_lt_zero _)⟩
      case round =>
        clear HL1
        obtain ⟨k, off, rfl, hk, HLo, HD⟩ := hrel
        rcases Nat.lt_or_ge k ps.length with hlt | hge
        · have hki : (k : Int) < ps.length := by omega
          go_wp2_with fail
          go_loopw [8] (fun pl wr => ∃ (p : Nat) (off : Nat → Bool), pl = .int .i64 p ∧ p < ps.length ∧ Hid (Lo ps w wr off) ∧ Hid (∀ q, q ≤ k → q ≠ p → kd ps off q ps.length = 0 → off q = true)) (fun _ wr => lf wr (w.heap.size + 1) ps.length)
          case atStart => exact ⟨k, off, rfl, hlt, HLo.out, fun q hq hne => HD.out q (by omega)⟩
          case round =>
            clear HLo HD
            obtain ⟨p, off, rfl, hp, HLo, HD⟩ := hrel
            have c1 := HLo.out.kid hp
            have c2 := HLo.out.isOff hp
            have hpi : (p : Int) < ps.length := by omega
            have hkd : kd ps off p ps.length ≤ 4096 := Nat.le_trans (cn_le _ _) (by omega)
            by_cases h0 : kd ps off p ps.length = 0
            · cases ho : off p with
              | true =>
                have HO2 : Hid (off p = true) := ho
                rw [h0] at c1
                rw [ho] at c2
                have H0 : Hid (kd ps off p ps.length = 0) := h0
                clear ho h0 hkd
                go_wp2_with fail
                go_roundw
                case rel => exact ⟨k + 1, off, rfl, by omega, HLo.out, fun q hq hz => by
                  by_cases e : q = p
                  · subst e; exact HO2.out
                  · exact HD.out q (by omega) e hz⟩
                case measure => simp [intOf]; omega
              | false =>
                have HO2 : Hid (off p = false) := ho
                rw [h0] at c1
                rw [ho] at c2
                have H0 : Hid (kd ps off p ps.length = 0) := h0
                clear ho h0 hkd
                have f2 := HLo.out.offs.frozen p
                obtain ⟨b, o, rfl, hc⟩ := (HL.out.after HLo.out.below).at hp
                have hbl : b < w.heap.size := HL.out.low (by omega) b o rfl
                have hne : b ≠ w.heap.size + 1 := by omega
                have hok := HO.out p (ps.getD p (-1)) (by rw [List.getD_eq_getElem?_getD, List.getElem?_eq_getElem hp]; rfl)
                obtain ⟨x, hx⟩ : ∃ x, ps.getD p (-1) = x := ⟨_, rfl⟩
                rw [hx] at hc hok
                have HX : Hid (ps.getD p (-1) = x) := hx
                clear hx
                by_cases hn : x = -1
                · subst hn
                  clear hok
                  go_wp2_with fail
                  go_roundw
                  case rel => exact ⟨k + 1, upd off p, rfl, by omega, HLo.out.root HO.out hp H0.out HO2.out HX.out, fun q hq hz => by
                    by_cases e : q = p
                    · subst e; exact upd_same _ _
                    · rw [kd_none HO2.out HX.out hp] at hz
                      exact upd_true (HD.out q (by omega) e hz)⟩
                  case measure => simp [intOf]; omega
                · obtain ⟨r, rfl⟩ : ∃ r : Nat, x = r := ⟨x.toNat, by omega⟩
                  have hr : r < ps.length := by omega
                  have hri : (r : Int) < ps.length := by omega
                  have hkr : kd ps off r ps.length ≤ 4096 := Nat.le_trans (cn_le _ _) (by omega)
                  have hk1 : 1 ≤ kd ps off r ps.length := cn_one hp (by simp only [HX.out, HO2.out]; simp)
                  have c3 := HLo.out.kid hr
                  have f3 := HLo.out.kids.frozen r
                  have HN : Hid (Lo ps w ((wr.setCell ⟨w.heap.size + 1, p, none⟩ (.bool true)).setCell ⟨w.heap.size, r, none⟩ (.int .i64 ((kd ps off r ps.length : Nat) - 1))) (upd off p)) := HLo.out.up HO.out hp H0.out HO2.out HX.out
                  have HM : Hid (lf ((wr.setCell ⟨w.heap.size + 1, p, none⟩ (.bool true)).setCell ⟨w.heap.size, r, none⟩ (.int .i64 ((kd ps off r ps.length : Nat) - 1))) (w.heap.size + 1) ps.length < lf wr (w.heap.size + 1) ps.length) := by
                    show _ < _
                    rw [lf_of HN.out.offs, lf_of HLo.out.offs, left_upd HO2.out hp]; omega
                  have HS : Hid (∀ q, q ≠ r → kd ps (upd off p) q ps.length = kd ps off q ps.length) := fun q hq => by rw [kd_upd HO2.out hp (p := q), if_neg (by rw [HX.out]; omega)]; rfl
                  generalize kd ps off r ps.length = m at *
                  clear hok
                  go_wp2_with fail
                  go_roundw
                  case rel => exact ⟨r, upd off p, rfl, hr, HN.out, fun q hq hne hz => by
                    by_cases e : q = p
                    · subst e; exact upd_same _ _
                    · rw [HS.out q hne] at hz
                      exact upd_true (HD.out q hq e hz)⟩
                  case measure => exact HM.out
            · have h0i : ¬ ((kd ps off p ps.length : Nat) : Int) = 0 := by omega
              have HZ : Hid (¬ kd ps off p ps.length = 0) := h0
              clear h0
              generalize hm : kd ps off p ps.length = m at *
              go_wp2_with fail
              go_roundw
              case rel => exact ⟨k + 1, off, rfl, by omega, HLo.out, fun q hq hz => by
                by_cases e : q = p
                · subst e; exact absurd (hm.symm.trans hz) HZ.out
                · exact HD.out q (by omega) e hz⟩
              case measure => simp [intOf]; omega
        · obtain rfl : k = ps.length := by omega
          clear hge hk
          have HI := index_any (w.heap.size + 1) (bR off ps.length) (by simp [bR]; omega) wr HLo.out.offs
          rw [show (bR off ps.length).length = ps.length from mr_len off _] at HI
          go_wp2_with (go_at_call 51; refine HI.mono ?_; rintro e w1 ⟨⟨r, rfl, hr⟩, rfl⟩)
          go_ret
          exact ⟨⟨r, rfl, LR.of HO.out HLo.out.pl HD.out hr⟩, HLo.out.below⟩
end Go.Proofs.Ytfmbloagmeodeaa
