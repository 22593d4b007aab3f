/-
  order: leastRing, Ring.
-/
import Derived.Test.YtonhooaboieapaaOdF
import Derived.Test.YtonhooaboieapaaOdD
namespace Go.Proofs.Ytonhooaboieapaa
open Go.RowKit Go.Shelf
set_option linter.unusedVariables false
set_option linter.unusedSimpArgs false

theorem ring_ds {N : Nat → List Nat} {a : Nat} (h : RgN (Rn N) a) : ∃ L, Ds (Rn N) L a a := by
  obtain ⟨j, hj⟩ := h
  obtain ⟨k, -, hd⟩ := ds_there (by omega) hj
  exact ⟨k, hd⟩
theorem Rtl.last? {N : Nat → List Nat} {a L : Nat} {out : List Nat} (h : Rtl (Rn N) a L out) : 0 < out.length := by
  have := h.first
  rcases Nat.eq_zero_or_pos out.length with e | e
  · rw [List.getElem?_eq_none (by omega)] at this; cases this
  · exact e
/-- The next one of the ring: how far it still is. -/
theorem Rtl.near {N : Nat → List Nat} {n a L : Nat} {out : List Nat} {st : Nat → Nat} (hs : Stp N n a st) (h : Rtl (Rn N) a L out) {x z : Nat} (hx : out[out.length - 1]? = some x) (hz : NrM st (N x) z) : st z + 1 = L - (out.length - 1) :=
  hs.ds (h.dist _ x hx) hz.1 (fun y hy => by
    have := hz.2 y hy
    unfold Nr at this
    omega)
theorem Rtl.go {N : Nat → List Nat} {n a L : Nat} {out : List Nat} {st : Nat → Nat} (hs : Stp N n a st) (hn : 0 < n) (h : Rtl (Rn N) a L out) {x z : Nat} (hx : out[out.length - 1]? = some x) (hz : NrM st (N x) z) (hne : z ≠ a) : Rtl (Rn N) a L (out ++ [z]) ∧ out.length < L := by
  have h0 := h.last?
  have h1 := h.near hs hx hz
  have h2 : st z ≠ 0 := fun e => hne (hs.zero z e)
  have hl := h.len
  have h3 : out.length < L := by omega
  have hzL : st z = L - out.length := by omega
  have hlt : st z < n := by
    obtain ⟨d1, d2, d3⟩ := h.dist _ x hx
    obtain ⟨L', hL'⟩ : ∃ L', L - (out.length - 1) = L' + 1 := ⟨L - (out.length - 1) - 1, by omega⟩
    rw [hL'] at d2
    obtain ⟨y, h5, h6⟩ := d2
    obtain ⟨h7, h8⟩ := hs.least _ y h6
    have := hz.2 y h5
    unfold Nr at this
    omega
  refine ⟨h.snoc h3 hx hz.1 ⟨by omega, ?_, fun i hi hw => ?_⟩ (fun y hy hd => ?_), h3⟩
  · rw [← hzL]; exact hs.lead z hlt
  · have := (hs.least i z hw).1
    omega
  · have h4 := (hs.least _ y hd.2.1).1
    have := hz.2 y hy
    unfold Nr at this
    omega
theorem Rtl.full {N : Nat → List Nat} {n a L : Nat} {out : List Nat} {st : Nat → Nat} (hs : Stp N n a st) (h : Rtl (Rn N) a L out) {x : Nat} (hx : out[out.length - 1]? = some x) (hz : NrM st (N x) a) : out.length = L := by
  have h1 := h.near hs hx hz
  have h2 := (hs.least 0 a rfl).1
  have := h.len
  have := h.last?
  omega
set_option maxRecDepth 20000 in
set_option maxHeartbeats 8000000 in
theorem leastRing_any (n : Nat) (hn : n ≤ 4096) (b0 : Nat) (N : Nat → List Nat) (w : World) (h : Rw n w b0 N) (hl : ∀ p, (N p).length ≤ 65536) (hN : ∀ x y, y ∈ N x → x < n ∧ y < n) (a : Nat) (ha : RgN (Rn N) a) :
    Calls Try.prog 31 #[.int .i64 (a : Int), .slice (some ⟨b0, 0, none⟩) n n] w fun e w' => (∃ L out lst, e = .returned lst ∧ Rtl (Rn N) a L out ∧ out.length = L ∧ Ge elI w' w.heap.size lst (ints out)) ∧ Below w.heap.size w w' := by
  have han : a < n := by obtain ⟨j, z, h1, h2⟩ := ha; exact (hN a z h1).1
  have HSt : Hid (∀ W, Below w.heap.size w W → Calls Try.prog 38 #[.int .i64 (a : Int), .slice (some ⟨b0, 0, none⟩) n n] W fun e w' => (∃ gs st, e = .returned (.slice (some ⟨gs, 0, none⟩) n n) ∧ Fn n w' gs st ∧ W.heap.size ≤ gs ∧ Stp N n a st) ∧ Below W.heap.size W w') := fun W hb => stepsTo_any n hn b0 N W (h.after hb) hl hN a han
  have HR : Hid (Rw n w b0 N) := h
  have HLe : Hid (∀ p, (N p).length ≤ 65536) := hl
  have HNn : Hid (∀ x y, y ∈ N x → x < n ∧ y < n) := hN
  have HA : Hid (RgN (Rn N) a) := ha
  have hai : (a : Int) < n := by omega
  clear h hl hN ha
  go_enter Try.func31, Try.ntmps31
  go_wp2_with fail
  refine ent1 w _ _ (Q := fun W => Calls _ _ _ W _) ?_
  intro W0 hB0 hs0 V0
  refine (HSt.out W0 hB0).mono ?_
  rintro e w1 ⟨⟨gs, st, rfl, hF, hgs, hst⟩, hb1⟩
  have HV0 : Hid (Va w1 w.heap.size 45 #[.slice (some ⟨b0, 0, none⟩) n n]) := V0.after hb1
  have HF1 : Hid (Fn n w1 gs st) := hF
  have HSp : Hid (Stp N n a st) := hst
  have HB1 : Hid (Below w.heap.size w w1) := step hB0 hb1
  clear V0 hF hgs hst hb1 hB0 hs0 HSt
  go_wp2_with fail
  refine ent2 w1 _ _ _ _ (Q := fun W => Calls _ _ _ W _) ?_
  intro W2 hB2 hs2 V1 V2
  have hz1 : w.heap.size < w1.heap.size := HV0.out.lt
  have hgs1 : gs < w1.heap.size := Fv.lt HF1.out
  have HSv : Hid (Sv n W2 w1.heap.size gs st) := ⟨V1, Fv.after hB2 HF1.out⟩
  have HV : Hid (Va W2 w.heap.size 45 #[.slice (some ⟨b0, 0, none⟩) n n]) := HV0.out.after hB2
  have HB : Hid (Below w.heap.size w W2) := step HB1.out hB2
  have HG : Hid (Ge elI W2 w.heap.size (.slice (some ⟨w1.heap.size + 1, 0, none⟩) 1 1) (ints [a])) := Ge.of (E := elI) V2 (by omega) rfl rfl (by decide)
  obtain ⟨L, hL⟩ := ring_ds HA.out
  have HRt : Hid (Rtl (Rn N) a L [a]) := Rtl.start hL
  have HNa : Hid (∀ x, (∃ j, Ds (Rn N) j x a) → x < n ∧ 0 < (N x).length) := fun x ⟨j, h1, h2, h3⟩ => by
    obtain ⟨j', rfl⟩ : ∃ j', j = j' + 1 := ⟨j - 1, by omega⟩
    obtain ⟨y, h4, -⟩ := h2
    exact ⟨(HNn.out x y h4).1, List.length_pos_of_mem h4⟩
  have HNe : Hid (∀ (W : World) (x : Nat), (∃ j, Ds (Rn N) j x a) → Sv n W w1.heap.size gs st → Va W w.heap.size 45 #[.slice (some ⟨b0, 0, none⟩) n n] → Below w.heap.size w W → Calls Try.prog 39 #[.int .i64 (x : Int), .pointer (some ⟨w.heap.size, 0, none⟩), .pointer (some ⟨w1.heap.size, 0, none⟩)] W fun e w' => (∃ m : Nat, e = .returned (.int .i64 (m : Int)) ∧ NrM st (N x) m) ∧ Below W.heap.size W w') := fun W x hx h1 h2 h3 => by
    obtain ⟨h4, h5⟩ := HNa.out x hx
    exact nearest_any h1 h2 (HR.out.after h3) h4 h5 (HLe.out x) (fun y hy => (HNn.out x y hy).2)
  have HDa : Hid (∃ j, Ds (Rn N) j a a) := ⟨L, hL⟩
  have HL1 : Hid (1 ≤ L) := hL.1
  clear V1 V2 hB2 hs2 HV0 HF1 hL HB1
  refine (HNe.out W2 a HDa.out HSv.out HV.out HB.out).mono ?_
  rintro e w3 ⟨⟨z, rfl, hz⟩, hb3⟩
  have HZ : Hid (NrM st (N a) z) := hz
  have HSv3 : Hid (Sv n w3 w1.heap.size gs st) := HSv.out.after hb3
  have HV3 : Hid (Va w3 w.heap.size 45 #[.slice (some ⟨b0, 0, none⟩) n n]) := HV.out.after hb3
  have HB3 : Hid (Below w.heap.size w w3) := step HB.out hb3
  have HG3 : Hid (Ge elI w3 w.heap.size (.slice (some ⟨w1.heap.size + 1, 0, none⟩) 1 1) (ints [a])) := HG.out.after hb3
  have hgs2 : gs ≠ w1.heap.size + 1 := by omega
  have HAp : Hid ((Value.slice (some ⟨w1.heap.size + 1, 0, none⟩) 1 1).ownBlock ≠ some gs) := fun e => hgs2 (by have e2 : some (w1.heap.size + 1) = some gs := e; exact (Option.some.inj e2).symm)
  clear hz hb3 HSv HV HB HG hgs1 hgs2 W2
  go_wp2_with fail
  go_loopg [7, 8] (L - 1) (fun gh v i wz => ∃ (out : List Nat) (z : Nat), i = .int .i64 z ∧ Hid (Ge elI wz w.heap.size v (ints out)) ∧ Hid (v.ownBlock ≠ some gs) ∧ Hid (Rtl (Rn N) a L out) ∧ Hid (∃ x, out[out.length - 1]? = some x ∧ NrM st (N x) z) ∧ Hid (Sv n wz w1.heap.size gs st) ∧ Hid (Va wz w.heap.size 45 #[.slice (some ⟨b0, 0, none⟩) n n]) ∧ Hid (Below w.heap.size w wz) ∧ Hid (gh = L - out.length))
  case atStart => exact ⟨[a], z, rfl, HG3.out, HAp.out, HRt.out, ⟨a, rfl, HZ.out⟩, HSv3.out, HV3.out, HB3.out, rfl⟩
  case round =>
    clear HG3 HAp HRt HZ HSv3 HV3 HB3
    obtain ⟨out, z, rfl, HG, HAp, HRt, HZ, HSv, HV, HB, HGh⟩ := hrel
    by_cases hza : z = a
    · subst hza
      have HFu : Hid (out.length = L) := (fun ⟨x, h1, h2⟩ => HRt.out.full HSp.out h1 h2) HZ.out
      go_wp2_with fail
      go_ret
      exact ⟨⟨L, out, _, rfl, HRt.out, HFu.out, HG.out⟩, HB.out⟩
    · have hne : ¬ (z : Int) = (a : Int) := by omega
      have HGo : Hid (Rtl (Rn N) a L (out ++ [z]) ∧ out.length < L) := (fun ⟨x, h1, h2⟩ => HRt.out.go HSp.out (by omega) h1 h2 hza) HZ.out
      have HDz : Hid (∃ j, Ds (Rn N) j z a) := ⟨_, HGo.out.1.dist out.length z (by rw [List.getElem?_append_right (Nat.le_refl _), Nat.sub_self]; rfl)⟩
      obtain ⟨av, cv, rfl, -, -, -⟩ := HG.out.shape
      have hLn : L ≤ 1000000000 ∨ True := .inr trivial
      have HOl : Hid (out.length ≤ n) := by
        refine few_nat (n := n) ?_ (fun y hy => ?_)
        · rw [List.Nodup, List.pairwise_iff_getElem]
          intro i j hi hj hij e
          have := HRt.out.apart (List.getElem?_eq_getElem hi) (by rw [List.getElem?_eq_getElem hj, e])
          omega
        · obtain ⟨i, hi⟩ := List.mem_iff_getElem?.1 hy
          exact (HNa.out y ⟨_, HRt.out.dist i y hi⟩).1
      have HLn : Hid ((ints out).length + 1 ≤ 1000000000000) := by show _ ≤ _; rw [ints_length]; have := HOl.out; omega
      have hbs : w.heap.size ≤ wr.heap.size := HB.out.size
      clear hza hLn
      go_wp2_with (first
        | (at_builtin; refine wpList_appE rfl _ _ _ rfl elI rfl w.heap.size _ (ints out) rfl (HG.out.al _) wr.heap.size 0 1 1 [(z : Int)] rfl (Le.one (Va.new wr _ _) rfl) HLn.out (by simp; omega) ?_; intro v5 w5 hg5 hgr5 hob5; have HG5 : Hid (Ge elI w5 w.heap.size v5 (ints (out ++ [z]))) := (by rw [ints_snoc]; exact hg5); have HB5 : Hid (Below w.heap.size w w5) := appE_below hgr5 HG.out (by simp; omega) (HB.out.alloc HB.out.size _); have HS5 : Hid (Sv n w5 w1.heap.size gs st) := ⟨(hgr5.block _ (by have := HSv.out.1.lt; simp; omega) (fun e => HG.out.apart HSv.out.1 (by decide) e.symm)).trans (HSv.out.1.old _), Fv.kept HSv.out.2 ((hgr5.block _ (by have := Fv.lt HSv.out.2; simp; omega) (fun e => HAp.out e.symm)).trans (Below.heap_alloc _ _ _ (Fv.lt HSv.out.2)))⟩; have HV5 : Hid (Va w5 w.heap.size 45 #[.slice (some ⟨b0, 0, none⟩) n n]) := (hgr5.block _ (by have := HV.out.lt; simp; omega) (fun e => HG.out.apart HV.out (by decide) e.symm)).trans (HV.out.old _); have HA5 : Hid (v5.ownBlock ≠ some gs) := (by rcases hob5 with e | e <;> rw [e]; exact HAp.out; intro e2; have := Option.some.inj e2; have := Fv.lt HSv.out.2; simp at *; omega); obtain ⟨a5, k5, rfl, -, -, -⟩ := hg5.shape; clear hg5 hgr5 hob5)
        | (go_at_call 39; refine (HNe.out w5 z HDz.out HS5.out HV5.out HB5.out).mono ?_; rintro e w6 ⟨⟨z6, rfl, hz6⟩, hb6⟩; have HZ6 : Hid (NrM st (N z) z6) := hz6; have HB6 : Hid (Below w5.heap.size w5 w6) := hb6; clear hz6 hb6))
      go_roundg (L - (out.length + 1))
      case measure =>
        have h1 := HGh.out
        have h2 := HGo.out.2
        omega
      case rel =>
        refine ⟨out ++ [z], z6, rfl, ?_, (by have h9 := HA5.out; rw [List.length_append] at h9; exact h9), HGo.out.1, ⟨z, ?_, HZ6.out⟩, HS5.out.after HB6.out, HV5.out.after HB6.out, step HB5.out HB6.out, ?_⟩
        · have h9 := HG5.out.after HB6.out
          rw [List.length_append] at h9
          exact h9
        · rw [List.length_append, List.length_singleton, Nat.add_sub_cancel, List.getElem?_append_right (Nat.le_refl _), Nat.sub_self]; rfl
        · show _ = _
          rw [List.length_append]; rfl
/-- What Ring answers. -/
inductive RiR (w : World) (B : Nat) (n : Int) (xs : List Pr) : Value → Int → Prop
  | bad (h : ckE n xs ≠ 0) : RiR w B n xs (.slice none 0 0) (ckE n xs)
  | none (h : ckE n xs = 0) (hr : ∀ y, ¬ RgN (Rn (nlf xs)) y) : RiR w B n xs (.slice none 0 0) 0
  | ring (h : ckE n xs = 0) (m L : Nat) (out : List Nat) (hm : RgN (Rn (nlf xs)) m) (hl : ∀ y, RgN (Rn (nlf xs)) y → m ≤ y) (hr : Rtl (Rn (nlf xs)) m L out) (hf : out.length = L) (a : Option Addr) (c : Nat) (hg : Ge elI w B (.slice a out.length c) (ints out)) : RiR w B n xs (.slice a out.length c) 0
theorem RiR.after {w w' : World} {B : Nat} {n : Int} {xs : List Pr} {v : Value} {e : Int} (hb : Below w.heap.size w w') (h : RiR w B n xs v e) : RiR w' B n xs v e := by
  cases h with
  | bad h => exact .bad h
  | none h hr => exact .none h hr
  | ring h m L out hm hl hr hf a c hg => exact .ring h m L out hm hl hr hf a c (hg.after hb)
set_option maxHeartbeats 4000000 in
theorem oring_bad (n : Int) (a : Option Addr) (len cap : Nat) (xs : List Pr) (w : World) (h : La w a len xs) (hc : ckE n xs ≠ 0) :
    Calls Try.prog 19 #[.int .i64 n, .slice a len cap] w fun e w' => e = .returned (.tuple #[.slice none 0 0, .int .i64 (ckE n xs)]) ∧ Below w.heap.size w w' := by
  have hC := ocheck_any n a len cap xs w h
  clear h
  generalize ckE n xs = k at *
  go_enter Try.func19, Try.ntmps19
  go_wp2_with (go_at_call 22; refine hC.mono ?_; rintro e w1 ⟨rfl, hb1⟩; have HB1 : Hid (Below w.heap.size w w1) := hb1; clear hb1 hC)
  go_ret2
  exact ⟨rfl, HB1.out⟩
set_option maxHeartbeats 4000000 in
theorem oring_ok (n : Nat) (a : Option Addr) (len cap : Nat) (xs : List Pr) (w : World) (h : La w a len xs) (hc : ckE n xs = 0) :
    Calls Try.prog 19 #[.int .i64 (n : Int), .slice a len cap] w fun e w' => (∃ v k, e = .returned (.tuple #[v, .int .i64 k]) ∧ RiR w' w.heap.size n xs v k) ∧ Below w.heap.size w w' := by
  have hC := ocheck_any n a len cap xs w h
  rw [hc] at hC
  obtain ⟨h0, h1, h2, h3⟩ := ckE_ok hc
  have HL : Hid (La w a len xs) := h
  have hlen := h.1
  have HOk : Hid (ckE n xs = 0 ∧ xs.all (okA n) = true) := ⟨hc, h3⟩
  have hn : n ≤ 4096 := by omega
  have hl6 : len ≤ 65536 := by omega
  have HLn : Hid (∀ p, (nlf xs p).length ≤ 65536) := fun p => Nat.le_trans (nlf_len xs p) (by omega)
  clear h hc h3 h2 hlen h0 h1
  go_enter Try.func19, Try.ntmps19
  go_wp2_with (first
    | (go_at_call 22; refine hC.mono ?_; rintro e w1 ⟨rfl, hb1⟩; have HB1 : Hid (Below w.heap.size w w1) := hb1; clear hb1 hC)
    | (go_at_call 25; refine (needsOf_any n hn a len cap xs w1 (HL.out.after HB1.out) hl6 HOk.out.2).mono ?_; rintro e w2 ⟨f, rfl, hD⟩; have HD : Hid (Dg n w1 w2 f (nlf xs)) := hD; clear hD)
    | (go_at_call 30; refine (leastOnRing_any n hn w1.heap.size (nlf xs) w2 HD.out.rows HLn.out (nlf_ok HOk.out.2)).mono ?_; rintro e w3 ⟨⟨l, rfl, hlo⟩, hb3⟩; have HLo : Hid (LO (RgN (Rn (nlf xs))) l) := hlo; have HB3 : Hid (Below w2.heap.size w2 w3) := hb3; have HB : Hid (Below w.heap.size w w3) := step (HB1.out.trans (HD.out.below.mono HB1.out.size)) hb3; clear hlo hb3)
    | fail)
  · have hl1 : (l == -1) = true := by assumption
    have hl2 : l = -1 := by simpa using hl1
    go_ret2
    refine ⟨⟨_, _, rfl, .none HOk.out.1 ?_⟩, HB.out⟩
    rcases HLo.out with ⟨-, h2⟩ | ⟨m, h1, -⟩
    · exact h2
    · omega
  · have hl1 : (l == -1) = false := by assumption
    have hl2 : ¬ l = -1 := by simpa using hl1
    obtain ⟨m, rfl, hm1, hm2⟩ : ∃ m : Nat, l = m ∧ RgN (Rn (nlf xs)) m ∧ ∀ x, RgN (Rn (nlf xs)) x → m ≤ x := by
      rcases HLo.out with ⟨h1, -⟩ | ⟨m, h1, h2, h3⟩
      · exact absurd h1 hl2
      · exact ⟨m, h1, h2, h3⟩
    have HM : Hid (RgN (Rn (nlf xs)) m ∧ ∀ x, RgN (Rn (nlf xs)) x → m ≤ x) := ⟨hm1, hm2⟩
    have hBz : w.heap.size ≤ w3.heap.size := HB.out.size
    clear hl2 HLo hm2
    refine (leastRing_any n hn w1.heap.size (nlf xs) w3 (HD.out.rows.after HB3.out) HLn.out (nlf_ok HOk.out.2) m hm1).mono ?_
    rintro e w4 ⟨⟨L, out, lst, rfl, hr, hf, hg⟩, hb4⟩
    have HF : Hid (Rtl (Rn (nlf xs)) m L out ∧ out.length = L ∧ Ge elI w4 w3.heap.size lst (ints out)) := ⟨hr, hf, hg⟩
    have HB4 : Hid (Below w.heap.size w w4) := step HB.out hb4
    clear hr hf hg hb4 hm1
    go_wp2_with fail
    go_ret2
    refine ⟨⟨_, _, rfl, ?_⟩, HB4.out⟩
    obtain ⟨hr, hf, hg⟩ := HF.out
    obtain ⟨al, cl, rfl, -, -, -⟩ := hg.shape
    have hg2 := hg.le hBz
    rw [ints_length] at hg2
    have h9 := RiR.ring HOk.out.1 m L out HM.out.1 HM.out.2 hr hf al cl hg2
    simpa [ints_length] using h9
/-- Ring, of anything. -/
theorem oring_all (n : Int) (a : Option Addr) (len cap : Nat) (xs : List Pr) (w : World) (h : La w a len xs) :
    Calls Try.prog 19 #[.int .i64 n, .slice a len cap] w fun e w' => (∃ v k, e = .returned (.tuple #[v, .int .i64 k]) ∧ RiR w' w.heap.size n xs v k) ∧ Below w.heap.size w w' := by
  by_cases hc : ckE n xs = 0
  · obtain ⟨h0, -, -, -⟩ := ckE_ok hc
    obtain ⟨m, rfl⟩ : ∃ m : Nat, n = m := ⟨n.toNat, by omega⟩
    exact oring_ok m a len cap xs w h hc
  · refine (oring_bad n a len cap xs w h hc).mono ?_
    rintro e w' ⟨rfl, hb⟩
    exact ⟨⟨_, _, rfl, .bad hc⟩, hb⟩
end Go.Proofs.Ytonhooaboieapaa
