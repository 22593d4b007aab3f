/-
  traits: mayBe.
-/
import Derived.Test.YtmjfkciaohbkoaaDoorMgAf
import Derived.Laws.EntriesVeiled
import Derived.Test.YtmjfkciaohbkoaaDoorMgAd
import Derived.Test.YtmjfkciaohbkoaaDoorMgAh
namespace Go.Proofs.YtmjfkciaohbkoaaDoor
open Go.RowKit Go.Shelf
set_option linter.unusedVariables false

/-- What mayBe answers. -/
noncomputable def mB (n : Nd) : Bool := open Classical in decide (NdOk wdB n)
theorem mB_yes {n : Nd} (h : NdOk wdB n) : mB n = true := by simp [mB, h]
theorem mB_no {n : Nd} (h : ¬ NdOk wdB n) : mB n = false := by simp [mB, h]
theorem mB_iff (n : Nd) : mB n = true ↔ NdOk wdB n := by simp [mB]
theorem no6c {k ks op un pl : Int} {nm : List UInt8} (hk : k = 6 ∨ k = 7) (h : ¬ (CanI un pl ∧ 0 ≤ un)) : ¬ NdOk wdB ⟨k, ks, nm, op, un, pl⟩ := by
  rintro (⟨h', -⟩ | ⟨h', -⟩ | ⟨h', -⟩ | ⟨-, -, -, -, -, h0, h1⟩)
  · dsimp only at h'; omega
  · dsimp only at h'; omega
  · dsimp only at h'; omega
  · exact h ⟨h1, h0⟩
theorem no6o {k ks op un pl : Int} {nm : List UInt8} (hk : k = 6 ∨ k = 7) (h : ¬ (1 ≤ op ∧ op ≤ 4)) : ¬ NdOk wdB ⟨k, ks, nm, op, un, pl⟩ := by
  rintro (⟨h', -⟩ | ⟨h', -⟩ | ⟨h', -⟩ | ⟨-, -, -, h0, h1, -⟩)
  · dsimp only at h'; omega
  · dsimp only at h'; omega
  · dsimp only at h'; omega
  · exact h ⟨h0, h1⟩
set_option maxHeartbeats 2000000 in
theorem mayBe_any (n : Nd) (w : World) : Calls Tryd.prog 11 #[nv n] w fun e w' => e = .returned (.bool (mB n)) ∧ Below w.heap.size w w' := by
  obtain ⟨kd, ks, nm, op, un, pl⟩ := n
  dsimp only [nv]
  by_cases k1 : kd = 1
  · subst k1
    go_enter Tryd.func11, Tryd.ntmps11
    go_wp2_with fail
    all_goals (go_ret; refine ⟨?_, (Below.refl _ _).alloc (Nat.le_refl _) _⟩; simp [mB, NdOk, *])
  by_cases k2 : kd = 2
  · subst k2
    go_enter Tryd.func11, Tryd.ntmps11
    go_wp2_with fail
    all_goals (go_ret; refine ⟨?_, (Below.refl _ _).alloc (Nat.le_refl _) _⟩; simp [mB, NdOk, *])
  by_cases k3 : kd = 3
  · subst k3
    go_enter Tryd.func11, Tryd.ntmps11
    go_wp2_with fail
    all_goals (go_ret; refine ⟨?_, (Below.refl _ _).alloc (Nat.le_refl _) _⟩; simp [mB, NdOk, *])
  by_cases k4 : kd = 4
  · subst k4
    go_enter Tryd.func11, Tryd.ntmps11
    go_wp2_with (go_at_call 17; refine (word_B nm _).mono ?_; rintro e w2 ⟨rfl, hb⟩; have HB : Hid (Below w.heap.size w w2) := step ((Below.refl _ _).alloc (Nat.le_refl _) _) hb; clear hb)
    all_goals (go_ret; refine ⟨?_, by first | exact HB.out | exact (Below.refl _ _).alloc (Nat.le_refl _) _⟩; simp [mB, NdOk, *])
  by_cases k5 : kd = 5
  · subst k5
    go_enter Tryd.func11, Tryd.ntmps11
    go_wp2_with (go_at_call 17; refine (word_B nm _).mono ?_; rintro e w2 ⟨rfl, hb⟩; have HB : Hid (Below w.heap.size w w2) := step ((Below.refl _ _).alloc (Nat.le_refl _) _) hb; clear hb)
    all_goals (go_ret; refine ⟨?_, by first | exact HB.out | exact (Below.refl _ _).alloc (Nat.le_refl _) _⟩; simp [mB, NdOk, *])
  by_cases k6 : kd = 6
  · subst k6
    go_enter Tryd.func11, Tryd.ntmps11
    by_cases ho : 1 ≤ op ∧ op ≤ 4
    · have HO : opB op = true := by simp [opB, ho]
      by_cases hc : CanI un pl ∧ 0 ≤ un
      · have HC : Hid (CanI un pl ∧ 0 ≤ un) := hc
        clear hc
        go_wp2_with first | (go_at_call 18; refine (isOp_any op _).mono ?_; rw [HO]; rintro e w2 ⟨rfl, rfl⟩) | (go_at_call 19; refine (isValue_yes un pl HC.out.1 HC.out.2 _).mono ?_; rintro e w2 ⟨rfl, hb⟩; have HB : Hid (Below w.heap.size w w2) := step ((Below.refl _ _).alloc (Nat.le_refl _) _) hb; clear hb)
        all_goals (go_ret; refine ⟨?_, by first | exact HB.out | exact (Below.refl _ _).alloc (Nat.le_refl _) _⟩)
        all_goals have hc := HC.out
        all_goals first | (have hh : NdOk wdB ⟨6, ks, nm, op, un, pl⟩ := .inr (.inr (.inr ⟨by simp, by assumption, by assumption, ho.1, ho.2, hc.2, hc.1⟩)); rw [mB_yes hh]; rfl) | (have hh : ¬ NdOk wdB ⟨6, ks, nm, op, un, pl⟩ := (by simp [NdOk, *]); rw [mB_no hh]; rfl)
      · have HC : Hid (¬ (CanI un pl ∧ 0 ≤ un)) := hc
        clear hc
        go_wp2_with first | (go_at_call 18; refine (isOp_any op _).mono ?_; rw [HO]; rintro e w2 ⟨rfl, rfl⟩) | (go_at_call 19; refine (isValue_no un pl HC.out _).mono ?_; rintro e w2 ⟨rfl, hb⟩; have HB : Hid (Below w.heap.size w w2) := step ((Below.refl _ _).alloc (Nat.le_refl _) _) hb; clear hb)
        all_goals (go_ret; refine ⟨?_, by first | exact HB.out | exact (Below.refl _ _).alloc (Nat.le_refl _) _⟩)
        all_goals (rw [mB_no (no6c (by decide) HC.out)]; rfl)
    · have HO : opB op = false := by simp only [opB, ho]; rfl
      go_wp2_with (go_at_call 18; refine (isOp_any op _).mono ?_; rw [HO]; rintro e w2 ⟨rfl, rfl⟩)
      all_goals (go_ret; refine ⟨?_, (Below.refl _ _).alloc (Nat.le_refl _) _⟩)
      all_goals (rw [mB_no (no6o (by decide) ho)]; rfl)
  by_cases k7 : kd = 7
  · subst k7
    go_enter Tryd.func11, Tryd.ntmps11
    by_cases ho : 1 ≤ op ∧ op ≤ 4
    · have HO : opB op = true := by simp [opB, ho]
      by_cases hc : CanI un pl ∧ 0 ≤ un
      · have HC : Hid (CanI un pl ∧ 0 ≤ un) := hc
        clear hc
        go_wp2_with first | (go_at_call 18; refine (isOp_any op _).mono ?_; rw [HO]; rintro e w2 ⟨rfl, rfl⟩) | (go_at_call 19; refine (isValue_yes un pl HC.out.1 HC.out.2 _).mono ?_; rintro e w2 ⟨rfl, hb⟩; have HB : Hid (Below w.heap.size w w2) := step ((Below.refl _ _).alloc (Nat.le_refl _) _) hb; clear hb)
        all_goals (go_ret; refine ⟨?_, by first | exact HB.out | exact (Below.refl _ _).alloc (Nat.le_refl _) _⟩)
        all_goals have hc := HC.out
        all_goals first | (have hh : NdOk wdB ⟨7, ks, nm, op, un, pl⟩ := .inr (.inr (.inr ⟨by simp, by assumption, by assumption, ho.1, ho.2, hc.2, hc.1⟩)); rw [mB_yes hh]; rfl) | (have hh : ¬ NdOk wdB ⟨7, ks, nm, op, un, pl⟩ := (by simp [NdOk, *]); rw [mB_no hh]; rfl)
      · have HC : Hid (¬ (CanI un pl ∧ 0 ≤ un)) := hc
        clear hc
        go_wp2_with first | (go_at_call 18; refine (isOp_any op _).mono ?_; rw [HO]; rintro e w2 ⟨rfl, rfl⟩) | (go_at_call 19; refine (isValue_no un pl HC.out _).mono ?_; rintro e w2 ⟨rfl, hb⟩; have HB : Hid (Below w.heap.size w w2) := step ((Below.refl _ _).alloc (Nat.le_refl _) _) hb; clear hb)
        all_goals (go_ret; refine ⟨?_, by first | exact HB.out | exact (Below.refl _ _).alloc (Nat.le_refl _) _⟩)
        all_goals (rw [mB_no (no6c (by decide) HC.out)]; rfl)
    · have HO : opB op = false := by simp only [opB, ho]; rfl
      go_wp2_with (go_at_call 18; refine (isOp_any op _).mono ?_; rw [HO]; rintro e w2 ⟨rfl, rfl⟩)
      all_goals (go_ret; refine ⟨?_, (Below.refl _ _).alloc (Nat.le_refl _) _⟩)
      all_goals (rw [mB_no (no6o (by decide) ho)]; rfl)
  go_enter Tryd.func11, Tryd.ntmps11
  go_wp2_with fail
  go_ret
  refine ⟨?_, (Below.refl _ _).alloc (Nat.le_refl _) _⟩
  have hh : ¬ NdOk wdB ⟨kd, ks, nm, op, un, pl⟩ := by
    rintro (⟨h, -⟩ | ⟨h, -⟩ | ⟨h, -⟩ | ⟨h, -⟩) <;> dsimp only at h <;> omega
  rw [mB_no hh]; rfl
end Go.Proofs.YtmjfkciaohbkoaaDoor
namespace Go.Proofs.YtmjfkciaohbkoaaDoor
open Go.RowKit Go.Shelf
set_option linter.unusedVariables false

abbrev pt1 (b : Nat) : Value := .pointer (some ⟨b, 0, none⟩)
/-- What passes answers of the nodes from the place p on. -/
def PsR (ns : List Nd) (o : Int) (d p : Nat) (ok : Bool) (p' : Nat) : Prop :=
  (ok = true → ∃ n k, (Fo.cons n k .nil).Ok wdB o d ∧ ns.drop p = (Fo.cons n k .nil).flat ++ ns.drop p') ∧ (ok = false → NoTree wdB (ns.drop p) o d)
/-- The variables that passes goes by: the place, the nodes, itself. -/
structure Cs (ns : List Nd) (a : Option Addr) (cap bat bn bp : Nat) (w : World) (p : Nat) : Prop where
  at0 : Va w bat 3 #[.int .i64 p]
  nds : Va w bn 24 #[.slice a ns.length cap]
  own : Va w bp 42 #[.func (.func 10) #[] #[pt1 bat, pt1 bn, pt1 bp]]
  lst : Le elN w a ns.length ns
  n1 : bn ≠ bat
  n2 : bp ≠ bat
  n3 : ∀ b off, a = some ⟨b, off, none⟩ → b ≠ bat
  sml : ns.length ≤ 64
  le : p ≤ ns.length
theorem Cs.gr {ns : List Nd} {a : Option Addr} {cap bat bn bp : Nat} {w w' : World} {p p' : Nat} (h : Cs ns a cap bat bn bp w p) (hg : w.grownBy w' (some bat)) (hv : Va w' bat 3 #[.int .i64 p']) (hp : p' ≤ ns.length) : Cs ns a cap bat bn bp w' p' :=
  ⟨hv, h.nds.gr hg h.n1, h.own.gr hg h.n2, h.lst.grown hg (fun _ => h.n3), h.n1, h.n2, h.n3, h.sml, hp⟩
theorem Cs.bl {ns : List Nd} {a : Option Addr} {cap bat bn bp : Nat} {w w' : World} {p : Nat} (h : Cs ns a cap bat bn bp w p) (hb : Below w.heap.size w w') : Cs ns a cap bat bn bp w' p :=
  h.gr (gr_of_below hb) (h.at0.after hb) h.le
/-- How passes ends. -/
def PsE (ns : List Nd) (bat : Nat) (o : Int) (d p : Nat) (w : World) (e : Ending) (w' : World) : Prop := ∃ (ok : Bool) (p' : Nat), e = .returned (.bool ok) ∧ PsR ns o d p ok p' ∧ p' ≤ ns.length ∧ Va w' bat 3 #[.int .i64 p'] ∧ w.grownBy w' (some bat)
set_option maxHeartbeats 4000000 in
theorem passes_any (ns : List Nd) (a : Option Addr) (cap bat bn bp : Nat) (h64 : ∀ n ∈ ns, N64 n) : ∀ (f d : Nat), d + f = 17 → ∀ (o : Int) (p : Nat) (w : World), Cs ns a cap bat bn bp w p →
    Calls Tryd.prog 10 #[.int .i64 o, .int .i64 d, pt1 bat, pt1 bn, pt1 bp] w (PsE ns bat o d p w) := by
  intro f
  induction f with
  | zero =>
    intro d hd o p w C
    have c0 := C.at0.cell
    have c1 := C.nds.cell
    have hd' : (16 : Int) < d := by omega
    have HR : Hid (PsR ns o d p false p) := ⟨fun h => (by cases h), fun _ => no_deep _ _ _ (by omega)⟩
    have HC : Hid (Cs ns a cap bat bn bp w p) := C
    clear C
    by_cases hp : (p : Int) = ns.length
    · have hp' : ((p : Int) == (ns.length : Int)) = true := by simpa using hp
      clear hp
      go_enter Tryd.func10, Tryd.ntmps10
      go_wp2_with fail
      go_ret
      exact ⟨false, p, rfl, HR.out, HC.out.le, HC.out.at0, gr_refl _ _⟩
    · have hp' : ((p : Int) == (ns.length : Int)) = false := by simpa using hp
      clear hp
      go_enter Tryd.func10, Tryd.ntmps10
      go_wp2_with fail
      go_ret
      exact ⟨false, p, rfl, HR.out, HC.out.le, HC.out.at0, gr_refl _ _⟩
  | succ f ih =>
    intro d hd o p w C
    have c0 := C.at0.cell
    have c1 := C.nds.cell
    have hd' : ¬ (16 : Int) < d := by omega
    have HC : Hid (Cs ns a cap bat bn bp w p) := C
    rcases Nat.eq_or_lt_of_le C.le with hp | hp
    · have hp' : ((p : Int) == (ns.length : Int)) = true := by simp; omega
      have HR : Hid (PsR ns o d p false p) := ⟨fun h => (by cases h), fun _ => by rw [hp, List.drop_length]; exact no_end _ _⟩
      clear hp C
      go_enter Tryd.func10, Tryd.ntmps10
      go_wp2_with fail
      go_ret
      exact ⟨false, p, rfl, HR.out, HC.out.le, HC.out.at0, gr_refl _ _⟩
    · have hp' : ((p : Int) == (ns.length : Int)) = false := by simp; omega
      obtain ⟨b, off, rfl⟩ := C.lst.ex (by omega)
      obtain ⟨n, hn⟩ : ∃ n, ns.getD p nd0 = n := ⟨_, rfl⟩
      have hmem : n ∈ ns := by rw [← hn, List.getD_eq_getElem?_getD, List.getElem?_eq_getElem hp]; exact List.getElem_mem hp
      have hdrop : ns.drop p = n :: ns.drop (p + 1) := by
        rw [List.drop_eq_getElem_cons hp, ← hn, List.getD_eq_getElem?_getD, List.getElem?_eq_getElem hp]; rfl
      have hn64 := h64 n hmem
      have k0 : w.cell? ⟨b, off + p * 6, none⟩ = some (.int .i64 n.kd) := C.lst.at p hp 0 _ (by rw [← hn]; rfl)
      have k1 : w.cell? ⟨b, off + p * 6 + 1, none⟩ = some (.int .i64 n.ks) := by rw [Nat.add_assoc]; exact C.lst.at p hp 1 _ (by rw [← hn]; rfl)
      have k2 : w.cell? ⟨b, off + p * 6 + 2, none⟩ = some (sv n.nm) := by rw [Nat.add_assoc]; exact C.lst.at p hp 2 _ (by rw [← hn]; rfl)
      have k3 : w.cell? ⟨b, off + p * 6 + 3, none⟩ = some (.int .i64 n.op) := by rw [Nat.add_assoc]; exact C.lst.at p hp 3 _ (by rw [← hn]; rfl)
      have k4 : w.cell? ⟨b, off + p * 6 + 4, none⟩ = some (.int .i64 n.un) := by rw [Nat.add_assoc]; exact C.lst.at p hp 4 _ (by rw [← hn]; rfl)
      have k5 : w.cell? ⟨b, off + p * 6 + 5, none⟩ = some (.int .i64 n.pl) := by rw [Nat.add_assoc]; exact C.lst.at p hp 5 _ (by rw [← hn]; rfl)
      have hpi : (p : Int) < ns.length := by omega
      have hp65 : p < 65 := by have := C.sml; omega
      have HD : Hid (ns.drop p = n :: ns.drop (p + 1)) := hdrop
      have H6 : Hid (N64 n) := hn64
      have HIH : Hid (∀ d : Nat, d + f = 17 → ∀ (o : Int) (p : Nat) (w : World), Cs ns (some ⟨b, off, none⟩) cap bat bn bp w p →
    Calls Tryd.prog 10 #[.int .i64 o, .int .i64 d, pt1 bat, pt1 bn, pt1 bp] w (PsE ns bat o d p w)) := ih
      clear hn hmem hdrop hn64 ih C
      go_enter Tryd.func10, Tryd.ntmps10
      go_upto_region 4 with fail
      refine ent1 w _ _ (Q := fun W => Code.wp _ _ _ _ W) ?_
      intro W1 hb1 hs1 V1
      have C1 := HC.out.bl hb1
      have g1 := C1.at0.cell
      have f1 := C1.at0.frozen 0
      have G1 : w.grownBy W1 (some bat) := gr_of_below hb1
      have hnb : w.heap.size ≠ bat := by have := HC.out.at0.lt; omega
      clear hs1 hb1 c0 c1 k0 k1 k2 k3 k4 k5
      go_upto_region 5 with fail
      refine st1 C1.at0 _ (Q := fun W => Code.wp _ _ _ _ W) ?_
      intro W2 hv2 hg2 hs2
      have C2 : Cs ns (some ⟨b, off, none⟩) cap bat bn bp W2 (p + 1) := C1.gr hg2 hv2 hp
      have V2 : Va W2 w.heap.size 32 (cn n) := V1.gr hg2 hnb
      have G2 := gr_trans G1 hg2
      have m0 := V2.n0
      have m1 := V2.n1
      have m2 := V2.n2
      have m3 := V2.n3
      have m4 := V2.n4
      have m5 := V2.n5
      clear hs2 hg2 hv2 V1 C1 g1 f1 G1
      go_wp2_with fail
      refine (mayBe_any n W2).mono ?_
      rintro e W3 ⟨rfl, hb3⟩
      have V3 := V2.after hb3
      have HC3 : Hid (Cs ns (some ⟨b, off, none⟩) cap bat bn bp W3 (p + 1)) := C2.bl hb3
      have HV3 : Hid (Va W3 w.heap.size 32 (cn n)) := V3
      have HG3 : Hid (w.grownBy W3 (some bat)) := gr_below G2 hb3
      clear hb3 V2 C2 G2 m0 m1 m2 m3 m4 m5
      cases hm : mB n with
      | false =>
        have HX : Hid (¬ NdOk wdB n) := fun h => (by rw [mB_yes h] at hm; cases hm)
        clear hm
        go_wp2_with fail
        go_ret
        refine ⟨false, p + 1, rfl, ⟨fun h => (by cases h), fun _ => ?_⟩, hp, HC3.out.at0, HG3.out⟩
        rw [HD.out]; exact no_node _ _ _ _ (fun h => HX.out h.1)
      | true =>
        have HN : Hid (NdOk wdB n) := (mB_iff n).1 hm
        have hks0 : (0 : Int) ≤ n.ks := by
          rcases HN.out with ⟨-, h, -⟩ | ⟨-, h, -⟩ | ⟨-, h, -⟩ | ⟨-, h, -⟩ <;> omega
        clear hm
        have m0 := V3.n0
        have m1 := V3.n1
        by_cases ho : n.kd = o
        · have HOE : Hid (n.kd = o) := ho
          have ho' : (n.kd == o) = true := by simpa using ho
          clear ho
          by_cases h3 : n.kd = 3
          · have h3' : (n.kd != 3) = false := by simpa using h3
            have HO3 : Hid (¬ (n.kd = o ∧ n.kd ≠ 3)) := fun h => h.2 h3
            clear h3
            go_wp2_with fail
            have m0 := V3.n0
            have m1 := V3.n1
            go_loopw [39] (fun j wr => ∃ (i : Nat) (kj : Fo) (q : Nat), j = .int .i64 i ∧ (i : Int) ≤ n.ks ∧ i ≤ 64 ∧ Hid (kj.len = i ∧ kj.Ok wdB n.kd (d + 1) ∧ ns.drop (p + 1) = kj.flat ++ ns.drop q) ∧ Hid (Cs ns (some ⟨b, off, none⟩) cap bat bn bp wr q) ∧ Hid (Va wr w.heap.size 32 (cn n)) ∧ Hid (w.grownBy wr (some bat))) (fun j _ => (n.ks - intOf j).toNat)
            case atStart => exact ⟨0, .nil, p + 1, rfl, hks0, Nat.zero_le _, ⟨rfl, trivial, rfl⟩, HC3.out, HV3.out, HG3.out⟩
            case round =>
              clear m0 m1 V3 hks0 HC3 HV3 HG3
              obtain ⟨i, kj, q, rfl, hik, hi64, HK, HCq, HVq, HGq⟩ := hrel
              rcases Int.lt_or_le (i : Int) n.ks with hlt | hge
              · have q0 := HVq.out.n0
                have q1 := HVq.out.n1
                have q2 := HCq.out.own.cell
                have C9 : Calls Tryd.prog 10 #[.int .i64 n.kd, .int .i64 ((d : Int) + 1), pt1 bat, pt1 bn, pt1 bp] wr (PsE ns bat n.kd (d + 1) q wr) := HIH.out (d + 1) (by omega) n.kd q wr HCq.out
                have xd : IntKind.i64.wrap ((d : Int) + 1) = (d : Int) + 1 := by rw [IntKind.wrap_i64]; omega
                have xi : IntKind.i64.wrap ((i : Int) + 1) = (i : Int) + 1 := by rw [IntKind.wrap_i64]; omega
                go_wp2_with fail
                refine C9.mono ?_
                rintro e w5 ⟨ok, p', rfl, hr, hle, hv5, hg5⟩
                have C5 := HCq.out.gr hg5 hv5 hle
                have V5 := HVq.out.gr hg5 hnb
                have G5 := gr_trans HGq.out hg5
                have HC5 : Hid (Cs ns (some ⟨b, off, none⟩) cap bat bn bp w5 p') := C5
                have HV5 : Hid (Va w5 w.heap.size 32 (cn n)) := V5
                have HG5 : Hid (w.grownBy w5 (some bat)) := G5
                have HR5 : Hid (PsR ns n.kd (d + 1) q ok p') := hr
                clear hr hle hv5 hg5 C5 V5 G5 C9 HCq HVq HGq q0 q1 q2
                cases ok with
                | false =>
                  go_wp2_with fail
                  go_ret
                  refine ⟨false, p', rfl, ⟨fun h => (by cases h), fun _ => ?_⟩, HC5.out.le, HC5.out.at0, HG5.out⟩
                  rw [HD.out]
                  exact no_kid HK.out.2.1 HK.out.2.2 (by rw [HK.out.1]; exact hlt) (HR5.out.2 rfl)
                | true =>
                  have HN5 : Hid (∃ k2 : Fo, k2.len = i + 1 ∧ k2.Ok wdB n.kd (d + 1) ∧ ns.drop (p + 1) = k2.flat ++ ns.drop p') := by
                    obtain ⟨m, k, ok, e⟩ := HR5.out.1 rfl
                    refine ⟨kj.app (.cons m k .nil), ?_, HK.out.2.1.app ok, ?_⟩
                    · rw [Fo.len_app, HK.out.1]; rfl
                    · rw [HK.out.2.2, e, Fo.flat_app, List.append_assoc]
                  have hi65 : i + 1 ≤ 64 := by
                    obtain ⟨k2, h1, h2, h3⟩ := HN5.out
                    have h4 := Fo.len_flat k2
                    have h5 := congrArg List.length h3
                    simp only [List.length_drop, List.length_append] at h5
                    have h6 := HC5.out.sml
                    omega
                  go_wp2_with fail
                  go_roundw
                  case rel =>
                    obtain ⟨k2, h1, h2, h3⟩ := HN5.out
                    exact ⟨i + 1, k2, p', rfl, by omega, hi65, ⟨h1, h2, h3⟩, HC5.out, HV5.out, HG5.out⟩
                  case measure => simp [intOf]; omega
              · go_wp2_with fail
                go_ret
                refine ⟨true, q, rfl, ⟨fun _ => ⟨n, kj, ⟨⟨HN.out, HO3.out, by omega, by rw [HK.out.1]; omega, HK.out.2.1⟩, trivial⟩, ?_⟩, fun h => (by cases h)⟩, HCq.out.le, HCq.out.at0, HGq.out⟩
                rw [HD.out, HK.out.2.2]; simp [Fo.flat]
          · have h3' : (n.kd != 3) = true := by simpa using h3
            have HX : Hid (n.kd ≠ 3) := h3
            clear h3
            go_wp2_with fail
            go_ret
            refine ⟨false, p + 1, rfl, ⟨fun h => (by cases h), fun _ => ?_⟩, hp, HC3.out.at0, HG3.out⟩
            rw [HD.out]; exact no_node _ _ _ _ (fun h => h.2 ⟨HOE.out, HX.out⟩)
        · have ho' : (n.kd == o) = false := by simpa using ho
          have HO3 : Hid (¬ (n.kd = o ∧ n.kd ≠ 3)) := fun h => ho h.1
          clear ho
          go_wp2_with fail
          have m0 := V3.n0
          have m1 := V3.n1
          go_loopw [39] (fun j wr => ∃ (i : Nat) (kj : Fo) (q : Nat), j = .int .i64 i ∧ (i : Int) ≤ n.ks ∧ i ≤ 64 ∧ Hid (kj.len = i ∧ kj.Ok wdB n.kd (d + 1) ∧ ns.drop (p + 1) = kj.flat ++ ns.drop q) ∧ Hid (Cs ns (some ⟨b, off, none⟩) cap bat bn bp wr q) ∧ Hid (Va wr w.heap.size 32 (cn n)) ∧ Hid (w.grownBy wr (some bat))) (fun j _ => (n.ks - intOf j).toNat)
          case atStart => exact ⟨0, .nil, p + 1, rfl, hks0, Nat.zero_le _, ⟨rfl, trivial, rfl⟩, HC3.out, HV3.out, HG3.out⟩
          case round =>
            clear m0 m1 V3 hks0 HC3 HV3 HG3
            obtain ⟨i, kj, q, rfl, hik, hi64, HK, HCq, HVq, HGq⟩ := hrel
            rcases Int.lt_or_le (i : Int) n.ks with hlt | hge
            · have q0 := HVq.out.n0
              have q1 := HVq.out.n1
              have q2 := HCq.out.own.cell
              have C9 : Calls Tryd.prog 10 #[.int .i64 n.kd, .int .i64 ((d : Int) + 1), pt1 bat, pt1 bn, pt1 bp] wr (PsE ns bat n.kd (d + 1) q wr) := HIH.out (d + 1) (by omega) n.kd q wr HCq.out
              have xd : IntKind.i64.wrap ((d : Int) + 1) = (d : Int) + 1 := by rw [IntKind.wrap_i64]; omega
              have xi : IntKind.i64.wrap ((i : Int) + 1) = (i : Int) + 1 := by rw [IntKind.wrap_i64]; omega
              go_wp2_with fail
              refine C9.mono ?_
              rintro e w5 ⟨ok, p', rfl, hr, hle, hv5, hg5⟩
              have C5 := HCq.out.gr hg5 hv5 hle
              have V5 := HVq.out.gr hg5 hnb
              have G5 := gr_trans HGq.out hg5
              have HC5 : Hid (Cs ns (some ⟨b, off, none⟩) cap bat bn bp w5 p') := C5
              have HV5 : Hid (Va w5 w.heap.size 32 (cn n)) := V5
              have HG5 : Hid (w.grownBy w5 (some bat)) := G5
              have HR5 : Hid (PsR ns n.kd (d + 1) q ok p') := hr
              clear hr hle hv5 hg5 C5 V5 G5 C9 HCq HVq HGq q0 q1 q2
              cases ok with
              | false =>
                go_wp2_with fail
                go_ret
                refine ⟨false, p', rfl, ⟨fun h => (by cases h), fun _ => ?_⟩, HC5.out.le, HC5.out.at0, HG5.out⟩
                rw [HD.out]
                exact no_kid HK.out.2.1 HK.out.2.2 (by rw [HK.out.1]; exact hlt) (HR5.out.2 rfl)
              | true =>
                have HN5 : Hid (∃ k2 : Fo, k2.len = i + 1 ∧ k2.Ok wdB n.kd (d + 1) ∧ ns.drop (p + 1) = k2.flat ++ ns.drop p') := by
                  obtain ⟨m, k, ok, e⟩ := HR5.out.1 rfl
                  refine ⟨kj.app (.cons m k .nil), ?_, HK.out.2.1.app ok, ?_⟩
                  · rw [Fo.len_app, HK.out.1]; rfl
                  · rw [HK.out.2.2, e, Fo.flat_app, List.append_assoc]
                have hi65 : i + 1 ≤ 64 := by
                  obtain ⟨k2, h1, h2, h3⟩ := HN5.out
                  have h4 := Fo.len_flat k2
                  have h5 := congrArg List.length h3
                  simp only [List.length_drop, List.length_append] at h5
                  have h6 := HC5.out.sml
                  omega
                go_wp2_with fail
                go_roundw
                case rel =>
                  obtain ⟨k2, h1, h2, h3⟩ := HN5.out
                  exact ⟨i + 1, k2, p', rfl, by omega, hi65, ⟨h1, h2, h3⟩, HC5.out, HV5.out, HG5.out⟩
                case measure => simp [intOf]; omega
            · go_wp2_with fail
              go_ret
              refine ⟨true, q, rfl, ⟨fun _ => ⟨n, kj, ⟨⟨HN.out, HO3.out, by omega, by rw [HK.out.1]; omega, HK.out.2.1⟩, trivial⟩, ?_⟩, fun h => (by cases h)⟩, HCq.out.le, HCq.out.at0, HGq.out⟩
              rw [HD.out, HK.out.2.2]; simp [Fo.flat]
end Go.Proofs.YtmjfkciaohbkoaaDoor
namespace Go.Proofs.YtmjfkciaohbkoaaDoor
open Go.RowKit Go.Shelf
set_option linter.unusedVariables false

/-- What Check answers. -/
noncomputable def ckE (ns : List Nd) : Int := open Classical in if Cond wdB ns then 0 else 131
theorem ckE_ok {ns : List Nd} (h : Cond wdB ns) : ckE ns = 0 := if_pos h
theorem ckE_no {ns : List Nd} (h : ¬ Cond wdB ns) : ckE ns = 131 := if_neg h
theorem ckE_iff (ns : List Nd) : ckE ns = 0 ↔ Cond wdB ns := by
  constructor
  · intro h
    rcases Classical.em (Cond wdB ns) with h' | h'
    · exact h'
    · rw [ckE_no h'] at h; cases h
  · exact ckE_ok
theorem cond_tree {ns : List Nd} (h0 : ns ≠ []) (h : Cond wdB ns) : ns.length ≤ 64 ∧ ∃ n k, ns = (Fo.cons n k .nil).flat ∧ (Fo.cons n k .nil).Ok wdB 0 1 := h.resolve_left h0
set_option maxHeartbeats 4000000 in
theorem check13 (ns : List Nd) (a : Option Addr) (cap : Nat) (w : World) (hL : Le elN w a ns.length ns) (h64 : ∀ n ∈ ns, N64 n) :
    Calls Tryd.prog 4 #[.slice a ns.length cap] w fun e w' => e = .returned (.int .i64 (ckE ns)) ∧ Below w.heap.size w w' := by
  rcases Nat.eq_zero_or_pos ns.length with h0 | h0
  · have HE : Hid (ckE ns = 0) := ckE_ok (.inl (List.length_eq_zero_iff.1 h0))
    generalize ckE ns = E at *
    clear h64 hL
    generalize ns.length = N at *
    subst h0
    go_enter Tryd.func4, Tryd.ntmps4
    go_wp2_with fail
    go_ret
    exact ⟨by rw [HE.out]; rfl, (Below.refl _ _).alloc (Nat.le_refl _) _⟩
  · have hne : ns ≠ [] := fun h => by rw [h] at h0; exact absurd h0 (Nat.lt_irrefl _)
    have hz : ((ns.length : Int) == 0) = false := by simp; omega
    rcases Nat.lt_or_ge 64 ns.length with h1 | h1
    · have HE : Hid (ckE ns = 131) := ckE_no (fun h => by have := (cond_tree hne h).1; omega)
      have h1' : (64 : Int) < ns.length := by omega
      generalize ckE ns = E at *
      clear h64 hL
      generalize ns.length = N at *
      go_enter Tryd.func4, Tryd.ntmps4
      go_wp2_with fail
      go_ret
      exact ⟨by rw [HE.out]; rfl, (Below.refl _ _).alloc (Nat.le_refl _) _⟩
    · have h1' : ¬ (64 : Int) < ns.length := by omega
      obtain ⟨E, hE⟩ : ∃ E, ckE ns = E := ⟨_, rfl⟩
      have HE : Hid (ckE ns = E) := hE
      rw [hE]
      clear hE
      have HL : Hid (Le elN w a ns.length ns) := hL
      have H6 : Hid (∀ n ∈ ns, N64 n) := h64
      clear hL h64
      have B0 : Below w.heap.size w w := Below.refl _ _
      go_enter Tryd.func4, Tryd.ntmps4
      go_upto_region 7 with fail
      refine ent3 w _ _ _ _ _ _ (Q := fun W => Code.wp _ _ _ _ W) ?_
      intro W1 hb hs V0 V1 V2
      replace B0 := step B0 hb
      have c0 := V0.cell
      have c1 := V1.cell
      have c2 := V2.cell
      have f2 := V2.frozen 0
      have L1 := HL.out.after hb
      have hlt := fun b off (h : a = some ⟨b, off, none⟩) => (by subst h; exact HL.out.lt h0 : b < w.heap.size)
      clear hb
      go_upto_region 8 with fail
      refine st1 V2 _ (Q := fun W => Code.wp _ _ _ _ W) ?_
      intro W2 hv hg hs2
      have C2 : Cs ns a cap (w.heap.size + 1) w.heap.size (w.heap.size + 1 + 1) W2 0 :=
        ⟨V1.gr hg (by omega), V0.gr hg (by omega), hv, L1.grown hg (fun _ b off h => by have := hlt b off h; omega), by omega, by omega, fun b off h => by have := hlt b off h; omega, h1, Nat.zero_le _⟩
      have B2 : Below w.heap.size w W2 := B0.trans (gr_to hg (by omega) (by omega))
      have HB2 : Hid (Below w.heap.size w W2) := B2
      have hs3 : w.heap.size + 3 ≤ W2.heap.size := by omega
      have d2 := hv.cell
      clear V0 V1 V2 c0 c1 c2 f2 L1 hv hg hs hs2 B0 B2 hlt
      have C9 : Calls Tryd.prog 10 #[.int .i64 0, .int .i64 1, pt1 (w.heap.size + 1), pt1 w.heap.size, pt1 (w.heap.size + 1 + 1)] W2 (PsE ns (w.heap.size + 1) 0 1 0 W2) := passes_any ns a cap _ _ _ H6.out 16 1 rfl 0 0 W2 C2
      have HC2 : Hid (Cs ns a cap (w.heap.size + 1) w.heap.size (w.heap.size + 1 + 1) W2 0) := C2
      clear C2
      go_wp2_with fail
      refine C9.mono ?_
      rintro e W3 ⟨ok, p', rfl, hr, hle, hv, hg⟩
      have B3 : Below w.heap.size w W3 := HB2.out.trans (gr_to hg (by omega) (by omega))
      have e0 := (HC2.out.nds.gr hg HC2.out.n1).cell
      have e1 := hv.cell
      have HR : Hid (PsR ns 0 1 0 ok p') := hr
      clear hr hg hv C9 HC2 HB2
      cases ok with
      | false =>
        go_wp2_with fail
        go_ret
        refine ⟨?_, B3⟩
        rw [← HE.out, ckE_no]
        · rfl
        · intro h
          obtain ⟨-, n, k, e, hok⟩ := cond_tree hne h
          exact HR.out.2 rfl n k [] (by rw [List.drop_zero, List.append_nil]; exact e) hok
      | true =>
        rcases Nat.lt_or_ge p' ns.length with hlt | hge
        · have hlt' : (p' : Int) < ns.length := by omega
          go_wp2_with fail
          go_ret
          refine ⟨?_, B3⟩
          rw [← HE.out, ckE_no]
          · rfl
          · intro h
            obtain ⟨-, n, k, e, hok⟩ := cond_tree hne h
            obtain ⟨m, j, hok2, e2⟩ := HR.out.1 rfl
            rw [List.drop_zero, e] at e2
            have := (flat_inj _ _ _ _ _ _ [] (ns.drop p') hok hok2 rfl (by rw [List.append_nil]; rw [← e] at e2 ⊢; exact e2)).2
            have h9 := congrArg List.length this
            simp only [List.length_nil, List.length_drop] at h9
            omega
        · have hlt' : ¬ (p' : Int) < ns.length := by omega
          go_wp2_with fail
          go_ret
          refine ⟨?_, B3⟩
          rw [← HE.out, ckE_ok]
          · rfl
          · obtain ⟨m, j, hok2, e2⟩ := HR.out.1 rfl
            rw [List.drop_zero, List.drop_of_length_le hge, List.append_nil] at e2
            exact .inr ⟨h1, m, j, e2, hok2⟩
end Go.Proofs.YtmjfkciaohbkoaaDoor
namespace Go.Proofs.YtmjfkciaohbkoaaDoor
open Go.RowKit Go.Shelf
set_option linter.unusedVariables false

theorem infoB : (Tryd.prog.info? 4).map (fun i => (i.zero, i.size, i.bytes)) = some (some (.bool false), 1, 1) := by kernel_rfl
/-- Something of every tree. -/
def AllD (D : Nd → Fo → Prop) : Fo → Prop
  | .nil => True
  | .cons n k r => D n k ∧ AllD D r
theorem allD_of {D : Nd → Fo → Prop} (h : ∀ n k, AllD D k → D n k) : ∀ fo, AllD D fo
  | .nil => trivial
  | .cons n k r => ⟨h n k (allD_of h k), allD_of h r⟩
/-- What a node holds, told what its kids hold. -/
def val (v : Nd → Bool) (n : Nd) (l : List Bool) : Bool := if n.kd = 1 then l.any id else if n.kd = 2 then l.all id else if n.kd = 3 then !(l.headD false) else v n
theorem ev_cons (v : Nd → Bool) (n : Nd) (k r : Fo) : (Fo.cons n k r).ev v = val v n (k.ev v) :: r.ev v := rfl
theorem kids_nn {n : Nd} (h : NdOk wdB n) : 0 ≤ n.ks := by
  rcases h with ⟨-, h, -⟩ | ⟨-, h, -⟩ | ⟨-, h, -⟩ | ⟨-, h, -⟩ <;> omega
theorem drop_flat {ns : List Nd} {q : Nat} {m : Nd} {km rm : Fo} {rest : List Nd} (h : ns.drop q = (Fo.cons m km rm).flat ++ rest) : ns.drop (q + (Fo.cons m km .nil).flat.length) = rm.flat ++ rest := by
  rw [← List.drop_drop, h, show (Fo.cons m km rm).flat ++ rest = (Fo.cons m km .nil).flat ++ (rm.flat ++ rest) by simp [Fo.flat]]
  rw [List.drop_left]
theorem gr_bel {a w w' : World} {g B : Nat} (h : a.grownBy w (some g)) (hb : Below B w w') (hB : a.heap.size ≤ B) : a.grownBy w' (some g) :=
  ⟨hb.os.trans h.os, hb.tape.trans h.tape, hb.output.trans h.output, Nat.le_trans h.size hb.size, fun k hk hne => (hb.block k (Nat.lt_of_lt_of_le hk hB)).trans (h.block k hk hne)⟩
/-- How down ends. -/
def DnE (ns : List Nd) (bat : Nat) (b : Bool) (p : Nat) (w : World) (e : Ending) (w' : World) : Prop := e = .returned (.bool b) ∧ p ≤ ns.length ∧ Va w' bat 3 #[.int .i64 p] ∧ w.grownBy w' (some bat)
end Go.Proofs.YtmjfkciaohbkoaaDoor
namespace Go.Proofs.YtmjfkciaohbkoaaDoor
open Go.RowKit Go.Shelf
set_option linter.unusedVariables false

theorem st22 {W : World} {b d : Nat} {t : TypeId} {s1 s2 : Bool} {a1 a2 : Option Addr} {l1 l2 c1 c2 : Nat} (h : Va W b t #[.bool s1, .slice a1 l1 c1]) (g : Va W d t #[.bool s2, .slice a2 l2 c2]) (hne : b ≠ d) (x y u v : Value) {Q : World → Prop}
    (k : ∀ V, Va V b t #[x, y] → Va V d t #[u, v] → (∀ c t cs, c ≠ b → c ≠ d → Va W c t cs → Va V c t cs) → ((∀ s a l c zs, It W s a l c zs → It V s a l c zs) ∧ (∀ B v, B ≤ b → B ≤ d → Below B v W → Below B v V)) → Q V) :
    Q ((((W.setCell ⟨b, 0, none⟩ x).setCell ⟨b, 1, none⟩ y).setCell ⟨d, 0, none⟩ u).setCell ⟨d, 1, none⟩ v) :=
  k _ ((h.set2 x y).other2 hne u v) ((g.other2 hne.symm x y).set2 u v) (fun c t cs h1 h2 hv => (hv.other2 h1 x y).other2 h2 u v)
    ⟨fun s a l c zs i => (i.far h (noInt2 _ _ _ _) (far2 _ _ _ _)).far (g.other2 hne.symm x y) (noInt2 _ _ _ _) (far2 _ _ _ _), fun B v' h1 h2 hb => below_2 (below_2 hb h1 x y) h2 u v⟩
theorem iv_same {s : Bool} {xs ys zs : List Int} (e : num zs = num xs + num ys) : iv s zs = iv s xs + iv s ys := by
  cases s
  · simp only [iv_f]; exact e
  · simp only [iv_t]; omega
theorem iv_not {s : Bool} {xs ys zs : List Int} (e : num zs = num xs - num ys) : iv s zs = iv s xs + iv (!s) ys := by
  cases s
  · simp only [iv_f, Bool.not_false, iv_t]; omega
  · simp only [iv_f, Bool.not_true, iv_t]; omega
theorem iv_mul {s t : Bool} {xs ys zs : List Int} (e : num zs = num xs * num ys) : iv (s != t) zs = iv s xs * iv t ys := by
  cases s <;> cases t <;> simp [iv, e, Int.neg_mul, Int.mul_neg]
theorem abs_same {s : Bool} {xs ys : List Int} (h1 : 0 ≤ num xs) (h2 : 0 ≤ num ys) : ((iv s xs + iv s ys).natAbs : Int) = num xs + num ys := by
  cases s
  · simp only [iv_f]; omega
  · simp only [iv_t]; omega
theorem abs_mul {s t : Bool} {xs ys : List Int} (h1 : 0 ≤ num xs) (h2 : 0 ≤ num ys) : ((iv s xs * iv t ys).natAbs : Int) = num xs * num ys := by
  have h3 := Int.mul_nonneg h1 h2
  cases s <;> cases t <;> simp only [iv_t, iv_f, Int.neg_mul, Int.mul_neg, Int.neg_neg] <;> omega

end Go.Proofs.YtmjfkciaohbkoaaDoor
namespace Go.Proofs.YtmjfkciaohbkoaaDoor
open Go.RowKit Go.Shelf
set_option linter.unusedVariables false

theorem Nt.short {w : World} {a : Option Addr} {l c : Nat} {zs : List Int} (h : Nt w a l c zs) (n : Nat) : l ≤ n ↔ num zs < pw n := by
  have hu : usedN zs = l := h.2.1
  constructor
  · intro h1; exact lt_of_used h.limbs (by omega)
  · intro h1; have := used_of_lt h.limbs h1; omega
end Go.Proofs.YtmjfkciaohbkoaaDoor
namespace Go.Proofs.YtmjfkciaohbkoaaDoor
open Go.RowKit Go.Shelf
set_option linter.unusedVariables false

theorem new_parts {X Y X' : Int} (hY : Y ≠ 0) (hX : X' = if Y < 0 then -X else X) {xs ys zg zq zr : List Int} (hx : num xs = X'.natAbs) (hy : num ys = Y.natAbs) (hg : num zg = (Int.gcd (num xs) (num ys) : Nat))
    (e1 : num zq * num zg = num xs) (e2 : num zr * num zg = num ys) (q0 : 0 ≤ num zq) (r0 : 0 ≤ num zr) {b : Bool} (hb : b = decide (X'.sign < 0)) : iv b zq = (Rat.divInt X Y).num ∧ dn zr = (Rat.divInt X Y).den := by
  have hX2 : Y.sign * X = X' := by
    rw [hX]
    rcases Int.lt_or_le Y 0 with h | h
    · rw [if_pos h, Int.sign_eq_neg_one_of_neg h]; omega
    · rw [if_neg (by omega), Int.sign_eq_one_of_pos (by omega)]; omega
  have hA : X'.natAbs = X.natAbs := by rw [hX]; split <;> omega
  obtain ⟨q, hq⟩ := Int.eq_ofNat_of_zero_le q0
  obtain ⟨r, hr⟩ := Int.eq_ofNat_of_zero_le r0
  have hg2 : num zg = ((Nat.gcd X.natAbs Y.natAbs : Nat) : Int) := by rw [hg, hx, hy, hA]; rfl
  rw [hg2, hq, hx, hA] at e1
  rw [hg2, hr, hy] at e2
  obtain ⟨h1, h2⟩ := rat_new X Y hY rfl (q := q) (r := r) (by exact_mod_cast e1) (by exact_mod_cast e2)
  rw [h1, h2, hX2, hb]
  have hr0 : r ≠ 0 := by rintro rfl; simp at e2; omega
  refine ⟨?_, by unfold dn; rw [hr, if_neg (by omega)]⟩
  by_cases h : X' < 0
  · rw [if_pos h, Int.sign_eq_neg_one_of_neg h]
    show iv true zq = _
    rw [iv_t, hq]
  · rw [if_neg h]
    have : ¬ X'.sign < 0 := by
      rcases Int.lt_trichotomy X' 0 with h' | h' | h'
      · exact absurd h' h
      · rw [h']; decide
      · rw [Int.sign_eq_one_of_pos h']; decide
    rw [decide_eq_false this, iv_f, hq]
theorem gcd_ne {x y : Int} (h : y ≠ 0) : ((Int.gcd x y : Nat) : Int) ≠ 0 := by
  have := Int.gcd_pos_of_ne_zero_right x h
  omega

end Go.Proofs.YtmjfkciaohbkoaaDoor
