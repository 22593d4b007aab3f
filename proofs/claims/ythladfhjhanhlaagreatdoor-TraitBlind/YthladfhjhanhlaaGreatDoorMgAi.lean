/-
  traits.Check: the tree that begins at a place.
-/
import Derived.Test.YthladfhjhanhlaaGreatDoorMgAh
import Derived.Laws.EntriesVeiled
import Derived.Test.YthladfhjhanhlaaGreatDoorBsM
import Derived.Test.YthladfhjhanhlaaGreatDoorMgAf
namespace Go.Proofs.YthladfhjhanhlaaGreatDoor
open Go.RowKit Go.Shelf
set_option linter.unusedVariables false

abbrev pt1 (b : Nat) : Value := .pointer (some ⟨b, 0, none⟩)
/-- What passes answers of the nodes from the place p on. -/
def PsR (ns : List Nd) (o : Int) (d p : Nat) (ok : Bool) (p' : Nat) : Prop :=
  (ok = true → ∃ n k, (Fo.cons n k .nil).Ok wdB o d ∧ ns.drop p = (Fo.cons n k .nil).flat ++ ns.drop p') ∧ (ok = false → NoTree wdB (ns.drop p) o d)
/-- The variables that passes goes by: the place, the nodes, itself. -/
structure Cs (ns : List Nd) (a : Option Addr) (cap bat bn bp : Nat) (w : World) (p : Nat) : Prop where
  at0 : Va w bat 3 #[.int .i64 p]
  nds : Va w bn 22 #[.slice a ns.length cap]
  own : Va w bp 59 #[.func (.func 20) #[] #[pt1 bat, pt1 bn, pt1 bp]]
  lst : Le elN w a ns.length ns
  n1 : bn ≠ bat
  n2 : bp ≠ bat
  n3 : ∀ b off, a = some ⟨b, off, none⟩ → b ≠ bat
  sml : ns.length ≤ 64
  le : p ≤ ns.length
theorem Cs.gr {ns : List Nd} {a : Option Addr} {cap bat bn bp : Nat} {w w' : World} {p p' : Nat} (h : Cs ns a cap bat bn bp w p) (hg : w.grownBy w' (some bat)) (hv : Va w' bat 3 #[.int .i64 p']) (hp : p' ≤ ns.length) : Cs ns a cap bat bn bp w' p' :=
  ⟨hv, h.nds.gr hg h.n1, h.own.gr hg h.n2, h.lst.grown hg (fun _ => h.n3), h.n1, h.n2, h.n3, h.sml, hp⟩
theorem Cs.bl {ns : List Nd} {a : Option Addr} {cap bat bn bp : Nat} {w w' : World} {p : Nat} (h : Cs ns a cap bat bn bp w p) (hb : Below w.heap.size w w') : Cs ns a cap bat bn bp w' p :=
  h.gr (gr_of_below hb) (h.at0.after hb) h.le
/-- How passes ends. -/
def PsE (ns : List Nd) (bat : Nat) (o : Int) (d p : Nat) (w : World) (e : Ending) (w' : World) : Prop := ∃ (ok : Bool) (p' : Nat), e = .returned (.bool ok) ∧ PsR ns o d p ok p' ∧ p' ≤ ns.length ∧ Va w' bat 3 #[.int .i64 p'] ∧ w.grownBy w' (some bat)
set_option maxHeartbeats 4000000 in
theorem passes_any (ns : List Nd) (a : Option Addr) (cap bat bn bp : Nat) (h64 : ∀ n ∈ ns, N64 n) : ∀ (f d : Nat), d + f = 17 → ∀ (o : Int) (p : Nat) (w : World), Cs ns a cap bat bn bp w p →
    Calls Tryz.prog 20 #[.int .i64 o, .int .i64 d, pt1 bat, pt1 bn, pt1 bp] w (PsE ns bat o d p w) := by
  intro f
  induction f with
  | zero =>
    intro d hd o p w C
    have c0 := C.at0.cell
    have c1 := C.nds.cell
    have hd' : (16 : Int) < d := by omega
    have HR : Hid (PsR ns o d p false p) := ⟨fun h => (by cases h), fun _ => no_deep _ _ _ (by omega)⟩
    have HC : Hid (Cs ns a cap bat bn bp w p) := C
    clear C
    by_cases hp : (p : Int) = ns.length
    · have hp' : ((p : Int) == (ns.length : Int)) = true := by simpa using hp
      clear hp
      go_enter Tryz.func20, Tryz.ntmps20
      go_wp2_with fail
      go_ret
      exact ⟨false, p, rfl, HR.out, HC.out.le, HC.out.at0, gr_refl _ _⟩
    · have hp' : ((p : Int) == (ns.length : Int)) = false := by simpa using hp
      clear hp
      go_enter Tryz.func20, Tryz.ntmps20
      go_wp2_with fail
      go_ret
      exact ⟨false, p, rfl, HR.out, HC.out.le, HC.out.at0, gr_refl _ _⟩
  | succ f ih =>
    intro d hd o p w C
    have c0 := C.at0.cell
    have c1 := C.nds.cell
    have hd' : ¬ (16 : Int) < d := by omega
    have HC : Hid (Cs ns a cap bat bn bp w p) := C
    rcases Nat.eq_or_lt_of_le C.le with hp | hp
    · have hp' : ((p : Int) == (ns.length : Int)) = true := by simp; omega
      have HR : Hid (PsR ns o d p false p) := ⟨fun h => (by cases h), fun _ => by rw [hp, List.drop_length]; exact no_end _ _⟩
      clear hp C
      go_enter Tryz.func20, Tryz.ntmps20
      go_wp2_with fail
      go_ret
      exact ⟨false, p, rfl, HR.out, HC.out.le, HC.out.at0, gr_refl _ _⟩
    · have hp' : ((p : Int) == (ns.length : Int)) = false := by simp; omega
      obtain ⟨b, off, rfl⟩ := C.lst.ex (by omega)
      obtain ⟨n, hn⟩ : ∃ n, ns.getD p nd0 = n := ⟨_, rfl⟩
      have hmem : n ∈ ns := by rw [← hn, List.getD_eq_getElem?_getD, List.getElem?_eq_getElem hp]; exact List.getElem_mem hp
      have hdrop : ns.drop p = n :: ns.drop (p + 1) := by
        rw [List.drop_eq_getElem_cons hp, ← hn, List.getD_eq_getElem?_getD, List.getElem?_eq_getElem hp]; rfl
      have hn64 := h64 n hmem
      have k0 : w.cell? ⟨b, off + p * 6, none⟩ = some (.int .i64 n.kd) := C.lst.at p hp 0 _ (by rw [← hn]; rfl)
      have k1 : w.cell? ⟨b, off + p * 6 + 1, none⟩ = some (.int .i64 n.ks) := by rw [Nat.add_assoc]; exact C.lst.at p hp 1 _ (by rw [← hn]; rfl)
      have k2 : w.cell? ⟨b, off + p * 6 + 2, none⟩ = some (sv n.nm) := by rw [Nat.add_assoc]; exact C.lst.at p hp 2 _ (by rw [← hn]; rfl)
      have k3 : w.cell? ⟨b, off + p * 6 + 3, none⟩ = some (.int .i64 n.op) := by rw [Nat.add_assoc]; exact C.lst.at p hp 3 _ (by rw [← hn]; rfl)
      have k4 : w.cell? ⟨b, off + p * 6 + 4, none⟩ = some (.int .i64 n.un) := by rw [Nat.add_assoc]; exact C.lst.at p hp 4 _ (by rw [← hn]; rfl)
      have k5 : w.cell? ⟨b, off + p * 6 + 5, none⟩ = some (.int .i64 n.pl) := by rw [Nat.add_assoc]; exact C.lst.at p hp 5 _ (by rw [← hn]; rfl)
      have hpi : (p : Int) < ns.length := by omega
      have hp65 : p < 65 := by have := C.sml; omega
      have HD : Hid (ns.drop p = n :: ns.drop (p + 1)) := hdrop
      have H6 : Hid (N64 n) := hn64
      have HIH : Hid (∀ d : Nat, d + f = 17 → ∀ (o : Int) (p : Nat) (w : World), Cs ns (some ⟨b, off, none⟩) cap bat bn bp w p →
    Calls Tryz.prog 20 #[.int .i64 o, .int .i64 d, pt1 bat, pt1 bn, pt1 bp] w (PsE ns bat o d p w)) := ih
      clear hn hmem hdrop hn64 ih C
      go_enter Tryz.func20, Tryz.ntmps20
      go_upto_region 4 with fail
      refine ent1 w _ _ (Q := fun W => Code.wp _ _ _ _ W) ?_
      intro W1 hb1 hs1 V1
      have C1 := HC.out.bl hb1
      have g1 := C1.at0.cell
      have f1 := C1.at0.frozen 0
      have G1 : w.grownBy W1 (some bat) := gr_of_below hb1
      have hnb : w.heap.size ≠ bat := by have := HC.out.at0.lt; omega
      clear hs1 hb1 c0 c1 k0 k1 k2 k3 k4 k5
      go_upto_region 5 with fail
      refine st1 C1.at0 _ (Q := fun W => Code.wp _ _ _ _ W) ?_
      intro W2 hv2 hg2 hs2
      have C2 : Cs ns (some ⟨b, off, none⟩) cap bat bn bp W2 (p + 1) := C1.gr hg2 hv2 hp
      have V2 : Va W2 w.heap.size 37 (cn n) := V1.gr hg2 hnb
      have G2 := gr_trans G1 hg2
      have m0 := V2.n0
      have m1 := V2.n1
      have m2 := V2.n2
      have m3 := V2.n3
      have m4 := V2.n4
      have m5 := V2.n5
      clear hs2 hg2 hv2 V1 C1 g1 f1 G1
      go_wp2_with fail
      refine (mayBe_any n W2).mono ?_
      rintro e W3 ⟨rfl, hb3⟩
      have V3 := V2.after hb3
      have HC3 : Hid (Cs ns (some ⟨b, off, none⟩) cap bat bn bp W3 (p + 1)) := C2.bl hb3
      have HV3 : Hid (Va W3 w.heap.size 37 (cn n)) := V3
      have HG3 : Hid (w.grownBy W3 (some bat)) := gr_below G2 hb3
      clear hb3 V2 C2 G2 m0 m1 m2 m3 m4 m5
      cases hm : mB n with
      | false =>
        have HX : Hid (¬ NdOk wdB n) := fun h => (by rw [mB_yes h] at hm; cases hm)
        clear hm
        go_wp2_with fail
        go_ret
        refine ⟨false, p + 1, rfl, ⟨fun h => (by cases h), fun _ => ?_⟩, hp, HC3.out.at0, HG3.out⟩
        rw [HD.out]; exact no_node _ _ _ _ (fun h => HX.out h.1)
      | true =>
        have HN : Hid (NdOk wdB n) := (mB_iff n).1 hm
        have hks0 : (0 : Int) ≤ n.ks := by
          rcases HN.out with ⟨-, h, -⟩ | ⟨-, h, -⟩ | ⟨-, h, -⟩ | ⟨-, h, -⟩ <;> omega
        clear hm
        have m0 := V3.n0
        have m1 := V3.n1
        by_cases ho : n.kd = o
        · have HOE : Hid (n.kd = o) := ho
          have ho' : (n.kd == o) = true := by simpa using ho
          clear ho
          by_cases h3 : n.kd = 3
          · have h3' : (n.kd != 3) = false := by simpa using h3
            have HO3 : Hid (¬ (n.kd = o ∧ n.kd ≠ 3)) := fun h => h.2 h3
            clear h3
            go_wp2_with fail
            have m0 := V3.n0
            have m1 := V3.n1
            go_loopw [39] (fun j wr => ∃ (i : Nat) (kj : Fo) (q : Nat), j = .int .i64 i ∧ (i : Int) ≤ n.ks ∧ i ≤ 64 ∧ Hid (kj.len = i ∧ kj.Ok wdB n.kd (d + 1) ∧ ns.drop (p + 1) = kj.flat ++ ns.drop q) ∧ Hid (Cs ns (some ⟨b, off, none⟩) cap bat bn bp wr q) ∧ Hid (Va wr w.heap.size 37 (cn n)) ∧ Hid (w.grownBy wr (some bat))) (fun j _ => (n.ks - intOf j).toNat)
            case atStart => exact ⟨0, .nil, p + 1, rfl, hks0, Nat.zero_le _, ⟨rfl, trivial, rfl⟩, HC3.out, HV3.out, HG3.out⟩
            case round =>
              clear m0 m1 V3 hks0 HC3 HV3 HG3
              obtain ⟨i, kj, q, rfl, hik, hi64, HK, HCq, HVq, HGq⟩ := hrel
              rcases Int.lt_or_le (i : Int) n.ks with hlt | hge
              · have q0 := HVq.out.n0
                have q1 := HVq.out.n1
                have q2 := HCq.out.own.cell
                have C9 : Calls Tryz.prog 20 #[.int .i64 n.kd, .int .i64 ((d : Int) + 1), pt1 bat, pt1 bn, pt1 bp] wr (PsE ns bat n.kd (d + 1) q wr) := HIH.out (d + 1) (by omega) n.kd q wr HCq.out
                have xd : IntKind.i64.wrap ((d : Int) + 1) = (d : Int) + 1 := by rw [IntKind.wrap_i64]; omega
                have xi : IntKind.i64.wrap ((i : Int) + 1) = (i : Int) + 1 := by rw [IntKind.wrap_i64]; omega
                go_wp2_with fail
                refine C9.mono ?_
                rintro e w5 ⟨ok, p', rfl, hr, hle, hv5, hg5⟩
                have C5 := HCq.out.gr hg5 hv5 hle
                have V5 := HVq.out.gr hg5 hnb
                have G5 := gr_trans HGq.out hg5
                have HC5 : Hid (Cs ns (some ⟨b, off, none⟩) cap bat bn bp w5 p') := C5
                have HV5 : Hid (Va w5 w.heap.size 37 (cn n)) := V5
                have HG5 : Hid (w.grownBy w5 (some bat)) := G5
                have HR5 : Hid (PsR ns n.kd (d + 1) q ok p') := hr
                clear hr hle hv5 hg5 C5 V5 G5 C9 HCq HVq HGq q0 q1 q2
                cases ok with
                | false =>
                  go_wp2_with fail
                  go_ret
                  refine ⟨false, p', rfl, ⟨fun h => (by cases h), fun _ => ?_⟩, HC5.out.le, HC5.out.at0, HG5.out⟩
                  rw [HD.out]
                  exact no_kid HK.out.2.1 HK.out.2.2 (by rw [HK.out.1]; exact hlt) (HR5.out.2 rfl)
                | true =>
                  have HN5 : Hid (∃ k2 : Fo, k2.len = i + 1 ∧ k2.Ok wdB n.kd (d + 1) ∧ ns.drop (p + 1) = k2.flat ++ ns.drop p') := by
                    obtain ⟨m, k, ok, e⟩ := HR5.out.1 rfl
                    refine ⟨kj.app (.cons m k .nil), ?_, HK.out.2.1.app ok, ?_⟩
                    · rw [Fo.len_app, HK.out.1]; rfl
                    · rw [HK.out.2.2, e, Fo.flat_app, List.append_assoc]
                  have hi65 : i + 1 ≤ 64 := by
                    obtain ⟨k2, h1, h2, h3⟩ := HN5.out
                    have h4 := Fo.len_flat k2
                    have h5 := congrArg List.length h3
                    simp only [List.length_drop, List.length_append] at h5
                    have h6 := HC5.out.sml
                    omega
                  go_wp2_with fail
                  go_roundw
                  case rel =>
                    obtain ⟨k2, h1, h2, h3⟩ := HN5.out
                    exact ⟨i + 1, k2, p', rfl, by omega, hi65, ⟨h1, h2, h3⟩, HC5.out, HV5.out, HG5.out⟩
                  case measure => simp [intOf]; omega
              · go_wp2_with fail
                go_ret
                refine ⟨true, q, rfl, ⟨fun _ => ⟨n, kj, ⟨⟨HN.out, HO3.out, by omega, by rw [HK.out.1]; omega, HK.out.2.1⟩, trivial⟩, ?_⟩, fun h => (by cases h)⟩, HCq.out.le, HCq.out.at0, HGq.out⟩
                rw [HD.out, HK.out.2.2]; simp [Fo.flat]
          · have h3' : (n.kd != 3) = true := by simpa using h3
            have HX : Hid (n.kd ≠ 3) := h3
            clear h3
            go_wp2_with fail
            go_ret
            refine ⟨false, p + 1, rfl, ⟨fun h => (by cases h), fun _ => ?_⟩, hp, HC3.out.at0, HG3.out⟩
            rw [HD.out]; exact no_node _ _ _ _ (fun h => h.2 ⟨HOE.out, HX.out⟩)
        · have ho' : (n.kd == o) = false := by simpa using ho
          have HO3 : Hid (¬ (n.kd = o ∧ n.kd ≠ 3)) := fun h => ho h.1
          clear ho
          go_wp2_with fail
          have m0 := V3.n0
          have m1 := V3.n1
          go_loopw [39] (fun j wr => ∃ (i : Nat) (kj : Fo) (q : Nat), j = .int .i64 i ∧ (i : Int) ≤ n.ks ∧ i ≤ 64 ∧ Hid (kj.len = i ∧ kj.Ok wdB n.kd (d + 1) ∧ ns.drop (p + 1) = kj.flat ++ ns.drop q) ∧ Hid (Cs ns (some ⟨b, off, none⟩) cap bat bn bp wr q) ∧ Hid (Va wr w.heap.size 37 (cn n)) ∧ Hid (w.grownBy wr (some bat))) (fun j _ => (n.ks - intOf j).toNat)
          case atStart => exact ⟨0, .nil, p + 1, rfl, hks0, Nat.zero_le _, ⟨rfl, trivial, rfl⟩, HC3.out, HV3.out, HG3.out⟩
          case round =>
            clear m0 m1 V3 hks0 HC3 HV3 HG3
            obtain ⟨i, kj, q, rfl, hik, hi64, HK, HCq, HVq, HGq⟩ := hrel
            rcases Int.lt_or_le (i : Int) n.ks with hlt | hge
            · have q0 := HVq.out.n0
              have q1 := HVq.out.n1
              have q2 := HCq.out.own.cell
              have C9 : Calls Tryz.prog 20 #[.int .i64 n.kd, .int .i64 ((d : Int) + 1), pt1 bat, pt1 bn, pt1 bp] wr (PsE ns bat n.kd (d + 1) q wr) := HIH.out (d + 1) (by omega) n.kd q wr HCq.out
              have xd : IntKind.i64.wrap ((d : Int) + 1) = (d : Int) + 1 := by rw [IntKind.wrap_i64]; omega
              have xi : IntKind.i64.wrap ((i : Int) + 1) = (i : Int) + 1 := by rw [IntKind.wrap_i64]; omega
              go_wp2_with fail
              refine C9.mono ?_
              rintro e w5 ⟨ok, p', rfl, hr, hle, hv5, hg5⟩
              have C5 := HCq.out.gr hg5 hv5 hle
              have V5 := HVq.out.gr hg5 hnb
              have G5 := gr_trans HGq.out hg5
              have HC5 : Hid (Cs ns (some ⟨b, off, none⟩) cap bat bn bp w5 p') := C5
              have HV5 : Hid (Va w5 w.heap.size 37 (cn n)) := V5
              have HG5 : Hid (w.grownBy w5 (some bat)) := G5
              have HR5 : Hid (PsR ns n.kd (d + 1) q ok p') := hr
              clear hr hle hv5 hg5 C5 V5 G5 C9 HCq HVq HGq q0 q1 q2
              cases ok with
              | false =>
                go_wp2_with fail
                go_ret
                refine ⟨false, p', rfl, ⟨fun h => (by cases h), fun _ => ?_⟩, HC5.out.le, HC5.out.at0, HG5.out⟩
                rw [HD.out]
                exact no_kid HK.out.2.1 HK.out.2.2 (by rw [HK.out.1]; exact hlt) (HR5.out.2 rfl)
              | true =>
                have HN5 : Hid (∃ k2 : Fo, k2.len = i + 1 ∧ k2.Ok wdB n.kd (d + 1) ∧ ns.drop (p + 1) = k2.flat ++ ns.drop p') := by
                  obtain ⟨m, k, ok, e⟩ := HR5.out.1 rfl
                  refine ⟨kj.app (.cons m k .nil), ?_, HK.out.2.1.app ok, ?_⟩
                  · rw [Fo.len_app, HK.out.1]; rfl
                  · rw [HK.out.2.2, e, Fo.flat_app, List.append_assoc]
                have hi65 : i + 1 ≤ 64 := by
                  obtain ⟨k2, h1, h2, h3⟩ := HN5.out
                  have h4 := Fo.len_flat k2
                  have h5 := congrArg List.length h3
                  simp only [List.length_drop, List.length_append] at h5
                  have h6 := HC5.out.sml
                  omega
                go_wp2_with fail
                go_roundw
                case rel =>
                  obtain ⟨k2, h1, h2, h3⟩ := HN5.out
                  exact ⟨i + 1, k2, p', rfl, by omega, hi65, ⟨h1, h2, h3⟩, HC5.out, HV5.out, HG5.out⟩
                case measure => simp [intOf]; omega
            · go_wp2_with fail
              go_ret
              refine ⟨true, q, rfl, ⟨fun _ => ⟨n, kj, ⟨⟨HN.out, HO3.out, by omega, by rw [HK.out.1]; omega, HK.out.2.1⟩, trivial⟩, ?_⟩, fun h => (by cases h)⟩, HCq.out.le, HCq.out.at0, HGq.out⟩
              rw [HD.out, HK.out.2.2]; simp [Fo.flat]
end Go.Proofs.YthladfhjhanhlaaGreatDoor
namespace Go.Proofs.YthladfhjhanhlaaGreatDoor
open Go.RowKit Go.Shelf
set_option linter.unusedVariables false

/-- What Check answers. -/
noncomputable def ckE (ns : List Nd) : Int := open Classical in if Cond wdB ns then 0 else 131
theorem ckE_ok {ns : List Nd} (h : Cond wdB ns) : ckE ns = 0 := if_pos h
theorem ckE_no {ns : List Nd} (h : ¬ Cond wdB ns) : ckE ns = 131 := if_neg h
theorem ckE_iff (ns : List Nd) : ckE ns = 0 ↔ Cond wdB ns := by
  constructor
  · intro h
    rcases Classical.em (Cond wdB ns) with h' | h'
    · exact h'
    · rw [ckE_no h'] at h; cases h
  · exact ckE_ok
theorem cond_tree {ns : List Nd} (h0 : ns ≠ []) (h : Cond wdB ns) : ns.length ≤ 64 ∧ ∃ n k, ns = (Fo.cons n k .nil).flat ∧ (Fo.cons n k .nil).Ok wdB 0 1 := h.resolve_left h0
set_option maxHeartbeats 4000000 in
theorem check13 (ns : List Nd) (a : Option Addr) (cap : Nat) (w : World) (hL : Le elN w a ns.length ns) (h64 : ∀ n ∈ ns, N64 n) :
    Calls Tryz.prog 9 #[.slice a ns.length cap] w fun e w' => e = .returned (.int .i64 (ckE ns)) ∧ Below w.heap.size w w' := by
  rcases Nat.eq_zero_or_pos ns.length with h0 | h0
  · have HE : Hid (ckE ns = 0) := ckE_ok (.inl (List.length_eq_zero_iff.1 h0))
    generalize ckE ns = E at *
    clear h64 hL
    generalize ns.length = N at *
    subst h0
    go_enter Tryz.func9, Tryz.ntmps9
    go_wp2_with fail
    go_ret
    exact ⟨by rw [HE.out]; rfl, (Below.refl _ _).alloc (Nat.le_refl _) _⟩
  · have hne : ns ≠ [] := fun h => by rw [h] at h0; exact absurd h0 (Nat.lt_irrefl _)
    have hz : ((ns.length : Int) == 0) = false := by simp; omega
    rcases Nat.lt_or_ge 64 ns.length with h1 | h1
    · have HE : Hid (ckE ns = 131) := ckE_no (fun h => by have := (cond_tree hne h).1; omega)
      have h1' : (64 : Int) < ns.length := by omega
      generalize ckE ns = E at *
      clear h64 hL
      generalize ns.length = N at *
      go_enter Tryz.func9, Tryz.ntmps9
      go_wp2_with fail
      go_ret
      exact ⟨by rw [HE.out]; rfl, (Below.refl _ _).alloc (Nat.le_refl _) _⟩
    · have h1' : ¬ (64 : Int) < ns.length := by omega
      obtain ⟨E, hE⟩ : ∃ E, ckE ns = E := ⟨_, rfl⟩
      have HE : Hid (ckE ns = E) := hE
      rw [hE]
      clear hE
      have HL : Hid (Le elN w a ns.length ns) := hL
      have H6 : Hid (∀ n ∈ ns, N64 n) := h64
      clear hL h64
      have B0 : Below w.heap.size w w := Below.refl _ _
      go_enter Tryz.func9, Tryz.ntmps9
      go_upto_region 7 with fail
      refine ent3 w _ _ _ _ _ _ (Q := fun W => Code.wp _ _ _ _ W) ?_
      intro W1 hb hs V0 V1 V2
      replace B0 := step B0 hb
      have c0 := V0.cell
      have c1 := V1.cell
      have c2 := V2.cell
      have f2 := V2.frozen 0
      have L1 := HL.out.after hb
      have hlt := fun b off (h : a = some ⟨b, off, none⟩) => (by subst h; exact HL.out.lt h0 : b < w.heap.size)
      clear hb
      go_upto_region 8 with fail
      refine st1 V2 _ (Q := fun W => Code.wp _ _ _ _ W) ?_
      intro W2 hv hg hs2
      have C2 : Cs ns a cap (w.heap.size + 1) w.heap.size (w.heap.size + 1 + 1) W2 0 :=
        ⟨V1.gr hg (by omega), V0.gr hg (by omega), hv, L1.grown hg (fun _ b off h => by have := hlt b off h; omega), by omega, by omega, fun b off h => by have := hlt b off h; omega, h1, Nat.zero_le _⟩
      have B2 : Below w.heap.size w W2 := B0.trans (gr_to hg (by omega) (by omega))
      have HB2 : Hid (Below w.heap.size w W2) := B2
      have hs3 : w.heap.size + 3 ≤ W2.heap.size := by omega
      have d2 := hv.cell
      clear V0 V1 V2 c0 c1 c2 f2 L1 hv hg hs hs2 B0 B2 hlt
      have C9 : Calls Tryz.prog 20 #[.int .i64 0, .int .i64 1, pt1 (w.heap.size + 1), pt1 w.heap.size, pt1 (w.heap.size + 1 + 1)] W2 (PsE ns (w.heap.size + 1) 0 1 0 W2) := passes_any ns a cap _ _ _ H6.out 16 1 rfl 0 0 W2 C2
      have HC2 : Hid (Cs ns a cap (w.heap.size + 1) w.heap.size (w.heap.size + 1 + 1) W2 0) := C2
      clear C2
      go_wp2_with fail
      refine C9.mono ?_
      rintro e W3 ⟨ok, p', rfl, hr, hle, hv, hg⟩
      have B3 : Below w.heap.size w W3 := HB2.out.trans (gr_to hg (by omega) (by omega))
      have e0 := (HC2.out.nds.gr hg HC2.out.n1).cell
      have e1 := hv.cell
      have HR : Hid (PsR ns 0 1 0 ok p') := hr
      clear hr hg hv C9 HC2 HB2
      cases ok with
      | false =>
        go_wp2_with fail
        go_ret
        refine ⟨?_, B3⟩
        rw [← HE.out, ckE_no]
        · rfl
        · intro h
          obtain ⟨-, n, k, e, hok⟩ := cond_tree hne h
          exact HR.out.2 rfl n k [] (by rw [List.drop_zero, List.append_nil]; exact e) hok
      | true =>
        rcases Nat.lt_or_ge p' ns.length with hlt | hge
        · have hlt' : (p' : Int) < ns.length := by omega
          go_wp2_with fail
          go_ret
          refine ⟨?_, B3⟩
          rw [← HE.out, ckE_no]
          · rfl
          · intro h
            obtain ⟨-, n, k, e, hok⟩ := cond_tree hne h
            obtain ⟨m, j, hok2, e2⟩ := HR.out.1 rfl
            rw [List.drop_zero, e] at e2
            have := (flat_inj _ _ _ _ _ _ [] (ns.drop p') hok hok2 rfl (by rw [List.append_nil]; rw [← e] at e2 ⊢; exact e2)).2
            have h9 := congrArg List.length this
            simp only [List.length_nil, List.length_drop] at h9
            omega
        · have hlt' : ¬ (p' : Int) < ns.length := by omega
          go_wp2_with fail
          go_ret
          refine ⟨?_, B3⟩
          rw [← HE.out, ckE_ok]
          · rfl
          · obtain ⟨m, j, hok2, e2⟩ := HR.out.1 rfl
            rw [List.drop_zero, List.drop_of_length_le hge, List.append_nil] at e2
            exact .inr ⟨h1, m, j, e2, hok2⟩
end Go.Proofs.YthladfhjhanhlaaGreatDoor
namespace Go.Proofs.YthladfhjhanhlaaGreatDoor
open Go.RowKit Go.Shelf
set_option linter.unusedVariables false

theorem st22 {W : World} {b d : Nat} {t : TypeId} {s1 s2 : Bool} {a1 a2 : Option Addr} {l1 l2 c1 c2 : Nat} (h : Va W b t #[.bool s1, .slice a1 l1 c1]) (g : Va W d t #[.bool s2, .slice a2 l2 c2]) (hne : b ≠ d) (x y u v : Value) {Q : World → Prop}
    (k : ∀ V, Va V b t #[x, y] → Va V d t #[u, v] → (∀ c t cs, c ≠ b → c ≠ d → Va W c t cs → Va V c t cs) → ((∀ s a l c zs, It W s a l c zs → It V s a l c zs) ∧ (∀ B v, B ≤ b → B ≤ d → Below B v W → Below B v V)) → Q V) :
    Q ((((W.setCell ⟨b, 0, none⟩ x).setCell ⟨b, 1, none⟩ y).setCell ⟨d, 0, none⟩ u).setCell ⟨d, 1, none⟩ v) :=
  k _ ((h.set2 x y).other2 hne u v) ((g.other2 hne.symm x y).set2 u v) (fun c t cs h1 h2 hv => (hv.other2 h1 x y).other2 h2 u v)
    ⟨fun s a l c zs i => (i.far h (noInt2 _ _ _ _) (far2 _ _ _ _)).far (g.other2 hne.symm x y) (noInt2 _ _ _ _) (far2 _ _ _ _), fun B v' h1 h2 hb => below_2 (below_2 hb h1 x y) h2 u v⟩
theorem iv_same {s : Bool} {xs ys zs : List Int} (e : num zs = num xs + num ys) : iv s zs = iv s xs + iv s ys := by
  cases s
  · simp only [iv_f]; exact e
  · simp only [iv_t]; omega
theorem iv_not {s : Bool} {xs ys zs : List Int} (e : num zs = num xs - num ys) : iv s zs = iv s xs + iv (!s) ys := by
  cases s
  · simp only [iv_f, Bool.not_false, iv_t]; omega
  · simp only [iv_f, Bool.not_true, iv_t]; omega
theorem iv_mul {s t : Bool} {xs ys zs : List Int} (e : num zs = num xs * num ys) : iv (s != t) zs = iv s xs * iv t ys := by
  cases s <;> cases t <;> simp [iv, e, Int.neg_mul, Int.mul_neg]
theorem abs_same {s : Bool} {xs ys : List Int} (h1 : 0 ≤ num xs) (h2 : 0 ≤ num ys) : ((iv s xs + iv s ys).natAbs : Int) = num xs + num ys := by
  cases s
  · simp only [iv_f]; omega
  · simp only [iv_t]; omega
theorem abs_mul {s t : Bool} {xs ys : List Int} (h1 : 0 ≤ num xs) (h2 : 0 ≤ num ys) : ((iv s xs * iv t ys).natAbs : Int) = num xs * num ys := by
  have h3 := Int.mul_nonneg h1 h2
  cases s <;> cases t <;> simp only [iv_t, iv_f, Int.neg_mul, Int.mul_neg, Int.neg_neg] <;> omega

theorem wmul_ok (s t : Bool) (a b : Option Addr) (la ca lb cb : Nat) (xs ys : List Int) (w : World) (hx : It w s a la ca xs) (hy : It w t b lb cb ys) (hfit : Hid (((iv s xs * iv t ys).natAbs : Int) < pw 4096)) :
    Calls Tryz.prog 62 #[.agg #[.bool s, .slice a la ca], .agg #[.bool t, .slice b lb cb]] w fun e w' => ∃ s' a' l' c' zs, e = .returned (.tuple #[.agg #[.bool s', .slice a' l' c'], .int .i64 0]) ∧ It w' s' a' l' c' zs ∧ iv s' zs = iv s xs * iv t ys ∧ Below w.heap.size w w' := by
  have C : Hid (∀ W, Nt W a la ca xs → Nt W b lb cb ys → Calls Tryz.prog 86 #[.agg #[.slice a la ca], .agg #[.slice b lb cb]] W fun e w' => ∃ a' l' c' zs, e = .returned (.tuple #[.agg #[.slice a' l' c'], .int .i64 0]) ∧ Nt w' a' l' c' zs ∧ num zs = num xs * num ys ∧ Below W.heap.size W w') := fun W h1 h2 => nmul_ok a b la ca lb cb xs ys W h1 h2 (by have := hfit.out; rw [abs_mul hx.1.nonneg hy.1.nonneg] at this; exact this)
  clear hfit
  have B0 : Below w.heap.size w w := Below.refl _ _
  go_enter Tryz.func62, Tryz.ntmps62
  go_wp2_with fail
  refine ent3 w _ _ _ _ _ _ (Q := fun W => Calls Tryz.prog _ _ W _) ?_
  intro x1 hb hs_x1 V0 V1 V2
  replace hx := It.after hb hx
  replace hy := It.after hb hy
  replace B0 := step B0 hb
  clear hb hs_x1
  refine (C.out x1 hx.1 hy.1).mono ?_
  rintro e x2 ⟨a', l', c', zs, rfl, h', e', hb⟩
  replace V0 := Va.after hb V0
  replace V1 := Va.after hb V1
  replace V2 := Va.after hb V2
  replace hx := It.after hb hx
  replace hy := It.after hb hy
  replace B0 := step B0 hb
  clear hb
  have c_V0 := V0.c0
  have d_V0 := V0.c1
  have f_V0 := V0.frozen 0
  have g_V0 := V0.frozen 1
  have l_V0 := V0.lt
  have m_V0 := Nat.le_of_lt l_V0
  have c_V1 := V1.c0
  have d_V1 := V1.c1
  have f_V1 := V1.frozen 0
  have g_V1 := V1.frozen 1
  have l_V1 := V1.lt
  have m_V1 := Nat.le_of_lt l_V1
  have c_V2 := V2.c0
  have d_V2 := V2.c1
  have f_V2 := V2.frozen 0
  have g_V2 := V2.frozen 1
  have l_V2 := V2.lt
  have m_V2 := Nat.le_of_lt l_V2
  go_wp2_with fail
  refine ent1 x2 _ _ (Q := fun W => Calls Tryz.prog _ _ W _) ?_
  intro x3 hb hs_x3 V3
  replace V0 := Va.after hb V0
  replace V1 := Va.after hb V1
  replace V2 := Va.after hb V2
  replace h' := Nt.after hb h'
  replace hx := It.after hb hx
  replace hy := It.after hb hy
  replace B0 := step B0 hb
  clear hb hs_x3
  refine (wnew_any _ a' l' c' zs x3 h').mono ?_
  rintro e x4 ⟨s', rfl, h2, e2, hb⟩
  replace V0 := Va.after hb V0
  replace V1 := Va.after hb V1
  replace V2 := Va.after hb V2
  replace V3 := Va.after hb V3
  replace h' := Nt.after hb h'
  replace hx := It.after hb hx
  replace hy := It.after hb hy
  replace B0 := step B0 hb
  clear hb
  clear c_V0 d_V0 f_V0 g_V0 l_V0 m_V0 c_V1 d_V1 f_V1 g_V1 l_V1 m_V1 c_V2 d_V2 f_V2 g_V2 l_V2 m_V2
  have c_V2 := V2.c0
  have d_V2 := V2.c1
  have f_V2 := V2.frozen 0
  have g_V2 := V2.frozen 1
  have l_V2 := V2.lt
  have m_V2 := Nat.le_of_lt l_V2
  go_wp2_with fail
  refine bodyPost_ret (results_wt rfl rfl (V2.set2 _ _)) rfl ?_
  refine ⟨s', a', l', c', zs, rfl, h2.far V2 (noInt2 _ _ _ _) (far2 _ _ _ _), ?_, below_2 B0 (by omega) _ _⟩
  rw [e2]
  exact iv_mul e'

theorem wmul_long (s t : Bool) (a b : Option Addr) (la ca lb cb : Nat) (xs ys : List Int) (w : World) (hx : It w s a la ca xs) (hy : It w t b lb cb ys) (hlong : Hid (pw 4096 ≤ ((iv s xs * iv t ys).natAbs : Int))) :
    Calls Tryz.prog 62 #[.agg #[.bool s, .slice a la ca], .agg #[.bool t, .slice b lb cb]] w fun e w' => e = .returned (.tuple #[.agg #[.bool false, .slice none 0 0], .int .i64 3]) ∧ Below w.heap.size w w' := by
  have C : Hid (∀ W, Nt W a la ca xs → Nt W b lb cb ys → Calls Tryz.prog 86 #[.agg #[.slice a la ca], .agg #[.slice b lb cb]] W fun e w' => e = .returned (.tuple #[.agg #[.slice none 0 0], .int .i64 3]) ∧ Below W.heap.size W w') := fun W h1 h2 => nmul_long a b la ca lb cb xs ys W h1 h2 (by have := hlong.out; rw [abs_mul hx.1.nonneg hy.1.nonneg] at this; exact this)
  clear hlong
  have B0 : Below w.heap.size w w := Below.refl _ _
  go_enter Tryz.func62, Tryz.ntmps62
  go_wp2_with fail
  refine ent3 w _ _ _ _ _ _ (Q := fun W => Calls Tryz.prog _ _ W _) ?_
  intro x1 hb hs_x1 V0 V1 V2
  replace hx := It.after hb hx
  replace hy := It.after hb hy
  replace B0 := step B0 hb
  clear hb hs_x1
  refine (C.out x1 hx.1 hy.1).mono ?_
  rintro e x2 ⟨rfl, hb⟩
  replace V0 := Va.after hb V0
  replace V1 := Va.after hb V1
  replace V2 := Va.after hb V2
  replace hx := It.after hb hx
  replace hy := It.after hb hy
  replace B0 := step B0 hb
  clear hb
  have c_V0 := V0.c0
  have d_V0 := V0.c1
  have f_V0 := V0.frozen 0
  have g_V0 := V0.frozen 1
  have l_V0 := V0.lt
  have m_V0 := Nat.le_of_lt l_V0
  have c_V1 := V1.c0
  have d_V1 := V1.c1
  have f_V1 := V1.frozen 0
  have g_V1 := V1.frozen 1
  have l_V1 := V1.lt
  have m_V1 := Nat.le_of_lt l_V1
  have c_V2 := V2.c0
  have d_V2 := V2.c1
  have f_V2 := V2.frozen 0
  have g_V2 := V2.frozen 1
  have l_V2 := V2.lt
  have m_V2 := Nat.le_of_lt l_V2
  go_wp2_with fail
  refine ent1 x2 _ _ (Q := fun W => Calls Tryz.prog _ _ W _) ?_
  intro x3 hb hs_x3 V3
  replace V0 := Va.after hb V0
  replace V1 := Va.after hb V1
  replace V2 := Va.after hb V2
  replace hx := It.after hb hx
  replace hy := It.after hb hy
  replace B0 := step B0 hb
  clear hb hs_x3
  refine (wnew_any _ none 0 0 [] x3 (Nt.nil _)).mono ?_
  rintro e x4 ⟨s', rfl, h2, e2, hb⟩
  replace V0 := Va.after hb V0
  replace V1 := Va.after hb V1
  replace V2 := Va.after hb V2
  replace V3 := Va.after hb V3
  replace hx := It.after hb hx
  replace hy := It.after hb hy
  replace B0 := step B0 hb
  clear hb
  have es : s' = false := by cases s' with | false => rfl | true => exact absurd rfl (h2.2 rfl)
  subst es
  clear c_V0 d_V0 f_V0 g_V0 l_V0 m_V0 c_V1 d_V1 f_V1 g_V1 l_V1 m_V1 c_V2 d_V2 f_V2 g_V2 l_V2 m_V2
  have c_V2 := V2.c0
  have d_V2 := V2.c1
  have f_V2 := V2.frozen 0
  have g_V2 := V2.frozen 1
  have l_V2 := V2.lt
  have m_V2 := Nat.le_of_lt l_V2
  go_wp2_with fail
  refine bodyPost_ret (results_wt rfl rfl (V2.set2 _ _)) rfl ?_
  exact ⟨rfl, below_2 B0 (by omega) _ _⟩

end Go.Proofs.YthladfhjhanhlaaGreatDoor
