/-
  traits.Check: the tree that begins at a place.
-/
import Derived.Test.YtblafbbnplfpjaaGreatDoorTr1
namespace Go.Proofs.YtblafbbnplfpjaaGreatDoor
open Go.RowKit Go.Shelf
set_option linter.unusedVariables false

abbrev pt1 (b : Nat) : Value := .pointer (some ⟨b, 0, none⟩)
/-- What passes answers of the nodes from the place p on. -/
def PsR (ns : List Nd) (o : Int) (d p : Nat) (ok : Bool) (p' : Nat) : Prop :=
  (ok = true → ∃ n k, (Fo.cons n k .nil).Ok wdB o d ∧ ns.drop p = (Fo.cons n k .nil).flat ++ ns.drop p') ∧ (ok = false → NoTree wdB (ns.drop p) o d)
/-- The variables that passes goes by: the place, the nodes, itself. -/
structure Cs (ns : List Nd) (a : Option Addr) (cap bat bn bp : Nat) (w : World) (p : Nat) : Prop where
  at0 : Va w bat 3 #[.int .i64 p]
  nds : Va w bn 22 #[.slice a ns.length cap]
  own : Va w bp 51 #[.func (.func 25) #[] #[pt1 bat, pt1 bn, pt1 bp]]
  lst : Le elN w a ns.length ns
  n1 : bn ≠ bat
  n2 : bp ≠ bat
  n3 : ∀ b off, a = some ⟨b, off, none⟩ → b ≠ bat
  sml : ns.length ≤ 64
  le : p ≤ ns.length
theorem Cs.gr {ns : List Nd} {a : Option Addr} {cap bat bn bp : Nat} {w w' : World} {p p' : Nat} (h : Cs ns a cap bat bn bp w p) (hg : w.grownBy w' (some bat)) (hv : Va w' bat 3 #[.int .i64 p']) (hp : p' ≤ ns.length) : Cs ns a cap bat bn bp w' p' :=
  ⟨hv, h.nds.gr hg h.n1, h.own.gr hg h.n2, h.lst.grown hg (fun _ => h.n3), h.n1, h.n2, h.n3, h.sml, hp⟩
theorem Cs.bl {ns : List Nd} {a : Option Addr} {cap bat bn bp : Nat} {w w' : World} {p : Nat} (h : Cs ns a cap bat bn bp w p) (hb : Below w.heap.size w w') : Cs ns a cap bat bn bp w' p :=
  h.gr (gr_of_below hb) (h.at0.after hb) h.le
/-- How passes ends. -/
def PsE (ns : List Nd) (bat : Nat) (o : Int) (d p : Nat) (w : World) (e : Ending) (w' : World) : Prop := ∃ (ok : Bool) (p' : Nat), e = .returned (.bool ok) ∧ PsR ns o d p ok p' ∧ p' ≤ ns.length ∧ Va w' bat 3 #[.int .i64 p'] ∧ w.grownBy w' (some bat)
set_option maxHeartbeats 4000000 in
theorem passes_any (ns : List Nd) (a : Option Addr) (cap bat bn bp : Nat) (h64 : ∀ n ∈ ns, N64 n) : ∀ (f d : Nat), d + f = 17 → ∀ (o : Int) (p : Nat) (w : World), Cs ns a cap bat bn bp w p →
    Calls Tryz.prog 25 #[.int .i64 o, .int .i64 d, pt1 bat, pt1 bn, pt1 bp] w (PsE ns bat o d p w) := by
  intro f
  induction f with
  | zero =>
    intro d hd o p w C
    have c0 := C.at0.cell
    have c1 := C.nds.cell
    have hd' : (16 : Int) < d := by omega
    have HR : Hid (PsR ns o d p false p) := ⟨fun h => (by cases h), fun _ => no_deep _ _ _ (by omega)⟩
    have HC : Hid (Cs ns a cap bat bn bp w p) := C
    clear C
    by_cases hp : (p : Int) = ns.length
    · have hp' : ((p : Int) == (ns.length : Int)) = true := by simpa using hp
      clear hp
      go_enter Tryz.func25, Tryz.ntmps25
      go_wp2_with fail
      go_ret
      exact ⟨false, p, rfl, HR.out, HC.out.le, HC.out.at0, gr_refl _ _⟩
    · have hp' : ((p : Int) == (ns.length : Int)) = false := by simpa using hp
      clear hp
      go_enter Tryz.func25, Tryz.ntmps25
      go_wp2_with fail
      go_ret
      exact ⟨false, p, rfl, HR.out, HC.out.le, HC.out.at0, gr_refl _ _⟩
  | succ f ih =>
    intro d hd o p w C
    have c0 := C.at0.cell
    have c1 := C.nds.cell
    have hd' : ¬ (16 : Int) < d := by omega
    have HC : Hid (Cs ns a cap bat bn bp w p) := C
    rcases Nat.eq_or_lt_of_le C.le with hp | hp
    · have hp' : ((p : Int) == (ns.length : Int)) = true := by simp; omega
      have HR : Hid (PsR ns o d p false p) := ⟨fun h => (by cases h), fun _ => by rw [hp, List.drop_length]; exact no_end _ _⟩
      clear hp C
      go_enter Tryz.func25, Tryz.ntmps25
      go_wp2_with fail
      go_ret
      exact ⟨false, p, rfl, HR.out, HC.out.le, HC.out.at0, gr_refl _ _⟩
    · have hp' : ((p : Int) == (ns.length : Int)) = false := by simp; omega
      obtain ⟨b, off, rfl⟩ := C.lst.ex (by omega)
      obtain ⟨n, hn⟩ : ∃ n, ns.getD p nd0 = n := ⟨_, rfl⟩
      have hmem : n ∈ ns := by rw [← hn, List.getD_eq_getElem?_getD, List.getElem?_eq_getElem hp]; exact List.getElem_mem hp
      have hdrop : ns.drop p = n :: ns.drop (p + 1) := by
        rw [List.drop_eq_getElem_cons hp, ← hn, List.getD_eq_getElem?_getD, List.getElem?_eq_getElem hp]; rfl
      have hn64 := h64 n hmem
      have k0 : w.cell? ⟨b, off + p * 6, none⟩ = some (.int .i64 n.kd) := C.lst.at p hp 0 _ (by rw [← hn]; rfl)
      have k1 : w.cell? ⟨b, off + p * 6 + 1, none⟩ = some (.int .i64 n.ks) := by rw [Nat.add_assoc]; exact C.lst.at p hp 1 _ (by rw [← hn]; rfl)
      have k2 : w.cell? ⟨b, off + p * 6 + 2, none⟩ = some (sv n.nm) := by rw [Nat.add_assoc]; exact C.lst.at p hp 2 _ (by rw [← hn]; rfl)
      have k3 : w.cell? ⟨b, off + p * 6 + 3, none⟩ = some (.int .i64 n.op) := by rw [Nat.add_assoc]; exact C.lst.at p hp 3 _ (by rw [← hn]; rfl)
      have k4 : w.cell? ⟨b, off + p * 6 + 4, none⟩ = some (.int .i64 n.un) := by rw [Nat.add_assoc]; exact C.lst.at p hp 4 _ (by rw [← hn]; rfl)
      have k5 : w.cell? ⟨b, off + p * 6 + 5, none⟩ = some (.int .i64 n.pl) := by rw [Nat.add_assoc]; exact C.lst.at p hp 5 _ (by rw [← hn]; rfl)
      have hpi : (p : Int) < ns.length := by omega
      have hp65 : p < 65 := by have := C.sml; omega
      have HD : Hid (ns.drop p = n :: ns.drop (p + 1)) := hdrop
      have H6 : Hid (N64 n) := hn64
      have HIH : Hid (∀ d : Nat, d + f = 17 → ∀ (o : Int) (p : Nat) (w : World), Cs ns (some ⟨b, off, none⟩) cap bat bn bp w p →
    Calls Tryz.prog 25 #[.int .i64 o, .int .i64 d, pt1 bat, pt1 bn, pt1 bp] w (PsE ns bat o d p w)) := ih
      clear hn hmem hdrop hn64 ih C
      go_enter Tryz.func25, Tryz.ntmps25
      go_upto_region 4 with fail
      refine ent1 w _ _ (Q := fun W => Code.wp _ _ _ _ W) ?_
      intro W1 hb1 hs1 V1
      have C1 := HC.out.bl hb1
      have g1 := C1.at0.cell
      have f1 := C1.at0.frozen 0
      have G1 : w.grownBy W1 (some bat) := gr_of_below hb1
      have hnb : w.heap.size ≠ bat := by have := HC.out.at0.lt; omega
      clear hs1 hb1 c0 c1 k0 k1 k2 k3 k4 k5
      go_upto_region 5 with fail
      refine st1 C1.at0 _ (Q := fun W => Code.wp _ _ _ _ W) ?_
      intro W2 hv2 hg2 hs2
      have C2 : Cs ns (some ⟨b, off, none⟩) cap bat bn bp W2 (p + 1) := C1.gr hg2 hv2 hp
      have V2 : Va W2 w.heap.size 48 (cn n) := V1.gr hg2 hnb
      have G2 := gr_trans G1 hg2
      have m0 := V2.n0
      have m1 := V2.n1
      have m2 := V2.n2
      have m3 := V2.n3
      have m4 := V2.n4
      have m5 := V2.n5
      clear hs2 hg2 hv2 V1 C1 g1 f1 G1
      go_wp2_with fail
      refine (mayBe_any n W2).mono ?_
      rintro e W3 ⟨rfl, hb3⟩
      have V3 := V2.after hb3
      have HC3 : Hid (Cs ns (some ⟨b, off, none⟩) cap bat bn bp W3 (p + 1)) := C2.bl hb3
      have HV3 : Hid (Va W3 w.heap.size 48 (cn n)) := V3
      have HG3 : Hid (w.grownBy W3 (some bat)) := gr_below G2 hb3
      clear hb3 V2 C2 G2 m0 m1 m2 m3 m4 m5
      cases hm : mB n with
      | false =>
        have HX : Hid (¬ NdOk wdB n) := fun h => (by rw [mB_yes h] at hm; cases hm)
        clear hm
        go_wp2_with fail
        go_ret
        refine ⟨false, p + 1, rfl, ⟨fun h => (by cases h), fun _ => ?_⟩, hp, HC3.out.at0, HG3.out⟩
        rw [HD.out]; exact no_node _ _ _ _ (fun h => HX.out h.1)
      | true =>
        have HN : Hid (NdOk wdB n) := (mB_iff n).1 hm
        have hks0 : (0 : Int) ≤ n.ks := by
          rcases HN.out with ⟨-, h, -⟩ | ⟨-, h, -⟩ | ⟨-, h, -⟩ | ⟨-, h, -⟩ <;> omega
        clear hm
        have m0 := V3.n0
        have m1 := V3.n1
        by_cases ho : n.kd = o
        · have HOE : Hid (n.kd = o) := ho
          have ho' : (n.kd == o) = true := by simpa using ho
          clear ho
          by_cases h3 : n.kd = 3
          · have h3' : (n.kd != 3) = false := by simpa using h3
            have HO3 : Hid (¬ (n.kd = o ∧ n.kd ≠ 3)) := fun h => h.2 h3
            clear h3
            go_wp2_with fail
            have m0 := V3.n0
            have m1 := V3.n1
            go_loopw [39] (fun j wr => ∃ (i : Nat) (kj : Fo) (q : Nat), j = .int .i64 i ∧ (i : Int) ≤ n.ks ∧ i ≤ 64 ∧ Hid (kj.len = i ∧ kj.Ok wdB n.kd (d + 1) ∧ ns.drop (p + 1) = kj.flat ++ ns.drop q) ∧ Hid (Cs ns (some ⟨b, off, none⟩) cap bat bn bp wr q) ∧ Hid (Va wr w.heap.size 48 (cn n)) ∧ Hid (w.grownBy wr (some bat))) (fun j _ => (n.ks - intOf j).toNat)
            case atStart => exact ⟨0, .nil, p + 1, rfl, hks0, Nat.zero_le _, ⟨rfl, trivial, rfl⟩, HC3.out, HV3.out, HG3.out⟩
            case round =>
              clear m0 m1 V3 hks0 HC3 HV3 HG3
              obtain ⟨i, kj, q, rfl, hik, hi64, HK, HCq, HVq, HGq⟩ := hrel
              rcases Int.lt_or_le (i : Int) n.ks with hlt | hge
              · have q0 := HVq.out.n0
                have q1 := HVq.out.n1
                have q2 := HCq.out.own.cell
                have C9 : Calls Tryz.prog 25 #[.int .i64 n.kd, .int .i64 ((d : Int) + 1), pt1 bat, pt1 bn, pt1 bp] wr (PsE ns bat n.kd (d + 1) q wr) := HIH.out (d + 1) (by omega) n.kd q wr HCq.out
                have xd : IntKind.i64.wrap ((d : Int) + 1) = (d : Int) + 1 := by rw [IntKind.wrap_i64]; omega
                have xi : IntKind.i64.wrap ((i : Int) + 1) = (i : Int) + 1 := by rw [IntKind.wrap_i64]; omega
                go_wp2_with fail
                refine C9.mono ?_
                rintro e w5 ⟨ok, p', rfl, hr, hle, hv5, hg5⟩
                have C5 := HCq.out.gr hg5 hv5 hle
                have V5 := HVq.out.gr hg5 hnb
                have G5 := gr_trans HGq.out hg5
                have HC5 : Hid (Cs ns (some ⟨b, off, none⟩) cap bat bn bp w5 p') := C5
                have HV5 : Hid (Va w5 w.heap.size 48 (cn n)) := V5
                have HG5 : Hid (w.grownBy w5 (some bat)) := G5
                have HR5 : Hid (PsR ns n.kd (d + 1) q ok p') := hr
                clear hr hle hv5 hg5 C5 V5 G5 C9 HCq HVq HGq q0 q1 q2
                cases ok with
                | false =>
                  go_wp2_with fail
                  go_ret
                  refine ⟨false, p', rfl, ⟨fun h => (by cases h), fun _ => ?_⟩, HC5.out.le, HC5.out.at0, HG5.out⟩
                  rw [HD.out]
                  exact no_kid HK.out.2.1 HK.out.2.2 (by rw [HK.out.1]; exact hlt) (HR5.out.2 rfl)
                | true =>
                  have HN5 : Hid (∃ k2 : Fo, k2.len = i + 1 ∧ k2.Ok wdB n.kd (d + 1) ∧ ns.drop (p + 1) = k2.flat ++ ns.drop p') := by
                    obtain ⟨m, k, ok, e⟩ := HR5.out.1 rfl
                    refine ⟨kj.app (.cons m k .nil), ?_, HK.out.2.1.app ok, ?_⟩
                    · rw [Fo.len_app, HK.out.1]; rfl
                    · rw [HK.out.2.2, e, Fo.flat_app, List.append_assoc]
                  have hi65 : i + 1 ≤ 64 := by
                    obtain ⟨k2, h1, h2, h3⟩ := HN5.out
                    have h4 := Fo.len_flat k2
                    have h5 := congrArg List.length h3
                    simp only [List.length_drop, List.length_append] at h5
                    have h6 := HC5.out.sml
                    omega
                  go_wp2_with fail
                  go_roundw
                  case rel =>
                    obtain ⟨k2, h1, h2, h3⟩ := HN5.out
                    exact ⟨i + 1, k2, p', rfl, by omega, hi65, ⟨h1, h2, h3⟩, HC5.out, HV5.out, HG5.out⟩
                  case measure => simp [intOf]; omega
              · go_wp2_with fail
                go_ret
                refine ⟨true, q, rfl, ⟨fun _ => ⟨n, kj, ⟨⟨HN.out, HO3.out, by omega, by rw [HK.out.1]; omega, HK.out.2.1⟩, trivial⟩, ?_⟩, fun h => (by cases h)⟩, HCq.out.le, HCq.out.at0, HGq.out⟩
                rw [HD.out, HK.out.2.2]; simp [Fo.flat]
          · have h3' : (n.kd != 3) = true := by simpa using h3
            have HX : Hid (n.kd ≠ 3) := h3
            clear h3
            go_wp2_with fail
            go_ret
            refine ⟨false, p + 1, rfl, ⟨fun h => (by cases h), fun _ => ?_⟩, hp, HC3.out.at0, HG3.out⟩
            rw [HD.out]; exact no_node _ _ _ _ (fun h => h.2 ⟨HOE.out, HX.out⟩)
        · have ho' : (n.kd == o) = false := by simpa using ho
          have HO3 : Hid (¬ (n.kd = o ∧ n.kd ≠ 3)) := fun h => ho h.1
          clear ho
          go_wp2_with fail
          have m0 := V3.n0
          have m1 := V3.n1
          go_loopw [39] (fun j wr => ∃ (i : Nat) (kj : Fo) (q : Nat), j = .int .i64 i ∧ (i : Int) ≤ n.ks ∧ i ≤ 64 ∧ Hid (kj.len = i ∧ kj.Ok wdB n.kd (d + 1) ∧ ns.drop (p + 1) = kj.flat ++ ns.drop q) ∧ Hid (Cs ns (some ⟨b, off, none⟩) cap bat bn bp wr q) ∧ Hid (Va wr w.heap.size 48 (cn n)) ∧ Hid (w.grownBy wr (some bat))) (fun j _ => (n.ks - intOf j).toNat)
          case atStart => exact ⟨0, .nil, p + 1, rfl, hks0, Nat.zero_le _, ⟨rfl, trivial, rfl⟩, HC3.out, HV3.out, HG3.out⟩
          case round =>
            clear m0 m1 V3 hks0 HC3 HV3 HG3
            obtain ⟨i, kj, q, rfl, hik, hi64, HK, HCq, HVq, HGq⟩ := hrel
            rcases Int.lt_or_le (i : Int) n.ks with hlt | hge
            · have q0 := HVq.out.n0
              have q1 := HVq.out.n1
              have q2 := HCq.out.own.cell
              have C9 : Calls Tryz.prog 25 #[.int .i64 n.kd, .int .i64 ((d : Int) + 1), pt1 bat, pt1 bn, pt1 bp] wr (PsE ns bat n.kd (d + 1) q wr) := HIH.out (d + 1) (by omega) n.kd q wr HCq.out
              have xd : IntKind.i64.wrap ((d : Int) + 1) = (d : Int) + 1 := by rw [IntKind.wrap_i64]; omega
              have xi : IntKind.i64.wrap ((i : Int) + 1) = (i : Int) + 1 := by rw [IntKind.wrap_i64]; omega
              go_wp2_with fail
              refine C9.mono ?_
              rintro e w5 ⟨ok, p', rfl, hr, hle, hv5, hg5⟩
              have C5 := HCq.out.gr hg5 hv5 hle
              have V5 := HVq.out.gr hg5 hnb
              have G5 := gr_trans HGq.out hg5
              have HC5 : Hid (Cs ns (some ⟨b, off, none⟩) cap bat bn bp w5 p') := C5
              have HV5 : Hid (Va w5 w.heap.size 48 (cn n)) := V5
              have HG5 : Hid (w.grownBy w5 (some bat)) := G5
              have HR5 : Hid (PsR ns n.kd (d + 1) q ok p') := hr
              clear hr hle hv5 hg5 C5 V5 G5 C9 HCq HVq HGq q0 q1 q2
              cases ok with
              | false =>
                go_wp2_with fail
                go_ret
                refine ⟨false, p', rfl, ⟨fun h => (by cases h), fun _ => ?_⟩, HC5.out.le, HC5.out.at0, HG5.out⟩
                rw [HD.out]
                exact no_kid HK.out.2.1 HK.out.2.2 (by rw [HK.out.1]; exact hlt) (HR5.out.2 rfl)
              | true =>
                have HN5 : Hid (∃ k2 : Fo, k2.len = i + 1 ∧ k2.Ok wdB n.kd (d + 1) ∧ ns.drop (p + 1) = k2.flat ++ ns.drop p') := by
                  obtain ⟨m, k, ok, e⟩ := HR5.out.1 rfl
                  refine ⟨kj.app (.cons m k .nil), ?_, HK.out.2.1.app ok, ?_⟩
                  · rw [Fo.len_app, HK.out.1]; rfl
                  · rw [HK.out.2.2, e, Fo.flat_app, List.append_assoc]
                have hi65 : i + 1 ≤ 64 := by
                  obtain ⟨k2, h1, h2, h3⟩ := HN5.out
                  have h4 := Fo.len_flat k2
                  have h5 := congrArg List.length h3
                  simp only [List.length_drop, List.length_append] at h5
                  have h6 := HC5.out.sml
                  omega
                go_wp2_with fail
                go_roundw
                case rel =>
                  obtain ⟨k2, h1, h2, h3⟩ := HN5.out
                  exact ⟨i + 1, k2, p', rfl, by omega, hi65, ⟨h1, h2, h3⟩, HC5.out, HV5.out, HG5.out⟩
                case measure => simp [intOf]; omega
            · go_wp2_with fail
              go_ret
              refine ⟨true, q, rfl, ⟨fun _ => ⟨n, kj, ⟨⟨HN.out, HO3.out, by omega, by rw [HK.out.1]; omega, HK.out.2.1⟩, trivial⟩, ?_⟩, fun h => (by cases h)⟩, HCq.out.le, HCq.out.at0, HGq.out⟩
              rw [HD.out, HK.out.2.2]; simp [Fo.flat]
end Go.Proofs.YtblafbbnplfpjaaGreatDoor
