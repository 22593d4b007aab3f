/-
  traits.Check: the tree that begins at a place.
-/
import Derived.Test.YtblafbbnplfpjaaGreatDoorMgAh
import Derived.Laws.EntriesVeiled
namespace Go.Proofs.YtblafbbnplfpjaaGreatDoor
open Go.RowKit Go.Shelf
set_option linter.unusedVariables false

abbrev pt1 (b : Nat) : Value := .pointer (some ⟨b, 0, none⟩)
/-- What passes answers of the nodes from the place p on. -/
def PsR (ns : List Nd) (o : Int) (d p : Nat) (ok : Bool) (p' : Nat) : Prop :=
  (ok = true → ∃ n k, (Fo.cons n k .nil).Ok wdB o d ∧ ns.drop p = (Fo.cons n k .nil).flat ++ ns.drop p') ∧ (ok = false → NoTree wdB (ns.drop p) o d)
/-- The variables that passes goes by: the place, the nodes, itself. -/
structure Cs (ns : List Nd) (a : Option Addr) (cap bat bn bp : Nat) (w : World) (p : Nat) : Prop where
  at0 : Va w bat 3 #[.int .i64 p]
  nds : Va w bn 22 #[.slice a ns.length cap]
  own : Va w bp 51 #[.func (.func 25) #[] #[pt1 bat, pt1 bn, pt1 bp]]
  lst : Le elN w a ns.length ns
  n1 : bn ≠ bat
  n2 : bp ≠ bat
  n3 : ∀ b off, a = some ⟨b, off, none⟩ → b ≠ bat
  sml : ns.length ≤ 64
  le : p ≤ ns.length
theorem Cs.gr {ns : List Nd} {a : Option Addr} {cap bat bn bp : Nat} {w w' : World} {p p' : Nat} (h : Cs ns a cap bat bn bp w p) (hg : w.grownBy w' (some bat)) (hv : Va w' bat 3 #[.int .i64 p']) (hp : p' ≤ ns.length) : Cs ns a cap bat bn bp w' p' :=
  ⟨hv, h.nds.gr hg h.n1, h.own.gr hg h.n2, h.lst.grown hg (fun _ => h.n3), h.n1, h.n2, h.n3, h.sml, hp⟩
theorem Cs.bl {ns : List Nd} {a : Option Addr} {cap bat bn bp : Nat} {w w' : World} {p : Nat} (h : Cs ns a cap bat bn bp w p) (hb : Below w.heap.size w w') : Cs ns a cap bat bn bp w' p :=
  h.gr (gr_of_below hb) (h.at0.after hb) h.le
/-- How passes ends. -/
def PsE (ns : List Nd) (bat : Nat) (o : Int) (d p : Nat) (w : World) (e : Ending) (w' : World) : Prop := ∃ (ok : Bool) (p' : Nat), e = .returned (.bool ok) ∧ PsR ns o d p ok p' ∧ p' ≤ ns.length ∧ Va w' bat 3 #[.int .i64 p'] ∧ w.grownBy w' (some bat)
set_option maxHeartbeats 4000000 in
theorem passes_any (ns : List Nd) (a : Option Addr) (cap bat bn bp : Nat) (h64 : ∀ n ∈ ns, N64 n) : ∀ (f d : Nat), d + f = 17 → ∀ (o : Int) (p : Nat) (w : World), Cs ns a cap bat bn bp w p →
    Calls Tryz.prog 25 #[.int .i64 o, .int .i64 d, pt1 bat, pt1 bn, pt1 bp] w (PsE ns bat o d p w) := by
  intro f
  induction f with
  | zero =>
    intro d hd o p w C
    have c0 := C.at0.cell
    have c1 := C.nds.cell
    have hd' : (16 : Int) < d := by omega
    have HR : Hid (PsR ns o d p false p) := ⟨fun h => (by cases h), fun _ => no_deep _ _ _ (by omega)⟩
    have HC : Hid (Cs ns a cap bat bn bp w p) := C
    clear C
    by_cases hp : (p : Int) = ns.length
    · have hp' : ((p : Int) == (ns.length : Int)) = true := by simpa using hp
      clear hp
      go_enter Tryz.func25, Tryz.ntmps25
      go_wp2_with fail
      go_ret
      exact ⟨false, p, rfl, HR.out, HC.out.le, HC.out.at0, gr_refl _ _⟩
    · have hp' : ((p : Int) == (ns.length : Int)) = false := by simpa using hp
      clear hp
      go_enter Tryz.func25, Tryz.ntmps25
      go_wp2_with fail
      go_ret
      exact ⟨false, p, rfl, HR.out, HC.out.le, HC.out.at0, gr_refl _ _⟩
  | succ f ih =>
    intro d hd o p w C
    have c0 := C.at0.cell
    have c1 := C.nds.cell
    have hd' : ¬ (16 : Int) < d := by omega
    have HC : Hid (Cs ns a cap bat bn bp w p) := C
    rcases Nat.eq_or_lt_of_le C.le with hp | hp
    · have hp' : ((p : Int) == (ns.length : Int)) = true := by simp; omega
      have HR : Hid (PsR ns o d p false p) := ⟨fun h => (by cases h), fun _ => by rw [hp, List.drop_length]; exact no_end _ _⟩
      clear hp C
      go_enter Tryz.func25, Tryz.ntmps25
      go_wp2_with fail
      go_ret
      exact ⟨false, p, rfl, HR.out, HC.out.le, HC.out.at0, gr_refl _ _⟩
    · have hp' : ((p : Int) == (ns.length : Int)) = false := by simp; omega
      obtain ⟨b, off, rfl⟩ := C.lst.ex (by omega)
      obtain ⟨n, hn⟩ : ∃ n, ns.getD p nd0 = n := ⟨_, rfl⟩
      have hmem : n ∈ ns := by rw [← hn, List.getD_eq_getElem?_getD, List.getElem?_eq_getElem hp]; exact List.getElem_mem hp
      have hdrop : ns.drop p = n :: ns.drop (p + 1) := by
        rw [List.drop_eq_getElem_cons hp, ← hn, List.getD_eq_getElem?_getD, List.getElem?_eq_getElem hp]; rfl
      have hn64 := h64 n hmem
      have k0 : w.cell? ⟨b, off + p * 6, none⟩ = some (.int .i64 n.kd) := C.lst.at p hp 0 _ (by rw [← hn]; rfl)
      have k1 : w.cell? ⟨b, off + p * 6 + 1, none⟩ = some (.int .i64 n.ks) := by rw [Nat.add_assoc]; exact C.lst.at p hp 1 _ (by rw [← hn]; rfl)
      have k2 : w.cell? ⟨b, off + p * 6 + 2, none⟩ = some (sv n.nm) := by rw [Nat.add_assoc]; exact C.lst.at p hp 2 _ (by rw [← hn]; rfl)
      have k3 : w.cell? ⟨b, off + p * 6 + 3, none⟩ = some (.int .i64 n.op) := by rw [Nat.add_assoc]; exact C.lst.at p hp 3 _ (by rw [← hn]; rfl)
      have k4 : w.cell? ⟨b, off + p * 6 + 4, none⟩ = some (.int .i64 n.un) := by rw [Nat.add_assoc]; exact C.lst.at p hp 4 _ (by rw [← hn]; rfl)
      have k5 : w.cell? ⟨b, off + p * 6 + 5, none⟩ = some (.int .i64 n.pl) := by rw [Nat.add_assoc]; exact C.lst.at p hp 5 _ (by rw [← hn]; rfl)
      have hpi : (p : Int) < ns.length := by omega
      have hp65 : p < 65 := by have := C.sml; omega
      have HD : Hid (ns.drop p = n :: ns.drop (p + 1)) := hdrop
      have H6 : Hid (N64 n) := hn64
      have HIH : Hid (∀ d : Nat, d + f = 17 → ∀ (o : Int) (p : Nat) (w : World), Cs ns (some ⟨b, off, none⟩) cap bat bn bp w p →
    Calls Tryz.prog 25 #[.int .i64 o, .int .i64 d, pt1 bat, pt1 bn, pt1 bp] w (PsE ns bat o d p w)) := ih
      clear hn hmem hdrop hn64 ih C
      go_enter Tryz.func25, Tryz.ntmps25
      go_upto_region 4 with fail
      refine ent1 w _ _ (Q := fun W => Code.wp _ _ _ _ W) ?_
      intro W1 hb1 hs1 V1
      have C1 := HC.out.bl hb1
      have g1 := C1.at0.cell
      have f1 := C1.at0.frozen 0
      have G1 : w.grownBy W1 (some bat) := gr_of_below hb1
      have hnb : w.heap.size ≠ bat := by have := HC.out.at0.lt; omega
      clear hs1 hb1 c0 c1 k0 k1 k2 k3 k4 k5
      go_upto_region 5 with fail
      refine st1 C1.at0 _ (Q := fun W => Code.wp _ _ _ _ W) ?_
      intro W2 hv2 hg2 hs2
      have C2 : Cs ns (some ⟨b, off, none⟩) cap bat bn bp W2 (p + 1) := C1.gr hg2 hv2 hp
      have V2 : Va W2 w.heap.size 48 (cn n) := V1.gr hg2 hnb
      have G2 := gr_trans G1 hg2
      have m0 := V2.n0
      have m1 := V2.n1
      have m2 := V2.n2
      have m3 := V2.n3
      have m4 := V2.n4
      have m5 := V2.n5
      clear hs2 hg2 hv2 V1 C1 g1 f1 G1
      go_wp2_with fail
      refine (mayBe_any n W2).mono ?_
      rintro e W3 ⟨rfl, hb3⟩
      have V3 := V2.after hb3
      have HC3 : Hid (Cs ns (some ⟨b, off, none⟩) cap bat bn bp W3 (p + 1)) := C2.bl hb3
      have HV3 : Hid (Va W3 w.heap.size 48 (cn n)) := V3
      have HG3 : Hid (w.grownBy W3 (some bat)) := gr_below G2 hb3
      clear hb3 V2 C2 G2 m0 m1 m2 m3 m4 m5
      cases hm : mB n with
      | false =>
        have HX : Hid (¬ NdOk wdB n) := fun h => (by rw [mB_yes h] at hm; cases hm)
        clear hm
        go_wp2_with fail
        go_ret
        refine ⟨false, p + 1, rfl, ⟨fun h => (by cases h), fun _ => ?_⟩, hp, HC3.out.at0, HG3.out⟩
        rw [HD.out]; exact no_node _ _ _ _ (fun h => HX.out h.1)
      | true =>
        have HN : Hid (NdOk wdB n) := (mB_iff n).1 hm
        have hks0 : (0 : Int) ≤ n.ks := by
          rcases HN.out with ⟨-, h, -⟩ | ⟨-, h, -⟩ | ⟨-, h, -⟩ | ⟨-, h, -⟩ <;> omega
        clear hm
        have m0 := V3.n0
        have m1 := V3.n1
        by_cases ho : n.kd = o
        · have HOE : Hid (n.kd = o) := ho
          have ho' : (n.kd == o) = true := by simpa using ho
          clear ho
          by_cases h3 : n.kd = 3
          · have h3' : (n.kd != 3) = false := by simpa using h3
            have HO3 : Hid (¬ (n.kd = o ∧ n.kd ≠ 3)) := fun h => h.2 h3
            clear h3
            go_wp2_with fail
            have m0 := V3.n0
            have m1 := V3.n1
            go_loopw [39] (fun j wr => ∃ (i : Nat) (kj : Fo) (q : Nat), j = .int .i64 i ∧ (i : Int) ≤ n.ks ∧ i ≤ 64 ∧ Hid (kj.len = i ∧ kj.Ok wdB n.kd (d + 1) ∧ ns.drop (p + 1) = kj.flat ++ ns.drop q) ∧ Hid (Cs ns (some ⟨b, off, none⟩) cap bat bn bp wr q) ∧ Hid (Va wr w.heap.size 48 (cn n)) ∧ Hid (w.grownBy wr (some bat))) (fun j _ => (n.ks - intOf j).toNat)
            case atStart => exact ⟨0, .nil, p + 1, rfl, hks0, Nat.zero_le _, ⟨rfl, trivial, rfl⟩, HC3.out, HV3.out, HG3.out⟩
            case round =>
              clear m0 m1 V3 hks0 HC3 HV3 HG3
              obtain ⟨i, kj, q, rfl, hik, hi64, HK, HCq, HVq, HGq⟩ := hrel
              rcases Int.lt_or_le (i : Int) n.ks with hlt | hge
              · have q0 := HVq.out.n0
                have q1 := HVq.out.n1
                have q2 := HCq.out.own.cell
                have C9 : Calls Tryz.prog 25 #[.int .i64 n.kd, .int .i64 ((d : Int) + 1), pt1 bat, pt1 bn, pt1 bp] wr (PsE ns bat n.kd (d + 1) q wr) := HIH.out (d + 1) (by omega) n.kd q wr HCq.out
                have xd : IntKind.i64.wrap ((d : Int) + 1) = (d : Int) + 1 := by rw [IntKind.wrap_i64]; omega
                have xi : IntKind.i64.wrap ((i : Int) + 1) = (i : Int) + 1 := by rw [IntKind.wrap_i64]; omega
                go_wp2_with fail
                refine C9.mono ?_
                rintro e w5 ⟨ok, p', rfl, hr, hle, hv5, hg5⟩
                have C5 := HCq.out.gr hg5 hv5 hle
                have V5 := HVq.out.gr hg5 hnb
                have G5 := gr_trans HGq.out hg5
                have HC5 : Hid (Cs ns (some ⟨b, off, none⟩) cap bat bn bp w5 p') := C5
                have HV5 : Hid (Va w5 w.heap.size 48 (cn n)) := V5
                have HG5 : Hid (w.grownBy w5 (some bat)) := G5
                have HR5 : Hid (PsR ns n.kd (d + 1) q ok p') := hr
                clear hr hle hv5 hg5 C5 V5 G5 C9 HCq HVq HGq q0 q1 q2
                cases ok with
                | false =>
                  go_wp2_with fail
                  go_ret
                  refine ⟨false, p', rfl, ⟨fun h => (by cases h), fun _ => ?_⟩, HC5.out.le, HC5.out.at0, HG5.out⟩
                  rw [HD.out]
                  exact no_kid HK.out.2.1 HK.out.2.2 (by rw [HK.out.1]; exact hlt) (HR5.out.2 rfl)
                | true =>
                  have HN5 : Hid (∃ k2 : Fo, k2.len = i + 1 ∧ k2.Ok wdB n.kd (d + 1) ∧ ns.drop (p + 1) = k2.flat ++ ns.drop p') := by
                    obtain ⟨m, k, ok, e⟩ := HR5.out.1 rfl
                    refine ⟨kj.app (.cons m k .nil), ?_, HK.out.2.1.app ok, ?_⟩
                    · rw [Fo.len_app, HK.out.1]; rfl
                    · rw [HK.out.2.2, e, Fo.flat_app, List.append_assoc]
                  have hi65 : i + 1 ≤ 64 := by
                    obtain ⟨k2, h1, h2, h3⟩ := HN5.out
                    have h4 := Fo.len_flat k2
                    have h5 := congrArg List.length h3
                    simp only [List.length_drop, List.length_append] at h5
                    have h6 := HC5.out.sml
                    omega
                  go_wp2_with fail
                  go_roundw
                  case rel =>
                    obtain ⟨k2, h1, h2, h3⟩ := HN5.out
                    exact ⟨i + 1, k2, p', rfl, by omega, hi65, ⟨h1, h2, h3⟩, HC5.out, HV5.out, HG5.out⟩
                  case measure => simp [intOf]; omega
              · go_wp2_with fail
                go_ret
                refine ⟨true, q, rfl, ⟨fun _ => ⟨n, kj, ⟨⟨HN.out, HO3.out, by omega, by rw [HK.out.1]; omega, HK.out.2.1⟩, trivial⟩, ?_⟩, fun h => (by cases h)⟩, HCq.out.le, HCq.out.at0, HGq.out⟩
                rw [HD.out, HK.out.2.2]; simp [Fo.flat]
          · have h3' : (n.kd != 3) = true := by simpa using h3
            have HX : Hid (n.kd ≠ 3) := h3
            clear h3
            go_wp2_with fail
            go_ret
            refine ⟨false, p + 1, rfl, ⟨fun h => (by cases h), fun _ => ?_⟩, hp, HC3.out.at0, HG3.out⟩
            rw [HD.out]; exact no_node _ _ _ _ (fun h => h.2 ⟨HOE.out, HX.out⟩)
        · have ho' : (n.kd == o) = false := by simpa using ho
          have HO3 : Hid (¬ (n.kd = o ∧ n.kd ≠ 3)) := fun h => ho h.1
          clear ho
          go_wp2_with fail
          have m0 := V3.n0
          have m1 := V3.n1
          go_loopw [39] (fun j wr => ∃ (i : Nat) (kj : Fo) (q : Nat), j = .int .i64 i ∧ (i : Int) ≤ n.ks ∧ i ≤ 64 ∧ Hid (kj.len = i ∧ kj.Ok wdB n.kd (d + 1) ∧ ns.drop (p + 1) = kj.flat ++ ns.drop q) ∧ Hid (Cs ns (some ⟨b, off, none⟩) cap bat bn bp wr q) ∧ Hid (Va wr w.heap.size 48 (cn n)) ∧ Hid (w.grownBy wr (some bat))) (fun j _ => (n.ks - intOf j).toNat)
          case atStart => exact ⟨0, .nil, p + 1, rfl, hks0, Nat.zero_le _, ⟨rfl, trivial, rfl⟩, HC3.out, HV3.out, HG3.out⟩
          case round =>
            clear m0 m1 V3 hks0 HC3 HV3 HG3
            obtain ⟨i, kj, q, rfl, hik, hi64, HK, HCq, HVq, HGq⟩ := hrel
            rcases Int.lt_or_le (i : Int) n.ks with hlt | hge
            · have q0 := HVq.out.n0
              have q1 := HVq.out.n1
              have q2 := HCq.out.own.cell
              have C9 : Calls Tryz.prog 25 #[.int .i64 n.kd, .int .i64 ((d : Int) + 1), pt1 bat, pt1 bn, pt1 bp] wr (PsE ns bat n.kd (d + 1) q wr) := HIH.out (d + 1) (by omega) n.kd q wr HCq.out
              have xd : IntKind.i64.wrap ((d : Int) + 1) = (d : Int) + 1 := by rw [IntKind.wrap_i64]; omega
              have xi : IntKind.i64.wrap ((i : Int) + 1) = (i : Int) + 1 := by rw [IntKind.wrap_i64]; omega
              go_wp2_with fail
              refine C9.mono ?_
              rintro e w5 ⟨ok, p', rfl, hr, hle, hv5, hg5⟩
              have C5 := HCq.out.gr hg5 hv5 hle
              have V5 := HVq.out.gr hg5 hnb
              have G5 := gr_trans HGq.out hg5
              have HC5 : Hid (Cs ns (some ⟨b, off, none⟩) cap bat bn bp w5 p') := C5
              have HV5 : Hid (Va w5 w.heap.size 48 (cn n)) := V5
              have HG5 : Hid (w.grownBy w5 (some bat)) := G5
              have HR5 : Hid (PsR ns n.kd (d + 1) q ok p') := hr
              clear hr hle hv5 hg5 C5 V5 G5 C9 HCq HVq HGq q0 q1 q2
              cases ok with
              | false =>
                go_wp2_with fail
                go_ret
                refine ⟨false, p', rfl, ⟨fun h => (by cases h), fun _ => ?_⟩, HC5.out.le, HC5.out.at0, HG5.out⟩
                rw [HD.out]
                exact no_kid HK.out.2.1 HK.out.2.2 (by rw [HK.out.1]; exact hlt) (HR5.out.2 rfl)
              | true =>
                have HN5 : Hid (∃ k2 : Fo, k2.len = i + 1 ∧ k2.Ok wdB n.kd (d + 1) ∧ ns.drop (p + 1) = k2.flat ++ ns.drop p') := by
                  obtain ⟨m, k, ok, e⟩ := HR5.out.1 rfl
                  refine ⟨kj.app (.cons m k .nil), ?_, HK.out.2.1.app ok, ?_⟩
                  · rw [Fo.len_app, HK.out.1]; rfl
                  · rw [HK.out.2.2, e, Fo.flat_app, List.append_assoc]
                have hi65 : i + 1 ≤ 64 := by
                  obtain ⟨k2, h1, h2, h3⟩ := HN5.out
                  have h4 := Fo.len_flat k2
                  have h5 := congrArg List.length h3
                  simp only [List.length_drop, List.length_append] at h5
                  have h6 := HC5.out.sml
                  omega
                go_wp2_with fail
                go_roundw
                case rel =>
                  obtain ⟨k2, h1, h2, h3⟩ := HN5.out
                  exact ⟨i + 1, k2, p', rfl, by omega, hi65, ⟨h1, h2, h3⟩, HC5.out, HV5.out, HG5.out⟩
                case measure => simp [intOf]; omega
            · go_wp2_with fail
              go_ret
              refine ⟨true, q, rfl, ⟨fun _ => ⟨n, kj, ⟨⟨HN.out, HO3.out, by omega, by rw [HK.out.1]; omega, HK.out.2.1⟩, trivial⟩, ?_⟩, fun h => (by cases h)⟩, HCq.out.le, HCq.out.at0, HGq.out⟩
              rw [HD.out, HK.out.2.2]; simp [Fo.flat]
end Go.Proofs.YtblafbbnplfpjaaGreatDoor
namespace Go.Proofs.YtblafbbnplfpjaaGreatDoor
open Go.RowKit Go.Shelf
set_option linter.unusedVariables false

/-- What Check answers. -/
noncomputable def ckE (ns : List Nd) : Int := open Classical in if Cond wdB ns then 0 else 131
theorem ckE_ok {ns : List Nd} (h : Cond wdB ns) : ckE ns = 0 := if_pos h
theorem ckE_no {ns : List Nd} (h : ¬ Cond wdB ns) : ckE ns = 131 := if_neg h
theorem cond_tree {ns : List Nd} (h0 : ns ≠ []) (h : Cond wdB ns) : ns.length ≤ 64 ∧ ∃ n k, ns = (Fo.cons n k .nil).flat ∧ (Fo.cons n k .nil).Ok wdB 0 1 := h.resolve_left h0
set_option maxHeartbeats 4000000 in
theorem check13 (ns : List Nd) (a : Option Addr) (cap : Nat) (w : World) (hL : Le elN w a ns.length ns) (h64 : ∀ n ∈ ns, N64 n) :
    Calls Tryz.prog 8 #[.slice a ns.length cap] w fun e w' => e = .returned (.int .i64 (ckE ns)) ∧ Below w.heap.size w w' := by
  rcases Nat.eq_zero_or_pos ns.length with h0 | h0
  · have HE : Hid (ckE ns = 0) := ckE_ok (.inl (List.length_eq_zero_iff.1 h0))
    generalize ckE ns = E at *
    clear h64 hL
    generalize ns.length = N at *
    subst h0
    go_enter Tryz.func8, Tryz.ntmps8
    go_wp2_with fail
    go_ret
    exact ⟨by rw [HE.out]; rfl, (Below.refl _ _).alloc (Nat.le_refl _) _⟩
  · have hne : ns ≠ [] := fun h => by rw [h] at h0; exact absurd h0 (Nat.lt_irrefl _)
    have hz : ((ns.length : Int) == 0) = false := by simp; omega
    rcases Nat.lt_or_ge 64 ns.length with h1 | h1
    · have HE : Hid (ckE ns = 131) := ckE_no (fun h => by have := (cond_tree hne h).1; omega)
      have h1' : (64 : Int) < ns.length := by omega
      generalize ckE ns = E at *
      clear h64 hL
      generalize ns.length = N at *
      go_enter Tryz.func8, Tryz.ntmps8
      go_wp2_with fail
      go_ret
      exact ⟨by rw [HE.out]; rfl, (Below.refl _ _).alloc (Nat.le_refl _) _⟩
    · have h1' : ¬ (64 : Int) < ns.length := by omega
      obtain ⟨E, hE⟩ : ∃ E, ckE ns = E := ⟨_, rfl⟩
      have HE : Hid (ckE ns = E) := hE
      rw [hE]
      clear hE
      have HL : Hid (Le elN w a ns.length ns) := hL
      have H6 : Hid (∀ n ∈ ns, N64 n) := h64
      clear hL h64
      have B0 : Below w.heap.size w w := Below.refl _ _
      go_enter Tryz.func8, Tryz.ntmps8
      go_upto_region 7 with fail
      refine ent3 w _ _ _ _ _ _ (Q := fun W => Code.wp _ _ _ _ W) ?_
      intro W1 hb hs V0 V1 V2
      replace B0 := step B0 hb
      have c0 := V0.cell
      have c1 := V1.cell
      have c2 := V2.cell
      have f2 := V2.frozen 0
      have L1 := HL.out.after hb
      have hlt := fun b off (h : a = some ⟨b, off, none⟩) => (by subst h; exact HL.out.lt h0 : b < w.heap.size)
      clear hb
      go_upto_region 8 with fail
      refine st1 V2 _ (Q := fun W => Code.wp _ _ _ _ W) ?_
      intro W2 hv hg hs2
      have C2 : Cs ns a cap (w.heap.size + 1) w.heap.size (w.heap.size + 1 + 1) W2 0 :=
        ⟨V1.gr hg (by omega), V0.gr hg (by omega), hv, L1.grown hg (fun _ b off h => by have := hlt b off h; omega), by omega, by omega, fun b off h => by have := hlt b off h; omega, h1, Nat.zero_le _⟩
      have B2 : Below w.heap.size w W2 := B0.trans (gr_to hg (by omega) (by omega))
      have HB2 : Hid (Below w.heap.size w W2) := B2
      have hs3 : w.heap.size + 3 ≤ W2.heap.size := by omega
      have d2 := hv.cell
      clear V0 V1 V2 c0 c1 c2 f2 L1 hv hg hs hs2 B0 B2 hlt
      have C9 : Calls Tryz.prog 25 #[.int .i64 0, .int .i64 1, pt1 (w.heap.size + 1), pt1 w.heap.size, pt1 (w.heap.size + 1 + 1)] W2 (PsE ns (w.heap.size + 1) 0 1 0 W2) := passes_any ns a cap _ _ _ H6.out 16 1 rfl 0 0 W2 C2
      have HC2 : Hid (Cs ns a cap (w.heap.size + 1) w.heap.size (w.heap.size + 1 + 1) W2 0) := C2
      clear C2
      go_wp2_with fail
      refine C9.mono ?_
      rintro e W3 ⟨ok, p', rfl, hr, hle, hv, hg⟩
      have B3 : Below w.heap.size w W3 := HB2.out.trans (gr_to hg (by omega) (by omega))
      have e0 := (HC2.out.nds.gr hg HC2.out.n1).cell
      have e1 := hv.cell
      have HR : Hid (PsR ns 0 1 0 ok p') := hr
      clear hr hg hv C9 HC2 HB2
      cases ok with
      | false =>
        go_wp2_with fail
        go_ret
        refine ⟨?_, B3⟩
        rw [← HE.out, ckE_no]
        · rfl
        · intro h
          obtain ⟨-, n, k, e, hok⟩ := cond_tree hne h
          exact HR.out.2 rfl n k [] (by rw [List.drop_zero, List.append_nil]; exact e) hok
      | true =>
        rcases Nat.lt_or_ge p' ns.length with hlt | hge
        · have hlt' : (p' : Int) < ns.length := by omega
          go_wp2_with fail
          go_ret
          refine ⟨?_, B3⟩
          rw [← HE.out, ckE_no]
          · rfl
          · intro h
            obtain ⟨-, n, k, e, hok⟩ := cond_tree hne h
            obtain ⟨m, j, hok2, e2⟩ := HR.out.1 rfl
            rw [List.drop_zero, e] at e2
            have := (flat_inj _ _ _ _ _ _ [] (ns.drop p') hok hok2 rfl (by rw [List.append_nil]; rw [← e] at e2 ⊢; exact e2)).2
            have h9 := congrArg List.length this
            simp only [List.length_nil, List.length_drop] at h9
            omega
        · have hlt' : ¬ (p' : Int) < ns.length := by omega
          go_wp2_with fail
          go_ret
          refine ⟨?_, B3⟩
          rw [← HE.out, ckE_ok]
          · rfl
          · obtain ⟨m, j, hok2, e2⟩ := HR.out.1 rfl
            rw [List.drop_zero, List.drop_of_length_le hge, List.append_nil] at e2
            exact .inr ⟨h1, m, j, e2, hok2⟩
end Go.Proofs.YtblafbbnplfpjaaGreatDoor
namespace Go.Proofs.YtblafbbnplfpjaaGreatDoor
open Go.RowKit Go.Shelf
set_option linter.unusedVariables false
set_option maxRecDepth 20000

theorem rSmall_any (c : UInt8) (w : World) : Calls Tryz.prog 94 #[.int .u8 c.toNat] w fun e w' => e = .returned (.bool (sm c)) ∧ w' = w := by
  have hs : sm c = (decide ((97 : Int) ≤ c.toNat) && decide ((c.toNat : Int) ≤ 122)) := by
    unfold sm; rw [Bool.eq_iff_iff]; simp; omega
  have HS : Hid (sm c = (decide ((97 : Int) ≤ c.toNat) && decide ((c.toNat : Int) ≤ 122))) := hs
  clear hs
  by_cases h1 : (97 : Int) ≤ c.toNat
  · by_cases h2 : (c.toNat : Int) ≤ 122
    · go_enter Tryz.func94, Tryz.ntmps94
      go_wp2_with fail
      go_ret
      exact ⟨by rw [HS.out]; simp [h1, h2], rfl⟩
    · go_enter Tryz.func94, Tryz.ntmps94
      go_wp2_with fail
      go_ret
      exact ⟨by rw [HS.out]; simp [h1, h2], rfl⟩
  · go_enter Tryz.func94, Tryz.ntmps94
    go_wp2_with fail
    go_ret
    exact ⟨by rw [HS.out]; simp; omega, rfl⟩
theorem rdigit_any (c : UInt8) (w : World) : Calls Tryz.prog 128 #[.int .u8 c.toNat] w fun e w' => e = .returned (.bool (dg c)) ∧ w' = w := by
  have hs : dg c = (decide ((48 : Int) ≤ c.toNat) && decide ((c.toNat : Int) ≤ 57)) := by
    unfold dg; rw [Bool.eq_iff_iff]; simp; omega
  have HS : Hid (dg c = (decide ((48 : Int) ≤ c.toNat) && decide ((c.toNat : Int) ≤ 57))) := hs
  clear hs
  by_cases h1 : (48 : Int) ≤ c.toNat
  · by_cases h2 : (c.toNat : Int) ≤ 57
    · go_enter Tryz.func128, Tryz.ntmps128
      go_wp2_with fail
      go_ret
      exact ⟨by rw [HS.out]; simp [h1, h2], rfl⟩
    · go_enter Tryz.func128, Tryz.ntmps128
      go_wp2_with fail
      go_ret
      exact ⟨by rw [HS.out]; simp [h1, h2], rfl⟩
  · go_enter Tryz.func128, Tryz.ntmps128
    go_wp2_with fail
    go_ret
    exact ⟨by rw [HS.out]; simp; omega, rfl⟩
theorem rwithin_any (c : UInt8) (w : World) : Calls Tryz.prog 95 #[.int .u8 c.toNat] w fun e w' => e = .returned (.bool (ip c)) ∧ w' = w := by
  have c1 := fun W => rSmall_any c W
  have c2 := fun W => rdigit_any c W
  have he := u8_eq c 95 (by omega)
  have HS : Hid (ip c = (sm c || dg c || c == 95)) := rfl
  cases h1 : sm c
  · cases h2 : dg c
    · rw [h1] at c1; rw [h2] at c2
      by_cases h3 : (c.toNat : Int) = 95
      · have HE : Hid (ip c = true) := by
          have : c = 95 := he.1 h3
          show _ = _
          rw [HS.out]; simp [this]
        clear HS h1 h2 he
        have hb : ((c.toNat : Int) == 95) = true := by simpa using h3
        clear h3
        go_enter Tryz.func95, Tryz.ntmps95
        go_wp2_with (first | (go_at_call 94; refine (c1 _).mono ?_; rintro e w' ⟨rfl, rfl⟩) | (go_at_call 128; refine (c2 _).mono ?_; rintro e w' ⟨rfl, rfl⟩))
        go_ret
        exact ⟨by rw [HE.out]; rfl, rfl⟩
      · have HE : Hid (ip c = false) := by
          have : ¬ c = 95 := fun h => h3 (he.2 h)
          show _ = _
          rw [HS.out]; simp [this, h1, h2]
        clear HS h1 h2 he
        have hb : ((c.toNat : Int) == 95) = false := by simpa using h3
        clear h3
        go_enter Tryz.func95, Tryz.ntmps95
        go_wp2_with (first | (go_at_call 94; refine (c1 _).mono ?_; rintro e w' ⟨rfl, rfl⟩) | (go_at_call 128; refine (c2 _).mono ?_; rintro e w' ⟨rfl, rfl⟩))
        go_ret
        exact ⟨by rw [HE.out]; rfl, rfl⟩
    · have HE : Hid (ip c = true) := by show _ = _; rw [HS.out]; simp [h2]
      rw [h1] at c1; rw [h2] at c2
      clear HS h1 h2 he
      go_enter Tryz.func95, Tryz.ntmps95
      go_wp2_with (first | (go_at_call 94; refine (c1 _).mono ?_; rintro e w' ⟨rfl, rfl⟩) | (go_at_call 128; refine (c2 _).mono ?_; rintro e w' ⟨rfl, rfl⟩))
      go_ret
      exact ⟨by rw [HE.out]; rfl, rfl⟩
  · have HE : Hid (ip c = true) := by show _ = _; rw [HS.out]; simp [h1]
    rw [h1] at c1
    clear HS h1 he c2
    go_enter Tryz.func95, Tryz.ntmps95
    go_wp2_with (go_at_call 94; refine (c1 _).mono ?_; rintro e w' ⟨rfl, rfl⟩)
    go_ret
    exact ⟨by rw [HE.out]; rfl, rfl⟩
theorem rpart_any (s : List UInt8) (w : World) (hl : s.length ≤ 140737488355328) :
    Calls Tryz.prog 76 #[sv s] w fun e w' => e = .returned (.int .i64 (pt s)) ∧ w' = w := by
  cases s with
  | nil =>
    go_enter Tryz.func76, Tryz.ntmps76
    go_wp2_with fail
    go_ret
    exact ⟨rfl, rfl⟩
  | cons c t =>
    have c1 := fun W => rSmall_any c W
    have HP : Hid (pt (c :: t) = if sm c then rn ip (c :: t) else 0) := rfl
    have HR : Hid (sm c = true → 1 + rn ip ((c :: t).drop 1) = rn ip (c :: t)) := by
      intro h
      show 1 + rn ip t = rn ip (c :: t)
      rw [rn, if_pos (sm_ip h)]; omega
    have hat := str_at (c :: t) 0 c rfl
    have hi : (0 : Int) < (c :: t).length := by simp
    have hn0 : ¬ ((c :: t).length : Int) = 0 := by simp; omega
    have hn0b : (((c :: t).length : Int) == 0) = false := by simpa using hn0
    have hl1 : 1 ≤ (c :: t).length := by simp
    generalize hs : c :: t = s at *
    clear hs
    cases hp : sm c
    · rw [hp] at c1
      have HE : Hid (pt s = 0) := by show _ = _; rw [HP.out, hp]; rfl
      clear HP hp HR
      go_enter Tryz.func76, Tryz.ntmps76
      go_wp2_with (go_at_call 94; refine (c1 _).mono ?_; rintro e w' ⟨rfl, rfl⟩)
      go_ret
      exact ⟨by rw [HE.out]; rfl, rfl⟩
    · rw [hp] at c1
      have HE : Hid (pt s = rn ip s) := by show _ = _; rw [HP.out, hp]; rfl
      have HR1 : Hid (1 + rn ip (s.drop 1) = rn ip s) := HR.out hp
      clear HP hp HR
      go_enter Tryz.func76, Tryz.ntmps76
      go_wp2_with fail
      refine (c1 _).mono ?_
      rintro e w' ⟨rfl, hw'⟩
      rw [hw']; clear hw' w'
      go_wp2_with fail
      go_loopw [3] (fun i wr => ∃ n : Nat, i = .int .i64 n ∧ n ≤ s.length ∧ Hid (n + rn ip (s.drop n) = rn ip s) ∧ wr = w) (fun i _ => (s.length - (intOf i).toNat : Nat))
      case atStart => exact ⟨1, rfl, hl1, HR1.out, rfl⟩
      case round =>
        clear HR1 hat c1
        obtain ⟨n, rfl, hn, HN, hw⟩ := hrel
        subst hw
        rcases Nat.lt_or_ge n s.length with hlt | hge
        · obtain ⟨x, hc, hcd⟩ := byte_at s n hlt
          have hat := str_at s n x hc
          have hi2 : (n : Int) < s.length := by omega
          have hkc := rwithin_any x
          clear hc
          cases hp : ip x
          · have HE2 : Hid ((n : Int) = rn ip s) := by
              have := HN.out
              rw [hcd, rn, hp] at this
              show _ = _
              simp at this
              omega
            rw [hp] at hkc
            clear hcd hp HN
            go_wp2_with (go_at_call 95; refine (hkc _).mono ?_; rintro e w' ⟨rfl, rfl⟩)
            go_ret
            exact ⟨by rw [HE.out, ← HE2.out]; rfl, rfl⟩
          · have HE2 : Hid ((n + 1) + rn ip (s.drop (n + 1)) = rn ip s) := by
              have := HN.out
              rw [hcd, rn, hp] at this
              show _ = _
              simp at this
              omega
            rw [hp] at hkc
            clear hcd hp HN
            go_wp2_with fail
            refine (hkc _).mono ?_
            rintro e w' ⟨rfl, hw'⟩
            rw [hw']; clear hw' w'
            go_wp2_with fail
            go_roundw
            case rel => exact ⟨n + 1, rfl, by omega, HE2.out, trivial⟩
            case measure => simp [intOf]; omega
        · obtain rfl : n = s.length := by omega
          have HE2 : Hid (rn ip s = s.length) := by
            have := HN.out
            rw [List.drop_length] at this
            show _ = _
            simp [rn] at this
            omega
          clear HN hge
          go_wp2_with fail
          go_ret
          exact ⟨by rw [HE.out, HE2.out]; rfl, rfl⟩
def kwC : Array Value := (kwL.map (fun l : List UInt8 => sv l)).toArray
theorem kwC_at (k : Nat) (h : k < 29) : kwC[k]? = some (sv (kwL.getD k [])) := by
  have : k < kwL.length := h
  simp [kwC, List.getD_eq_getElem?_getD, List.getElem?_eq_getElem this]
set_option maxRecDepth 10000 in
set_option maxHeartbeats 1000000 in
theorem rkept_any (s : List UInt8) (w : World) : Calls Tryz.prog 77 #[sv s] w fun e w' => e = .returned (.bool (kwL.any (fun x => x == s))) ∧ Below w.heap.size w w' := by
  obtain ⟨R, hR⟩ : ∃ R, (kwL.any (fun x => x == s)) = R := ⟨_, rfl⟩
  rw [hR]
  have HR : Hid ((kwL.drop 0).any (fun x => x == s) = R) := hR
  clear hR
  go_enter Tryz.func77, Tryz.ntmps77
  go_wp2_with fail
  refine ent1 w _ _ (Q := fun W => Code.wp _ _ _ _ W) ?_
  intro W0 hB0 hs0 V0
  have HV : Hid (Va W0 w.heap.size 9 kwC) := V0
  have HB : Hid (Below w.heap.size w W0) := hB0
  clear V0 hB0 hs0
  go_loopw [4] (fun i wr => ∃ k : Nat, i = .int .i64 k ∧ k ≤ 29 ∧ Hid ((kwL.drop k).any (fun x => x == s) = R) ∧ wr = W0) (fun i _ => (29 - (intOf i).toNat : Nat))
  case atStart => exact ⟨0, rfl, Nat.zero_le _, HR.out, rfl⟩
  case round =>
    clear HR
    obtain ⟨k, rfl, hk, HR, hw⟩ := hrel
    subst hw
    rcases Nat.lt_or_ge k 29 with hlt | hge
    · have hki : (k : Int) < 29 := by omega
      have c0 : wr.cell? ⟨w.heap.size, k, none⟩ = some (sv (kwL.getD k [])) := by rw [HV.out.cellAt k, kwC_at k hlt]
      have hdr : kwL.drop k = kwL.getD k [] :: kwL.drop (k + 1) := by
        have h' : k < kwL.length := hlt
        rw [List.drop_eq_getElem_cons h', List.getD_eq_getElem?_getD, List.getElem?_eq_getElem h']; rfl
      have HE : Hid (((kwL.getD k [] == s) || (kwL.drop (k + 1)).any (fun x => x == s)) = R) := by
        have := HR.out
        rw [hdr] at this
        exact this
      clear hdr HR
      generalize kwL.getD k [] = X at *
      cases hx : (X == s) with
      | true =>
        have HE2 : Hid (R = true) := by have := HE.out; rw [hx] at this; exact this.symm
        clear HE
        go_wp2_with fail
        go_ret
        exact ⟨by rw [HE2.out]; rfl, HB.out⟩
      | false =>
        have HE2 : Hid ((kwL.drop (k + 1)).any (fun x => x == s) = R) := by have := HE.out; rw [hx] at this; exact this
        clear HE
        go_wp2_with fail
        go_roundw
        case rel => exact ⟨k + 1, rfl, by omega, HE2.out, trivial⟩
        case measure => simp [intOf]; omega
    · obtain rfl : k = 29 := by omega
      have HE2 : Hid (R = false) := by have := HR.out; exact this.symm
      clear hge HR
      go_wp2_with fail
      go_ret
      exact ⟨by rw [HE2.out]; rfl, HB.out⟩
theorem rWord_any (s : List UInt8) (w : World) : Calls Tryz.prog 53 #[sv s] w fun e w' => e = .returned (.bool (wdB s)) ∧ Below w.heap.size w w' := by
  cases hs0 : s with
  | nil =>
    go_enter Tryz.func53, Tryz.ntmps53
    go_wp2_with fail
    go_ret
    exact ⟨rfl, Below.refl _ _⟩
  | cons c t =>
    rw [← hs0]
    have hne : s ≠ [] := by rw [hs0]; simp
    have hl0 : (0 : Int) < s.length := by rw [hs0]; simp
    clear hs0
    rcases Nat.lt_or_ge 24 s.length with h24 | h24
    · have HE : Hid (wdB s = false) := by show _ = _; unfold wdB; simp; intro h; omega
      have hi : (24 : Int) < s.length := by omega
      clear h24 hne
      go_enter Tryz.func53, Tryz.ntmps53
      go_wp2_with fail
      go_ret
      exact ⟨by rw [HE.out]; rfl, Below.refl _ _⟩
    · have hi : (s.length : Int) ≤ 24 := by omega
      have hp := fun W => rpart_any s W (by omega)
      have hk := rkept_any s
      have HW : Hid (wdB s = (decide (pt s = s.length) && !(kwL.any (fun x => x == s)))) := by show _ = _; unfold wdB; simp [hne, h24]
      generalize pt s = q at *
      by_cases hq : q = s.length
      · subst hq
        have HE : Hid (wdB s = !(kwL.any (fun x => x == s))) := by show _ = _; rw [HW.out]; simp
        clear HW h24 hne
        generalize (kwL.any (fun x => x == s)) = R at *
        go_enter Tryz.func53, Tryz.ntmps53
        go_wp2_with fail
        refine (hp _).mono ?_
        rintro e w' ⟨rfl, hw'⟩
        rw [hw']; clear hw' w' hp
        go_wp2_with fail
        refine (hk _).mono ?_
        rintro e w1 ⟨rfl, hb⟩
        go_wp2_with fail
        go_ret
        exact ⟨by rw [HE.out]; rfl, hb⟩
      · have HE : Hid (wdB s = false) := by show _ = _; rw [HW.out]; simp [hq]
        have hqb : ((q : Int) == s.length) = false := by simp; omega
        clear HW hq h24 hne
        go_enter Tryz.func53, Tryz.ntmps53
        go_wp2_with fail
        refine (hp _).mono ?_
        rintro e w' ⟨rfl, hw'⟩
        rw [hw']; clear hw' w' hp
        go_wp2_with fail
        go_ret
        exact ⟨by rw [HE.out]; rfl, Below.refl _ _⟩
end Go.Proofs.YtblafbbnplfpjaaGreatDoor
