/-
  traits.fold at forms: the closure that goes down, fold, Plain.
-/
import Derived.Test.YtblafbbnplfpjaaGreatDoorMgAo
import Derived.Test.YtblafbbnplfpjaaGreatDoorMgAj
namespace Go.Proofs.YtblafbbnplfpjaaGreatDoor
open Go.RowKit Go.Shelf
set_option linter.unusedVariables false

theorem fl_app (neg : Bool) : ∀ a b : Fo, (a.app b).fl neg = a.fl neg ++ b.fl neg
  | .nil, b => rfl
  | .cons n k r, b => by simp only [Fo.app, Fo.fl, fl_app neg r b, List.cons_append]
/-- The variables that down goes by: the nodes, the place, itself, join. -/
structure DsF (ns : List Nd) (a : Option Addr) (cap bn bat bd bj : Nat) (jv : Value) (w : World) (p : Nat) : Prop where
  nds : Va w bn 22 #[.slice a ns.length cap]
  at0 : Va w bat 3 #[.int .i64 p]
  own : Va w bd 101 #[.func (.func 65) #[] #[pt1 bn, pt1 bat, pt1 bd, pt1 bj]]
  jn : Va w bj 78 #[jv]
  lst : Le elN w a ns.length ns
  n1 : bn ≠ bat
  n2 : bd ≠ bat
  n3 : ∀ b off, a = some ⟨b, off, none⟩ → b ≠ bat
  n4 : bj ≠ bat
  sml : ns.length ≤ 64
  le : p ≤ ns.length
theorem DsF.gr {ns : List Nd} {a : Option Addr} {cap bn bat bd bj : Nat} {jv : Value} {w w' : World} {p p' : Nat} (h : DsF ns a cap bn bat bd bj jv w p) (hg : w.grownBy w' (some bat)) (hv : Va w' bat 3 #[.int .i64 p']) (hp : p' ≤ ns.length) : DsF ns a cap bn bat bd bj jv w' p' :=
  ⟨h.nds.gr hg h.n1, hv, h.own.gr hg h.n2, h.jn.gr hg h.n4, h.lst.grown hg (fun _ => h.n3), h.n1, h.n2, h.n3, h.n4, h.sml, hp⟩
theorem DsF.bl {ns : List Nd} {a : Option Addr} {cap bn bat bd bj : Nat} {jv : Value} {w w' : World} {p : Nat} (h : DsF ns a cap bn bat bd bj jv w p) (hb : Below w.heap.size w w') : DsF ns a cap bn bat bd bj jv w' p :=
  h.gr (gr_of_below hb) (h.at0.after hb) h.le
theorem DsF.bel {ns : List Nd} {b off cap bn bat bd bj B : Nat} {jv : Value} {w w' : World} {p : Nat} (h : DsF ns (some ⟨b, off, none⟩) cap bn bat bd bj jv w p) (hb : Below B w w') (hl : bn < B ∧ bat < B ∧ bd < B ∧ bj < B ∧ b < B) : DsF ns (some ⟨b, off, none⟩) cap bn bat bd bj jv w' p :=
  ⟨h.nds.below hb hl.1, h.at0.below hb hl.2.1, h.own.below hb hl.2.2.1, h.jn.below hb hl.2.2.2.1, h.lst.kept (fun _ c o e _ => hb.block c (by cases e; exact hl.2.2.2.2)), h.n1, h.n2, h.n3, h.n4, h.sml, h.le⟩
/-- How down ends. -/
def DfE (BB : Nat) (ns : List Nd) (bat : Nat) (y n : List Nd) (p : Nat) (w : World) (e : Ending) (w' : World) : Prop := ∃ x : Fm, e = .returned (fmv x) ∧ FmR BB w' x y n ∧ p ≤ ns.length ∧ Va w' bat 3 #[.int .i64 p] ∧ w.grownBy w' (some bat)
abbrev jvF : Value := .func (.func 41) #[] #[]
def DnF (BB : Nat) (ns : List Nd) (a : Option Addr) (cap bn bat bd bj : Nat) (n : Nd) (k : Fo) : Prop :=
  ∀ (o : Int) (d : Nat), (Fo.cons n k .nil).Ok wdB o (d + 1) → ∀ (p : Nat) (w : World) (rest : List Nd), DsF ns a cap bn bat bd bj jvF w p → BB ≤ w.heap.size → ns.drop p = (Fo.cons n k .nil).flat ++ rest →
    Calls Tryz.prog 65 #[pt1 bn, pt1 bat, pt1 bd, pt1 bj] w (DfE BB ns bat ((Fo.cons n k .nil).plain false).flat ((Fo.cons n k .nil).plain true).flat (p + (Fo.cons n k .nil).flat.length) w)
set_option maxHeartbeats 4000000 in
theorem downF (BB : Nat) (ns : List Nd) (a : Option Addr) (cap bn bat bd bj : Nat) (hs : bat < BB) :
    ∀ n k, AllD (DnF BB ns a cap bn bat bd bj) k → DnF BB ns a cap bn bat bd bj n k := by
  intro n k ih o d hok p w rest C hs0 hdr
  obtain ⟨⟨hn, -, hd, hks, okk⟩, -⟩ := hok
  have c0 := C.at0.cell
  have c1 := C.nds.cell
  have hp : p < ns.length := by
    rcases Nat.lt_or_ge p ns.length with h | h
    · exact h
    · rw [List.drop_of_length_le h] at hdr; simp [Fo.flat] at hdr
  obtain ⟨b, off, rfl⟩ := C.lst.ex (by omega)
  have hnd : ns.getD p nd0 = n := by
    have h1 := List.drop_eq_getElem_cons hp
    rw [hdr] at h1
    simp only [Fo.flat, List.cons_append, List.cons.injEq] at h1
    rw [List.getD_eq_getElem?_getD, List.getElem?_eq_getElem hp]
    exact h1.1.symm
  have hdr1 : ns.drop (p + 1) = k.flat ++ rest := by
    rw [← List.drop_drop, hdr]; simp [Fo.flat]
  have k0 : w.cell? ⟨b, off + p * 6, none⟩ = some (.int .i64 n.kd) := C.lst.at p hp 0 _ (by rw [← hnd]; rfl)
  have k1 : w.cell? ⟨b, off + p * 6 + 1, none⟩ = some (.int .i64 n.ks) := by rw [Nat.add_assoc]; exact C.lst.at p hp 1 _ (by rw [← hnd]; rfl)
  have k2 : w.cell? ⟨b, off + p * 6 + 2, none⟩ = some (sv n.nm) := by rw [Nat.add_assoc]; exact C.lst.at p hp 2 _ (by rw [← hnd]; rfl)
  have k3 : w.cell? ⟨b, off + p * 6 + 3, none⟩ = some (.int .i64 n.op) := by rw [Nat.add_assoc]; exact C.lst.at p hp 3 _ (by rw [← hnd]; rfl)
  have k4 : w.cell? ⟨b, off + p * 6 + 4, none⟩ = some (.int .i64 n.un) := by rw [Nat.add_assoc]; exact C.lst.at p hp 4 _ (by rw [← hnd]; rfl)
  have k5 : w.cell? ⟨b, off + p * 6 + 5, none⟩ = some (.int .i64 n.pl) := by rw [Nat.add_assoc]; exact C.lst.at p hp 5 _ (by rw [← hnd]; rfl)
  have hpi : (p : Int) < ns.length := by omega
  have hp65 : p < 65 := by have := C.sml; omega
  have HN : Hid (NdOk wdB n) := hn
  have HK : Hid (n.ks = (k.len : Int)) := hks
  have hk64 : n.ks ≤ 64 := by
    have h1 := Fo.len_flat k
    have h2 := congrArg List.length hdr1
    simp only [List.length_drop, List.length_append] at h2
    have h3 := C.sml
    omega
  have hks0 : (0 : Int) ≤ n.ks := kids_nn hn
  have HOK : Hid (k.Ok wdB n.kd (d + 1 + 1)) := okk
  have HD1 : Hid (ns.drop (p + 1) = k.flat ++ rest) := hdr1
  have HT : Hid ((Fo.cons n k .nil).Ok wdB 0 (d + 1)) := ⟨⟨hn, fun h => by have := kd_ne_zero hn; omega, hd, hks, okk⟩, trivial⟩
  have HIH : Hid (AllD (DnF BB ns (some ⟨b, off, none⟩) cap bn bat bd bj) k) := ih
  have HC : Hid (DsF ns (some ⟨b, off, none⟩) cap bn bat bd bj jvF w p) := C
  clear hn hks okk hnd hdr hdr1 ih C
  have hkf : k.flat.length ≤ 64 := by
    have h2 := congrArg List.length HD1.out
    simp only [List.length_drop, List.length_append] at h2
    have h3 := HC.out.sml
    omega
  obtain ⟨RY, hRY⟩ : ∃ R, ((Fo.cons n k .nil).plain false).flat = R := ⟨_, rfl⟩
  obtain ⟨RN, hRN⟩ : ∃ R, ((Fo.cons n k .nil).plain true).flat = R := ⟨_, rfl⟩
  have HRR : Hid (frm n (k.fl false) (k.fl true) false = RY ∧ frm n (k.fl false) (k.fl true) true = RN) := ⟨by rw [← hRY]; exact frm_plain n k false 0 d HT.out, by rw [← hRN]; exact frm_plain n k true 0 d HT.out⟩
  rw [hRY, hRN]
  clear hRY hRN
  go_enter Tryz.func65, Tryz.ntmps65
  go_upto_region 1 with fail
  refine ent1 w _ _ (Q := fun W => Code.wp _ _ _ _ W) ?_
  intro W0 hb0 hs0' VR
  have hblt : b < w.heap.size := HC.out.lst.lt (by omega)
  have C0 := HC.out.bl hb0
  replace c0 := C0.at0.cell
  replace c1 := C0.nds.cell
  replace k0 := (hb0.cell (p := ⟨b, _, none⟩) hblt).trans k0
  replace k1 := (hb0.cell (p := ⟨b, _, none⟩) hblt).trans k1
  replace k2 := (hb0.cell (p := ⟨b, _, none⟩) hblt).trans k2
  replace k3 := (hb0.cell (p := ⟨b, _, none⟩) hblt).trans k3
  replace k4 := (hb0.cell (p := ⟨b, _, none⟩) hblt).trans k4
  replace k5 := (hb0.cell (p := ⟨b, _, none⟩) hblt).trans k5
  clear C0
  go_upto_region 2 with fail
  refine ent1 W0 _ _ (Q := fun W => Code.wp _ _ _ _ W) ?_
  intro W1 hb1' hs1 V1
  rw [hs0'] at V1 hs1
  replace VR := VR.after hb1'
  have hb1 := step hb0 hb1'
  clear hb0 hb1' hs0'
  have C1 := HC.out.bl hb1
  have g1 := C1.at0.cell
  have f1 := C1.at0.frozen 0
  have G1 : w.grownBy W1 (some bat) := gr_of_below hb1
  have hnb : w.heap.size + 1 ≠ bat := by have := HC.out.at0.lt; omega
  have hbl : bat < w.heap.size := HC.out.at0.lt
  have HLO : Hid (bn < w.heap.size + 2 ∧ bat < w.heap.size + 2 ∧ bd < w.heap.size + 2 ∧ bj < w.heap.size + 2 ∧ b < w.heap.size + 2) := by
    have h1 := HC.out.nds.lt; have h2 := HC.out.own.lt; have h3 := HC.out.jn.lt; have h4 := HC.out.lst.lt (by omega)
    exact ⟨by omega, by omega, by omega, by omega, by omega⟩
  clear hb1 c0 c1 k0 k1 k2 k3 k4 k5
  go_upto_region 3 with fail
  refine st1 C1.at0 _ (Q := fun W => Code.wp _ _ _ _ W) ?_
  intro W2 hv2 hg2 hs2
  have C2 : DsF ns (some ⟨b, off, none⟩) cap bn bat bd bj jvF W2 (p + 1) := C1.gr hg2 hv2 hp
  have V2 : Va W2 (w.heap.size + 1) 48 (cn n) := V1.gr hg2 hnb
  have G2 := gr_trans G1 hg2
  have m0 := V2.n0
  have m1 := V2.n1
  have HC2 : Hid (DsF ns (some ⟨b, off, none⟩) cap bn bat bd bj jvF W2 (p + 1)) := C2
  have HV2 : Hid (Va W2 (w.heap.size + 1) 48 (cn n)) := V2
  have HG2 : Hid (w.grownBy W2 (some bat)) := G2
  have HVR2 : Hid (Va W2 (w.heap.size) 76 #[.slice none 0 0, .slice none 0 0]) := VR.gr hg2 (by omega)
  have hsz2 : w.heap.size + 2 ≤ W2.heap.size := by omega
  clear hs1 hs2 hg2 hv2 V1 C1 g1 f1 G1 V2 C2 G2 VR
  go_wp2_with fail
  go_loopw [6, 15] (fun li j wr => ∃ (i : Nat) (kd kr : Fo) (q : Nat), j = .int .i64 i ∧ (i : Int) ≤ n.ks ∧ Hid (k = kd.app kr ∧ kd.len = i ∧ kr.Ok wdB n.kd (d + 1 + 1) ∧ ns.drop q = kr.flat ++ rest ∧ q = p + 1 + kd.flat.length) ∧ Hid (AllD (DnF BB ns (some ⟨b, off, none⟩) cap bn bat bd bj) kr) ∧ Hid (DsF ns (some ⟨b, off, none⟩) cap bn bat bd bj jvF wr q) ∧ Hid (Va wr (w.heap.size + 1) 48 (cn n)) ∧ Hid (w.grownBy wr (some bat)) ∧ Hid (Va wr (w.heap.size) 76 #[.slice none 0 0, .slice none 0 0]) ∧ (∃ xs : List Fm, Hid (Ge elF wr (w.heap.size + 2) li xs) ∧ Hid (FmL BB wr xs (kd.fl false) (kd.fl true))) ∧ w.heap.size + 2 ≤ wr.heap.size) (fun _ j _ => (n.ks - intOf j).toNat)
  case atStart => exact ⟨0, .nil, k, p + 1, rfl, hks0, ⟨rfl, rfl, HOK.out, HD1.out, rfl⟩, HIH.out, HC2.out, HV2.out, HG2.out, HVR2.out, ⟨[], Ge.nil _ _, rfl, rfl, fun i h => by simp at h⟩, hsz2⟩
  case round =>
    clear m0 m1 hks0 HC2 HV2 HG2 hsz2 HVR2
    obtain ⟨i, kd, kr, q, rfl, hik, HX, HA, HCq, HVq, HGq, HVRq, ⟨xs, HLq, HMq⟩, hszq⟩ := hrel
    obtain ⟨al, cl, rfl, -, -, -⟩ := HLq.out.shape
    rcases Int.lt_or_le (i : Int) n.ks with hlt | hge
    · have q2 := HCq.out.own.cell
      obtain ⟨m, km, rm, rfl⟩ : ∃ m km rm, kr = .cons m km rm := by
        cases kr with
        | nil =>
          have h1 := HX.out.1; have h2 := HX.out.2.1; have h3 := HK.out
          rw [h1, Fo.len_app] at h3; simp [Fo.len] at h3; omega
        | cons m km rm => exact ⟨m, km, rm, rfl⟩
      have C9 := HA.out.1 n.kd (d + 1) ⟨HX.out.2.2.1.1, trivial⟩ q wr (rm.flat ++ rest) HCq.out (by omega) (by rw [HX.out.2.2.2.1]; simp [Fo.flat])
      have xi : IntKind.i64.wrap ((i : Int) + 1) = (i : Int) + 1 := by rw [IntKind.wrap_i64]; omega
      have hlen : xs.length ≤ 64 := by have h1 := HMq.out.1; rw [fl_len, HX.out.2.1] at h1; omega
      go_wp2_with fail
      refine C9.mono ?_
      rintro e w5 ⟨x, rfl, hfm, hle, hv5, hg5⟩
      have HC5 : Hid (DsF ns (some ⟨b, off, none⟩) cap bn bat bd bj jvF w5 (q + (Fo.cons m km .nil).flat.length)) := HCq.out.gr hg5 hv5 hle
      have HV5 : Hid (Va w5 (w.heap.size + 1) 48 (cn n)) := HVq.out.gr hg5 hnb
      have HG5 : Hid (w.grownBy w5 (some bat)) := gr_trans HGq.out hg5
      have HL5 : Hid (Ge elF w5 (w.heap.size + 2) (.slice al xs.length cl) xs) := HLq.out.grown hg5 (fun e => by have := HLq.out.block _ e; omega)
      have HVR5 : Hid (Va w5 (w.heap.size) 76 #[.slice none 0 0, .slice none 0 0]) := HVRq.out.gr hg5 (by omega)
      have HM5 : Hid (FmL BB w5 (xs ++ [x]) ((kd.app (.cons m km .nil)).fl false) ((kd.app (.cons m km .nil)).fl true)) := by
        show FmL _ _ _ _ _
        rw [fl_app, fl_app]
        exact (HMq.out.kp (kp_gr hg5 hs)).snoc hfm
      have hsz5 : w.heap.size + 2 ≤ w5.heap.size := by have := hg5.size; omega
      clear hle hv5 hg5 C9 HCq HVq HGq HLq q2 HVRq HMq hfm
      go_wp2_with (at_builtin; refine wpList_appE rfl _ _ _ rfl elF rfl (w.heap.size + 2) _ xs rfl (HL5.out.al _) w5.heap.size 0 1 1 [x] rfl (Le.one (Va.new w5 _ _) rfl) (by omega) (by simp; omega) ?_; intro v' w6 hg6 hgr6 hob6; obtain ⟨a6, c6, rfl, -, -, -⟩ := hg6.shape)
      have B6 : Below (w.heap.size + 2) w5 w6 := appE_below hgr6 HL5.out (by simp; omega) ((Below.refl _ _).alloc (by omega) _)
      have HC6 : Hid (DsF ns (some ⟨b, off, none⟩) cap bn bat bd bj jvF w6 (q + (Fo.cons m km .nil).flat.length)) := HC5.out.bel B6 HLO.out
      have HV6 : Hid (Va w6 (w.heap.size + 1) 48 (cn n)) := HV5.out.below B6 (by omega)
      have HG6 : Hid (w.grownBy w6 (some bat)) := gr_bel HG5.out B6 (by omega)
      have hsz6 : w.heap.size + 2 ≤ w6.heap.size := by have := B6.size; omega
      have HVR6 : Hid (Va w6 (w.heap.size) 76 #[.slice none 0 0, .slice none 0 0]) := HVR5.out.below B6 (by omega)
      have HM6 : Hid (FmL BB w6 (xs ++ [x]) ((kd.app (.cons m km .nil)).fl false) ((kd.app (.cons m km .nil)).fl true)) := HM5.out.kp (kp_trans (kp_below ((Below.refl _ _).alloc (Nat.le_refl _) _)) (kp_own hgr6 (HL5.out.al _) (by decide)))
      have HL6 : Hid (Ge elF w6 (w.heap.size + 2) (.slice a6 (xs ++ [x]).length c6) (xs ++ [x])) := hg6
      clear hg6 hgr6 hob6 B6 HC5 HV5 HG5 HL5 HVR5 HM5
      go_wp2_with fail
      go_roundw
      case rel =>
        refine ⟨i + 1, kd.app (.cons m km .nil), rm, q + (Fo.cons m km .nil).flat.length, rfl, by omega, ⟨?_, ?_, HX.out.2.2.1.2, drop_flat HX.out.2.2.2.1, ?_⟩, HA.out.2, HC6.out, HV6.out, HG6.out, HVR6.out, ⟨xs ++ [x], ?_, HM6.out⟩, hsz6⟩
        · rw [HX.out.1, Fo.app_assoc]; rfl
        · rw [Fo.len_app, HX.out.2.1]; rfl
        · rw [HX.out.2.2.2.2, Fo.flat_app, List.length_append]; omega
        · have := HL6.out
          first | exact this | (rw [List.length_append] at this; exact this)
      case measure => simp [intOf]; omega
    · have hkd : Hid (k = kd ∧ q = p + (Fo.cons n k .nil).flat.length) := by
        have h1 := HX.out.1; have h2 := HX.out.2.1; have h3 := HK.out
        have h4 : kr = .nil := Fo.nil_of_len (by rw [h1, Fo.len_app] at h3; omega)
        rw [h4, Fo.app_nil] at h1
        exact ⟨h1, by rw [HX.out.2.2.2.2, h1]; simp [Fo.flat]; omega⟩
      have q0 := HVq.out.n0
      have q1 := HVq.out.n1
      have q2 := HVq.out.n2
      have q3 := HVq.out.n3
      have q4 := HVq.out.n4
      have q5 := HVq.out.n5
      have q6 := HCq.out.jn.cell
      have hM : FmL BB wr xs (k.fl false) (k.fl true) := by rw [hkd.out.1]; exact HMq.out
      have C9 := both_any BB n k 0 (d + 1) HT.out hkf xs al cl wr (by omega) HLq.out.toLe hM
      clear hM HMq
      go_wp2_with fail
      refine C9.mono ?_
      rintro e w5 ⟨x, rfl, hfm, hb5⟩
      rw [HRR.out.1, HRR.out.2] at hfm
      have HC5 : Hid (DsF ns (some ⟨b, off, none⟩) cap bn bat bd bj jvF w5 q) := HCq.out.bl hb5
      have HG5 : Hid (w.grownBy w5 (some bat)) := gr_below HGq.out hb5
      have HFM : Hid (FmR BB w5 x RY RN) := hfm
      have V9 := HVRq.out.after hb5
      have v0 := V9.c0
      have v1 := V9.c1
      have f0 := V9.frozen 0
      have f1 := V9.frozen 1
      clear hb5 C9 q0 q1 q2 q3 q4 q5 q6 HCq HVq HGq HVRq hfm
      go_wp2_with fail
      refine bodyPost_ret (results_f rfl rfl (V9.set2 _ _)) rfl ?_
      refine ⟨x, rfl, ?_, ?_, ?_, ?_⟩
      · exact HFM.out.kp (fun g cur hg hh => fa2b _ _ _ _ g (by
          intro e
          have h9 : Va w5 w.heap.size 76 #[.slice none 0 0, .slice none 0 0] := V9
          unfold Va at h9
          rw [e, h9] at hh
          simp at hh))
      · rw [← hkd.out.2]; exact HC5.out.le
      · rw [← hkd.out.2]; exact HC5.out.at0.other2 (by omega) _ _
      · exact gr_bel HG5.out (below_2 (Below.refl w.heap.size w5) (Nat.le_refl _) _ _) (Nat.le_refl _)
end Go.Proofs.YtblafbbnplfpjaaGreatDoor
namespace Go.Proofs.YtblafbbnplfpjaaGreatDoor
open Go.RowKit Go.Shelf
set_option linter.unusedVariables false
set_option linter.unusedSimpArgs false

theorem ok_zero {n : Nd} {k : Fo} {o : Int} {d : Nat} (h : (Fo.cons n k .nil).Ok wdB o d) : (Fo.cons n k .nil).Ok wdB 0 d := by
  obtain ⟨⟨h1, h2, h3, h4, h5⟩, h6⟩ := h
  exact ⟨⟨h1, fun e => kd_ne_zero h1 e.1, h3, h4, h5⟩, trivial⟩
theorem no_zero {l : List Nd} {d : Nat} (h : NoTree wdB l 0 d) (o : Int) : NoTree wdB l o d :=
  fun n k r e ok => h n k r e (ok_zero ok)
/-- A tree that begins there is the only one. -/
theorem one_tree {n m : Nd} {k j : Fo} {x y : List Nd} {o o' : Int} {d : Nat} (h1 : (Fo.cons n k .nil).Ok wdB o d) (h2 : (Fo.cons m j .nil).Ok wdB o' d) (e : (Fo.cons n k .nil).flat ++ x = (Fo.cons m j .nil).flat ++ y) : n = m ∧ k = j ∧ x = y := by
  obtain ⟨ha, hb⟩ := flat_inj _ _ _ _ _ _ _ _ h1 h2 rfl e
  cases ha
  exact ⟨rfl, rfl, hb⟩
theorem no_same {n m : Nd} {k : Fo} {x : List Nd} {d : Nat} (h : (Fo.cons m k .nil).Ok wdB 0 d) (e : m.kd = n.kd) (h3 : n.kd ≠ 3) : NoTree wdB ((Fo.cons m k .nil).flat ++ x) n.kd d := by
  intro a b r e' ok
  obtain ⟨rfl, rfl, -⟩ := one_tree h ok e'
  exact ok.1.2.1 ⟨e, by rw [e]; exact h3⟩
theorem ok_kid {n m : Nd} {k : Fo} {d : Nat} (h : (Fo.cons m k .nil).Ok wdB 0 d) (e : m.kd ≠ n.kd ∨ n.kd = 3) : (Fo.cons m k .nil).Ok wdB n.kd d := by
  obtain ⟨⟨h1, h2, h3, h4, h5⟩, h6⟩ := h
  exact ⟨⟨h1, fun x => by rcases e with e | e
                          · exact e x.1
                          · exact x.2 (x.1.trans e), h3, h4, h5⟩, trivial⟩
/-- A tree was found: its node, what is below, where it ends, how it lies. -/
structure Tgr (ns : List Nd) (p d B : Nat) (W : World) (n : Nd) (k : Fo) (t : Tc) (q : Nat) : Prop where
  e : ns.drop p = (Fo.cons n k .nil).flat ++ ns.drop q
  le : q ≤ ns.length
  ok : (Fo.cons n k .nil).Ok wdB 0 d
  t : Rtw W (fun b => B ≤ b) (.cons n k .nil) [t]
def TgE (ns : List Nd) (p d : Nat) (w : World) (e : Ending) (w' : World) : Prop :=
  Below w.heap.size w w' ∧ ((e = .returned (.tuple #[.agg zT, .int .i64 (-1)]) ∧ NoTree wdB (ns.drop p) 0 d) ∨ ∃ n k t q, e = .returned (.tuple #[tvT t, .int .i64 (q : Nat)]) ∧ Tgr ns p d w.heap.size w' n k t q)
/-- The kids so far. -/
structure Ks (ns : List Nd) (p d B bt : Nat) (n : Nd) (W : World) (i q : Nat) (kj : Fo) (ts : List Tc) (v : Value) : Prop where
  len : kj.len = i
  ok : kj.Ok wdB n.kd (d + 1)
  e : ns.drop (p + 1) = kj.flat ++ ns.drop q
  le : q ≤ ns.length
  g : Ge elT W (bt + 1) v ts
  r : Rtw W (fun b => bt < b ∧ v.ownBlock ≠ some b) kj ts
theorem Ks.start {ns : List Nd} {p d B bt : Nat} {n : Nd} {W : World} (h : p + 1 ≤ ns.length) : Ks ns p d B bt n W 0 (p + 1) .nil [] (.slice none 0 0) :=
  ⟨rfl, trivial, rfl, h, Ge.nil _ _, rfl⟩
theorem Ks.lenT {ns : List Nd} {p d B bt : Nat} {n : Nd} {W : World} {i q : Nat} {kj : Fo} {ts : List Tc} {v : Value} (h : Ks ns p d B bt n W i q kj ts v) : ts.length = i := by
  rw [h.r.len, h.len]
theorem Ks.i64 {ns : List Nd} {p d B bt : Nat} {n : Nd} {W : World} {i q : Nat} {kj : Fo} {ts : List Tc} {v : Value} (h : Ks ns p d B bt n W i q kj ts v) : i ≤ ns.length := by
  have h4 := Fo.len_flat kj
  have h5 := congrArg List.length h.e
  simp only [List.length_drop, List.length_append] at h5
  have := h.len
  omega
/-- One kid more. -/
theorem Ks.more {ns : List Nd} {p d B bt : Nat} {n : Nd} {wr w5 W7 : World} {i q q' : Nat} {kj : Fo} {ts : List Tc} {v v' : Value} {m : Nd} {k : Fo} {t : Tc}
    (h : Ks ns p d B bt n wr i q kj ts v) (hg : Tgr ns q (d + 1) wr.heap.size w5 m k t q') (hk : m.kd ≠ n.kd ∨ n.kd = 3) (hb : bt < wr.heap.size)
    (hge : Ge elT W7 (bt + 1) v' (ts ++ [t])) (hv : v'.ownBlock = v.ownBlock ∨ ∃ c, v'.ownBlock = some c ∧ w5.heap.size ≤ c) (h5 : Below wr.heap.size wr w5)
    (h7 : ∀ b, b < w5.heap.size → b ≠ bt → v.ownBlock ≠ some b → W7.heap[b]? = w5.heap[b]?) : Ks ns p d B bt n W7 (i + 1) q' (kj.app (.cons m k .nil)) (ts ++ [t]) v' := by
  have hs := h5.size
  refine ⟨by rw [Fo.len_app, h.len]; rfl, h.ok.app (ok_kid hg.ok hk), by rw [h.e, hg.e, Fo.flat_app, List.append_assoc], hg.le, hge, Rtw.app (Rtw.imp (fun b hb' hp => ?_) h.r) (Rtw.imp (fun b hb' hp => ?_) hg.t)⟩
  · refine ⟨⟨hp.1, ?_⟩, ?_⟩
    · rcases hv with e | ⟨c, e, hc⟩
      · rw [e]; exact hp.2
      · rw [e]; intro x; cases x; omega
    · rw [h7 b (by omega) (by omega) hp.2, h5.block b hb']
  · have hvb : v.ownBlock ≠ some b := fun e => by have := h.g.lt b e; omega
    refine ⟨⟨by omega, ?_⟩, h7 b hb' (by omega) hvb⟩
    rcases hv with e | ⟨c, e, hc⟩
    · rw [e]; exact hvb
    · rw [e]; intro x; cases x; omega
theorem Ks.next {ns : List Nd} {p d B bt : Nat} {n : Nd} {wr w5 W6 W8 : World} {i q q' : Nat} {kj : Fo} {ts : List Tc} {v v' : Value} {m : Nd} {k : Fo} {t : Tc}
    (h : Ks ns p d B bt n wr i q kj ts v) (hg : Tgr ns q (d + 1) wr.heap.size w5 m k t q') (hk : m.kd ≠ n.kd ∨ n.kd = 3) (hb : bt < wr.heap.size)
    (h5 : Below wr.heap.size wr w5) (h6 : Below w5.heap.size w5 W6) (hge : Ge elT W8 (bt + 1) v' (ts ++ [t])) (hv : v'.ownBlock = v.ownBlock ∨ ∃ c, v'.ownBlock = some c ∧ W6.heap.size ≤ c)
    (hbl : ∀ c, c < W6.heap.size → v.ownBlock ≠ some c → W8.heap[c]? = W6.heap[c]?) (u : Value) : Ks ns p d B bt n (W8.setCell ⟨bt, 6, none⟩ u) (i + 1) q' (kj.app (.cons m k .nil)) (ts ++ [t]) v' := by
  have hs := h6.size
  refine h.more hg hk hb (hge.far (p := ⟨bt, 6, none⟩) (fun e => by have := hge.block bt e; omega) u) ?_ h5 (fun b hlt hne hno => ?_)
  · exact hv.imp id (fun ⟨c, e, hc⟩ => ⟨c, e, by omega⟩)
  · exact (heap_setCell_other W8 ⟨bt, 6, none⟩ b u hne).trans ((hbl b (by omega) hno).trans (h6.block b hlt))
/-- All kids are there. -/
theorem Ks.whole {ns : List Nd} {p d B bt : Nat} {n : Nd} {wr W7 : World} {i q : Nat} {kj : Fo} {ts : List Tc} {a : Option Addr} {l c : Nat}
    (h : Ks ns p d B bt n wr i q kj ts (.slice a l c)) (hd : ns.drop p = n :: ns.drop (p + 1)) (hn : NdOk wdB n) (hi : (i : Int) = n.ks) (hd16 : d ≤ 16) (hB : B ≤ bt)
    (h7 : ∀ b, bt < b → W7.heap[b]? = wr.heap[b]?) : Tgr ns p d B W7 n kj ⟨n, a, l, c⟩ q := by
  refine ⟨by rw [hd, h.e]; simp [Fo.flat], h.le, ⟨⟨hn, fun e => kd_ne_zero hn e.1, hd16, by rw [h.len, hi], h.ok⟩, trivial⟩, ?_⟩
  obtain ⟨a', c', e, -, -, -⟩ := h.g.shape
  cases e
  refine ⟨_, [], ts, rfl, rfl, h.r.len, ?_, ?_, Rtw.imp (fun b hb hp => ⟨by omega, h7 b hp.1⟩) h.r, rfl⟩
  · refine h.g.toLe.kept (fun h0 b off e hlt => h7 b ?_)
    have := h.g.block b (by rw [e]; rfl)
    omega
  · intro h0 b off e
    have := h.g.block b (by
      obtain ⟨a', c', e', -, -, h' | ⟨g, e3⟩⟩ := h.g.shape
      · cases e'; rw [h'.2.1] at h0; exact absurd h0 (Nat.lt_irrefl _)
      · cases e'; cases e; cases e3; rfl)
    omega
theorem Ks.after {ns : List Nd} {p d B bt : Nat} {n : Nd} {wr W : World} {i q : Nat} {kj : Fo} {ts : List Tc} {v : Value}
    (h : Ks ns p d B bt n wr i q kj ts v) (hb : Below wr.heap.size wr W) : Ks ns p d B bt n W i q kj ts v :=
  ⟨h.len, h.ok, h.e, h.le, h.g.after hb, Rtw.imp (fun b hlt hp => ⟨hp, hb.block b hlt⟩) h.r⟩
end Go.Proofs.YtblafbbnplfpjaaGreatDoor
