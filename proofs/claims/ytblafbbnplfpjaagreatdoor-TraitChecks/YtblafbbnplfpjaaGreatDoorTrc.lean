/-
  traits.fold at forms: the closure that goes down, fold, Plain.
-/
import Derived.Test.YtblafbbnplfpjaaGreatDoorTrb
namespace Go.Proofs.YtblafbbnplfpjaaGreatDoor
open Go.RowKit Go.Shelf
set_option linter.unusedVariables false

theorem fl_app (neg : Bool) : ∀ a b : Fo, (a.app b).fl neg = a.fl neg ++ b.fl neg
  | .nil, b => rfl
  | .cons n k r, b => by simp only [Fo.app, Fo.fl, fl_app neg r b, List.cons_append]
/-- The variables that down goes by: the nodes, the place, itself, join. -/
structure DsF (ns : List Nd) (a : Option Addr) (cap bn bat bd bj : Nat) (jv : Value) (w : World) (p : Nat) : Prop where
  nds : Va w bn 22 #[.slice a ns.length cap]
  at0 : Va w bat 3 #[.int .i64 p]
  own : Va w bd 101 #[.func (.func 65) #[] #[pt1 bn, pt1 bat, pt1 bd, pt1 bj]]
  jn : Va w bj 78 #[jv]
  lst : Le elN w a ns.length ns
  n1 : bn ≠ bat
  n2 : bd ≠ bat
  n3 : ∀ b off, a = some ⟨b, off, none⟩ → b ≠ bat
  n4 : bj ≠ bat
  sml : ns.length ≤ 64
  le : p ≤ ns.length
theorem DsF.gr {ns : List Nd} {a : Option Addr} {cap bn bat bd bj : Nat} {jv : Value} {w w' : World} {p p' : Nat} (h : DsF ns a cap bn bat bd bj jv w p) (hg : w.grownBy w' (some bat)) (hv : Va w' bat 3 #[.int .i64 p']) (hp : p' ≤ ns.length) : DsF ns a cap bn bat bd bj jv w' p' :=
  ⟨h.nds.gr hg h.n1, hv, h.own.gr hg h.n2, h.jn.gr hg h.n4, h.lst.grown hg (fun _ => h.n3), h.n1, h.n2, h.n3, h.n4, h.sml, hp⟩
theorem DsF.bl {ns : List Nd} {a : Option Addr} {cap bn bat bd bj : Nat} {jv : Value} {w w' : World} {p : Nat} (h : DsF ns a cap bn bat bd bj jv w p) (hb : Below w.heap.size w w') : DsF ns a cap bn bat bd bj jv w' p :=
  h.gr (gr_of_below hb) (h.at0.after hb) h.le
theorem DsF.bel {ns : List Nd} {b off cap bn bat bd bj B : Nat} {jv : Value} {w w' : World} {p : Nat} (h : DsF ns (some ⟨b, off, none⟩) cap bn bat bd bj jv w p) (hb : Below B w w') (hl : bn < B ∧ bat < B ∧ bd < B ∧ bj < B ∧ b < B) : DsF ns (some ⟨b, off, none⟩) cap bn bat bd bj jv w' p :=
  ⟨h.nds.below hb hl.1, h.at0.below hb hl.2.1, h.own.below hb hl.2.2.1, h.jn.below hb hl.2.2.2.1, h.lst.kept (fun _ c o e _ => hb.block c (by cases e; exact hl.2.2.2.2)), h.n1, h.n2, h.n3, h.n4, h.sml, h.le⟩
/-- How down ends. -/
def DfE (BB : Nat) (ns : List Nd) (bat : Nat) (y n : List Nd) (p : Nat) (w : World) (e : Ending) (w' : World) : Prop := ∃ x : Fm, e = .returned (fmv x) ∧ FmR BB w' x y n ∧ p ≤ ns.length ∧ Va w' bat 3 #[.int .i64 p] ∧ w.grownBy w' (some bat)
abbrev jvF : Value := .func (.func 41) #[] #[]
def DnF (BB : Nat) (ns : List Nd) (a : Option Addr) (cap bn bat bd bj : Nat) (n : Nd) (k : Fo) : Prop :=
  ∀ (o : Int) (d : Nat), (Fo.cons n k .nil).Ok wdB o (d + 1) → ∀ (p : Nat) (w : World) (rest : List Nd), DsF ns a cap bn bat bd bj jvF w p → BB ≤ w.heap.size → ns.drop p = (Fo.cons n k .nil).flat ++ rest →
    Calls Tryz.prog 65 #[pt1 bn, pt1 bat, pt1 bd, pt1 bj] w (DfE BB ns bat ((Fo.cons n k .nil).plain false).flat ((Fo.cons n k .nil).plain true).flat (p + (Fo.cons n k .nil).flat.length) w)
set_option maxHeartbeats 4000000 in
theorem downF (BB : Nat) (ns : List Nd) (a : Option Addr) (cap bn bat bd bj : Nat) (hs : bat < BB) :
    ∀ n k, AllD (DnF BB ns a cap bn bat bd bj) k → DnF BB ns a cap bn bat bd bj n k := by
  intro n k ih o d hok p w rest C hs0 hdr
  obtain ⟨⟨hn, -, hd, hks, okk⟩, -⟩ := hok
  have c0 := C.at0.cell
  have c1 := C.nds.cell
  have hp : p < ns.length := by
    rcases Nat.lt_or_ge p ns.length with h | h
    · exact h
    · rw [List.drop_of_length_le h] at hdr; simp [Fo.flat] at hdr
  obtain ⟨b, off, rfl⟩ := C.lst.ex (by omega)
  have hnd : ns.getD p nd0 = n := by
    have h1 := List.drop_eq_getElem_cons hp
    rw [hdr] at h1
    simp only [Fo.flat, List.cons_append, List.cons.injEq] at h1
    rw [List.getD_eq_getElem?_getD, List.getElem?_eq_getElem hp]
    exact h1.1.symm
  have hdr1 : ns.drop (p + 1) = k.flat ++ rest := by
    rw [← List.drop_drop, hdr]; simp [Fo.flat]
  have k0 : w.cell? ⟨b, off + p * 6, none⟩ = some (.int .i64 n.kd) := C.lst.at p hp 0 _ (by rw [← hnd]; rfl)
  have k1 : w.cell? ⟨b, off + p * 6 + 1, none⟩ = some (.int .i64 n.ks) := by rw [Nat.add_assoc]; exact C.lst.at p hp 1 _ (by rw [← hnd]; rfl)
  have k2 : w.cell? ⟨b, off + p * 6 + 2, none⟩ = some (sv n.nm) := by rw [Nat.add_assoc]; exact C.lst.at p hp 2 _ (by rw [← hnd]; rfl)
  have k3 : w.cell? ⟨b, off + p * 6 + 3, none⟩ = some (.int .i64 n.op) := by rw [Nat.add_assoc]; exact C.lst.at p hp 3 _ (by rw [← hnd]; rfl)
  have k4 : w.cell? ⟨b, off + p * 6 + 4, none⟩ = some (.int .i64 n.un) := by rw [Nat.add_assoc]; exact C.lst.at p hp 4 _ (by rw [← hnd]; rfl)
  have k5 : w.cell? ⟨b, off + p * 6 + 5, none⟩ = some (.int .i64 n.pl) := by rw [Nat.add_assoc]; exact C.lst.at p hp 5 _ (by rw [← hnd]; rfl)
  have hpi : (p : Int) < ns.length := by omega
  have hp65 : p < 65 := by have := C.sml; omega
  have HN : Hid (NdOk wdB n) := hn
  have HK : Hid (n.ks = (k.len : Int)) := hks
  have hk64 : n.ks ≤ 64 := by
    have h1 := Fo.len_flat k
    have h2 := congrArg List.length hdr1
    simp only [List.length_drop, List.length_append] at h2
    have h3 := C.sml
    omega
  have hks0 : (0 : Int) ≤ n.ks := kids_nn hn
  have HOK : Hid (k.Ok wdB n.kd (d + 1 + 1)) := okk
  have HD1 : Hid (ns.drop (p + 1) = k.flat ++ rest) := hdr1
  have HT : Hid ((Fo.cons n k .nil).Ok wdB 0 (d + 1)) := ⟨⟨hn, fun h => by have := kd_ne_zero hn; omega, hd, hks, okk⟩, trivial⟩
  have HIH : Hid (AllD (DnF BB ns (some ⟨b, off, none⟩) cap bn bat bd bj) k) := ih
  have HC : Hid (DsF ns (some ⟨b, off, none⟩) cap bn bat bd bj jvF w p) := C
  clear hn hks okk hnd hdr hdr1 ih C
  have hkf : k.flat.length ≤ 64 := by
    have h2 := congrArg List.length HD1.out
    simp only [List.length_drop, List.length_append] at h2
    have h3 := HC.out.sml
    omega
  obtain ⟨RY, hRY⟩ : ∃ R, ((Fo.cons n k .nil).plain false).flat = R := ⟨_, rfl⟩
  obtain ⟨RN, hRN⟩ : ∃ R, ((Fo.cons n k .nil).plain true).flat = R := ⟨_, rfl⟩
  have HRR : Hid (frm n (k.fl false) (k.fl true) false = RY ∧ frm n (k.fl false) (k.fl true) true = RN) := ⟨by rw [← hRY]; exact frm_plain n k false 0 d HT.out, by rw [← hRN]; exact frm_plain n k true 0 d HT.out⟩
  rw [hRY, hRN]
  clear hRY hRN
  go_enter Tryz.func65, Tryz.ntmps65
  go_upto_region 1 with fail
  refine ent1 w _ _ (Q := fun W => Code.wp _ _ _ _ W) ?_
  intro W0 hb0 hs0' VR
  have hblt : b < w.heap.size := HC.out.lst.lt (by omega)
  have C0 := HC.out.bl hb0
  replace c0 := C0.at0.cell
  replace c1 := C0.nds.cell
  replace k0 := (hb0.cell (p := ⟨b, _, none⟩) hblt).trans k0
  replace k1 := (hb0.cell (p := ⟨b, _, none⟩) hblt).trans k1
  replace k2 := (hb0.cell (p := ⟨b, _, none⟩) hblt).trans k2
  replace k3 := (hb0.cell (p := ⟨b, _, none⟩) hblt).trans k3
  replace k4 := (hb0.cell (p := ⟨b, _, none⟩) hblt).trans k4
  replace k5 := (hb0.cell (p := ⟨b, _, none⟩) hblt).trans k5
  clear C0
  go_upto_region 2 with fail
  refine ent1 W0 _ _ (Q := fun W => Code.wp _ _ _ _ W) ?_
  intro W1 hb1' hs1 V1
  rw [hs0'] at V1 hs1
  replace VR := VR.after hb1'
  have hb1 := step hb0 hb1'
  clear hb0 hb1' hs0'
  have C1 := HC.out.bl hb1
  have g1 := C1.at0.cell
  have f1 := C1.at0.frozen 0
  have G1 : w.grownBy W1 (some bat) := gr_of_below hb1
  have hnb : w.heap.size + 1 ≠ bat := by have := HC.out.at0.lt; omega
  have hbl : bat < w.heap.size := HC.out.at0.lt
  have HLO : Hid (bn < w.heap.size + 2 ∧ bat < w.heap.size + 2 ∧ bd < w.heap.size + 2 ∧ bj < w.heap.size + 2 ∧ b < w.heap.size + 2) := by
    have h1 := HC.out.nds.lt; have h2 := HC.out.own.lt; have h3 := HC.out.jn.lt; have h4 := HC.out.lst.lt (by omega)
    exact ⟨by omega, by omega, by omega, by omega, by omega⟩
  clear hb1 c0 c1 k0 k1 k2 k3 k4 k5
  go_upto_region 3 with fail
  refine st1 C1.at0 _ (Q := fun W => Code.wp _ _ _ _ W) ?_
  intro W2 hv2 hg2 hs2
  have C2 : DsF ns (some ⟨b, off, none⟩) cap bn bat bd bj jvF W2 (p + 1) := C1.gr hg2 hv2 hp
  have V2 : Va W2 (w.heap.size + 1) 48 (cn n) := V1.gr hg2 hnb
  have G2 := gr_trans G1 hg2
  have m0 := V2.n0
  have m1 := V2.n1
  have HC2 : Hid (DsF ns (some ⟨b, off, none⟩) cap bn bat bd bj jvF W2 (p + 1)) := C2
  have HV2 : Hid (Va W2 (w.heap.size + 1) 48 (cn n)) := V2
  have HG2 : Hid (w.grownBy W2 (some bat)) := G2
  have HVR2 : Hid (Va W2 (w.heap.size) 76 #[.slice none 0 0, .slice none 0 0]) := VR.gr hg2 (by omega)
  have hsz2 : w.heap.size + 2 ≤ W2.heap.size := by omega
  clear hs1 hs2 hg2 hv2 V1 C1 g1 f1 G1 V2 C2 G2 VR
  go_wp2_with fail
  go_loopw [6, 15] (fun li j wr => ∃ (i : Nat) (kd kr : Fo) (q : Nat), j = .int .i64 i ∧ (i : Int) ≤ n.ks ∧ Hid (k = kd.app kr ∧ kd.len = i ∧ kr.Ok wdB n.kd (d + 1 + 1) ∧ ns.drop q = kr.flat ++ rest ∧ q = p + 1 + kd.flat.length) ∧ Hid (AllD (DnF BB ns (some ⟨b, off, none⟩) cap bn bat bd bj) kr) ∧ Hid (DsF ns (some ⟨b, off, none⟩) cap bn bat bd bj jvF wr q) ∧ Hid (Va wr (w.heap.size + 1) 48 (cn n)) ∧ Hid (w.grownBy wr (some bat)) ∧ Hid (Va wr (w.heap.size) 76 #[.slice none 0 0, .slice none 0 0]) ∧ (∃ xs : List Fm, Hid (Ge elF wr (w.heap.size + 2) li xs) ∧ Hid (FmL BB wr xs (kd.fl false) (kd.fl true))) ∧ w.heap.size + 2 ≤ wr.heap.size) (fun _ j _ => (n.ks - intOf j).toNat)
  case atStart => exact ⟨0, .nil, k, p + 1, rfl, hks0, ⟨rfl, rfl, HOK.out, HD1.out, rfl⟩, HIH.out, HC2.out, HV2.out, HG2.out, HVR2.out, ⟨[], Ge.nil _ _, rfl, rfl, fun i h => by simp at h⟩, hsz2⟩
  case round =>
    clear m0 m1 hks0 HC2 HV2 HG2 hsz2 HVR2
    obtain ⟨i, kd, kr, q, rfl, hik, HX, HA, HCq, HVq, HGq, HVRq, ⟨xs, HLq, HMq⟩, hszq⟩ := hrel
    obtain ⟨al, cl, rfl, -, -, -⟩ := HLq.out.shape
    rcases Int.lt_or_le (i : Int) n.ks with hlt | hge
    · have q2 := HCq.out.own.cell
      obtain ⟨m, km, rm, rfl⟩ : ∃ m km rm, kr = .cons m km rm := by
        cases kr with
        | nil =>
          have h1 := HX.out.1; have h2 := HX.out.2.1; have h3 := HK.out
          rw [h1, Fo.len_app] at h3; simp [Fo.len] at h3; omega
        | cons m km rm => exact ⟨m, km, rm, rfl⟩
      have C9 := HA.out.1 n.kd (d + 1) ⟨HX.out.2.2.1.1, trivial⟩ q wr (rm.flat ++ rest) HCq.out (by omega) (by rw [HX.out.2.2.2.1]; simp [Fo.flat])
      have xi : IntKind.i64.wrap ((i : Int) + 1) = (i : Int) + 1 := by rw [IntKind.wrap_i64]; omega
      have hlen : xs.length ≤ 64 := by have h1 := HMq.out.1; rw [fl_len, HX.out.2.1] at h1; omega
      go_wp2_with fail
      refine C9.mono ?_
      rintro e w5 ⟨x, rfl, hfm, hle, hv5, hg5⟩
      have HC5 : Hid (DsF ns (some ⟨b, off, none⟩) cap bn bat bd bj jvF w5 (q + (Fo.cons m km .nil).flat.length)) := HCq.out.gr hg5 hv5 hle
      have HV5 : Hid (Va w5 (w.heap.size + 1) 48 (cn n)) := HVq.out.gr hg5 hnb
      have HG5 : Hid (w.grownBy w5 (some bat)) := gr_trans HGq.out hg5
      have HL5 : Hid (Ge elF w5 (w.heap.size + 2) (.slice al xs.length cl) xs) := HLq.out.grown hg5 (fun e => by have := HLq.out.block _ e; omega)
      have HVR5 : Hid (Va w5 (w.heap.size) 76 #[.slice none 0 0, .slice none 0 0]) := HVRq.out.gr hg5 (by omega)
      have HM5 : Hid (FmL BB w5 (xs ++ [x]) ((kd.app (.cons m km .nil)).fl false) ((kd.app (.cons m km .nil)).fl true)) := by
        show FmL _ _ _ _ _
        rw [fl_app, fl_app]
        exact (HMq.out.kp (kp_gr hg5 hs)).snoc hfm
      have hsz5 : w.heap.size + 2 ≤ w5.heap.size := by have := hg5.size; omega
      clear hle hv5 hg5 C9 HCq HVq HGq HLq q2 HVRq HMq hfm
      go_wp2_with (at_builtin; refine wpList_appE rfl _ _ _ rfl elF rfl (w.heap.size + 2) _ xs rfl (HL5.out.al _) w5.heap.size 0 1 1 [x] rfl (Le.one (Va.new w5 _ _) rfl) (by omega) (by simp; omega) ?_; intro v' w6 hg6 hgr6 hob6; obtain ⟨a6, c6, rfl, -, -, -⟩ := hg6.shape)
      have B6 : Below (w.heap.size + 2) w5 w6 := appE_below hgr6 HL5.out (by simp; omega) ((Below.refl _ _).alloc (by omega) _)
      have HC6 : Hid (DsF ns (some ⟨b, off, none⟩) cap bn bat bd bj jvF w6 (q + (Fo.cons m km .nil).flat.length)) := HC5.out.bel B6 HLO.out
      have HV6 : Hid (Va w6 (w.heap.size + 1) 48 (cn n)) := HV5.out.below B6 (by omega)
      have HG6 : Hid (w.grownBy w6 (some bat)) := gr_bel HG5.out B6 (by omega)
      have hsz6 : w.heap.size + 2 ≤ w6.heap.size := by have := B6.size; omega
      have HVR6 : Hid (Va w6 (w.heap.size) 76 #[.slice none 0 0, .slice none 0 0]) := HVR5.out.below B6 (by omega)
      have HM6 : Hid (FmL BB w6 (xs ++ [x]) ((kd.app (.cons m km .nil)).fl false) ((kd.app (.cons m km .nil)).fl true)) := HM5.out.kp (kp_trans (kp_below ((Below.refl _ _).alloc (Nat.le_refl _) _)) (kp_own hgr6 (HL5.out.al _) (by decide)))
      have HL6 : Hid (Ge elF w6 (w.heap.size + 2) (.slice a6 (xs ++ [x]).length c6) (xs ++ [x])) := hg6
      clear hg6 hgr6 hob6 B6 HC5 HV5 HG5 HL5 HVR5 HM5
      go_wp2_with fail
      go_roundw
      case rel =>
        refine ⟨i + 1, kd.app (.cons m km .nil), rm, q + (Fo.cons m km .nil).flat.length, rfl, by omega, ⟨?_, ?_, HX.out.2.2.1.2, drop_flat HX.out.2.2.2.1, ?_⟩, HA.out.2, HC6.out, HV6.out, HG6.out, HVR6.out, ⟨xs ++ [x], ?_, HM6.out⟩, hsz6⟩
        · rw [HX.out.1, Fo.app_assoc]; rfl
        · rw [Fo.len_app, HX.out.2.1]; rfl
        · rw [HX.out.2.2.2.2, Fo.flat_app, List.length_append]; omega
        · have := HL6.out
          first | exact this | (rw [List.length_append] at this; exact this)
      case measure => simp [intOf]; omega
    · have hkd : Hid (k = kd ∧ q = p + (Fo.cons n k .nil).flat.length) := by
        have h1 := HX.out.1; have h2 := HX.out.2.1; have h3 := HK.out
        have h4 : kr = .nil := Fo.nil_of_len (by rw [h1, Fo.len_app] at h3; omega)
        rw [h4, Fo.app_nil] at h1
        exact ⟨h1, by rw [HX.out.2.2.2.2, h1]; simp [Fo.flat]; omega⟩
      have q0 := HVq.out.n0
      have q1 := HVq.out.n1
      have q2 := HVq.out.n2
      have q3 := HVq.out.n3
      have q4 := HVq.out.n4
      have q5 := HVq.out.n5
      have q6 := HCq.out.jn.cell
      have hM : FmL BB wr xs (k.fl false) (k.fl true) := by rw [hkd.out.1]; exact HMq.out
      have C9 := both_any BB n k 0 (d + 1) HT.out hkf xs al cl wr (by omega) HLq.out.toLe hM
      clear hM HMq
      go_wp2_with fail
      refine C9.mono ?_
      rintro e w5 ⟨x, rfl, hfm, hb5⟩
      rw [HRR.out.1, HRR.out.2] at hfm
      have HC5 : Hid (DsF ns (some ⟨b, off, none⟩) cap bn bat bd bj jvF w5 q) := HCq.out.bl hb5
      have HG5 : Hid (w.grownBy w5 (some bat)) := gr_below HGq.out hb5
      have HFM : Hid (FmR BB w5 x RY RN) := hfm
      have V9 := HVRq.out.after hb5
      have v0 := V9.c0
      have v1 := V9.c1
      have f0 := V9.frozen 0
      have f1 := V9.frozen 1
      clear hb5 C9 q0 q1 q2 q3 q4 q5 q6 HCq HVq HGq HVRq hfm
      go_wp2_with fail
      refine bodyPost_ret (results_f rfl rfl (V9.set2 _ _)) rfl ?_
      refine ⟨x, rfl, ?_, ?_, ?_, ?_⟩
      · exact HFM.out.kp (fun g cur hg hh => fa2b _ _ _ _ g (by
          intro e
          have h9 : Va w5 w.heap.size 76 #[.slice none 0 0, .slice none 0 0] := V9
          unfold Va at h9
          rw [e, h9] at hh
          simp at hh))
      · rw [← hkd.out.2]; exact HC5.out.le
      · rw [← hkd.out.2]; exact HC5.out.at0.other2 (by omega) _ _
      · exact gr_bel HG5.out (below_2 (Below.refl w.heap.size w5) (Nat.le_refl _) _ _) (Nat.le_refl _)
end Go.Proofs.YtblafbbnplfpjaaGreatDoor
