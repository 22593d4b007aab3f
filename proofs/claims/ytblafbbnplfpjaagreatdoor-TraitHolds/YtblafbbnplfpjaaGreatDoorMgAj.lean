import Derived.Test.YtblafbbnplfpjaaGreatDoorMgAi
import Derived.Test.YtblafbbnplfpjaaGreatDoorMgAa
import Derived.Test.YtblafbbnplfpjaaGreatDoorRt3
import Derived.Test.YtblafbbnplfpjaaGreatDoorMgAe
import Derived.Test.YtblafbbnplfpjaaGreatDoorMgAh
import Derived.Lib.LaidTab
import Derived.Lib.AppendIntMem
import Init.Omega
namespace Go.Proofs.YtblafbbnplfpjaaGreatDoor
open Go.RowKit Go.Shelf
set_option linter.unusedVariables false

theorem infoB : (Tryz.prog.info? 4).map (fun i => (i.zero, i.size, i.bytes)) = some (some (.bool false), 1, 1) := by kernel_rfl
def elB : El Bool where
  enc := fun b => [.bool b]
  dft := false
  te := 4
  tl := 69
  z := .bool false
  s := 1
  by8 := 1
  len := fun _ => rfl
  one := fun x v hv => by simp at hv; subst hv; rfl
  pos := by decide
  und := Tryz.underlying69
  inf := infoB
  zs := rfl
  bt := by decide
def AllD (D : Nd → Fo → Prop) : Fo → Prop
  | .nil => True
  | .cons n k r => D n k ∧ AllD D r
theorem allD_of {D : Nd → Fo → Prop} (h : ∀ n k, AllD D k → D n k) : ∀ fo, AllD D fo
  | .nil => trivial
  | .cons n k r => ⟨h n k (allD_of h k), allD_of h r⟩
def val (v : Nd → Bool) (n : Nd) (l : List Bool) : Bool := if n.kd = 1 then l.any id else if n.kd = 2 then l.all id else if n.kd = 3 then !(l.headD false) else v n
theorem ev_cons (v : Nd → Bool) (n : Nd) (k r : Fo) : (Fo.cons n k r).ev v = val v n (k.ev v) :: r.ev v := rfl
theorem kids_nn {n : Nd} (h : NdOk wdB n) : 0 ≤ n.ks := by
  rcases h with ⟨-, h, -⟩ | ⟨-, h, -⟩ | ⟨-, h, -⟩ | ⟨-, h, -⟩ <;> omega
theorem drop_flat {ns : List Nd} {q : Nat} {m : Nd} {km rm : Fo} {rest : List Nd} (h : ns.drop q = (Fo.cons m km rm).flat ++ rest) : ns.drop (q + (Fo.cons m km .nil).flat.length) = rm.flat ++ rest := by
  rw [← List.drop_drop, h, show (Fo.cons m km rm).flat ++ rest = (Fo.cons m km .nil).flat ++ (rm.flat ++ rest) by simp [Fo.flat]]
  rw [List.drop_left]
structure DsB (ns : List Nd) (a : Option Addr) (cap bn bat bd bj : Nat) (jv : Value) (w : World) (p : Nat) : Prop where
  nds : Va w bn 22 #[.slice a ns.length cap]
  at0 : Va w bat 3 #[.int .i64 p]
  own : Va w bd 33 #[.func (.func 58) #[] #[pt1 bn, pt1 bat, pt1 bd, pt1 bj]]
  jn : Va w bj 73 #[jv]
  lst : Le elN w a ns.length ns
  n1 : bn ≠ bat
  n2 : bd ≠ bat
  n3 : ∀ b off, a = some ⟨b, off, none⟩ → b ≠ bat
  n4 : bj ≠ bat
  sml : ns.length ≤ 64
  le : p ≤ ns.length
theorem DsB.gr {ns : List Nd} {a : Option Addr} {cap bn bat bd bj : Nat} {jv : Value} {w w' : World} {p p' : Nat} (h : DsB ns a cap bn bat bd bj jv w p) (hg : w.grownBy w' (some bat)) (hv : Va w' bat 3 #[.int .i64 p']) (hp : p' ≤ ns.length) : DsB ns a cap bn bat bd bj jv w' p' :=
  ⟨h.nds.gr hg h.n1, hv, h.own.gr hg h.n2, h.jn.gr hg h.n4, h.lst.grown hg (fun _ => h.n3), h.n1, h.n2, h.n3, h.n4, h.sml, hp⟩
theorem DsB.bl {ns : List Nd} {a : Option Addr} {cap bn bat bd bj : Nat} {jv : Value} {w w' : World} {p : Nat} (h : DsB ns a cap bn bat bd bj jv w p) (hb : Below w.heap.size w w') : DsB ns a cap bn bat bd bj jv w' p :=
  h.gr (gr_of_below hb) (h.at0.after hb) h.le
theorem gr_bel {a w w' : World} {g B : Nat} (h : a.grownBy w (some g)) (hb : Below B w w') (hB : a.heap.size ≤ B) : a.grownBy w' (some g) :=
  ⟨hb.os.trans h.os, hb.tape.trans h.tape, hb.output.trans h.output, Nat.le_trans h.size hb.size, fun k hk hne => (hb.block k (Nat.lt_of_lt_of_le hk hB)).trans (h.block k hk hne)⟩
theorem DsB.bel {ns : List Nd} {b off cap bn bat bd bj B : Nat} {jv : Value} {w w' : World} {p : Nat} (h : DsB ns (some ⟨b, off, none⟩) cap bn bat bd bj jv w p) (hb : Below B w w') (hl : bn < B ∧ bat < B ∧ bd < B ∧ bj < B ∧ b < B) : DsB ns (some ⟨b, off, none⟩) cap bn bat bd bj jv w' p :=
  ⟨h.nds.below hb hl.1, h.at0.below hb hl.2.1, h.own.below hb hl.2.2.1, h.jn.below hb hl.2.2.2.1, h.lst.kept (fun _ c o e _ => hb.block c (by cases e; exact hl.2.2.2.2)), h.n1, h.n2, h.n3, h.n4, h.sml, h.le⟩
def JnB (s0 : Nat) (w0 : World) (bf ba bq : Nat) (vf : Nd → Bool) : Prop := ∀ (n : Nd) (k : Fo) (o : Int) (d : Nat), (Fo.cons n k .nil).Ok wdB o d → N64 n → k.len ≤ 64 → ∀ (W : World) (B : Nat) (kv : Value), Below s0 w0 W → Ge elB W B kv (k.ev vf) →
  Calls Tryz.prog 35 #[nv n, kv, pt1 bf, pt1 ba, pt1 bq] W fun e W' => e = .returned (.bool (val vf n (k.ev vf))) ∧ Below W.heap.size W W'
def DnE (ns : List Nd) (bat : Nat) (b : Bool) (p : Nat) (w : World) (e : Ending) (w' : World) : Prop := e = .returned (.bool b) ∧ p ≤ ns.length ∧ Va w' bat 3 #[.int .i64 p] ∧ w.grownBy w' (some bat)
def DnB (s0 : Nat) (w0 : World) (ns : List Nd) (a : Option Addr) (cap bn bat bd bj : Nat) (jv : Value) (vf : Nd → Bool) (n : Nd) (k : Fo) : Prop :=
  ∀ (o : Int) (d : Nat), (Fo.cons n k .nil).Ok wdB o d → ∀ (p : Nat) (w : World) (rest : List Nd), DsB ns a cap bn bat bd bj jv w p → Below s0 w0 w → s0 ≤ w.heap.size → ns.drop p = (Fo.cons n k .nil).flat ++ rest →
    Calls Tryz.prog 58 #[pt1 bn, pt1 bat, pt1 bd, pt1 bj] w (DnE ns bat (val vf n (k.ev vf)) (p + (Fo.cons n k .nil).flat.length) w)
set_option maxHeartbeats 4000000 in
theorem downB (s0 : Nat) (w0 : World) (ns : List Nd) (a : Option Addr) (cap bn bat bd bj bf ba bq : Nat) (vf : Nd → Bool) (hs : s0 ≤ bat) (h64 : ∀ n ∈ ns, N64 n) (HJ : Hid (JnB s0 w0 bf ba bq vf)) :
    ∀ n k, AllD (DnB s0 w0 ns a cap bn bat bd bj (.func (.func 35) #[] #[pt1 bf, pt1 ba, pt1 bq]) vf) k → DnB s0 w0 ns a cap bn bat bd bj (.func (.func 35) #[] #[pt1 bf, pt1 ba, pt1 bq]) vf n k := by
  intro n k ih o d hok p w rest C hbl hs0 hdr
  obtain ⟨⟨hn, -, hd, hks, okk⟩, -⟩ := hok
  have c0 := C.at0.cell
  have c1 := C.nds.cell
  have hp : p < ns.length := by
    rcases Nat.lt_or_ge p ns.length with h | h
    · exact h
    · rw [List.drop_of_length_le h] at hdr; simp [Fo.flat] at hdr
  obtain ⟨b, off, rfl⟩ := C.lst.ex (by omega)
  have hnd : ns.getD p nd0 = n := by
    have h1 := List.drop_eq_getElem_cons hp
    rw [hdr] at h1
    simp only [Fo.flat, List.cons_append, List.cons.injEq] at h1
    rw [List.getD_eq_getElem?_getD, List.getElem?_eq_getElem hp]
    exact h1.1.symm
  have H6 : Hid (N64 n) := h64 n (by rw [← hnd, List.getD_eq_getElem?_getD, List.getElem?_eq_getElem hp]; exact List.getElem_mem hp)
  clear h64
  have hdr1 : ns.drop (p + 1) = k.flat ++ rest := by
    rw [← List.drop_drop, hdr]; simp [Fo.flat]
  have k0 : w.cell? ⟨b, off + p * 6, none⟩ = some (.int .i64 n.kd) := C.lst.at p hp 0 _ (by rw [← hnd]; rfl)
  have k1 : w.cell? ⟨b, off + p * 6 + 1, none⟩ = some (.int .i64 n.ks) := by rw [Nat.add_assoc]; exact C.lst.at p hp 1 _ (by rw [← hnd]; rfl)
  have k2 : w.cell? ⟨b, off + p * 6 + 2, none⟩ = some (sv n.nm) := by rw [Nat.add_assoc]; exact C.lst.at p hp 2 _ (by rw [← hnd]; rfl)
  have k3 : w.cell? ⟨b, off + p * 6 + 3, none⟩ = some (.int .i64 n.op) := by rw [Nat.add_assoc]; exact C.lst.at p hp 3 _ (by rw [← hnd]; rfl)
  have k4 : w.cell? ⟨b, off + p * 6 + 4, none⟩ = some (.int .i64 n.un) := by rw [Nat.add_assoc]; exact C.lst.at p hp 4 _ (by rw [← hnd]; rfl)
  have k5 : w.cell? ⟨b, off + p * 6 + 5, none⟩ = some (.int .i64 n.pl) := by rw [Nat.add_assoc]; exact C.lst.at p hp 5 _ (by rw [← hnd]; rfl)
  have hpi : (p : Int) < ns.length := by omega
  have hp65 : p < 65 := by have := C.sml; omega
  have HN : Hid (NdOk wdB n) := hn
  have HK : Hid (n.ks = (k.len : Int)) := hks
  have hk64 : n.ks ≤ 64 := by
    have h1 := Fo.len_flat k
    have h2 := congrArg List.length hdr1
    simp only [List.length_drop, List.length_append] at h2
    have h3 := C.sml
    omega
  have hks0 : (0 : Int) ≤ n.ks := kids_nn hn
  have HOK : Hid (k.Ok wdB n.kd (d + 1)) := okk
  have HD1 : Hid (ns.drop (p + 1) = k.flat ++ rest) := hdr1
  have HT : Hid ((Fo.cons n k .nil).Ok wdB 0 d) := ⟨⟨hn, fun h => by have := kd_ne_zero hn; omega, hd, hks, okk⟩, trivial⟩
  have HIH : Hid (AllD (DnB s0 w0 ns (some ⟨b, off, none⟩) cap bn bat bd bj (.func (.func 35) #[] #[pt1 bf, pt1 ba, pt1 bq]) vf) k) := ih
  have HC : Hid (DsB ns (some ⟨b, off, none⟩) cap bn bat bd bj (.func (.func 35) #[] #[pt1 bf, pt1 ba, pt1 bq]) w p) := C
  have HBL : Hid (Below s0 w0 w) := hbl
  clear hn hks okk hnd hdr hdr1 ih C hbl
  obtain ⟨R, hR⟩ : ∃ R, val vf n (k.ev vf) = R := ⟨_, rfl⟩
  have HR : Hid (val vf n (k.ev vf) = R) := hR
  rw [hR]
  clear hR
  go_enter Tryz.func58, Tryz.ntmps58
  go_upto_region 2 with fail
  refine ent1 w _ _ (Q := fun W => Code.wp _ _ _ _ W) ?_
  intro W1 hb1 hs1 V1
  have C1 := HC.out.bl hb1
  have g1 := C1.at0.cell
  have f1 := C1.at0.frozen 0
  have G1 : w.grownBy W1 (some bat) := gr_of_below hb1
  have hnb : w.heap.size ≠ bat := by have := HC.out.at0.lt; omega
  have hbl : bat < w.heap.size := HC.out.at0.lt
  have HLO : Hid (bn < w.heap.size + 1 ∧ bat < w.heap.size + 1 ∧ bd < w.heap.size + 1 ∧ bj < w.heap.size + 1 ∧ b < w.heap.size + 1) := by
    have h1 := HC.out.nds.lt; have h2 := HC.out.own.lt; have h3 := HC.out.jn.lt; have h4 := HC.out.lst.lt (by omega)
    exact ⟨by omega, by omega, by omega, by omega, by omega⟩
  clear hb1 c0 c1 k0 k1 k2 k3 k4 k5
  go_upto_region 3 with fail
  refine st1 C1.at0 _ (Q := fun W => Code.wp _ _ _ _ W) ?_
  intro W2 hv2 hg2 hs2
  have C2 : DsB ns (some ⟨b, off, none⟩) cap bn bat bd bj (.func (.func 35) #[] #[pt1 bf, pt1 ba, pt1 bq]) W2 (p + 1) := C1.gr hg2 hv2 hp
  have V2 : Va W2 w.heap.size 48 (cn n) := V1.gr hg2 hnb
  have G2 := gr_trans G1 hg2
  have m0 := V2.n0
  have m1 := V2.n1
  have HC2 : Hid (DsB ns (some ⟨b, off, none⟩) cap bn bat bd bj (.func (.func 35) #[] #[pt1 bf, pt1 ba, pt1 bq]) W2 (p + 1)) := C2
  have HV2 : Hid (Va W2 w.heap.size 48 (cn n)) := V2
  have HG2 : Hid (w.grownBy W2 (some bat)) := G2
  have hsz2 : w.heap.size + 1 ≤ W2.heap.size := by omega
  clear hs1 hs2 hg2 hv2 V1 C1 g1 f1 G1 V2 C2 G2
  go_wp2_with fail
  go_loopw [6, 15] (fun li j wr => ∃ (i : Nat) (kd kr : Fo) (q : Nat), j = .int .i64 i ∧ (i : Int) ≤ n.ks ∧ Hid (k = kd.app kr ∧ kd.len = i ∧ kr.Ok wdB n.kd (d + 1) ∧ ns.drop q = kr.flat ++ rest ∧ q = p + 1 + kd.flat.length) ∧ Hid (AllD (DnB s0 w0 ns (some ⟨b, off, none⟩) cap bn bat bd bj (.func (.func 35) #[] #[pt1 bf, pt1 ba, pt1 bq]) vf) kr) ∧ Hid (DsB ns (some ⟨b, off, none⟩) cap bn bat bd bj (.func (.func 35) #[] #[pt1 bf, pt1 ba, pt1 bq]) wr q) ∧ Hid (Va wr w.heap.size 48 (cn n)) ∧ Hid (w.grownBy wr (some bat)) ∧ Hid (Ge elB wr (w.heap.size + 1) li (kd.ev vf)) ∧ w.heap.size + 1 ≤ wr.heap.size) (fun _ j _ => (n.ks - intOf j).toNat)
  case atStart => exact ⟨0, .nil, k, p + 1, rfl, hks0, ⟨rfl, rfl, HOK.out, HD1.out, rfl⟩, HIH.out, HC2.out, HV2.out, HG2.out, Ge.nil _ _, hsz2⟩
  case round =>
    clear m0 m1 hks0 HC2 HV2 HG2 hsz2
    obtain ⟨i, kd, kr, q, rfl, hik, HX, HA, HCq, HVq, HGq, HLq, hszq⟩ := hrel
    obtain ⟨al, cl, rfl, -, -, -⟩ := HLq.out.shape
    rcases Int.lt_or_le (i : Int) n.ks with hlt | hge
    · have q2 := HCq.out.own.cell
      obtain ⟨m, km, rm, rfl⟩ : ∃ m km rm, kr = .cons m km rm := by
        cases kr with
        | nil =>
          have h1 := HX.out.1; have h2 := HX.out.2.1; have h3 := HK.out
          rw [h1, Fo.len_app] at h3; simp [Fo.len] at h3; omega
        | cons m km rm => exact ⟨m, km, rm, rfl⟩
      have C9 := HA.out.1 n.kd (d + 1) ⟨HX.out.2.2.1.1, trivial⟩ q wr (rm.flat ++ rest) HCq.out (HBL.out.trans (gr_to HGq.out hs hs0)) (by omega) (by rw [HX.out.2.2.2.1]; simp [Fo.flat])
      have xi : IntKind.i64.wrap ((i : Int) + 1) = (i : Int) + 1 := by rw [IntKind.wrap_i64]; omega
      have hlen : (kd.ev vf).length ≤ 64 := by rw [ev_len, HX.out.2.1]; omega
      go_wp2_with fail
      refine C9.mono ?_
      rintro e w5 ⟨rfl, hle, hv5, hg5⟩
      have HC5 : Hid (DsB ns (some ⟨b, off, none⟩) cap bn bat bd bj (.func (.func 35) #[] #[pt1 bf, pt1 ba, pt1 bq]) w5 (q + (Fo.cons m km .nil).flat.length)) := HCq.out.gr hg5 hv5 hle
      have HV5 : Hid (Va w5 w.heap.size 48 (cn n)) := HVq.out.gr hg5 hnb
      have HG5 : Hid (w.grownBy w5 (some bat)) := gr_trans HGq.out hg5
      have HL5 : Hid (Ge elB w5 (w.heap.size + 1) (.slice al (kd.ev vf).length cl) (kd.ev vf)) := HLq.out.grown hg5 (fun e => by have := HLq.out.block _ e; omega)
      have hsz5 : w.heap.size + 1 ≤ w5.heap.size := by have := hg5.size; omega
      clear hle hv5 hg5 C9 HCq HVq HGq HLq q2
      obtain ⟨X, hX⟩ : ∃ X, val vf m (km.ev vf) = X := ⟨_, rfl⟩
      have HXX : Hid (val vf m (km.ev vf) = X) := hX
      rw [hX]
      clear hX
      go_wp2_with (at_builtin; refine wpList_appE rfl _ _ _ rfl elB rfl (w.heap.size + 1) _ (kd.ev vf) rfl (HL5.out.al _) w5.heap.size 0 1 1 [X] rfl (Le.one (Va.new w5 _ _) rfl) (by omega) (by simp; omega) ?_; intro v' w6 hg6 hgr6 hob6; obtain ⟨a6, c6, rfl, -, -, -⟩ := hg6.shape)
      have B6 : Below (w.heap.size + 1) w5 w6 := appE_below hgr6 HL5.out (by simp; omega) ((Below.refl _ _).alloc (by omega) _)
      have HC6 : Hid (DsB ns (some ⟨b, off, none⟩) cap bn bat bd bj (.func (.func 35) #[] #[pt1 bf, pt1 ba, pt1 bq]) w6 (q + (Fo.cons m km .nil).flat.length)) := HC5.out.bel B6 HLO.out
      have HV6 : Hid (Va w6 w.heap.size 48 (cn n)) := HV5.out.below B6 (Nat.lt_succ_self _)
      have HG6 : Hid (w.grownBy w6 (some bat)) := gr_bel HG5.out B6 (Nat.le_succ _)
      have hsz6 : w.heap.size + 1 ≤ w6.heap.size := by have := B6.size; omega
      have HL6 : Hid (Ge elB w6 (w.heap.size + 1) (.slice a6 (kd.ev vf ++ [X]).length c6) (kd.ev vf ++ [X])) := hg6
      clear hg6 hgr6 hob6 B6 HC5 HV5 HG5 HL5
      go_wp2_with fail
      go_roundw
      case rel =>
        refine ⟨i + 1, kd.app (.cons m km .nil), rm, q + (Fo.cons m km .nil).flat.length, rfl, by omega, ⟨?_, ?_, HX.out.2.2.1.2, drop_flat HX.out.2.2.2.1, ?_⟩, HA.out.2, HC6.out, HV6.out, HG6.out, ?_, hsz6⟩
        · rw [HX.out.1, Fo.app_assoc]; rfl
        · rw [Fo.len_app, HX.out.2.1]; rfl
        · rw [HX.out.2.2.2.2, Fo.flat_app, List.length_append]; omega
        · rw [ev_app, ev_cons, HXX.out]
          have := HL6.out
          first | exact this | (rw [List.length_append] at this; exact this)
      case measure => simp [intOf]; omega
    · have hkd : Hid (k = kd ∧ q = p + (Fo.cons n k .nil).flat.length) := by
        have h1 := HX.out.1; have h2 := HX.out.2.1; have h3 := HK.out
        have h4 : kr = .nil := Fo.nil_of_len (by rw [h1, Fo.len_app] at h3; omega)
        rw [h4, Fo.app_nil] at h1
        exact ⟨h1, by rw [HX.out.2.2.2.2, h1]; simp [Fo.flat]; omega⟩
      have q0 := HVq.out.n0
      have q1 := HVq.out.n1
      have q2 := HVq.out.n2
      have q3 := HVq.out.n3
      have q4 := HVq.out.n4
      have q5 := HVq.out.n5
      have q6 := HCq.out.jn.cell
      have C9 := HJ.out n k 0 d HT.out H6.out (by have := HK.out; omega) wr (w.heap.size + 1) (.slice al (kd.ev vf).length cl) (HBL.out.trans (gr_to HGq.out hs hs0)) (by rw [hkd.out.1]; exact HLq.out)
      rw [HR.out] at C9
      go_wp2_with fail
      refine C9.mono ?_
      rintro e w5 ⟨rfl, hb5⟩
      have HC5 : Hid (DsB ns (some ⟨b, off, none⟩) cap bn bat bd bj (.func (.func 35) #[] #[pt1 bf, pt1 ba, pt1 bq]) w5 q) := HCq.out.bl hb5
      have HG5 : Hid (w.grownBy w5 (some bat)) := gr_below HGq.out hb5
      clear hb5 C9 q0 q1 q2 q3 q4 q5 q6 HCq HVq HGq
      go_wp2_with fail
      go_ret
      refine ⟨rfl, ?_, ?_, HG5.out⟩
      · rw [← hkd.out.2]; exact HC5.out.le
      · rw [← hkd.out.2]; exact HC5.out.at0
end Go.Proofs.YtblafbbnplfpjaaGreatDoor
namespace Go.Proofs.YtblafbbnplfpjaaGreatDoor
open Go.RowKit Go.Shelf
set_option linter.unusedVariables false
set_option linter.unusedSimpArgs false

structure Tc where
  n : Nd
  a : Option Addr
  len : Nat
  cap : Nat
def encT (x : Tc) : List Value := encN x.n ++ [.slice x.a x.len x.cap]
abbrev cT (n : Nd) (v : Value) : Array Value := #[.int .i64 n.kd, .int .i64 n.ks, sv n.nm, .int .i64 n.op, .int .i64 n.un, .int .i64 n.pl, v]
abbrev zT : Array Value := #[.int .i64 0, .int .i64 0, .string ⟨#[]⟩, .int .i64 0, .int .i64 0, .int .i64 0, .slice none 0 0]
abbrev tvT (x : Tc) : Value := .agg (cT x.n (.slice x.a x.len x.cap))
theorem infoT : (Tryz.prog.info? 56).map (fun i => (i.zero, i.size, i.bytes)) = some (some (.agg zT), 7, 80) := by kernel_rfl
def elT : El Tc where
  enc := encT
  dft := ⟨nd0, none, 0, 0⟩
  te := 56
  tl := 54
  z := .agg zT
  s := 7
  by8 := 80
  len := fun _ => rfl
  one := fun x v hv => by
    simp [encT, encN] at hv
    rcases hv with rfl | rfl | rfl | rfl | rfl | rfl | rfl <;> rfl
  pos := by decide
  und := Tryz.underlying54
  inf := infoT
  zs := rfl
  bt := by decide
def Rtw (w : World) (P : Nat → Prop) : Fo → List Tc → Prop
  | .nil, ts => ts = []
  | .cons n k r, ts => ∃ t ts' kts, ts = t :: ts' ∧ t.n = n ∧ t.len = k.len ∧ Le elT w t.a t.len kts ∧ (0 < t.len → ∀ b off, t.a = some ⟨b, off, none⟩ → P b) ∧ Rtw w P k kts ∧ Rtw w P r ts'
theorem Rtw.len {w : World} {P : Nat → Prop} : ∀ {f : Fo} {ts : List Tc}, Rtw w P f ts → ts.length = f.len
  | .nil, ts, h => by rw [show ts = [] from h]; rfl
  | .cons n k r, ts, h => by
    obtain ⟨t, ts', kts, rfl, -, -, -, -, -, hr⟩ := h
    rw [List.length_cons, Rtw.len hr]; rfl
theorem Rtw.imp {w w' : World} {P P' : Nat → Prop} (hp : ∀ b, b < w.heap.size → P b → P' b ∧ w'.heap[b]? = w.heap[b]?) : ∀ {f : Fo} {ts : List Tc}, Rtw w P f ts → Rtw w' P' f ts
  | .nil, ts, h => h
  | .cons n k r, ts, h => by
    obtain ⟨t, ts', kts, rfl, h1, h2, h3, h4, h5, h6⟩ := h
    refine ⟨t, ts', kts, rfl, h1, h2, h3.kept (fun h0 b off e hlt => (hp b hlt (h4 h0 b off e)).2), fun h0 b off e => ?_, Rtw.imp hp h5, Rtw.imp hp h6⟩
    exact (hp b (by rw [e] at h3; exact h3.lt h0) (h4 h0 b off e)).1
theorem Rtw.app {w : World} {P : Nat → Prop} : ∀ {f g : Fo} {ts us : List Tc}, Rtw w P f ts → Rtw w P g us → Rtw w P (f.app g) (ts ++ us)
  | .nil, g, ts, us, h, k => by rw [show ts = [] from h]; exact k
  | .cons n k r, g, ts, us, h, hk => by
    obtain ⟨t, ts', kts, rfl, h1, h2, h3, h4, h5, h6⟩ := h
    exact ⟨t, ts' ++ us, kts, rfl, h1, h2, h3, h4, h5, Rtw.app h6 hk⟩
theorem Va.set7 {w : World} {b : Nat} {t : TypeId} {x0 x1 x2 x3 x4 x5 x6 : Value} (h : Va w b t #[x0, x1, x2, x3, x4, x5, x6]) (y0 y1 y2 y3 y4 y5 y6 : Value) :
    Va (((((((w.setCell ⟨b, 0, none⟩ y0).setCell ⟨b, 1, none⟩ y1).setCell ⟨b, 2, none⟩ y2).setCell ⟨b, 3, none⟩ y3).setCell ⟨b, 4, none⟩ y4).setCell ⟨b, 5, none⟩ y5).setCell ⟨b, 6, none⟩ y6) b t #[y0, y1, y2, y3, y4, y5, y6] := by
  unfold Va at *
  simp only [World.setCell]
  rw [Array.getElem?_modify, if_pos rfl, Array.getElem?_modify, if_pos rfl, Array.getElem?_modify, if_pos rfl, Array.getElem?_modify, if_pos rfl, Array.getElem?_modify, if_pos rfl, Array.getElem?_modify, if_pos rfl, Array.getElem?_modify, if_pos rfl, h]
  simp
theorem fa7 (w : World) (b : Nat) (y0 y1 y2 y3 y4 y5 y6 : Value) : ∀ c, c ≠ b → (((((((w.setCell ⟨b, 0, none⟩ y0).setCell ⟨b, 1, none⟩ y1).setCell ⟨b, 2, none⟩ y2).setCell ⟨b, 3, none⟩ y3).setCell ⟨b, 4, none⟩ y4).setCell ⟨b, 5, none⟩ y5).setCell ⟨b, 6, none⟩ y6).heap[c]? = w.heap[c]? := fun c hc => ((Below.heap_setCell _ ⟨b, 6, none⟩ _ _ hc).trans ((Below.heap_setCell _ ⟨b, 5, none⟩ _ _ hc).trans ((Below.heap_setCell _ ⟨b, 4, none⟩ _ _ hc).trans ((Below.heap_setCell _ ⟨b, 3, none⟩ _ _ hc).trans ((Below.heap_setCell _ ⟨b, 2, none⟩ _ _ hc).trans ((Below.heap_setCell _ ⟨b, 1, none⟩ _ _ hc).trans (Below.heap_setCell _ ⟨b, 0, none⟩ _ _ hc)))))))
theorem below_7 {B : Nat} {a w : World} (h : Below B a w) {c : Nat} (hc : B ≤ c) (y0 y1 y2 y3 y4 y5 y6 : Value) : Below B a (((((((w.setCell ⟨c, 0, none⟩ y0).setCell ⟨c, 1, none⟩ y1).setCell ⟨c, 2, none⟩ y2).setCell ⟨c, 3, none⟩ y3).setCell ⟨c, 4, none⟩ y4).setCell ⟨c, 5, none⟩ y5).setCell ⟨c, 6, none⟩ y6) := (((((((h.setCell (p := ⟨c, 0, none⟩) hc y0).setCell (p := ⟨c, 1, none⟩) hc y1).setCell (p := ⟨c, 2, none⟩) hc y2).setCell (p := ⟨c, 3, none⟩) hc y3).setCell (p := ⟨c, 4, none⟩) hc y4).setCell (p := ⟨c, 5, none⟩) hc y5).setCell (p := ⟨c, 6, none⟩) hc y6)
theorem Va.t0 {w : World} {b : Nat} {t : TypeId} {x0 x1 x2 x3 x4 x5 x6 : Value} (h : Va w b t #[x0, x1, x2, x3, x4, x5, x6]) : w.cell? ⟨b, 0, none⟩ = some x0 := by rw [h.cellAt 0]; rfl
theorem Va.t1 {w : World} {b : Nat} {t : TypeId} {x0 x1 x2 x3 x4 x5 x6 : Value} (h : Va w b t #[x0, x1, x2, x3, x4, x5, x6]) : w.cell? ⟨b, 1, none⟩ = some x1 := by rw [h.cellAt 1]; rfl
theorem Va.t2 {w : World} {b : Nat} {t : TypeId} {x0 x1 x2 x3 x4 x5 x6 : Value} (h : Va w b t #[x0, x1, x2, x3, x4, x5, x6]) : w.cell? ⟨b, 2, none⟩ = some x2 := by rw [h.cellAt 2]; rfl
theorem Va.t3 {w : World} {b : Nat} {t : TypeId} {x0 x1 x2 x3 x4 x5 x6 : Value} (h : Va w b t #[x0, x1, x2, x3, x4, x5, x6]) : w.cell? ⟨b, 3, none⟩ = some x3 := by rw [h.cellAt 3]; rfl
theorem Va.t4 {w : World} {b : Nat} {t : TypeId} {x0 x1 x2 x3 x4 x5 x6 : Value} (h : Va w b t #[x0, x1, x2, x3, x4, x5, x6]) : w.cell? ⟨b, 4, none⟩ = some x4 := by rw [h.cellAt 4]; rfl
theorem Va.t5 {w : World} {b : Nat} {t : TypeId} {x0 x1 x2 x3 x4 x5 x6 : Value} (h : Va w b t #[x0, x1, x2, x3, x4, x5, x6]) : w.cell? ⟨b, 5, none⟩ = some x5 := by rw [h.cellAt 5]; rfl
theorem Va.t6 {w : World} {b : Nat} {t : TypeId} {x0 x1 x2 x3 x4 x5 x6 : Value} (h : Va w b t #[x0, x1, x2, x3, x4, x5, x6]) : w.cell? ⟨b, 6, none⟩ = some x6 := by rw [h.cellAt 6]; rfl
theorem results_tn {fn : Func} {j k b : Nat} {x0 x1 x2 x3 x4 x5 x6 u : Value} {tmps : Array Value} {w : World} (h : fn.results = #[.cell j 56, .tmp k]) (hj : tmps.getD j undef = .pointer (some ⟨b, 0, none⟩)) (hk : tmps.getD k undef = u) (hv : Va w b 56 #[x0, x1, x2, x3, x4, x5, x6]) :
    (results fn tmps).run Tryz.prog w = .ok (.tuple #[.agg #[x0, x1, x2, x3, x4, x5, x6], u]) w := by
  have c0 := hv.t0
  have c1 := hv.t1
  have c2 := hv.t2
  have c3 := hv.t3
  have c4 := hv.t4
  have c5 := hv.t5
  have c6 := hv.t6
  rw [Array.getD_eq_getD_getElem?] at hj hk
  simp [results, h, hj, hk, c0, c1, c2, c3, c4, c5, c6, go_sem]
theorem Va.setT6 {w : World} {b : Nat} {t : TypeId} {x0 x1 x2 x3 x4 x5 x6 : Value} (h : Va w b t #[x0, x1, x2, x3, x4, x5, x6]) (y : Value) : Va (w.setCell ⟨b, 6, none⟩ y) b t #[x0, x1, x2, x3, x4, x5, y] := by
  unfold Va at *
  simp only [World.setCell]
  rw [Array.getElem?_modify, if_pos rfl, h]
  simp
theorem Va.keptW {w w' : World} {b : Nat} {t : TypeId} {cs : Array Value} (h : Va w b t cs) (hk : w'.heap[b]? = w.heap[b]?) : Va w' b t cs := by unfold Va at *; rw [hk]; exact h
end Go.Proofs.YtblafbbnplfpjaaGreatDoor
namespace Go.Proofs.YtblafbbnplfpjaaGreatDoor
open Go.RowKit Go.Shelf
set_option linter.unusedVariables false

def Ow (w : World) (g : Nat) (cs : List Int) : Prop := Own w g cs
theorem Ow.drw {w : World} {g : Nat} {cs : List Int} (h : Ow w g cs) : Ow w.drew g cs := h
theorem Ow.lt {w : World} {g : Nat} {cs : List Int} (h : Ow w g cs) : g < w.heap.size := Own.lt h
theorem Ow.after {w w' : World} (b : Below w.heap.size w w') {g : Nat} {cs : List Int} (h : Ow w g cs) : Ow w' g cs := Own.below h b (Own.lt h)
theorem Ow.far {w : World} {g : Nat} {zs : List Int} (h : Ow w g zs) {b : Nat} {t : TypeId} {cs : Array Value} (V : Va w b t cs) (hn : NoInt cs) {w' : World} (k : ∀ c, c ≠ b → w'.heap[c]? = w.heap[c]?) (hs : cs.size ≠ 0 := by simp) : Ow w' g zs := by
  have hne : g ≠ b := by
    rintro rfl
    have e : (w.heap[g]? : Option Obj) = some (.cells (row zs).toArray 124 (0, 0)) := h
    have e2 : w.heap[g]? = some (.cells cs t (0, 0)) := V
    rw [e] at e2
    have e3 : (row zs).toArray = cs := by injection e2 with e2; injection e2
    cases zs with
    | nil => rw [← e3] at hs; exact hs rfl
    | cons z r => exact hn 0 z (by rw [← e3]; rfl)
  unfold Ow Own at *
  rw [k g hne]; exact h
theorem rt_fits {x y : Int} (x0 : 0 ≤ x) (y0 : 0 ≤ y) {i j n : Nat} (hx : x < pw i) (hy : y < pw j) (h : i + j ≤ n) : x * y < pw n := by
  refine Int.lt_of_lt_of_le (b := pw (i + j)) ?_ (pw_mono h)
  rw [pw_add]
  have h1 := Int.mul_le_mul_of_nonneg_left (Int.le_of_lt hy) x0
  have h2 := Int.mul_lt_mul_of_pos_right hx (show 0 < pw j by omega)
  omega
theorem Short.mul {u v : Rat} (h1 : Short u) (h2 : Short v) : ((u.num * (v.den : Int)).natAbs : Int) < pw 2048 := by
  rw [Int.natAbs_mul, Int.natCast_mul]
  exact rt_fits (by omega) (by omega) h1.1 (show ((Int.natAbs (v.den : Int) : Nat) : Int) < pw 1024 from h2.2) (by omega)
theorem Short.mul4 {u v : Rat} (h1 : Short u) (h2 : Short v) : ((u.num * (v.den : Int)).natAbs : Int) < pw 4096 := Int.lt_of_lt_of_le (h1.mul h2) (pw_mono (by omega))
def qcmp (x y : Rat) : Int := cmp3 (x.num * y.den) (y.num * x.den)
theorem Short.neg {v : Rat} (h : Short v) : Short (-v) := by unfold Short at *; rw [Rat.neg_num, Rat.neg_den, Int.natAbs_neg]; exact h

set_option maxHeartbeats 4000000 in
theorem qcompare_any (s1 : Bool) (a1 : Option Addr) (l1 c1 : Nat) (z1 : List Int) (b1 : Option Addr) (m1 d1 : Nat) (y1 : List Int) (v1 : Rat) (s2 : Bool) (a2 : Option Addr) (l2 c2 : Nat) (z2 : List Int) (b2 : Option Addr) (m2 d2 : Nat) (y2 : List Int) (v2 : Rat) (w : World) (h1 : Rt w s1 a1 l1 c1 z1 b1 m1 d1 y1 v1) (h2 : Rt w s2 a2 l2 c2 z2 b2 m2 d2 y2 v2) :
  Calls Tryz.prog 61 #[.agg #[.bool s1, .slice a1 l1 c1, .slice b1 m1 d1], .agg #[.bool s2, .slice a2 l2 c2, .slice b2 m2 d2]] w fun e w' => e = .returned (.int .i64 (qcmp v1 v2)) ∧ Below w.heap.size w w' := by
 have F1 : Hid (((v1.num * (v2.den : Int)).natAbs : Int) < pw 4096) := h1.2.2.2.2.mul4 h2.2.2.2.2; have F2 : Hid (((v2.num * (v1.den : Int)).natAbs : Int) < pw 4096) := h2.2.2.2.2.mul4 h1.2.2.2.2; have B0 : Below w.heap.size w w := Below.refl _ _
 go_enter Tryz.func61, Tryz.ntmps61
 (go_wp2_with fail); refine ent2 w _ _ _ _ (Q := fun W => Code.wp Tryz.prog _ _ _ W) ?_; intro x1 hb hs_x1 V0 V1; replace h1 := Rt.after hb h1; replace h2 := Rt.after hb h2; replace B0 := step B0 hb; clear hb hs_x1; refine wp_region_noPanic ?_; replace V0 : Va x1.drew _ _ _ := V0; replace V1 : Va x1.drew _ _ _ := V1; replace h1 := h1.drw; replace h2 := h2.drw; replace B0 := Below.drew B0; refine wp_region_held_drew (S := (fun W => W.cell? ⟨w.heap.size, 0, none⟩ = some (.bool s1) ∧ W.cell? ⟨w.heap.size, 1, none⟩ = some (.slice a1 l1 c1) ∧ W.cell? ⟨w.heap.size, 2, none⟩ = some (.slice b1 m1 d1) ∧ W.cell? ⟨w.heap.size + 1, 0, none⟩ = some (.bool s2) ∧ W.cell? ⟨w.heap.size + 1, 1, none⟩ = some (.slice a2 l2 c2) ∧ W.cell? ⟨w.heap.size + 1, 2, none⟩ = some (.slice b2 m2 d2))) (by kernel_rfl) ⟨V0.d0, V0.d1, V0.d2, V1.d0, V1.d1, V1.d2⟩ (fun hHeld => ?_); (obtain ⟨x2, hxd⟩ : ∃ xd, xd = x1.drew := ⟨_, rfl⟩); rw [← hxd] at V0 V1 h1 h2 B0 hHeld ⊢
 clear hxd; refine tjz 0 hHeld ?_; refine tjz 1 hHeld ?_; refine tjz 2 hHeld ?_; refine tjz 5 hHeld ?_; refine tjz 6 hHeld ?_; refine tjz 7 hHeld ?_; refine ryz 3 (fun K hK => ?_); simp only [gA, gB, gC]; (go_simp); refine (rden_any s2 a2 l2 c2 b2 m2 d2 y2 _ h2.2.1).mono ?_; rintro e x3 ⟨b3, m3, d3, y3, rfl, h3, e3, hb⟩; replace V0 := V0.a hb; replace V1 := V1.a hb; replace h1 := Rt.after hb h1; replace h2 := Rt.after hb h2; replace B0 := step B0 hb; clear hb; replace e3 := e3.trans h2.2.2.2.1; (try go_wp2_with fail); refine hK.out _ _ ⟨V0.d0, V0.d1, V0.d2, V1.d0, V1.d1, V1.d2⟩ (fun hHeld => ?_)
 clear hK K; refine ryz 4 (fun K hK => ?_); simp only [gA, gB, gC]; (go_simp); refine (times_ok s1 a1 b3 l1 c1 m3 d3 z1 y3 _ h1.1 h3 (by rw [h1.2.2.1, e3]; exact F1)).mono ?_; rintro e x4 ⟨s5, a5, l5, c5, z5, rfl, h5, e5, hb⟩; replace V0 := V0.a hb; replace V1 := V1.a hb; replace h1 := Rt.after hb h1; replace h2 := Rt.after hb h2; replace h3 := h3.a hb; replace B0 := step B0 hb; clear hb; rw [h1.2.2.1, e3] at e5; clear F1 e3; (try go_wp2_with fail); refine hK.out _ _ ⟨V0.d0, V0.d1, V0.d2, V1.d0, V1.d1, V1.d2⟩ (fun hHeld => ?_); clear hK K; refine ryz 8 (fun K hK => ?_); simp only [gA, gB, gC]; (go_simp); refine (rden_any s1 a1 l1 c1 b1 m1 d1 y1 _ h1.2.1).mono ?_; rintro e x5 ⟨b4, m4, d4, y4, rfl, h4, e4, hb⟩; replace V0 := V0.a hb; replace V1 := V1.a hb
 replace h1 := Rt.after hb h1; replace h2 := Rt.after hb h2; replace h3 := h3.a hb; replace h5 := It.after hb h5; replace B0 := step B0 hb; clear hb; replace e4 := e4.trans h1.2.2.2.1; (try go_wp2_with fail); refine hK.out _ _ ⟨V0.d0, V0.d1, V0.d2, V1.d0, V1.d1, V1.d2⟩ (fun hHeld => ?_); clear hK K; refine ryz 9 (fun K hK => ?_); simp only [gA, gB, gC]; (go_simp); refine (times_ok s2 a2 b4 l2 c2 m4 d4 z2 y4 _ h2.1 h4 (by rw [h2.2.2.1, e4]; exact F2)).mono ?_; rintro e x6 ⟨s6, a6, l6, c6, z6, rfl, h6, e6, hb⟩; replace V0 := V0.a hb; replace V1 := V1.a hb; replace h1 := Rt.after hb h1; replace h2 := Rt.after hb h2; replace h3 := h3.a hb; replace h5 := It.after hb h5; replace h4 := h4.a hb; replace B0 := step B0 hb; clear hb; rw [h2.2.2.1, e4] at e6; clear F2 e4; (try go_wp2_with fail); refine hK.out _ _ ⟨V0.d0, V0.d1, V0.d2, V1.d0, V1.d1, V1.d2⟩ (fun hHeld => ?_)
 clear hK K; refine ryz 10 (fun K hK => ?_); simp only [gA, gB, gC]; (go_simp); refine (wcompare_any s5 s6 a5 a6 l5 c5 l6 c6 z5 z6 _ h5 h6).mono ?_; rintro e x7 ⟨rfl, hb⟩; replace V0 := V0.a hb; replace V1 := V1.a hb; replace h1 := Rt.after hb h1; replace h2 := Rt.after hb h2; replace h3 := h3.a hb; replace h5 := It.after hb h5; replace h4 := h4.a hb; replace h6 := It.after hb h6; replace B0 := step B0 hb; clear hb; rw [e5, e6]; (obtain ⟨q, hq⟩ : ∃ q, cmp3 (v1.num * ↑v2.den) (v2.num * ↑v1.den) = q := ⟨_, rfl⟩); rw [hq]; have HQ : Hid (qcmp v1 v2 = q) := hq; clear hq e5 e6; (try go_wp2_with fail); refine hK.out _ _ ⟨V0.d0, V0.d1, V0.d2, V1.d0, V1.d1, V1.d2⟩ (fun hHeld => ?_); clear hK K; refine tjz 11 hHeld ?_; refine dnz ?_; clear hHeld
 (go_wp2_with fail)
 go_ret
 rw [HQ.out]; exact ⟨rfl, B0⟩

end Go.Proofs.YtblafbbnplfpjaaGreatDoor
namespace Go.Proofs.YtblafbbnplfpjaaGreatDoor
open Go.RowKit Go.Shelf
set_option linter.unusedVariables false

def Tn (w : World) : Prop := Go.Lib.TabIs Tryz.prog w "tollbook/decimal.tens" .i64 [1, 10, 100, 1000, 10000, 100000, 1000000, 10000000, 100000000, 1000000000]
theorem Tn.to {w w' : World} (h : Tn w) (hb : Below w.heap.size w w') : Tn w' := Go.Lib.tabBelow_of_tabIs h w' hb
theorem Tn.cell {w : World} (h : Tn w) (P : Nat) (hP : P ≤ 9) : w.cell? ⟨0, P, none⟩ = some (.int .i64 (10 ^ P)) := by
  have := Go.Lib.TabIs.cell (g := 0) h (by kernel_rfl) P (by simp; omega)
  rw [this]
  match P, hP with
  | 0, _ => rfl
  | 1, _ => rfl
  | 2, _ => rfl
  | 3, _ => rfl
  | 4, _ => rfl
  | 5, _ => rfl
  | 6, _ => rfl
  | 7, _ => rfl
  | 8, _ => rfl
  | 9, _ => rfl
theorem short64 {x y : Int} (h1 : -9223372036854775808 ≤ x) (h2 : x ≤ 9223372036854775807) (h3 : -9223372036854775808 ≤ y) (h4 : y ≤ 9223372036854775807) (h0 : y ≠ 0) : Short (Rat.divInt x y) := by
  have b1 : (9223372036854775808 : Int) < pw 1024 := Int.lt_of_lt_of_le (by decide : (9223372036854775808 : Int) < pw 1) (pw_mono (by omega))
  unfold Short
  rw [Rat.num_divInt, Rat.den_divInt, if_neg h0]
  have g1 : ((y.sign * x) / (y.gcd x : Nat)).natAbs ≤ x.natAbs := by
    have hd : ((y.gcd x : Nat) : Int) ∣ y.sign * x := Int.dvd_mul_of_dvd_right (Int.gcd_dvd_right ..)
    rw [Int.natAbs_ediv_of_dvd hd, Int.natAbs_mul, Int.natAbs_sign_of_ne_zero h0, Nat.one_mul]
    exact Nat.div_le_self _ _
  have g2 := Nat.div_le_self y.natAbs (y.gcd x)
  exact ⟨Int.lt_of_le_of_lt (by omega) b1, Int.lt_of_le_of_lt (by omega) b1⟩
theorem ten_bound {P : Nat} (hP : P ≤ 9) : 1 ≤ (10 : Int) ^ P ∧ (10 : Int) ^ P ≤ 1000000000 := by
  match P, hP with
  | 0, _ => decide
  | 1, _ => decide
  | 2, _ => decide
  | 3, _ => decide
  | 4, _ => decide
  | 5, _ => decide
  | 6, _ => decide
  | 7, _ => decide
  | 8, _ => decide
  | 9, _ => decide
set_option maxHeartbeats 4000000 in
theorem rat_ok (U : Int) (P : Nat) (h1 : -9223372036854775808 ≤ U) (h2 : U ≤ 9223372036854775807) (hc : Can U P) (w : World) (hT : Tn w) :
  Calls Tryz.prog 57 #[.agg #[.int .i64 U, .int .i64 P]] w fun e W' => ∃ s a l c zs b m d ds, e = .returned (.tuple #[.agg #[.bool s, .slice a l c, .slice b m d], .int .i64 0]) ∧ Rt W' s a l c zs b m d ds (Rat.divInt U (10 ^ P)) ∧ Below w.heap.size w W' := by
 have HC : Hid (CanI U P) := (canI_iff U P).2 hc; have hP := hc.1; clear hc; (obtain ⟨T, hTT⟩ : ∃ T : Int, (10 : Int) ^ P = T := ⟨_, rfl⟩); have hTb := ten_bound hP; (have hTc : Hid (∀ W, Below w.heap.size w W → W.cell? ⟨0, P, none⟩ = some (.int .i64 T)) := fun W hb => by rw [← hTT]; exact (hT.to hb).cell P hP); rw [hTT] at hTb ⊢; have HS : Hid (Short (Rat.divInt U T)) := short64 h1 h2 (by omega) (by omega) (by omega); (have hP10 : (P : Int) < 10 := by omega); clear hTT; have B0 : Below w.heap.size w w := Below.refl _ _
 go_enter Tryz.func57, Tryz.ntmps57
 (go_wp2_with fail); refine ent2 w _ _ _ _ (Q := fun W => Calls Tryz.prog _ _ W _) ?_; intro x1 hb hs_x1 V0 V1; replace B0 := step B0 hb; clear hb hs_x1; refine (check_ok U P HC.out _).mono ?_; rintro e x2 ⟨rfl, hb⟩; replace V0 := V0.a hb; replace V1 := V1.a hb; replace B0 := step B0 hb; clear hb; have c_V0 := V0.c0; have f0_V0 := V0.frozen 0; have d_V0 := V0.c1; have f1_V0 := V0.frozen 1; have l_V0 := V0.lt; have m_V0 := Nat.le_of_lt l_V0; (go_wp2_with fail); clear c_V0 f0_V0 d_V0 f1_V0 l_V0 m_V0; refine wp_region_noPanic ?_; replace V0 : Va x2.drew _ _ _ := V0; replace V1 : Va x2.drew _ _ _ := V1; replace B0 := Below.drew B0; refine wp_region_held_drew (S := (fun W => W.cell? ⟨w.heap.size, 0, none⟩ = some (.int .i64 U) ∧ W.cell? ⟨w.heap.size, 1, none⟩ = some (.int .i64 P) ∧ W.cell? ⟨0, P, none⟩ = some (.int .i64 T))) (by kernel_rfl) ⟨V0.c0, V0.c1, (hTc.out _ B0)⟩ (fun hHeld => ?_); (obtain ⟨x3, hxd⟩ : ∃ xd, xd = x2.drew := ⟨_, rfl⟩)
 rw [← hxd] at V0 V1 B0 hHeld ⊢; clear hxd; refine tjz 0 hHeld ?_; refine tjz 1 hHeld ?_; refine tjz 2 hHeld ?_; refine tjz 3 hHeld ?_; refine tjz 4 hHeld ?_; refine tjz 5 hHeld ?_; refine ryz 6 (fun K hK => ?_); simp only [gA, gB, gC]; (go_simp); refine (qsmall_ok U T h1 h2 (by omega) (by omega) (by omega) _).mono ?_; rintro e x4 ⟨er, s', a', l', c', z', b', m', d', y', v', rfl, h', hra, hb⟩; replace V0 := V0.a hb; replace V1 := V1.a hb; replace B0 := step B0 hb; clear hb; obtain ⟨-, rfl, rfl⟩ := hra.out.resolve_right (fun h => h.1 HS.out); clear hra; (try go_wp2_with fail)
 refine hK.out _ _ ⟨V0.c0, V0.c1, (hTc.out _ B0)⟩ (fun hHeld => ?_); clear hK K; refine tjz 7 hHeld ?_; refine tjz 8 hHeld ?_; have c_V1 := V1.d0; have f0_V1 := V1.frozen 0; have d_V1 := V1.d1; have f1_V1 := V1.frozen 1; have e_V1 := V1.d2; have f2_V1 := V1.frozen 2; have l_V1 := V1.lt; have m_V1 := Nat.le_of_lt l_V1; refine ryz 9 (fun K hK => ?_); simp only [gA, gB, gC]; (go_simp); clear c_V1 f0_V1 d_V1 f1_V1 e_V1 f2_V1 l_V1 m_V1; refine sto3 V1 (.bool s') (.slice a' l' c') (.slice b' m' d') (Q := fun W => K _ W) ?_; intro x5 V' oth far; replace V0 := apz (oth _ _ _) V0; replace h' := h'.far V1 (noInt3 _ _ _ _ _ _ _) far.1; replace B0 := apz (far.2 _ _) B0; replace V1 := V'; clear oth far
 refine hK.out _ _ ⟨V0.c0, V0.c1, (hTc.out _ B0)⟩ (fun hHeld => ?_); clear hK K; refine tjz 10 hHeld ?_; refine dnz ?_; clear hHeld; (go_wp2_with fail); refine bodyPost_ret (results_rt rfl rfl V1) rfl ?_; exact ⟨s', a', l', c', z', b', m', d', y', rfl, h', B0⟩
end Go.Proofs.YtblafbbnplfpjaaGreatDoor
namespace Go.Proofs.YtblafbbnplfpjaaGreatDoor
open Go.RowKit Go.Shelf
set_option linter.unusedVariables false

end Go.Proofs.YtblafbbnplfpjaaGreatDoor
namespace Go.Proofs.YtblafbbnplfpjaaGreatDoor

end Go.Proofs.YtblafbbnplfpjaaGreatDoor
