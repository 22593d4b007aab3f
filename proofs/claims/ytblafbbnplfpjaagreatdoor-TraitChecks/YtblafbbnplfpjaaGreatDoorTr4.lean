/-
  traits.fold at bool: the closure that goes down.
-/
import Derived.Test.YtblafbbnplfpjaaGreatDoorTr3
namespace Go.Proofs.YtblafbbnplfpjaaGreatDoor
open Go.RowKit Go.Shelf
set_option linter.unusedVariables false

theorem infoB : (Tryz.prog.info? 4).map (fun i => (i.zero, i.size, i.bytes)) = some (some (.bool false), 1, 1) := by kernel_rfl
def elB : El Bool where
  enc := fun b => [.bool b]
  dft := false
  te := 4
  tl := 69
  z := .bool false
  s := 1
  by8 := 1
  len := fun _ => rfl
  one := fun x v hv => by simp at hv; subst hv; rfl
  pos := by decide
  und := Tryz.underlying69
  inf := infoB
  zs := rfl
  bt := by decide
/-- Something of every tree. -/
def AllD (D : Nd → Fo → Prop) : Fo → Prop
  | .nil => True
  | .cons n k r => D n k ∧ AllD D r
theorem allD_of {D : Nd → Fo → Prop} (h : ∀ n k, AllD D k → D n k) : ∀ fo, AllD D fo
  | .nil => trivial
  | .cons n k r => ⟨h n k (allD_of h k), allD_of h r⟩
/-- What a node holds, told what its kids hold. -/
def val (v : Nd → Bool) (n : Nd) (l : List Bool) : Bool := if n.kd = 1 then l.any id else if n.kd = 2 then l.all id else if n.kd = 3 then !(l.headD false) else v n
theorem ev_cons (v : Nd → Bool) (n : Nd) (k r : Fo) : (Fo.cons n k r).ev v = val v n (k.ev v) :: r.ev v := rfl
theorem kids_nn {n : Nd} (h : NdOk wdB n) : 0 ≤ n.ks := by
  rcases h with ⟨-, h, -⟩ | ⟨-, h, -⟩ | ⟨-, h, -⟩ | ⟨-, h, -⟩ <;> omega
theorem drop_flat {ns : List Nd} {q : Nat} {m : Nd} {km rm : Fo} {rest : List Nd} (h : ns.drop q = (Fo.cons m km rm).flat ++ rest) : ns.drop (q + (Fo.cons m km .nil).flat.length) = rm.flat ++ rest := by
  rw [← List.drop_drop, h, show (Fo.cons m km rm).flat ++ rest = (Fo.cons m km .nil).flat ++ (rm.flat ++ rest) by simp [Fo.flat]]
  rw [List.drop_left]
/-- The variables that down goes by: the nodes, the place, itself, join. -/
structure DsB (ns : List Nd) (a : Option Addr) (cap bn bat bd bj : Nat) (jv : Value) (w : World) (p : Nat) : Prop where
  nds : Va w bn 22 #[.slice a ns.length cap]
  at0 : Va w bat 3 #[.int .i64 p]
  own : Va w bd 33 #[.func (.func 58) #[] #[pt1 bn, pt1 bat, pt1 bd, pt1 bj]]
  jn : Va w bj 73 #[jv]
  lst : Le elN w a ns.length ns
  n1 : bn ≠ bat
  n2 : bd ≠ bat
  n3 : ∀ b off, a = some ⟨b, off, none⟩ → b ≠ bat
  n4 : bj ≠ bat
  sml : ns.length ≤ 64
  le : p ≤ ns.length
theorem DsB.gr {ns : List Nd} {a : Option Addr} {cap bn bat bd bj : Nat} {jv : Value} {w w' : World} {p p' : Nat} (h : DsB ns a cap bn bat bd bj jv w p) (hg : w.grownBy w' (some bat)) (hv : Va w' bat 3 #[.int .i64 p']) (hp : p' ≤ ns.length) : DsB ns a cap bn bat bd bj jv w' p' :=
  ⟨h.nds.gr hg h.n1, hv, h.own.gr hg h.n2, h.jn.gr hg h.n4, h.lst.grown hg (fun _ => h.n3), h.n1, h.n2, h.n3, h.n4, h.sml, hp⟩
theorem DsB.bl {ns : List Nd} {a : Option Addr} {cap bn bat bd bj : Nat} {jv : Value} {w w' : World} {p : Nat} (h : DsB ns a cap bn bat bd bj jv w p) (hb : Below w.heap.size w w') : DsB ns a cap bn bat bd bj jv w' p :=
  h.gr (gr_of_below hb) (h.at0.after hb) h.le
theorem gr_bel {a w w' : World} {g B : Nat} (h : a.grownBy w (some g)) (hb : Below B w w') (hB : a.heap.size ≤ B) : a.grownBy w' (some g) :=
  ⟨hb.os.trans h.os, hb.tape.trans h.tape, hb.output.trans h.output, Nat.le_trans h.size hb.size, fun k hk hne => (hb.block k (Nat.lt_of_lt_of_le hk hB)).trans (h.block k hk hne)⟩
theorem DsB.bel {ns : List Nd} {b off cap bn bat bd bj B : Nat} {jv : Value} {w w' : World} {p : Nat} (h : DsB ns (some ⟨b, off, none⟩) cap bn bat bd bj jv w p) (hb : Below B w w') (hl : bn < B ∧ bat < B ∧ bd < B ∧ bj < B ∧ b < B) : DsB ns (some ⟨b, off, none⟩) cap bn bat bd bj jv w' p :=
  ⟨h.nds.below hb hl.1, h.at0.below hb hl.2.1, h.own.below hb hl.2.2.1, h.jn.below hb hl.2.2.2.1, h.lst.kept (fun _ c o e _ => hb.block c (by cases e; exact hl.2.2.2.2)), h.n1, h.n2, h.n3, h.n4, h.sml, h.le⟩
/-- What join owes. -/
def JnB (s0 : Nat) (w0 : World) (bf ba bq : Nat) (vf : Nd → Bool) : Prop := ∀ (n : Nd) (k : Fo) (o : Int) (d : Nat), (Fo.cons n k .nil).Ok wdB o d → N64 n → k.len ≤ 64 → ∀ (W : World) (B : Nat) (kv : Value), Below s0 w0 W → Ge elB W B kv (k.ev vf) →
  Calls Tryz.prog 35 #[nv n, kv, pt1 bf, pt1 ba, pt1 bq] W fun e W' => e = .returned (.bool (val vf n (k.ev vf))) ∧ Below W.heap.size W W'
/-- How down ends. -/
def DnE (ns : List Nd) (bat : Nat) (b : Bool) (p : Nat) (w : World) (e : Ending) (w' : World) : Prop := e = .returned (.bool b) ∧ p ≤ ns.length ∧ Va w' bat 3 #[.int .i64 p] ∧ w.grownBy w' (some bat)
def DnB (s0 : Nat) (w0 : World) (ns : List Nd) (a : Option Addr) (cap bn bat bd bj : Nat) (jv : Value) (vf : Nd → Bool) (n : Nd) (k : Fo) : Prop :=
  ∀ (o : Int) (d : Nat), (Fo.cons n k .nil).Ok wdB o d → ∀ (p : Nat) (w : World) (rest : List Nd), DsB ns a cap bn bat bd bj jv w p → Below s0 w0 w → s0 ≤ w.heap.size → ns.drop p = (Fo.cons n k .nil).flat ++ rest →
    Calls Tryz.prog 58 #[pt1 bn, pt1 bat, pt1 bd, pt1 bj] w (DnE ns bat (val vf n (k.ev vf)) (p + (Fo.cons n k .nil).flat.length) w)
set_option maxHeartbeats 4000000 in
theorem downB (s0 : Nat) (w0 : World) (ns : List Nd) (a : Option Addr) (cap bn bat bd bj bf ba bq : Nat) (vf : Nd → Bool) (hs : s0 ≤ bat) (h64 : ∀ n ∈ ns, N64 n) (HJ : Hid (JnB s0 w0 bf ba bq vf)) :
    ∀ n k, AllD (DnB s0 w0 ns a cap bn bat bd bj (.func (.func 35) #[] #[pt1 bf, pt1 ba, pt1 bq]) vf) k → DnB s0 w0 ns a cap bn bat bd bj (.func (.func 35) #[] #[pt1 bf, pt1 ba, pt1 bq]) vf n k := by
  intro n k ih o d hok p w rest C hbl hs0 hdr
  obtain ⟨⟨hn, -, hd, hks, okk⟩, -⟩ := hok
  have c0 := C.at0.cell
  have c1 := C.nds.cell
  have hp : p < ns.length := by
    rcases Nat.lt_or_ge p ns.length with h | h
    · exact h
    · rw [List.drop_of_length_le h] at hdr; simp [Fo.flat] at hdr
  obtain ⟨b, off, rfl⟩ := C.lst.ex (by omega)
  have hnd : ns.getD p nd0 = n := by
    have h1 := List.drop_eq_getElem_cons hp
    rw [hdr] at h1
    simp only [Fo.flat, List.cons_append, List.cons.injEq] at h1
    rw [List.getD_eq_getElem?_getD, List.getElem?_eq_getElem hp]
    exact h1.1.symm
  have H6 : Hid (N64 n) := h64 n (by rw [← hnd, List.getD_eq_getElem?_getD, List.getElem?_eq_getElem hp]; exact List.getElem_mem hp)
  clear h64
  have hdr1 : ns.drop (p + 1) = k.flat ++ rest := by
    rw [← List.drop_drop, hdr]; simp [Fo.flat]
  have k0 : w.cell? ⟨b, off + p * 6, none⟩ = some (.int .i64 n.kd) := C.lst.at p hp 0 _ (by rw [← hnd]; rfl)
  have k1 : w.cell? ⟨b, off + p * 6 + 1, none⟩ = some (.int .i64 n.ks) := by rw [Nat.add_assoc]; exact C.lst.at p hp 1 _ (by rw [← hnd]; rfl)
  have k2 : w.cell? ⟨b, off + p * 6 + 2, none⟩ = some (sv n.nm) := by rw [Nat.add_assoc]; exact C.lst.at p hp 2 _ (by rw [← hnd]; rfl)
  have k3 : w.cell? ⟨b, off + p * 6 + 3, none⟩ = some (.int .i64 n.op) := by rw [Nat.add_assoc]; exact C.lst.at p hp 3 _ (by rw [← hnd]; rfl)
  have k4 : w.cell? ⟨b, off + p * 6 + 4, none⟩ = some (.int .i64 n.un) := by rw [Nat.add_assoc]; exact C.lst.at p hp 4 _ (by rw [← hnd]; rfl)
  have k5 : w.cell? ⟨b, off + p * 6 + 5, none⟩ = some (.int .i64 n.pl) := by rw [Nat.add_assoc]; exact C.lst.at p hp 5 _ (by rw [← hnd]; rfl)
  have hpi : (p : Int) < ns.length := by omega
  have hp65 : p < 65 := by have := C.sml; omega
  have HN : Hid (NdOk wdB n) := hn
  have HK : Hid (n.ks = (k.len : Int)) := hks
  have hk64 : n.ks ≤ 64 := by
    have h1 := Fo.len_flat k
    have h2 := congrArg List.length hdr1
    simp only [List.length_drop, List.length_append] at h2
    have h3 := C.sml
    omega
  have hks0 : (0 : Int) ≤ n.ks := kids_nn hn
  have HOK : Hid (k.Ok wdB n.kd (d + 1)) := okk
  have HD1 : Hid (ns.drop (p + 1) = k.flat ++ rest) := hdr1
  have HT : Hid ((Fo.cons n k .nil).Ok wdB 0 d) := ⟨⟨hn, fun h => by have := kd_ne_zero hn; omega, hd, hks, okk⟩, trivial⟩
  have HIH : Hid (AllD (DnB s0 w0 ns (some ⟨b, off, none⟩) cap bn bat bd bj (.func (.func 35) #[] #[pt1 bf, pt1 ba, pt1 bq]) vf) k) := ih
  have HC : Hid (DsB ns (some ⟨b, off, none⟩) cap bn bat bd bj (.func (.func 35) #[] #[pt1 bf, pt1 ba, pt1 bq]) w p) := C
  have HBL : Hid (Below s0 w0 w) := hbl
  clear hn hks okk hnd hdr hdr1 ih C hbl
  obtain ⟨R, hR⟩ : ∃ R, val vf n (k.ev vf) = R := ⟨_, rfl⟩
  have HR : Hid (val vf n (k.ev vf) = R) := hR
  rw [hR]
  clear hR
  go_enter Tryz.func58, Tryz.ntmps58
  go_upto_region 2 with fail
  refine ent1 w _ _ (Q := fun W => Code.wp _ _ _ _ W) ?_
  intro W1 hb1 hs1 V1
  have C1 := HC.out.bl hb1
  have g1 := C1.at0.cell
  have f1 := C1.at0.frozen 0
  have G1 : w.grownBy W1 (some bat) := gr_of_below hb1
  have hnb : w.heap.size ≠ bat := by have := HC.out.at0.lt; omega
  have hbl : bat < w.heap.size := HC.out.at0.lt
  have HLO : Hid (bn < w.heap.size + 1 ∧ bat < w.heap.size + 1 ∧ bd < w.heap.size + 1 ∧ bj < w.heap.size + 1 ∧ b < w.heap.size + 1) := by
    have h1 := HC.out.nds.lt; have h2 := HC.out.own.lt; have h3 := HC.out.jn.lt; have h4 := HC.out.lst.lt (by omega)
    exact ⟨by omega, by omega, by omega, by omega, by omega⟩
  clear hb1 c0 c1 k0 k1 k2 k3 k4 k5
  go_upto_region 3 with fail
  refine st1 C1.at0 _ (Q := fun W => Code.wp _ _ _ _ W) ?_
  intro W2 hv2 hg2 hs2
  have C2 : DsB ns (some ⟨b, off, none⟩) cap bn bat bd bj (.func (.func 35) #[] #[pt1 bf, pt1 ba, pt1 bq]) W2 (p + 1) := C1.gr hg2 hv2 hp
  have V2 : Va W2 w.heap.size 48 (cn n) := V1.gr hg2 hnb
  have G2 := gr_trans G1 hg2
  have m0 := V2.n0
  have m1 := V2.n1
  have HC2 : Hid (DsB ns (some ⟨b, off, none⟩) cap bn bat bd bj (.func (.func 35) #[] #[pt1 bf, pt1 ba, pt1 bq]) W2 (p + 1)) := C2
  have HV2 : Hid (Va W2 w.heap.size 48 (cn n)) := V2
  have HG2 : Hid (w.grownBy W2 (some bat)) := G2
  have hsz2 : w.heap.size + 1 ≤ W2.heap.size := by omega
  clear hs1 hs2 hg2 hv2 V1 C1 g1 f1 G1 V2 C2 G2
  go_wp2_with fail
  go_loopw [6, 15] (fun li j wr => ∃ (i : Nat) (kd kr : Fo) (q : Nat), j = .int .i64 i ∧ (i : Int) ≤ n.ks ∧ Hid (k = kd.app kr ∧ kd.len = i ∧ kr.Ok wdB n.kd (d + 1) ∧ ns.drop q = kr.flat ++ rest ∧ q = p + 1 + kd.flat.length) ∧ Hid (AllD (DnB s0 w0 ns (some ⟨b, off, none⟩) cap bn bat bd bj (.func (.func 35) #[] #[pt1 bf, pt1 ba, pt1 bq]) vf) kr) ∧ Hid (DsB ns (some ⟨b, off, none⟩) cap bn bat bd bj (.func (.func 35) #[] #[pt1 bf, pt1 ba, pt1 bq]) wr q) ∧ Hid (Va wr w.heap.size 48 (cn n)) ∧ Hid (w.grownBy wr (some bat)) ∧ Hid (Ge elB wr (w.heap.size + 1) li (kd.ev vf)) ∧ w.heap.size + 1 ≤ wr.heap.size) (fun _ j _ => (n.ks - intOf j).toNat)
  case atStart => exact ⟨0, .nil, k, p + 1, rfl, hks0, ⟨rfl, rfl, HOK.out, HD1.out, rfl⟩, HIH.out, HC2.out, HV2.out, HG2.out, Ge.nil _ _, hsz2⟩
  case round =>
    clear m0 m1 hks0 HC2 HV2 HG2 hsz2
    obtain ⟨i, kd, kr, q, rfl, hik, HX, HA, HCq, HVq, HGq, HLq, hszq⟩ := hrel
    obtain ⟨al, cl, rfl, -, -, -⟩ := HLq.out.shape
    rcases Int.lt_or_le (i : Int) n.ks with hlt | hge
    · have q2 := HCq.out.own.cell
      obtain ⟨m, km, rm, rfl⟩ : ∃ m km rm, kr = .cons m km rm := by
        cases kr with
        | nil =>
          have h1 := HX.out.1; have h2 := HX.out.2.1; have h3 := HK.out
          rw [h1, Fo.len_app] at h3; simp [Fo.len] at h3; omega
        | cons m km rm => exact ⟨m, km, rm, rfl⟩
      have C9 := HA.out.1 n.kd (d + 1) ⟨HX.out.2.2.1.1, trivial⟩ q wr (rm.flat ++ rest) HCq.out (HBL.out.trans (gr_to HGq.out hs hs0)) (by omega) (by rw [HX.out.2.2.2.1]; simp [Fo.flat])
      have xi : IntKind.i64.wrap ((i : Int) + 1) = (i : Int) + 1 := by rw [IntKind.wrap_i64]; omega
      have hlen : (kd.ev vf).length ≤ 64 := by rw [ev_len, HX.out.2.1]; omega
      go_wp2_with fail
      refine C9.mono ?_
      rintro e w5 ⟨rfl, hle, hv5, hg5⟩
      have HC5 : Hid (DsB ns (some ⟨b, off, none⟩) cap bn bat bd bj (.func (.func 35) #[] #[pt1 bf, pt1 ba, pt1 bq]) w5 (q + (Fo.cons m km .nil).flat.length)) := HCq.out.gr hg5 hv5 hle
      have HV5 : Hid (Va w5 w.heap.size 48 (cn n)) := HVq.out.gr hg5 hnb
      have HG5 : Hid (w.grownBy w5 (some bat)) := gr_trans HGq.out hg5
      have HL5 : Hid (Ge elB w5 (w.heap.size + 1) (.slice al (kd.ev vf).length cl) (kd.ev vf)) := HLq.out.grown hg5 (fun e => by have := HLq.out.block _ e; omega)
      have hsz5 : w.heap.size + 1 ≤ w5.heap.size := by have := hg5.size; omega
      clear hle hv5 hg5 C9 HCq HVq HGq HLq q2
      obtain ⟨X, hX⟩ : ∃ X, val vf m (km.ev vf) = X := ⟨_, rfl⟩
      have HXX : Hid (val vf m (km.ev vf) = X) := hX
      rw [hX]
      clear hX
      go_wp2_with (at_builtin; refine wpList_appE rfl _ _ _ rfl elB rfl (w.heap.size + 1) _ (kd.ev vf) rfl (HL5.out.al _) w5.heap.size 0 1 1 [X] rfl (Le.one (Va.new w5 _ _) rfl) (by omega) (by simp; omega) ?_; intro v' w6 hg6 hgr6 hob6; obtain ⟨a6, c6, rfl, -, -, -⟩ := hg6.shape)
      have B6 : Below (w.heap.size + 1) w5 w6 := appE_below hgr6 HL5.out (by simp; omega) ((Below.refl _ _).alloc (by omega) _)
      have HC6 : Hid (DsB ns (some ⟨b, off, none⟩) cap bn bat bd bj (.func (.func 35) #[] #[pt1 bf, pt1 ba, pt1 bq]) w6 (q + (Fo.cons m km .nil).flat.length)) := HC5.out.bel B6 HLO.out
      have HV6 : Hid (Va w6 w.heap.size 48 (cn n)) := HV5.out.below B6 (Nat.lt_succ_self _)
      have HG6 : Hid (w.grownBy w6 (some bat)) := gr_bel HG5.out B6 (Nat.le_succ _)
      have hsz6 : w.heap.size + 1 ≤ w6.heap.size := by have := B6.size; omega
      have HL6 : Hid (Ge elB w6 (w.heap.size + 1) (.slice a6 (kd.ev vf ++ [X]).length c6) (kd.ev vf ++ [X])) := hg6
      clear hg6 hgr6 hob6 B6 HC5 HV5 HG5 HL5
      go_wp2_with fail
      go_roundw
      case rel =>
        refine ⟨i + 1, kd.app (.cons m km .nil), rm, q + (Fo.cons m km .nil).flat.length, rfl, by omega, ⟨?_, ?_, HX.out.2.2.1.2, drop_flat HX.out.2.2.2.1, ?_⟩, HA.out.2, HC6.out, HV6.out, HG6.out, ?_, hsz6⟩
        · rw [HX.out.1, Fo.app_assoc]; rfl
        · rw [Fo.len_app, HX.out.2.1]; rfl
        · rw [HX.out.2.2.2.2, Fo.flat_app, List.length_append]; omega
        · rw [ev_app, ev_cons, HXX.out]
          have := HL6.out
          first | exact this | (rw [List.length_append] at this; exact this)
      case measure => simp [intOf]; omega
    · have hkd : Hid (k = kd ∧ q = p + (Fo.cons n k .nil).flat.length) := by
        have h1 := HX.out.1; have h2 := HX.out.2.1; have h3 := HK.out
        have h4 : kr = .nil := Fo.nil_of_len (by rw [h1, Fo.len_app] at h3; omega)
        rw [h4, Fo.app_nil] at h1
        exact ⟨h1, by rw [HX.out.2.2.2.2, h1]; simp [Fo.flat]; omega⟩
      have q0 := HVq.out.n0
      have q1 := HVq.out.n1
      have q2 := HVq.out.n2
      have q3 := HVq.out.n3
      have q4 := HVq.out.n4
      have q5 := HVq.out.n5
      have q6 := HCq.out.jn.cell
      have C9 := HJ.out n k 0 d HT.out H6.out (by have := HK.out; omega) wr (w.heap.size + 1) (.slice al (kd.ev vf).length cl) (HBL.out.trans (gr_to HGq.out hs hs0)) (by rw [hkd.out.1]; exact HLq.out)
      rw [HR.out] at C9
      go_wp2_with fail
      refine C9.mono ?_
      rintro e w5 ⟨rfl, hb5⟩
      have HC5 : Hid (DsB ns (some ⟨b, off, none⟩) cap bn bat bd bj (.func (.func 35) #[] #[pt1 bf, pt1 ba, pt1 bq]) w5 q) := HCq.out.bl hb5
      have HG5 : Hid (w.grownBy w5 (some bat)) := gr_below HGq.out hb5
      clear hb5 C9 q0 q1 q2 q3 q4 q5 q6 HCq HVq HGq
      go_wp2_with fail
      go_ret
      refine ⟨rfl, ?_, ?_, HG5.out⟩
      · rw [← hkd.out.2]; exact HC5.out.le
      · rw [← hkd.out.2]; exact HC5.out.at0
end Go.Proofs.YtblafbbnplfpjaaGreatDoor
