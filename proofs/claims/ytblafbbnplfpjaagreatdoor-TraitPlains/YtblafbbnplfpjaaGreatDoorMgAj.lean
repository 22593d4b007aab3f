/-
  traits.fold at bool: the closure that goes down.
-/
import Derived.Test.YtblafbbnplfpjaaGreatDoorMgAi
import Derived.Test.YtblafbbnplfpjaaGreatDoorBsA
import Derived.Test.YtblafbbnplfpjaaGreatDoorMgAe
import Derived.Test.YtblafbbnplfpjaaGreatDoorMgAb
namespace Go.Proofs.YtblafbbnplfpjaaGreatDoor
open Go.RowKit Go.Shelf
set_option linter.unusedVariables false

theorem infoB : (Tryz.prog.info? 4).map (fun i => (i.zero, i.size, i.bytes)) = some (some (.bool false), 1, 1) := by kernel_rfl
def elB : El Bool where
  enc := fun b => [.bool b]
  dft := false
  te := 4
  tl := 69
  z := .bool false
  s := 1
  by8 := 1
  len := fun _ => rfl
  one := fun x v hv => by simp at hv; subst hv; rfl
  pos := by decide
  und := Tryz.underlying69
  inf := infoB
  zs := rfl
  bt := by decide
/-- Something of every tree. -/
def AllD (D : Nd → Fo → Prop) : Fo → Prop
  | .nil => True
  | .cons n k r => D n k ∧ AllD D r
theorem allD_of {D : Nd → Fo → Prop} (h : ∀ n k, AllD D k → D n k) : ∀ fo, AllD D fo
  | .nil => trivial
  | .cons n k r => ⟨h n k (allD_of h k), allD_of h r⟩
/-- What a node holds, told what its kids hold. -/
def val (v : Nd → Bool) (n : Nd) (l : List Bool) : Bool := if n.kd = 1 then l.any id else if n.kd = 2 then l.all id else if n.kd = 3 then !(l.headD false) else v n
theorem ev_cons (v : Nd → Bool) (n : Nd) (k r : Fo) : (Fo.cons n k r).ev v = val v n (k.ev v) :: r.ev v := rfl
theorem kids_nn {n : Nd} (h : NdOk wdB n) : 0 ≤ n.ks := by
  rcases h with ⟨-, h, -⟩ | ⟨-, h, -⟩ | ⟨-, h, -⟩ | ⟨-, h, -⟩ <;> omega
theorem drop_flat {ns : List Nd} {q : Nat} {m : Nd} {km rm : Fo} {rest : List Nd} (h : ns.drop q = (Fo.cons m km rm).flat ++ rest) : ns.drop (q + (Fo.cons m km .nil).flat.length) = rm.flat ++ rest := by
  rw [← List.drop_drop, h, show (Fo.cons m km rm).flat ++ rest = (Fo.cons m km .nil).flat ++ (rm.flat ++ rest) by simp [Fo.flat]]
  rw [List.drop_left]
/-- The variables that down goes by: the nodes, the place, itself, join. -/
structure DsB (ns : List Nd) (a : Option Addr) (cap bn bat bd bj : Nat) (jv : Value) (w : World) (p : Nat) : Prop where
  nds : Va w bn 22 #[.slice a ns.length cap]
  at0 : Va w bat 3 #[.int .i64 p]
  own : Va w bd 33 #[.func (.func 58) #[] #[pt1 bn, pt1 bat, pt1 bd, pt1 bj]]
  jn : Va w bj 73 #[jv]
  lst : Le elN w a ns.length ns
  n1 : bn ≠ bat
  n2 : bd ≠ bat
  n3 : ∀ b off, a = some ⟨b, off, none⟩ → b ≠ bat
  n4 : bj ≠ bat
  sml : ns.length ≤ 64
  le : p ≤ ns.length
theorem DsB.gr {ns : List Nd} {a : Option Addr} {cap bn bat bd bj : Nat} {jv : Value} {w w' : World} {p p' : Nat} (h : DsB ns a cap bn bat bd bj jv w p) (hg : w.grownBy w' (some bat)) (hv : Va w' bat 3 #[.int .i64 p']) (hp : p' ≤ ns.length) : DsB ns a cap bn bat bd bj jv w' p' :=
  ⟨h.nds.gr hg h.n1, hv, h.own.gr hg h.n2, h.jn.gr hg h.n4, h.lst.grown hg (fun _ => h.n3), h.n1, h.n2, h.n3, h.n4, h.sml, hp⟩
theorem DsB.bl {ns : List Nd} {a : Option Addr} {cap bn bat bd bj : Nat} {jv : Value} {w w' : World} {p : Nat} (h : DsB ns a cap bn bat bd bj jv w p) (hb : Below w.heap.size w w') : DsB ns a cap bn bat bd bj jv w' p :=
  h.gr (gr_of_below hb) (h.at0.after hb) h.le
theorem gr_bel {a w w' : World} {g B : Nat} (h : a.grownBy w (some g)) (hb : Below B w w') (hB : a.heap.size ≤ B) : a.grownBy w' (some g) :=
  ⟨hb.os.trans h.os, hb.tape.trans h.tape, hb.output.trans h.output, Nat.le_trans h.size hb.size, fun k hk hne => (hb.block k (Nat.lt_of_lt_of_le hk hB)).trans (h.block k hk hne)⟩
theorem DsB.bel {ns : List Nd} {b off cap bn bat bd bj B : Nat} {jv : Value} {w w' : World} {p : Nat} (h : DsB ns (some ⟨b, off, none⟩) cap bn bat bd bj jv w p) (hb : Below B w w') (hl : bn < B ∧ bat < B ∧ bd < B ∧ bj < B ∧ b < B) : DsB ns (some ⟨b, off, none⟩) cap bn bat bd bj jv w' p :=
  ⟨h.nds.below hb hl.1, h.at0.below hb hl.2.1, h.own.below hb hl.2.2.1, h.jn.below hb hl.2.2.2.1, h.lst.kept (fun _ c o e _ => hb.block c (by cases e; exact hl.2.2.2.2)), h.n1, h.n2, h.n3, h.n4, h.sml, h.le⟩
/-- What join owes. -/
def JnB (s0 : Nat) (w0 : World) (bf ba bq : Nat) (vf : Nd → Bool) : Prop := ∀ (n : Nd) (k : Fo) (o : Int) (d : Nat), (Fo.cons n k .nil).Ok wdB o d → N64 n → k.len ≤ 64 → ∀ (W : World) (B : Nat) (kv : Value), Below s0 w0 W → Ge elB W B kv (k.ev vf) →
  Calls Tryz.prog 35 #[nv n, kv, pt1 bf, pt1 ba, pt1 bq] W fun e W' => e = .returned (.bool (val vf n (k.ev vf))) ∧ Below W.heap.size W W'
/-- How down ends. -/
def DnE (ns : List Nd) (bat : Nat) (b : Bool) (p : Nat) (w : World) (e : Ending) (w' : World) : Prop := e = .returned (.bool b) ∧ p ≤ ns.length ∧ Va w' bat 3 #[.int .i64 p] ∧ w.grownBy w' (some bat)
def DnB (s0 : Nat) (w0 : World) (ns : List Nd) (a : Option Addr) (cap bn bat bd bj : Nat) (jv : Value) (vf : Nd → Bool) (n : Nd) (k : Fo) : Prop :=
  ∀ (o : Int) (d : Nat), (Fo.cons n k .nil).Ok wdB o d → ∀ (p : Nat) (w : World) (rest : List Nd), DsB ns a cap bn bat bd bj jv w p → Below s0 w0 w → s0 ≤ w.heap.size → ns.drop p = (Fo.cons n k .nil).flat ++ rest →
    Calls Tryz.prog 58 #[pt1 bn, pt1 bat, pt1 bd, pt1 bj] w (DnE ns bat (val vf n (k.ev vf)) (p + (Fo.cons n k .nil).flat.length) w)
set_option maxHeartbeats 4000000 in
theorem downB (s0 : Nat) (w0 : World) (ns : List Nd) (a : Option Addr) (cap bn bat bd bj bf ba bq : Nat) (vf : Nd → Bool) (hs : s0 ≤ bat) (h64 : ∀ n ∈ ns, N64 n) (HJ : Hid (JnB s0 w0 bf ba bq vf)) :
    ∀ n k, AllD (DnB s0 w0 ns a cap bn bat bd bj (.func (.func 35) #[] #[pt1 bf, pt1 ba, pt1 bq]) vf) k → DnB s0 w0 ns a cap bn bat bd bj (.func (.func 35) #[] #[pt1 bf, pt1 ba, pt1 bq]) vf n k := by
  intro n k ih o d hok p w rest C hbl hs0 hdr
  obtain ⟨⟨hn, -, hd, hks, okk⟩, -⟩ := hok
  have c0 := C.at0.cell
  have c1 := C.nds.cell
  have hp : p < ns.length := by
    rcases Nat.lt_or_ge p ns.length with h | h
    · exact h
    · rw [List.drop_of_length_le h] at hdr; simp [Fo.flat] at hdr
  obtain ⟨b, off, rfl⟩ := C.lst.ex (by omega)
  have hnd : ns.getD p nd0 = n := by
    have h1 := List.drop_eq_getElem_cons hp
    rw [hdr] at h1
    simp only [Fo.flat, List.cons_append, List.cons.injEq] at h1
    rw [List.getD_eq_getElem?_getD, List.getElem?_eq_getElem hp]
    exact h1.1.symm
  have H6 : Hid (N64 n) := h64 n (by rw [← hnd, List.getD_eq_getElem?_getD, List.getElem?_eq_getElem hp]; exact List.getElem_mem hp)
  clear h64
  have hdr1 : ns.drop (p + 1) = k.flat ++ rest := by
    rw [← List.drop_drop, hdr]; simp [Fo.flat]
  have k0 : w.cell? ⟨b, off + p * 6, none⟩ = some (.int .i64 n.kd) := C.lst.at p hp 0 _ (by rw [← hnd]; rfl)
  have k1 : w.cell? ⟨b, off + p * 6 + 1, none⟩ = some (.int .i64 n.ks) := by rw [Nat.add_assoc]; exact C.lst.at p hp 1 _ (by rw [← hnd]; rfl)
  have k2 : w.cell? ⟨b, off + p * 6 + 2, none⟩ = some (sv n.nm) := by rw [Nat.add_assoc]; exact C.lst.at p hp 2 _ (by rw [← hnd]; rfl)
  have k3 : w.cell? ⟨b, off + p * 6 + 3, none⟩ = some (.int .i64 n.op) := by rw [Nat.add_assoc]; exact C.lst.at p hp 3 _ (by rw [← hnd]; rfl)
  have k4 : w.cell? ⟨b, off + p * 6 + 4, none⟩ = some (.int .i64 n.un) := by rw [Nat.add_assoc]; exact C.lst.at p hp 4 _ (by rw [← hnd]; rfl)
  have k5 : w.cell? ⟨b, off + p * 6 + 5, none⟩ = some (.int .i64 n.pl) := by rw [Nat.add_assoc]; exact C.lst.at p hp 5 _ (by rw [← hnd]; rfl)
  have hpi : (p : Int) < ns.length := by omega
  have hp65 : p < 65 := by have := C.sml; omega
  have HN : Hid (NdOk wdB n) := hn
  have HK : Hid (n.ks = (k.len : Int)) := hks
  have hk64 : n.ks ≤ 64 := by
    have h1 := Fo.len_flat k
    have h2 := congrArg List.length hdr1
    simp only [List.length_drop, List.length_append] at h2
    have h3 := C.sml
    omega
  have hks0 : (0 : Int) ≤ n.ks := kids_nn hn
  have HOK : Hid (k.Ok wdB n.kd (d + 1)) := okk
  have HD1 : Hid (ns.drop (p + 1) = k.flat ++ rest) := hdr1
  have HT : Hid ((Fo.cons n k .nil).Ok wdB 0 d) := ⟨⟨hn, fun h => by have := kd_ne_zero hn; omega, hd, hks, okk⟩, trivial⟩
  have HIH : Hid (AllD (DnB s0 w0 ns (some ⟨b, off, none⟩) cap bn bat bd bj (.func (.func 35) #[] #[pt1 bf, pt1 ba, pt1 bq]) vf) k) := ih
  have HC : Hid (DsB ns (some ⟨b, off, none⟩) cap bn bat bd bj (.func (.func 35) #[] #[pt1 bf, pt1 ba, pt1 bq]) w p) := C
  have HBL : Hid (Below s0 w0 w) := hbl
  clear hn hks okk hnd hdr hdr1 ih C hbl
  obtain ⟨R, hR⟩ : ∃ R, val vf n (k.ev vf) = R := ⟨_, rfl⟩
  have HR : Hid (val vf n (k.ev vf) = R) := hR
  rw [hR]
  clear hR
  go_enter Tryz.func58, Tryz.ntmps58
  go_upto_region 2 with fail
  refine ent1 w _ _ (Q := fun W => Code.wp _ _ _ _ W) ?_
  intro W1 hb1 hs1 V1
  have C1 := HC.out.bl hb1
  have g1 := C1.at0.cell
  have f1 := C1.at0.frozen 0
  have G1 : w.grownBy W1 (some bat) := gr_of_below hb1
  have hnb : w.heap.size ≠ bat := by have := HC.out.at0.lt; omega
  have hbl : bat < w.heap.size := HC.out.at0.lt
  have HLO : Hid (bn < w.heap.size + 1 ∧ bat < w.heap.size + 1 ∧ bd < w.heap.size + 1 ∧ bj < w.heap.size + 1 ∧ b < w.heap.size + 1) := by
    have h1 := HC.out.nds.lt; have h2 := HC.out.own.lt; have h3 := HC.out.jn.lt; have h4 := HC.out.lst.lt (by omega)
    exact ⟨by omega, by omega, by omega, by omega, by omega⟩
  clear hb1 c0 c1 k0 k1 k2 k3 k4 k5
  go_upto_region 3 with fail
  refine st1 C1.at0 _ (Q := fun W => Code.wp _ _ _ _ W) ?_
  intro W2 hv2 hg2 hs2
  have C2 : DsB ns (some ⟨b, off, none⟩) cap bn bat bd bj (.func (.func 35) #[] #[pt1 bf, pt1 ba, pt1 bq]) W2 (p + 1) := C1.gr hg2 hv2 hp
  have V2 : Va W2 w.heap.size 48 (cn n) := V1.gr hg2 hnb
  have G2 := gr_trans G1 hg2
  have m0 := V2.n0
  have m1 := V2.n1
  have HC2 : Hid (DsB ns (some ⟨b, off, none⟩) cap bn bat bd bj (.func (.func 35) #[] #[pt1 bf, pt1 ba, pt1 bq]) W2 (p + 1)) := C2
  have HV2 : Hid (Va W2 w.heap.size 48 (cn n)) := V2
  have HG2 : Hid (w.grownBy W2 (some bat)) := G2
  have hsz2 : w.heap.size + 1 ≤ W2.heap.size := by omega
  clear hs1 hs2 hg2 hv2 V1 C1 g1 f1 G1 V2 C2 G2
  go_wp2_with fail
  go_loopw [6, 15] (fun li j wr => ∃ (i : Nat) (kd kr : Fo) (q : Nat), j = .int .i64 i ∧ (i : Int) ≤ n.ks ∧ Hid (k = kd.app kr ∧ kd.len = i ∧ kr.Ok wdB n.kd (d + 1) ∧ ns.drop q = kr.flat ++ rest ∧ q = p + 1 + kd.flat.length) ∧ Hid (AllD (DnB s0 w0 ns (some ⟨b, off, none⟩) cap bn bat bd bj (.func (.func 35) #[] #[pt1 bf, pt1 ba, pt1 bq]) vf) kr) ∧ Hid (DsB ns (some ⟨b, off, none⟩) cap bn bat bd bj (.func (.func 35) #[] #[pt1 bf, pt1 ba, pt1 bq]) wr q) ∧ Hid (Va wr w.heap.size 48 (cn n)) ∧ Hid (w.grownBy wr (some bat)) ∧ Hid (Ge elB wr (w.heap.size + 1) li (kd.ev vf)) ∧ w.heap.size + 1 ≤ wr.heap.size) (fun _ j _ => (n.ks - intOf j).toNat)
  case atStart => exact ⟨0, .nil, k, p + 1, rfl, hks0, ⟨rfl, rfl, HOK.out, HD1.out, rfl⟩, HIH.out, HC2.out, HV2.out, HG2.out, Ge.nil _ _, hsz2⟩
  case round =>
    clear m0 m1 hks0 HC2 HV2 HG2 hsz2
    obtain ⟨i, kd, kr, q, rfl, hik, HX, HA, HCq, HVq, HGq, HLq, hszq⟩ := hrel
    obtain ⟨al, cl, rfl, -, -, -⟩ := HLq.out.shape
    rcases Int.lt_or_le (i : Int) n.ks with hlt | hge
    · have q2 := HCq.out.own.cell
      obtain ⟨m, km, rm, rfl⟩ : ∃ m km rm, kr = .cons m km rm := by
        cases kr with
        | nil =>
          have h1 := HX.out.1; have h2 := HX.out.2.1; have h3 := HK.out
          rw [h1, Fo.len_app] at h3; simp [Fo.len] at h3; omega
        | cons m km rm => exact ⟨m, km, rm, rfl⟩
      have C9 := HA.out.1 n.kd (d + 1) ⟨HX.out.2.2.1.1, trivial⟩ q wr (rm.flat ++ rest) HCq.out (HBL.out.trans (gr_to HGq.out hs hs0)) (by omega) (by rw [HX.out.2.2.2.1]; simp [Fo.flat])
      have xi : IntKind.i64.wrap ((i : Int) + 1) = (i : Int) + 1 := by rw [IntKind.wrap_i64]; omega
      have hlen : (kd.ev vf).length ≤ 64 := by rw [ev_len, HX.out.2.1]; omega
      go_wp2_with fail
      refine C9.mono ?_
      rintro e w5 ⟨rfl, hle, hv5, hg5⟩
      have HC5 : Hid (DsB ns (some ⟨b, off, none⟩) cap bn bat bd bj (.func (.func 35) #[] #[pt1 bf, pt1 ba, pt1 bq]) w5 (q + (Fo.cons m km .nil).flat.length)) := HCq.out.gr hg5 hv5 hle
      have HV5 : Hid (Va w5 w.heap.size 48 (cn n)) := HVq.out.gr hg5 hnb
      have HG5 : Hid (w.grownBy w5 (some bat)) := gr_trans HGq.out hg5
      have HL5 : Hid (Ge elB w5 (w.heap.size + 1) (.slice al (kd.ev vf).length cl) (kd.ev vf)) := HLq.out.grown hg5 (fun e => by have := HLq.out.block _ e; omega)
      have hsz5 : w.heap.size + 1 ≤ w5.heap.size := by have := hg5.size; omega
      clear hle hv5 hg5 C9 HCq HVq HGq HLq q2
      obtain ⟨X, hX⟩ : ∃ X, val vf m (km.ev vf) = X := ⟨_, rfl⟩
      have HXX : Hid (val vf m (km.ev vf) = X) := hX
      rw [hX]
      clear hX
      go_wp2_with (at_builtin; refine wpList_appE rfl _ _ _ rfl elB rfl (w.heap.size + 1) _ (kd.ev vf) rfl (HL5.out.al _) w5.heap.size 0 1 1 [X] rfl (Le.one (Va.new w5 _ _) rfl) (by omega) (by simp; omega) ?_; intro v' w6 hg6 hgr6 hob6; obtain ⟨a6, c6, rfl, -, -, -⟩ := hg6.shape)
      have B6 : Below (w.heap.size + 1) w5 w6 := appE_below hgr6 HL5.out (by simp; omega) ((Below.refl _ _).alloc (by omega) _)
      have HC6 : Hid (DsB ns (some ⟨b, off, none⟩) cap bn bat bd bj (.func (.func 35) #[] #[pt1 bf, pt1 ba, pt1 bq]) w6 (q + (Fo.cons m km .nil).flat.length)) := HC5.out.bel B6 HLO.out
      have HV6 : Hid (Va w6 w.heap.size 48 (cn n)) := HV5.out.below B6 (Nat.lt_succ_self _)
      have HG6 : Hid (w.grownBy w6 (some bat)) := gr_bel HG5.out B6 (Nat.le_succ _)
      have hsz6 : w.heap.size + 1 ≤ w6.heap.size := by have := B6.size; omega
      have HL6 : Hid (Ge elB w6 (w.heap.size + 1) (.slice a6 (kd.ev vf ++ [X]).length c6) (kd.ev vf ++ [X])) := hg6
      clear hg6 hgr6 hob6 B6 HC5 HV5 HG5 HL5
      go_wp2_with fail
      go_roundw
      case rel =>
        refine ⟨i + 1, kd.app (.cons m km .nil), rm, q + (Fo.cons m km .nil).flat.length, rfl, by omega, ⟨?_, ?_, HX.out.2.2.1.2, drop_flat HX.out.2.2.2.1, ?_⟩, HA.out.2, HC6.out, HV6.out, HG6.out, ?_, hsz6⟩
        · rw [HX.out.1, Fo.app_assoc]; rfl
        · rw [Fo.len_app, HX.out.2.1]; rfl
        · rw [HX.out.2.2.2.2, Fo.flat_app, List.length_append]; omega
        · rw [ev_app, ev_cons, HXX.out]
          have := HL6.out
          first | exact this | (rw [List.length_append] at this; exact this)
      case measure => simp [intOf]; omega
    · have hkd : Hid (k = kd ∧ q = p + (Fo.cons n k .nil).flat.length) := by
        have h1 := HX.out.1; have h2 := HX.out.2.1; have h3 := HK.out
        have h4 : kr = .nil := Fo.nil_of_len (by rw [h1, Fo.len_app] at h3; omega)
        rw [h4, Fo.app_nil] at h1
        exact ⟨h1, by rw [HX.out.2.2.2.2, h1]; simp [Fo.flat]; omega⟩
      have q0 := HVq.out.n0
      have q1 := HVq.out.n1
      have q2 := HVq.out.n2
      have q3 := HVq.out.n3
      have q4 := HVq.out.n4
      have q5 := HVq.out.n5
      have q6 := HCq.out.jn.cell
      have C9 := HJ.out n k 0 d HT.out H6.out (by have := HK.out; omega) wr (w.heap.size + 1) (.slice al (kd.ev vf).length cl) (HBL.out.trans (gr_to HGq.out hs hs0)) (by rw [hkd.out.1]; exact HLq.out)
      rw [HR.out] at C9
      go_wp2_with fail
      refine C9.mono ?_
      rintro e w5 ⟨rfl, hb5⟩
      have HC5 : Hid (DsB ns (some ⟨b, off, none⟩) cap bn bat bd bj (.func (.func 35) #[] #[pt1 bf, pt1 ba, pt1 bq]) w5 q) := HCq.out.bl hb5
      have HG5 : Hid (w.grownBy w5 (some bat)) := gr_below HGq.out hb5
      clear hb5 C9 q0 q1 q2 q3 q4 q5 q6 HCq HVq HGq
      go_wp2_with fail
      go_ret
      refine ⟨rfl, ?_, ?_, HG5.out⟩
      · rw [← hkd.out.2]; exact HC5.out.le
      · rw [← hkd.out.2]; exact HC5.out.at0
end Go.Proofs.YtblafbbnplfpjaaGreatDoor
namespace Go.Proofs.YtblafbbnplfpjaaGreatDoor
open Go.RowKit Go.Shelf
set_option linter.unusedVariables false
set_option linter.unusedSimpArgs false

/-- A tree's cells: its node, the list of what is below it. -/
structure Tc where
  n : Nd
  a : Option Addr
  len : Nat
  cap : Nat
def encT (x : Tc) : List Value := encN x.n ++ [.slice x.a x.len x.cap]
abbrev cT (n : Nd) (v : Value) : Array Value := #[.int .i64 n.kd, .int .i64 n.ks, sv n.nm, .int .i64 n.op, .int .i64 n.un, .int .i64 n.pl, v]
abbrev zT : Array Value := #[.int .i64 0, .int .i64 0, .string ⟨#[]⟩, .int .i64 0, .int .i64 0, .int .i64 0, .slice none 0 0]
abbrev tvT (x : Tc) : Value := .agg (cT x.n (.slice x.a x.len x.cap))
theorem infoT : (Tryz.prog.info? 56).map (fun i => (i.zero, i.size, i.bytes)) = some (some (.agg zT), 7, 80) := by kernel_rfl
def elT : El Tc where
  enc := encT
  dft := ⟨nd0, none, 0, 0⟩
  te := 56
  tl := 54
  z := .agg zT
  s := 7
  by8 := 80
  len := fun _ => rfl
  one := fun x v hv => by
    simp [encT, encN] at hv
    rcases hv with rfl | rfl | rfl | rfl | rfl | rfl | rfl <;> rfl
  pos := by decide
  und := Tryz.underlying54
  inf := infoT
  zs := rfl
  bt := by decide
/-- Trees in memory, one behind the other; what is below each lies in blocks that P names. -/
def Rtw (w : World) (P : Nat → Prop) : Fo → List Tc → Prop
  | .nil, ts => ts = []
  | .cons n k r, ts => ∃ t ts' kts, ts = t :: ts' ∧ t.n = n ∧ t.len = k.len ∧ Le elT w t.a t.len kts ∧ (0 < t.len → ∀ b off, t.a = some ⟨b, off, none⟩ → P b) ∧ Rtw w P k kts ∧ Rtw w P r ts'
theorem Rtw.len {w : World} {P : Nat → Prop} : ∀ {f : Fo} {ts : List Tc}, Rtw w P f ts → ts.length = f.len
  | .nil, ts, h => by rw [show ts = [] from h]; rfl
  | .cons n k r, ts, h => by
    obtain ⟨t, ts', kts, rfl, -, -, -, -, -, hr⟩ := h
    rw [List.length_cons, Rtw.len hr]; rfl
theorem Rtw.imp {w w' : World} {P P' : Nat → Prop} (hp : ∀ b, b < w.heap.size → P b → P' b ∧ w'.heap[b]? = w.heap[b]?) : ∀ {f : Fo} {ts : List Tc}, Rtw w P f ts → Rtw w' P' f ts
  | .nil, ts, h => h
  | .cons n k r, ts, h => by
    obtain ⟨t, ts', kts, rfl, h1, h2, h3, h4, h5, h6⟩ := h
    refine ⟨t, ts', kts, rfl, h1, h2, h3.kept (fun h0 b off e hlt => (hp b hlt (h4 h0 b off e)).2), fun h0 b off e => ?_, Rtw.imp hp h5, Rtw.imp hp h6⟩
    exact (hp b (by rw [e] at h3; exact h3.lt h0) (h4 h0 b off e)).1
theorem Rtw.app {w : World} {P : Nat → Prop} : ∀ {f g : Fo} {ts us : List Tc}, Rtw w P f ts → Rtw w P g us → Rtw w P (f.app g) (ts ++ us)
  | .nil, g, ts, us, h, k => by rw [show ts = [] from h]; exact k
  | .cons n k r, g, ts, us, h, hk => by
    obtain ⟨t, ts', kts, rfl, h1, h2, h3, h4, h5, h6⟩ := h
    exact ⟨t, ts' ++ us, kts, rfl, h1, h2, h3, h4, h5, Rtw.app h6 hk⟩
theorem Va.set7 {w : World} {b : Nat} {t : TypeId} {x0 x1 x2 x3 x4 x5 x6 : Value} (h : Va w b t #[x0, x1, x2, x3, x4, x5, x6]) (y0 y1 y2 y3 y4 y5 y6 : Value) :
    Va (((((((w.setCell ⟨b, 0, none⟩ y0).setCell ⟨b, 1, none⟩ y1).setCell ⟨b, 2, none⟩ y2).setCell ⟨b, 3, none⟩ y3).setCell ⟨b, 4, none⟩ y4).setCell ⟨b, 5, none⟩ y5).setCell ⟨b, 6, none⟩ y6) b t #[y0, y1, y2, y3, y4, y5, y6] := by
  unfold Va at *
  simp only [World.setCell]
  rw [Array.getElem?_modify, if_pos rfl, Array.getElem?_modify, if_pos rfl, Array.getElem?_modify, if_pos rfl, Array.getElem?_modify, if_pos rfl, Array.getElem?_modify, if_pos rfl, Array.getElem?_modify, if_pos rfl, Array.getElem?_modify, if_pos rfl, h]
  simp
theorem fa7 (w : World) (b : Nat) (y0 y1 y2 y3 y4 y5 y6 : Value) : ∀ c, c ≠ b → (((((((w.setCell ⟨b, 0, none⟩ y0).setCell ⟨b, 1, none⟩ y1).setCell ⟨b, 2, none⟩ y2).setCell ⟨b, 3, none⟩ y3).setCell ⟨b, 4, none⟩ y4).setCell ⟨b, 5, none⟩ y5).setCell ⟨b, 6, none⟩ y6).heap[c]? = w.heap[c]? := fun c hc => ((Below.heap_setCell _ ⟨b, 6, none⟩ _ _ hc).trans ((Below.heap_setCell _ ⟨b, 5, none⟩ _ _ hc).trans ((Below.heap_setCell _ ⟨b, 4, none⟩ _ _ hc).trans ((Below.heap_setCell _ ⟨b, 3, none⟩ _ _ hc).trans ((Below.heap_setCell _ ⟨b, 2, none⟩ _ _ hc).trans ((Below.heap_setCell _ ⟨b, 1, none⟩ _ _ hc).trans (Below.heap_setCell _ ⟨b, 0, none⟩ _ _ hc)))))))
theorem below_7 {B : Nat} {a w : World} (h : Below B a w) {c : Nat} (hc : B ≤ c) (y0 y1 y2 y3 y4 y5 y6 : Value) : Below B a (((((((w.setCell ⟨c, 0, none⟩ y0).setCell ⟨c, 1, none⟩ y1).setCell ⟨c, 2, none⟩ y2).setCell ⟨c, 3, none⟩ y3).setCell ⟨c, 4, none⟩ y4).setCell ⟨c, 5, none⟩ y5).setCell ⟨c, 6, none⟩ y6) := (((((((h.setCell (p := ⟨c, 0, none⟩) hc y0).setCell (p := ⟨c, 1, none⟩) hc y1).setCell (p := ⟨c, 2, none⟩) hc y2).setCell (p := ⟨c, 3, none⟩) hc y3).setCell (p := ⟨c, 4, none⟩) hc y4).setCell (p := ⟨c, 5, none⟩) hc y5).setCell (p := ⟨c, 6, none⟩) hc y6)
theorem Va.t0 {w : World} {b : Nat} {t : TypeId} {x0 x1 x2 x3 x4 x5 x6 : Value} (h : Va w b t #[x0, x1, x2, x3, x4, x5, x6]) : w.cell? ⟨b, 0, none⟩ = some x0 := by rw [h.cellAt 0]; rfl
theorem Va.t1 {w : World} {b : Nat} {t : TypeId} {x0 x1 x2 x3 x4 x5 x6 : Value} (h : Va w b t #[x0, x1, x2, x3, x4, x5, x6]) : w.cell? ⟨b, 1, none⟩ = some x1 := by rw [h.cellAt 1]; rfl
theorem Va.t2 {w : World} {b : Nat} {t : TypeId} {x0 x1 x2 x3 x4 x5 x6 : Value} (h : Va w b t #[x0, x1, x2, x3, x4, x5, x6]) : w.cell? ⟨b, 2, none⟩ = some x2 := by rw [h.cellAt 2]; rfl
theorem Va.t3 {w : World} {b : Nat} {t : TypeId} {x0 x1 x2 x3 x4 x5 x6 : Value} (h : Va w b t #[x0, x1, x2, x3, x4, x5, x6]) : w.cell? ⟨b, 3, none⟩ = some x3 := by rw [h.cellAt 3]; rfl
theorem Va.t4 {w : World} {b : Nat} {t : TypeId} {x0 x1 x2 x3 x4 x5 x6 : Value} (h : Va w b t #[x0, x1, x2, x3, x4, x5, x6]) : w.cell? ⟨b, 4, none⟩ = some x4 := by rw [h.cellAt 4]; rfl
theorem Va.t5 {w : World} {b : Nat} {t : TypeId} {x0 x1 x2 x3 x4 x5 x6 : Value} (h : Va w b t #[x0, x1, x2, x3, x4, x5, x6]) : w.cell? ⟨b, 5, none⟩ = some x5 := by rw [h.cellAt 5]; rfl
theorem Va.t6 {w : World} {b : Nat} {t : TypeId} {x0 x1 x2 x3 x4 x5 x6 : Value} (h : Va w b t #[x0, x1, x2, x3, x4, x5, x6]) : w.cell? ⟨b, 6, none⟩ = some x6 := by rw [h.cellAt 6]; rfl
theorem results_tn {fn : Func} {j k b : Nat} {x0 x1 x2 x3 x4 x5 x6 u : Value} {tmps : Array Value} {w : World} (h : fn.results = #[.cell j 56, .tmp k]) (hj : tmps.getD j undef = .pointer (some ⟨b, 0, none⟩)) (hk : tmps.getD k undef = u) (hv : Va w b 56 #[x0, x1, x2, x3, x4, x5, x6]) :
    (results fn tmps).run Tryz.prog w = .ok (.tuple #[.agg #[x0, x1, x2, x3, x4, x5, x6], u]) w := by
  have c0 := hv.t0
  have c1 := hv.t1
  have c2 := hv.t2
  have c3 := hv.t3
  have c4 := hv.t4
  have c5 := hv.t5
  have c6 := hv.t6
  rw [Array.getD_eq_getD_getElem?] at hj hk
  simp [results, h, hj, hk, c0, c1, c2, c3, c4, c5, c6, go_sem]
theorem Va.setT6 {w : World} {b : Nat} {t : TypeId} {x0 x1 x2 x3 x4 x5 x6 : Value} (h : Va w b t #[x0, x1, x2, x3, x4, x5, x6]) (y : Value) : Va (w.setCell ⟨b, 6, none⟩ y) b t #[x0, x1, x2, x3, x4, x5, y] := by
  unfold Va at *
  simp only [World.setCell]
  rw [Array.getElem?_modify, if_pos rfl, h]
  simp
theorem Va.keptW {w w' : World} {b : Nat} {t : TypeId} {cs : Array Value} (h : Va w b t cs) (hk : w'.heap[b]? = w.heap[b]?) : Va w' b t cs := by unfold Va at *; rw [hk]; exact h
end Go.Proofs.YtblafbbnplfpjaaGreatDoor
namespace Go.Proofs.YtblafbbnplfpjaaGreatDoor.H
/-- The number that a list of digits to the base 2^32 says. -/
def num : List Int → Int
  | [] => 0
  | z :: r => z + 4294967296 * num r
/-- A power of 2^32. -/
def pw : Nat → Int
  | 0 => 1
  | n + 1 => 4294967296 * pw n
/-- Each is a digit to the base 2^32. -/
def Limbs (zs : List Int) : Prop := ∀ z ∈ zs, 0 ≤ z ∧ z < 4294967296
theorem pw_pos : ∀ n, 0 < pw n
  | 0 => by decide
  | n + 1 => by have := pw_pos n; simp only [pw]; omega
theorem pw_add : ∀ m n, pw (m + n) = pw m * pw n
  | 0, n => by simp [pw]
  | m + 1, n => by rw [Nat.add_right_comm, pw, pw, pw_add m n, Int.mul_assoc]
theorem pw_mono {m n : Nat} (h : m ≤ n) : pw m ≤ pw n := by
  obtain ⟨k, rfl⟩ := Nat.exists_eq_add_of_le h
  rw [pw_add]
  have h1 := pw_pos m; have h2 := pw_pos k
  have : pw m * 1 ≤ pw m * pw k := Int.mul_le_mul_of_nonneg_left (by omega) (by omega)
  omega
theorem Limbs.tail {z : Int} {r : List Int} (h : Limbs (z :: r)) : Limbs r := fun x hx => h x (List.mem_cons_of_mem _ hx)
theorem Limbs.head {z : Int} {r : List Int} (h : Limbs (z :: r)) : 0 ≤ z ∧ z < 4294967296 := h z (List.mem_cons_self ..)
theorem Limbs.getD {zs : List Int} (h : Limbs zs) (i : Nat) : 0 ≤ zs.getD i 0 ∧ zs.getD i 0 < 4294967296 := by
  rw [List.getD_eq_getElem?_getD]
  rcases Nat.lt_or_ge i zs.length with hi | hi
  · rw [List.getElem?_eq_getElem hi]; exact h _ (List.getElem_mem hi)
  · rw [List.getElem?_eq_none hi]; decide
theorem Limbs.take {zs : List Int} (h : Limbs zs) (n : Nat) : Limbs (zs.take n) := fun x hx => h x (List.mem_of_mem_take hx)
theorem Limbs.drop {zs : List Int} (h : Limbs zs) (n : Nat) : Limbs (zs.drop n) := fun x hx => h x (List.mem_of_mem_drop hx)
theorem Limbs.append {a b : List Int} (h : Limbs a) (k : Limbs b) : Limbs (a ++ b) := fun x hx => by
  rcases List.mem_append.1 hx with h' | h'
  · exact h x h'
  · exact k x h'
theorem Limbs.set {zs : List Int} (h : Limbs zs) (i : Nat) {v : Int} (hv : 0 ≤ v ∧ v < 4294967296) : Limbs (zs.set i v) := fun x hx => by
  rcases List.mem_or_eq_of_mem_set hx with h' | h'
  · exact h x h'
  · rw [h']; exact hv
theorem Limbs.zeros (n : Nat) : Limbs (List.replicate n 0) := fun x hx => by
  rw [List.eq_of_mem_replicate hx]; decide
theorem Limbs.nil : Limbs [] := fun _ hx => by cases hx
theorem num_nonneg : ∀ {zs : List Int}, Limbs zs → 0 ≤ num zs
  | [], _ => by decide
  | z :: r, h => by
    have h1 := num_nonneg h.tail; have h2 := h.head
    simp only [num]; omega
theorem num_lt : ∀ {zs : List Int}, Limbs zs → num zs < pw zs.length
  | [], _ => by decide
  | z :: r, h => by
    have h1 := num_lt h.tail; have h2 := h.head
    simp only [num, List.length_cons, pw]; omega
theorem num_append : ∀ (a b : List Int), num (a ++ b) = num a + num b * pw a.length
  | [], b => by simp [num, pw]
  | z :: r, b => by
    simp only [List.cons_append, num, List.length_cons, pw, num_append r b]
    rw [Int.mul_add, Int.mul_left_comm (num b), Int.add_assoc]
theorem num_zeros (n : Nat) : num (List.replicate n 0) = 0 := by
  induction n with
  | zero => rfl
  | succ n ih => simp only [List.replicate_succ, num, ih]; decide
theorem num_snoc (a : List Int) (z : Int) : num (a ++ [z]) = num a + z * pw a.length := by
  rw [num_append]; simp [num]
theorem num_take_succ (zs : List Int) (k : Nat) : num (zs.take (k + 1)) = num (zs.take k) + zs.getD k 0 * pw k := by
  rcases Nat.lt_or_ge k zs.length with h | h
  · rw [List.take_succ_eq_append_getElem h, num_snoc, List.length_take, Nat.min_eq_left (by omega), List.getD_eq_getElem?_getD, List.getElem?_eq_getElem h]; rfl
  · rw [List.take_of_length_le (by omega), List.take_of_length_le h, List.getD_eq_getElem?_getD, List.getElem?_eq_none h]; simp
theorem num_take_drop (zs : List Int) (k : Nat) (h : k ≤ zs.length) : num zs = num (zs.take k) + num (zs.drop k) * pw k := by
  have := num_append (zs.take k) (zs.drop k)
  rw [List.take_append_drop, List.length_take, Nat.min_eq_left h] at this; exact this
theorem num_take_of_zeros {zs : List Int} {u : Nat} (h : ∀ i, u ≤ i → zs.getD i 0 = 0) : ∀ k, num (zs.take (u + k)) = num (zs.take u)
  | 0 => rfl
  | k + 1 => by rw [← Nat.add_assoc, num_take_succ, h (u + k) (by omega), num_take_of_zeros h k]; simp
theorem num_take_used (zs : List Int) {n : Nat} (h : usedN zs ≤ n) : num (zs.take n) = num zs := by
  have e := num_take_of_zeros (zs := zs) (u := usedN zs) (usedN_beyond zs)
  have a := e (n - usedN zs); have b := e (zs.length - usedN zs)
  have c := usedN_le zs
  rw [Nat.add_sub_cancel' h] at a
  rw [Nat.add_sub_cancel' c, List.take_of_length_le (Nat.le_refl _)] at b
  rw [a, b]
theorem num_lt_used {zs : List Int} (h : Limbs zs) : num zs < pw (usedN zs) := by
  have := num_lt (h.take (usedN zs))
  rw [num_take_used zs (Nat.le_refl _), List.length_take, Nat.min_eq_left (usedN_le zs)] at this; exact this
theorem num_ge_used {zs : List Int} (h : Limbs zs) (hu : 0 < usedN zs) : pw (usedN zs - 1) ≤ num zs := by
  have e := num_take_succ zs (usedN zs - 1)
  rw [Nat.sub_add_cancel hu, num_take_used zs (Nat.le_refl _)] at e
  have h1 := num_nonneg (h.take (usedN zs - 1))
  have h2 := usedN_top zs hu
  have h3 := h.getD (usedN zs - 1)
  have h4 := pw_pos (usedN zs - 1)
  have : 1 * pw (usedN zs - 1) ≤ zs.getD (usedN zs - 1) 0 * pw (usedN zs - 1) := Int.mul_le_mul_of_nonneg_right (by omega) (by omega)
  omega
theorem num_eq_zero {zs : List Int} (h : Limbs zs) : num zs = 0 ↔ usedN zs = 0 := by
  constructor
  · intro e
    rcases Nat.eq_zero_or_pos (usedN zs) with h0 | h0
    · exact h0
    · have := num_ge_used h h0; have := pw_pos (usedN zs - 1); omega
  · intro e
    rw [← num_take_used zs (Nat.le_refl _), e]; rfl
/-- One list a number. -/
theorem num_inj : ∀ {a b : List Int}, Limbs a → Limbs b → a.length = b.length → num a = num b → a = b
  | [], [], _, _, _, _ => rfl
  | [], _ :: _, _, _, h, _ => by simp at h
  | _ :: _, [], _, _, h, _ => by simp at h
  | x :: r, y :: s, ha, hb, h, e => by
    simp only [num] at e
    have h1 := ha.head; have h2 := hb.head
    have : x = y := by omega
    subst this
    rw [num_inj ha.tail hb.tail (by simpa using h) (by omega)]
theorem used_of_num {a b : List Int} (ha : Limbs a) (hb : Limbs b) (e : num a = num b) : usedN a = usedN b := by
  rcases Nat.lt_trichotomy (usedN a) (usedN b) with h | h | h
  · have h1 := num_lt_used ha; have h2 := num_ge_used hb (by omega)
    have := pw_mono (show usedN a ≤ usedN b - 1 by omega); omega
  · exact h
  · have h1 := num_lt_used hb; have h2 := num_ge_used ha (by omega)
    have := pw_mono (show usedN b ≤ usedN a - 1 by omega); omega
theorem trim_eq {a b : List Int} (ha : Limbs a) (hb : Limbs b) (e : num a = num b) : a.take (usedN a) = b.take (usedN b) := by
  have h := used_of_num ha hb e
  refine num_inj (ha.take _) (hb.take _) ?_ ?_
  · have := usedN_le a; have := usedN_le b
    rw [List.length_take, List.length_take]; omega
  · rw [num_take_used a (Nat.le_refl _), num_take_used b (Nat.le_refl _), e]
theorem num_set_take (zs : List Int) (i : Nat) (v : Int) (h : i < zs.length) : num ((zs.set i v).take (i + 1)) = num (zs.take i) + v * pw i := by
  rw [num_take_succ, List.take_set_of_le (Nat.le_refl _), List.getD_eq_getElem?_getD, List.getElem?_set_self h]; rfl
theorem carry_step {v c' s p : Int} (h : v + 4294967296 * c' = s) : v * p + c' * (4294967296 * p) = s * p := by
  rw [← h, Int.add_mul, Int.mul_comm 4294967296 c', Int.mul_assoc]
theorem Limbs.up {zs : List Int} (h : Limbs zs) : Go.Proofs.YtblafbbnplfpjaaGreatDoor.Limbs zs := fun z hz => ⟨(h z hz).1, by have := (h z hz).2; omega⟩
theorem Limbs.snoc {zs : List Int} {v : Int} (h : Limbs zs) (hv : 0 ≤ v ∧ v < 4294967296) : Limbs (zs ++ [v]) := h.append (fun z hz => by rw [List.mem_singleton.1 hz]; exact hv)
end Go.Proofs.YtblafbbnplfpjaaGreatDoor.H

namespace Go.Proofs.YtblafbbnplfpjaaGreatDoor
open Go.RowKit Go.Shelf

theorem Gr.alloc {w : World} {B : Nat} {v : Value} {cs : List Int} (h : Gr w B v cs) (o : Obj) : Gr (w.alloc o) B v cs := World.ownsRow.alloc h o
theorem Gr.drew {w : World} {B : Nat} {v : Value} {cs : List Int} (h : Gr w B v cs) : Gr w.drew B v cs := h
end Go.Proofs.YtblafbbnplfpjaaGreatDoor

namespace Go.Proofs.YtblafbbnplfpjaaGreatDoor
open Go.RowKit Go.Shelf

end Go.Proofs.YtblafbbnplfpjaaGreatDoor

namespace Go.Proofs.YtblafbbnplfpjaaGreatDoor.H
theorem num_above {a b : List Int} {t : Nat} (h : ∀ j, t ≤ j → a.getD j 0 = b.getD j 0) : ∀ k, num (a.take (t + k)) - num (a.take t) = num (b.take (t + k)) - num (b.take t)
  | 0 => by simp only [Nat.add_zero]; omega
  | k + 1 => by
    have ih := num_above h k
    rw [← Nat.add_assoc, num_take_succ, num_take_succ, h (t + k) (by omega)]; omega
theorem num_above' {a b : List Int} {t : Nat} (h : ∀ j, t ≤ j → a.getD j 0 = b.getD j 0) : num a - num (a.take t) = num b - num (b.take t) := by
  have e := num_above h (a.length + b.length)
  have e1 : a.take (t + (a.length + b.length)) = a := List.take_of_length_le (by omega)
  have e2 : b.take (t + (a.length + b.length)) = b := List.take_of_length_le (by omega)
  rw [e1, e2] at e; exact e
/-- The highest limb in which they differ decides. -/
theorem num_lt_at {a b : List Int} {t : Nat} (ha : Limbs a) (hb : Limbs b) (h : ∀ j, t < j → a.getD j 0 = b.getD j 0) (hlt : a.getD t 0 < b.getD t 0) : num a < num b := by
  have e := num_above' (t := t + 1) (fun j hj => h j (by omega))
  rw [num_take_succ, num_take_succ] at e
  have h1 := num_lt (ha.take t); have h2 := num_nonneg (hb.take t)
  have h3 : num (a.take t) < pw t := by
    refine Int.lt_of_lt_of_le h1 (pw_mono ?_)
    rw [List.length_take]; omega
  have h4 : (a.getD t 0 + 1) * pw t ≤ b.getD t 0 * pw t := Int.mul_le_mul_of_nonneg_right (by omega) (by have := pw_pos t; omega)
  rw [Int.add_mul, Int.one_mul] at h4
  omega
theorem num_lt_len {a b : List Int} (ha : Limbs a) (hb : Limbs b) (h : usedN a < usedN b) : num a < num b := by
  have h1 := num_lt_used ha; have h2 := num_ge_used hb (by omega)
  have := pw_mono (show usedN a ≤ usedN b - 1 by omega); omega
theorem num_eq_of {a b : List Int} (h : ∀ j, a.getD j 0 = b.getD j 0) : num a = num b := by
  have e := num_above' (a := a) (b := b) (t := 0) (fun j _ => h j)
  simp [num] at e; omega
theorem num_set (zs : List Int) (j : Nat) (v : Int) (h : j < zs.length) : num (zs.set j v) = num zs + (v - zs.getD j 0) * pw j := by
  have e := num_above' (a := zs.set j v) (b := zs) (t := j + 1) (fun i hi => getD_set_other zs j i v (by omega))
  rw [num_set_take _ _ _ h, num_take_succ] at e
  rw [Int.sub_mul]
  omega
end Go.Proofs.YtblafbbnplfpjaaGreatDoor.H
