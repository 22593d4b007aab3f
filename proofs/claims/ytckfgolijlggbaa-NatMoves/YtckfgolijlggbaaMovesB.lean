/-
  The walk of NatMoves: each call by its contract.
-/
import Derived.Test.YtckfgolijlggbaaMovesA
namespace Go.Proofs.Ytckfgolijlggbaa.natMoves
open Go.RowKit Go.Shelf
set_option linter.unusedVariables false

set_option maxRecDepth 20000 in
set_option maxHeartbeats 4000000 in
theorem walk_d (a0 : Option Addr) (len0 cap0 : Nat) (z0 : List Int) (t : Int) (w : World) (s0 : Sl w a0 len0 z0) (c0 : len0 ≤ cap0) (r0 : cap0 ≤ 17592186043904) (e0 : a0 = none → len0 = 0 ∧ cap0 = 0) (ht : (Lit.int .i64 t).wf = true) (u0 : usedN z0 ≤ 4096) (h0 : 0 ≤ t) (h3 : t ≤ 300000) (hne : num z0 ≠ 0) (hf : num z0 = 0 ∨ ∀ zs, Limbs zs → num zs = num z0 → bitsN zs + t ≤ 262144) :
    Calls Try.prog 4 #[.slice a0 len0 cap0, .int .i64 t] w fun e w' => e = .returned (.bool true) ∧ Below w.heap.size w w' := by
  have B0 : Below w.heap.size w w := Below.refl _ _
  go_enter Try.func4, Try.ntmps4
  go_wp2_with fail
  refine (nawake_any w).mono ?_
  rintro e x1 ⟨rfl, hb⟩
  replace s0 := s0.below hb (Nat.le_refl _)
  replace B0 := step B0 hb
  clear hb
  go_wp2_with fail
  refine (rlong_no a0 len0 cap0 z0 x1 s0 (by omega) u0).mono ?_
  rintro e x2 ⟨rfl, hb⟩
  replace s0 := s0.below hb (Nat.le_refl _)
  replace B0 := step B0 hb
  clear hb
  go_wp2_with fail
  refine (oflaw_ok a0 len0 cap0 z0 x2 s0 e0 (by omega) c0 u0).mono ?_
  rintro e x3 ⟨ax, lx, kx, zx, rfl, hx, nx, hb⟩
  replace s0 := s0.below hb (Nat.le_refl _)
  replace B0 := step B0 hb
  clear hb
  go_wp2_with fail
  refine ent1 x3 _ _ (Q := fun W => Calls Try.prog _ _ W _) ?_
  intro x4 hb hs_x4 Vx
  replace hx := Nt.after hb hx
  replace s0 := s0.below hb (Nat.le_refl _)
  replace B0 := step B0 hb
  clear hb hs_x4
  clear s0 e0
  have bx := bits_limbs hx.limbs
  have lx4 := hx.2
  have HBX : Hid (bitsN zx ≤ 262144) := (by omega : bitsN zx ≤ 262144)
  clear bx lx4
  obtain ⟨n, rfl⟩ := Int.eq_ofNat_of_zero_le h0
  refine (nleft_ok ax lx kx zx n x4 hx (hf.imp (fun h => by rw [nx]; exact h) (fun h => h zx hx.limbs nx))).mono ?_
  rintro e x5 ⟨au, lu, ku, zu, rfl, hu, nu, hb⟩
  replace Vx := Va.after hb Vx
  replace hx := Nt.after hb hx
  replace B0 := step B0 hb
  clear hb
  have c_Vx := Vx.cell
  have f_Vx := Vx.frozen 0
  have l_Vx := Vx.lt
  have m_Vx := Nat.le_of_lt l_Vx
  go_wp2_with fail
  refine ent1 x5 _ _ (Q := fun W => Calls Try.prog _ _ W _) ?_
  intro x6 hb hs_x6 Vu
  replace Vx := Va.after hb Vx
  replace hx := Nt.after hb hx
  replace hu := Nt.after hb hu
  replace B0 := step B0 hb
  clear hb hs_x6
  refine (nright_ok au lu ku zu n x6 hu (by omega)).mono ?_
  rintro e x7 ⟨ad, ld, kd, zd, rfl, hd, nd, hb⟩
  replace Vx := Va.after hb Vx
  replace Vu := Va.after hb Vu
  replace hx := Nt.after hb hx
  replace hu := Nt.after hb hu
  replace B0 := step B0 hb
  clear hb
  rw [nu, Int.mul_ediv_cancel _ (Int.ne_of_gt (p2_pos n))] at nd
  clear c_Vx f_Vx l_Vx m_Vx
  have c_Vx := Vx.cell
  have f_Vx := Vx.frozen 0
  have l_Vx := Vx.lt
  have m_Vx := Nat.le_of_lt l_Vx
  have c_Vu := Vu.cell
  have f_Vu := Vu.frozen 0
  have l_Vu := Vu.lt
  have m_Vu := Nat.le_of_lt l_Vu
  go_wp2_with fail
  refine ent1 x7 _ _ (Q := fun W => Code.wp Try.prog _ _ _ W) ?_
  intro x8 hb hs_x8 Vd
  replace Vx := Va.after hb Vx
  replace Vu := Va.after hb Vu
  replace hx := Nt.after hb hx
  replace hu := Nt.after hb hu
  replace hd := Nt.after hb hd
  replace B0 := step B0 hb
  clear hb hs_x8
  clear c_Vx f_Vx l_Vx m_Vx c_Vu f_Vu l_Vu m_Vu
  have c_Vx := Vx.cell
  have f_Vx := Vx.frozen 0
  have l_Vx := Vx.lt
  have m_Vx := Nat.le_of_lt l_Vx
  have c_Vu := Vu.cell
  have f_Vu := Vu.frozen 0
  have l_Vu := Vu.lt
  have m_Vu := Nat.le_of_lt l_Vu
  have c_Vd := Vd.cell
  have f_Vd := Vd.frozen 0
  have l_Vd := Vd.lt
  have m_Vd := Nat.le_of_lt l_Vd
  have hz : num zx ≠ 0 := by rw [nx]; exact hne
  have gz : ((lx : Int) == 0) = false := by rw [hx.zero]; simpa using hz
  have hbu := bits_up hx.limbs hu.limbs hz nu
  obtain ⟨bx, hbx⟩ : ∃ b, bitsN zx = b := ⟨_, rfl⟩
  have bx0 := (bits_limbs hx.limbs).1
  have bx1 := HBX.out
  rw [hbx] at hbu bx0 bx1
  have HBU : Hid (bitsN zu = bx + n) := hbu
  have HBB : Hid (bitsN zx = bx) := hbx
  clear hbu hbx
  have ew : IntKind.i64.wrap (bx + n) = bx + n := by rw [IntKind.wrap_i64]; omega
  have HND : Hid (num zd = num zx) := nd
  have HX0 : Hid (num zx = num z0) := nx
  have hI : (x8.drew.cell? ⟨x7.heap.size, 0, none⟩ = some (.slice ad ld kd) ∧ Hid (HV w x7.heap.size ad ld kd zd x8.drew)) ∧ (x8.drew.cell? ⟨x3.heap.size, 0, none⟩ = some (.slice ax lx kx) ∧ Hid (HV w x3.heap.size ax lx kx zx x8.drew)) ∧ (x8.drew.cell? ⟨x5.heap.size, 0, none⟩ = some (.slice au lu ku) ∧ Hid (HV w x5.heap.size au lu ku zu x8.drew)) := ⟨HV.drew Vd hd B0, HV.drew Vx hx B0, HV.drew Vu hu B0⟩
  have hI0 : (x8.cell? ⟨x7.heap.size, 0, none⟩ = some (.slice ad ld kd) ∧ Hid (HV w x7.heap.size ad ld kd zd x8)) ∧ (x8.cell? ⟨x3.heap.size, 0, none⟩ = some (.slice ax lx kx) ∧ Hid (HV w x3.heap.size ax lx kx zx x8)) ∧ (x8.cell? ⟨x5.heap.size, 0, none⟩ = some (.slice au lu ku) ∧ Hid (HV w x5.heap.size au lu ku zu x8)) := ⟨HV.mk' Vd hd B0, HV.mk' Vx hx B0, HV.mk' Vu hu B0⟩
  clear nd nx nu hz hne hf
  go_cut [68] (fun s68 W => s68 = .bool false ∧ Hid ((W.cell? ⟨x7.heap.size, 0, none⟩ = some (.slice ad ld kd) ∧ Hid (HV w x7.heap.size ad ld kd zd W)) ∧ (W.cell? ⟨x3.heap.size, 0, none⟩ = some (.slice ax lx kx) ∧ Hid (HV w x3.heap.size ax lx kx zx W)) ∧ (W.cell? ⟨x5.heap.size, 0, none⟩ = some (.slice au lu ku) ∧ Hid (HV w x5.heap.size au lu ku zu W))))
  case first =>
    go_region_held3 (fun W => (W.cell? ⟨x7.heap.size, 0, none⟩ = some (.slice ad ld kd) ∧ Hid (HV w x7.heap.size ad ld kd zd W)) ∧ (W.cell? ⟨x3.heap.size, 0, none⟩ = some (.slice ax lx kx) ∧ Hid (HV w x3.heap.size ax lx kx zx W)) ∧ (W.cell? ⟨x5.heap.size, 0, none⟩ = some (.slice au lu ku) ∧ Hid (HV w x5.heap.size au lu ku zu W)))
      (first | assumption | exact H3.call (by assumption) (by assumption))
      (first
        | (go_at_call 12; refine (ncompare_any ad ax ld kd lx kx zd zx _ (H3.n1 (w := w) (b1 := x7.heap.size) (b2 := x3.heap.size) (b3 := x5.heap.size) (a1 := ad) (l1 := ld) (c1 := kd) (z1 := zd) (a2 := ax) (l2 := lx) (c2 := kx) (z2 := zx) (a3 := au) (l3 := lu) (c3 := ku) (z3 := zu) (by assumption)) (H3.n2 (w := w) (b1 := x7.heap.size) (b2 := x3.heap.size) (b3 := x5.heap.size) (a1 := ad) (l1 := ld) (c1 := kd) (z1 := zd) (a2 := ax) (l2 := lx) (c2 := kx) (z2 := zx) (a3 := au) (l3 := lu) (c3 := ku) (z3 := zu) (by assumption))).mono ?_; rintro e y1 ⟨rfl, b1⟩; rw [cmp3_eq HND.out]; have hY1 := H3.call (w := w) (b1 := x7.heap.size) (b2 := x3.heap.size) (b3 := x5.heap.size) (a1 := ad) (l1 := ld) (c1 := kd) (z1 := zd) (a2 := ax) (l2 := lx) (c2 := kx) (z2 := zx) (a3 := au) (l3 := lu) (c3 := ku) (z3 := zu) b1 (by assumption))
        | (go_at_call 16; refine (isZero_any ax lx kx _).mono ?_; rintro e y2 ⟨rfl, b2⟩; rw [gz]; have hY2 := H3.call (w := w) (b1 := x7.heap.size) (b2 := x3.heap.size) (b3 := x5.heap.size) (a1 := ad) (l1 := ld) (c1 := kd) (z1 := zd) (a2 := ax) (l2 := lx) (c2 := kx) (z2 := zx) (a3 := au) (l3 := lu) (c3 := ku) (z3 := zu) b2 (by assumption))
        | (go_at_call_of 17 (Value.slice au lu ku); refine (nbits_any au lu ku zu _ (H3.n3 (w := w) (b1 := x7.heap.size) (b2 := x3.heap.size) (b3 := x5.heap.size) (a1 := ad) (l1 := ld) (c1 := kd) (z1 := zd) (a2 := ax) (l2 := lx) (c2 := kx) (z2 := zx) (a3 := au) (l3 := lu) (c3 := ku) (z3 := zu) (by assumption))).mono ?_; rintro e y3 ⟨rfl, b3⟩; rw [HBU.out]; have hY3 := H3.call (w := w) (b1 := x7.heap.size) (b2 := x3.heap.size) (b3 := x5.heap.size) (a1 := ad) (l1 := ld) (c1 := kd) (z1 := zd) (a2 := ax) (l2 := lx) (c2 := kx) (z2 := zx) (a3 := au) (l3 := lu) (c3 := ku) (z3 := zu) b3 (by assumption))
        | (go_at_call_of 17 (Value.slice ax lx kx); refine (nbits_any ax lx kx zx _ (H3.n2 (w := w) (b1 := x7.heap.size) (b2 := x3.heap.size) (b3 := x5.heap.size) (a1 := ad) (l1 := ld) (c1 := kd) (z1 := zd) (a2 := ax) (l2 := lx) (c2 := kx) (z2 := zx) (a3 := au) (l3 := lu) (c3 := ku) (z3 := zu) (by assumption))).mono ?_; rintro e y4 ⟨rfl, b4⟩; rw [HBB.out]; have hY4 := H3.call (w := w) (b1 := x7.heap.size) (b2 := x3.heap.size) (b3 := x5.heap.size) (a1 := ad) (l1 := ld) (c1 := kd) (z1 := zd) (a2 := ax) (l2 := lx) (c2 := kx) (z2 := zx) (a3 := au) (l3 := lu) (c3 := ku) (z3 := zu) b4 (by assumption)))
    all_goals
      go_wp2_with fail
      go_meet
      exact ⟨rfl, by assumption⟩
  case rest =>
    obtain ⟨rfl, hH⟩ := hcut
    clear Vd Vx Vu hd hx hu B0 hI hI0 gz
    obtain ⟨-, ⟨-, Vx, hx, B0⟩, -⟩ := hH
    have c_Vx := Vx.cell
    have f_Vx := Vx.frozen 0
    have l_Vx := Vx.lt
    have m_Vx := Nat.le_of_lt l_Vx
    go_wp2_with fail
    refine (nright_ok ax lx kx zx n wc hx (by omega)).mono ?_
    rintro e x21 ⟨al, ll, kl, zl, rfl, hl, nl, hb⟩
    replace Vx := Va.after hb Vx
    replace hx := Nt.after hb hx
    replace B0 := step B0 hb
    clear hb
    clear c_Vx f_Vx l_Vx m_Vx
    have c_Vx := Vx.cell
    have f_Vx := Vx.frozen 0
    have l_Vx := Vx.lt
    have m_Vx := Nat.le_of_lt l_Vx
    go_wp2_with fail
    refine ent1 x21 _ _ (Q := fun W => Calls Try.prog _ _ W _) ?_
    intro x22 hb hs_x22 Vl
    replace Vx := Va.after hb Vx
    replace hx := Nt.after hb hx
    replace hl := Nt.after hb hl
    replace B0 := step B0 hb
    clear hb hs_x22
    have xx0 := hx.nonneg
    have d1 := Int.emod_nonneg (num zx) (show (2 : Int) ^ n ≠ 0 from Int.ne_of_gt (p2_pos n))
    have d2 := Int.emod_lt_of_pos (num zx) (p2_pos n)
    have d3 := Int.mul_ediv_add_emod (num zx) (2 ^ n)
    have hfit := rest_fits hx.limbs hl.limbs (n := n) HBX.out nl
    refine (nleft_ok al ll kl zl n x22 hl hfit).mono ?_
    rintro e x23 ⟨ah, lh, kh, zh, rfl, hh, nh, hb⟩
    replace Vx := Va.after hb Vx
    replace Vl := Va.after hb Vl
    replace hx := Nt.after hb hx
    replace hl := Nt.after hb hl
    replace B0 := step B0 hb
    clear hb
    rw [nl, Int.mul_comm] at nh
    clear c_Vx f_Vx l_Vx m_Vx
    have c_Vx := Vx.cell
    have f_Vx := Vx.frozen 0
    have l_Vx := Vx.lt
    have m_Vx := Nat.le_of_lt l_Vx
    have c_Vl := Vl.cell
    have f_Vl := Vl.frozen 0
    have l_Vl := Vl.lt
    have m_Vl := Nat.le_of_lt l_Vl
    go_wp2_with fail
    refine ent1 x23 _ _ (Q := fun W => Calls Try.prog _ _ W _) ?_
    intro x24 hb hs_x24 Vh
    replace Vx := Va.after hb Vx
    replace Vl := Va.after hb Vl
    replace hx := Nt.after hb hx
    replace hl := Nt.after hb hl
    replace hh := Nt.after hb hh
    replace B0 := step B0 hb
    clear hb hs_x24
    refine (nsub_ok ax ah lx kx lh kh zx zh x24 hx hh (by rw [nh]; omega)).mono ?_
    rintro e x25 ⟨ar, lr, kr, zr, rfl, hr, nr, hb⟩
    replace Vx := Va.after hb Vx
    replace Vl := Va.after hb Vl
    replace Vh := Va.after hb Vh
    replace hx := Nt.after hb hx
    replace hl := Nt.after hb hl
    replace hh := Nt.after hb hh
    replace B0 := step B0 hb
    clear hb
    rw [nh] at nr
    have br := bits_le_of hr.limbs (n := n) (by rw [nr]; omega)
    clear c_Vx f_Vx l_Vx m_Vx c_Vl f_Vl l_Vl m_Vl
    have c_Vx := Vx.cell
    have f_Vx := Vx.frozen 0
    have l_Vx := Vx.lt
    have m_Vx := Nat.le_of_lt l_Vx
    have c_Vl := Vl.cell
    have f_Vl := Vl.frozen 0
    have l_Vl := Vl.lt
    have m_Vl := Nat.le_of_lt l_Vl
    have c_Vh := Vh.cell
    have f_Vh := Vh.frozen 0
    have l_Vh := Vh.lt
    have m_Vh := Nat.le_of_lt l_Vh
    go_wp2_with fail
    refine ent1 x25 _ _ (Q := fun W => Calls Try.prog _ _ W _) ?_
    intro x26 hb hs_x26 Vr
    replace Vx := Va.after hb Vx
    replace Vl := Va.after hb Vl
    replace Vh := Va.after hb Vh
    replace hx := Nt.after hb hx
    replace hl := Nt.after hb hl
    replace hh := Nt.after hb hh
    replace hr := Nt.after hb hr
    replace B0 := step B0 hb
    clear hb hs_x26
    clear nl hfit nh nr d1 d2 d3
    refine (nbits_any ar lr kr zr x26 hr).mono ?_
    rintro e x27 ⟨rfl, hb⟩
    replace Vx := Va.after hb Vx
    replace Vl := Va.after hb Vl
    replace Vh := Va.after hb Vh
    replace Vr := Va.after hb Vr
    replace hx := Nt.after hb hx
    replace hl := Nt.after hb hl
    replace hh := Nt.after hb hh
    replace hr := Nt.after hb hr
    replace B0 := step B0 hb
    clear hb
    obtain ⟨bb, hbb⟩ : ∃ b, bitsN zr = b := ⟨_, rfl⟩
    rw [hbb] at br ⊢
    clear hbb
    clear c_Vx f_Vx l_Vx m_Vx c_Vl f_Vl l_Vl m_Vl c_Vh f_Vh l_Vh m_Vh
    have c_Vx := Vx.cell
    have f_Vx := Vx.frozen 0
    have l_Vx := Vx.lt
    have m_Vx := Nat.le_of_lt l_Vx
    have c_Vl := Vl.cell
    have f_Vl := Vl.frozen 0
    have l_Vl := Vl.lt
    have m_Vl := Nat.le_of_lt l_Vl
    have c_Vh := Vh.cell
    have f_Vh := Vh.frozen 0
    have l_Vh := Vh.lt
    have m_Vh := Nat.le_of_lt l_Vh
    have c_Vr := Vr.cell
    have f_Vr := Vr.frozen 0
    have l_Vr := Vr.lt
    have m_Vr := Nat.le_of_lt l_Vr
    go_wp2_with fail
    go_ret
    exact ⟨rfl, B0⟩
end Go.Proofs.Ytckfgolijlggbaa.natMoves
