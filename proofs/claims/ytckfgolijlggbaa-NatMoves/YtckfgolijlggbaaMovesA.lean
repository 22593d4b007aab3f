/-
  The walk of NatMoves: each call by its contract.
-/
import Derived.Test.YtckfgolijlggbaaFits
import Derived.Test.YtckfgolijlggbaaHeld3
namespace Go.Proofs.Ytckfgolijlggbaa.natMoves
open Go.RowKit Go.Shelf
set_option linter.unusedVariables false

/-- Down and up again: what is left has so few binary digits. -/
theorem bits_le_of {zs : List Int} (h : Limbs zs) {n : Nat} (hlt : num zs < 2 ^ n) : bitsN zs ≤ n := by
  rcases Nat.eq_zero_or_pos (usedN zs) with h0 | h0
  · rw [bits_nought h0]; omega
  · obtain ⟨k, e, k1, k2⟩ := bits_spec h h0
    rcases Nat.lt_or_ge k n with h' | h'
    · omega
    · have := p2_mono h'; omega
theorem bits_at {zs : List Int} (h : Limbs zs) {k : Nat} (h1 : 2 ^ k ≤ num zs) (h2 : num zs < 2 ^ (k + 1)) : bitsN zs = (k : Int) + 1 := by
  have hp := p2_pos k
  have u : 0 < usedN zs := by
    rcases Nat.eq_zero_or_pos (usedN zs) with h' | h'
    · have := (num_eq_zero h).2 h'; omega
    · exact h'
  obtain ⟨j, e, j1, j2⟩ := bits_spec h u
  rcases Nat.lt_or_ge j k with h' | h'
  · have := p2_mono (show j + 1 ≤ k by omega); omega
  · rcases Nat.lt_or_ge k j with h'' | h''
    · have := p2_mono (show k + 1 ≤ j by omega); omega
    · omega
theorem bits_up {zs us : List Int} (h : Limbs zs) (hu : Limbs us) {n : Nat} (h0 : num zs ≠ 0) (e : num us = num zs * 2 ^ n) : bitsN us = bitsN zs + n := by
  have u : 0 < usedN zs := by
    rcases Nat.eq_zero_or_pos (usedN zs) with h' | h'
    · exact absurd ((num_eq_zero h).2 h') h0
    · exact h'
  obtain ⟨j, e1, j1, j2⟩ := bits_spec h u
  have hp := p2_pos n
  have g1 : 2 ^ j * 2 ^ n ≤ num zs * 2 ^ n := Int.mul_le_mul_of_nonneg_right j1 (Int.le_of_lt hp)
  have g2 : num zs * 2 ^ n < 2 ^ (j + 1) * 2 ^ n := Int.mul_lt_mul_of_pos_right j2 hp
  rw [← Int.pow_add] at g1 g2
  have := bits_at hu (k := j + n) (by rw [e]; exact g1) (by rw [e, show j + n + 1 = j + 1 + n by omega]; exact g2)
  rw [this, e1, Int.natCast_add]; omega
theorem rest_fits {zx zl : List Int} (hx : Limbs zx) (hl : Limbs zl) {n : Nat} (hb : bitsN zx ≤ 262144) (nl : num zl = num zx / 2 ^ n) : num zl = 0 ∨ bitsN zl + n ≤ 262144 := by
  have d1 := Int.emod_nonneg (num zx) (show (2 : Int) ^ n ≠ 0 from Int.ne_of_gt (p2_pos n))
  have d3 := Int.mul_ediv_add_emod (num zx) (2 ^ n)
  rcases Nat.eq_zero_or_pos (usedN zl) with h | h
  · exact .inl ((num_eq_zero hl).2 h)
  · right
    obtain ⟨k, e, k1, k2⟩ := bits_spec hl h
    have ux : 0 < usedN zx := by
      rcases Nat.eq_zero_or_pos (usedN zx) with h' | h'
      · have h5 := (num_eq_zero hx).2 h'
        rw [h5, Int.zero_ediv] at nl
        have := p2_pos k; omega
      · exact h'
    obtain ⟨j, f, j1, j2⟩ := bits_spec hx ux
    have h6 : (2 : Int) ^ (k + n) ≤ num zx := by
      rw [Int.pow_add]
      have : 2 ^ k * 2 ^ n ≤ num zl * 2 ^ n := Int.mul_le_mul_of_nonneg_right k1 (Int.le_of_lt (p2_pos n))
      rw [nl, Int.mul_comm (num zx / 2 ^ n)] at this
      omega
    rcases Nat.lt_or_ge j (k + n) with h7 | h7
    · have := p2_mono (show j + 1 ≤ k + n by omega); omega
    · omega

set_option maxRecDepth 20000 in
set_option maxHeartbeats 4000000 in
theorem walk_a (a0 : Option Addr) (len0 cap0 : Nat) (z0 : List Int) (t : Int) (w : World) (s0 : Sl w a0 len0 z0) (c0 : len0 ≤ cap0) (r0 : cap0 ≤ 17592186043904) (e0 : a0 = none → len0 = 0 ∧ cap0 = 0) (ht : (Lit.int .i64 t).wf = true) (hu : 4096 < usedN z0) :
    Calls Try.prog 4 #[.slice a0 len0 cap0, .int .i64 t] w fun e w' => e = .returned (.bool true) ∧ Below w.heap.size w w' := by
  have B0 : Below w.heap.size w w := Below.refl _ _
  go_enter Try.func4, Try.ntmps4
  go_wp2_with fail
  refine (nawake_any w).mono ?_
  rintro e x1 ⟨rfl, hb⟩
  replace s0 := s0.below hb (Nat.le_refl _)
  replace B0 := step B0 hb
  clear hb
  go_wp2_with fail
  refine (rlong_yes a0 len0 cap0 z0 x1 s0 (by omega) hu).mono ?_
  rintro e x2 ⟨rfl, hb⟩
  replace s0 := s0.below hb (Nat.le_refl _)
  replace B0 := step B0 hb
  clear hb
  go_wp2_with fail
  go_ret
  exact ⟨rfl, B0⟩

set_option maxRecDepth 20000 in
set_option maxHeartbeats 4000000 in
theorem walk_b (a0 : Option Addr) (len0 cap0 : Nat) (z0 : List Int) (t : Int) (w : World) (s0 : Sl w a0 len0 z0) (c0 : len0 ≤ cap0) (r0 : cap0 ≤ 17592186043904) (e0 : a0 = none → len0 = 0 ∧ cap0 = 0) (ht : (Lit.int .i64 t).wf = true) (u0 : usedN z0 ≤ 4096) (hn : t < 0) :
    Calls Try.prog 4 #[.slice a0 len0 cap0, .int .i64 t] w fun e w' => e = .returned (.bool true) ∧ Below w.heap.size w w' := by
  have B0 : Below w.heap.size w w := Below.refl _ _
  go_enter Try.func4, Try.ntmps4
  go_wp2_with fail
  refine (nawake_any w).mono ?_
  rintro e x1 ⟨rfl, hb⟩
  replace s0 := s0.below hb (Nat.le_refl _)
  replace B0 := step B0 hb
  clear hb
  go_wp2_with fail
  refine (rlong_no a0 len0 cap0 z0 x1 s0 (by omega) u0).mono ?_
  rintro e x2 ⟨rfl, hb⟩
  replace s0 := s0.below hb (Nat.le_refl _)
  replace B0 := step B0 hb
  clear hb
  go_wp2_with fail
  go_ret
  exact ⟨rfl, B0⟩

set_option maxRecDepth 20000 in
set_option maxHeartbeats 4000000 in
theorem walk_c (a0 : Option Addr) (len0 cap0 : Nat) (z0 : List Int) (t : Int) (w : World) (s0 : Sl w a0 len0 z0) (c0 : len0 ≤ cap0) (r0 : cap0 ≤ 17592186043904) (e0 : a0 = none → len0 = 0 ∧ cap0 = 0) (ht : (Lit.int .i64 t).wf = true) (u0 : usedN z0 ≤ 4096) (hn : 300000 < t) :
    Calls Try.prog 4 #[.slice a0 len0 cap0, .int .i64 t] w fun e w' => e = .returned (.bool true) ∧ Below w.heap.size w w' := by
  have B0 : Below w.heap.size w w := Below.refl _ _
  go_enter Try.func4, Try.ntmps4
  go_wp2_with fail
  refine (nawake_any w).mono ?_
  rintro e x1 ⟨rfl, hb⟩
  replace s0 := s0.below hb (Nat.le_refl _)
  replace B0 := step B0 hb
  clear hb
  go_wp2_with fail
  refine (rlong_no a0 len0 cap0 z0 x1 s0 (by omega) u0).mono ?_
  rintro e x2 ⟨rfl, hb⟩
  replace s0 := s0.below hb (Nat.le_refl _)
  replace B0 := step B0 hb
  clear hb
  go_wp2_with fail
  go_ret
  exact ⟨rfl, B0⟩

set_option maxRecDepth 20000 in
set_option maxHeartbeats 4000000 in
theorem walk_e (a0 : Option Addr) (len0 cap0 : Nat) (z0 : List Int) (t : Int) (w : World) (s0 : Sl w a0 len0 z0) (c0 : len0 ≤ cap0) (r0 : cap0 ≤ 17592186043904) (e0 : a0 = none → len0 = 0 ∧ cap0 = 0) (ht : (Lit.int .i64 t).wf = true) (u0 : usedN z0 ≤ 4096) (h0 : 0 ≤ t) (h3 : t ≤ 300000) (hf : num z0 ≠ 0 ∧ ∀ zs, Limbs zs → num zs = num z0 → 262144 < bitsN zs + t) :
    Calls Try.prog 4 #[.slice a0 len0 cap0, .int .i64 t] w fun e w' => e = .returned (.bool true) ∧ Below w.heap.size w w' := by
  have B0 : Below w.heap.size w w := Below.refl _ _
  go_enter Try.func4, Try.ntmps4
  go_wp2_with fail
  refine (nawake_any w).mono ?_
  rintro e x1 ⟨rfl, hb⟩
  replace s0 := s0.below hb (Nat.le_refl _)
  replace B0 := step B0 hb
  clear hb
  go_wp2_with fail
  refine (rlong_no a0 len0 cap0 z0 x1 s0 (by omega) u0).mono ?_
  rintro e x2 ⟨rfl, hb⟩
  replace s0 := s0.below hb (Nat.le_refl _)
  replace B0 := step B0 hb
  clear hb
  go_wp2_with fail
  refine (oflaw_ok a0 len0 cap0 z0 x2 s0 e0 (by omega) c0 u0).mono ?_
  rintro e x3 ⟨ax, lx, kx, zx, rfl, hx, nx, hb⟩
  replace s0 := s0.below hb (Nat.le_refl _)
  replace B0 := step B0 hb
  clear hb
  go_wp2_with fail
  refine ent1 x3 _ _ (Q := fun W => Calls Try.prog _ _ W _) ?_
  intro x4 hb hs_x4 Vx
  replace hx := Nt.after hb hx
  replace s0 := s0.below hb (Nat.le_refl _)
  replace B0 := step B0 hb
  clear hb hs_x4
  clear s0 e0
  have bx := bits_limbs hx.limbs
  have lx4 := hx.2
  have HBX : Hid (bitsN zx ≤ 262144) := (by omega : bitsN zx ≤ 262144)
  clear bx lx4
  obtain ⟨n, rfl⟩ := Int.eq_ofNat_of_zero_le h0
  obtain ⟨hz, hbn⟩ : num zx ≠ 0 ∧ 262144 < bitsN zx + n := ⟨by rw [nx]; exact hf.1, hf.2 zx hx.limbs nx⟩
  refine (nleft_long ax lx kx zx n x4 hx (by omega) hz hbn).mono ?_
  rintro e x5 ⟨rfl, hb⟩
  replace Vx := Va.after hb Vx
  replace hx := Nt.after hb hx
  replace B0 := step B0 hb
  clear hb
  obtain ⟨bx, hbx⟩ : ∃ b, bitsN zx = b := ⟨_, rfl⟩
  have HBN : Hid (bitsN zx = bx) := hbx
  have hb1 := HBX.out
  rw [hbx] at hbn hb1
  clear hbx hz
  have c_Vx := Vx.cell
  have f_Vx := Vx.frozen 0
  have l_Vx := Vx.lt
  have m_Vx := Nat.le_of_lt l_Vx
  go_wp2_with fail
  refine ent1 x5 _ _ (Q := fun W => Calls Try.prog _ _ W _) ?_
  intro x6 hb hs_x6 Vu
  replace Vx := Va.after hb Vx
  replace hx := Nt.after hb hx
  replace B0 := step B0 hb
  clear hb hs_x6
  refine (nbits_any ax lx kx zx x6 hx).mono ?_
  rintro e x7 ⟨rfl, hb⟩
  replace Vx := Va.after hb Vx
  replace Vu := Va.after hb Vu
  replace hx := Nt.after hb hx
  replace B0 := step B0 hb
  clear hb
  rw [HBN.out]
  clear c_Vx f_Vx l_Vx m_Vx
  have c_Vx := Vx.cell
  have f_Vx := Vx.frozen 0
  have l_Vx := Vx.lt
  have m_Vx := Nat.le_of_lt l_Vx
  have c_Vu := Vu.cell
  have f_Vu := Vu.frozen 0
  have l_Vu := Vu.lt
  have m_Vu := Nat.le_of_lt l_Vu
  go_wp2_with fail
  refine (nright_ok ax lx kx zx n x7 hx (by omega)).mono ?_
  rintro e x8 ⟨al, ll, kl, zl, rfl, hl, nl, hb⟩
  replace Vx := Va.after hb Vx
  replace Vu := Va.after hb Vu
  replace hx := Nt.after hb hx
  replace B0 := step B0 hb
  clear hb
  clear c_Vx f_Vx l_Vx m_Vx c_Vu f_Vu l_Vu m_Vu
  have c_Vx := Vx.cell
  have f_Vx := Vx.frozen 0
  have l_Vx := Vx.lt
  have m_Vx := Nat.le_of_lt l_Vx
  have c_Vu := Vu.cell
  have f_Vu := Vu.frozen 0
  have l_Vu := Vu.lt
  have m_Vu := Nat.le_of_lt l_Vu
  go_wp2_with fail
  refine ent1 x8 _ _ (Q := fun W => Calls Try.prog _ _ W _) ?_
  intro x9 hb hs_x9 Vl
  replace Vx := Va.after hb Vx
  replace Vu := Va.after hb Vu
  replace hx := Nt.after hb hx
  replace hl := Nt.after hb hl
  replace B0 := step B0 hb
  clear hb hs_x9
  have xx0 := hx.nonneg
  have d1 := Int.emod_nonneg (num zx) (show (2 : Int) ^ n ≠ 0 from Int.ne_of_gt (p2_pos n))
  have d2 := Int.emod_lt_of_pos (num zx) (p2_pos n)
  have d3 := Int.mul_ediv_add_emod (num zx) (2 ^ n)
  have hfit := rest_fits hx.limbs hl.limbs (n := n) HBX.out nl
  refine (nleft_ok al ll kl zl n x9 hl hfit).mono ?_
  rintro e x10 ⟨ah, lh, kh, zh, rfl, hh, nh, hb⟩
  replace Vx := Va.after hb Vx
  replace Vu := Va.after hb Vu
  replace Vl := Va.after hb Vl
  replace hx := Nt.after hb hx
  replace hl := Nt.after hb hl
  replace B0 := step B0 hb
  clear hb
  rw [nl, Int.mul_comm] at nh
  clear c_Vx f_Vx l_Vx m_Vx c_Vu f_Vu l_Vu m_Vu
  have c_Vx := Vx.cell
  have f_Vx := Vx.frozen 0
  have l_Vx := Vx.lt
  have m_Vx := Nat.le_of_lt l_Vx
  have c_Vu := Vu.cell
  have f_Vu := Vu.frozen 0
  have l_Vu := Vu.lt
  have m_Vu := Nat.le_of_lt l_Vu
  have c_Vl := Vl.cell
  have f_Vl := Vl.frozen 0
  have l_Vl := Vl.lt
  have m_Vl := Nat.le_of_lt l_Vl
  go_wp2_with fail
  refine ent1 x10 _ _ (Q := fun W => Calls Try.prog _ _ W _) ?_
  intro x11 hb hs_x11 Vh
  replace Vx := Va.after hb Vx
  replace Vu := Va.after hb Vu
  replace Vl := Va.after hb Vl
  replace hx := Nt.after hb hx
  replace hl := Nt.after hb hl
  replace hh := Nt.after hb hh
  replace B0 := step B0 hb
  clear hb hs_x11
  refine (nsub_ok ax ah lx kx lh kh zx zh x11 hx hh (by rw [nh]; omega)).mono ?_
  rintro e x12 ⟨ar, lr, kr, zr, rfl, hr, nr, hb⟩
  replace Vx := Va.after hb Vx
  replace Vu := Va.after hb Vu
  replace Vl := Va.after hb Vl
  replace Vh := Va.after hb Vh
  replace hx := Nt.after hb hx
  replace hl := Nt.after hb hl
  replace hh := Nt.after hb hh
  replace B0 := step B0 hb
  clear hb
  rw [nh] at nr
  have br := bits_le_of hr.limbs (n := n) (by rw [nr]; omega)
  clear c_Vx f_Vx l_Vx m_Vx c_Vu f_Vu l_Vu m_Vu c_Vl f_Vl l_Vl m_Vl
  have c_Vx := Vx.cell
  have f_Vx := Vx.frozen 0
  have l_Vx := Vx.lt
  have m_Vx := Nat.le_of_lt l_Vx
  have c_Vu := Vu.cell
  have f_Vu := Vu.frozen 0
  have l_Vu := Vu.lt
  have m_Vu := Nat.le_of_lt l_Vu
  have c_Vl := Vl.cell
  have f_Vl := Vl.frozen 0
  have l_Vl := Vl.lt
  have m_Vl := Nat.le_of_lt l_Vl
  have c_Vh := Vh.cell
  have f_Vh := Vh.frozen 0
  have l_Vh := Vh.lt
  have m_Vh := Nat.le_of_lt l_Vh
  go_wp2_with fail
  refine ent1 x12 _ _ (Q := fun W => Calls Try.prog _ _ W _) ?_
  intro x13 hb hs_x13 Vr
  replace Vx := Va.after hb Vx
  replace Vu := Va.after hb Vu
  replace Vl := Va.after hb Vl
  replace Vh := Va.after hb Vh
  replace hx := Nt.after hb hx
  replace hl := Nt.after hb hl
  replace hh := Nt.after hb hh
  replace hr := Nt.after hb hr
  replace B0 := step B0 hb
  clear hb hs_x13
  clear nl hfit nh nr d1 d2 d3
  refine (nbits_any ar lr kr zr x13 hr).mono ?_
  rintro e x14 ⟨rfl, hb⟩
  replace Vx := Va.after hb Vx
  replace Vu := Va.after hb Vu
  replace Vl := Va.after hb Vl
  replace Vh := Va.after hb Vh
  replace Vr := Va.after hb Vr
  replace hx := Nt.after hb hx
  replace hl := Nt.after hb hl
  replace hh := Nt.after hb hh
  replace hr := Nt.after hb hr
  replace B0 := step B0 hb
  clear hb
  obtain ⟨bb, hbb⟩ : ∃ b, bitsN zr = b := ⟨_, rfl⟩
  rw [hbb] at br ⊢
  clear hbb
  clear c_Vx f_Vx l_Vx m_Vx c_Vu f_Vu l_Vu m_Vu c_Vl f_Vl l_Vl m_Vl c_Vh f_Vh l_Vh m_Vh
  have c_Vx := Vx.cell
  have f_Vx := Vx.frozen 0
  have l_Vx := Vx.lt
  have m_Vx := Nat.le_of_lt l_Vx
  have c_Vu := Vu.cell
  have f_Vu := Vu.frozen 0
  have l_Vu := Vu.lt
  have m_Vu := Nat.le_of_lt l_Vu
  have c_Vl := Vl.cell
  have f_Vl := Vl.frozen 0
  have l_Vl := Vl.lt
  have m_Vl := Nat.le_of_lt l_Vl
  have c_Vh := Vh.cell
  have f_Vh := Vh.frozen 0
  have l_Vh := Vh.lt
  have m_Vh := Nat.le_of_lt l_Vh
  have c_Vr := Vr.cell
  have f_Vr := Vr.frozen 0
  have l_Vr := Vr.lt
  have m_Vr := Nat.le_of_lt l_Vr
  go_wp2_with fail
  go_ret
  exact ⟨rfl, B0⟩
end Go.Proofs.Ytckfgolijlggbaa.natMoves
