/-
  Root of numbers: the walks.
-/
import Derived.Test.YtajjhnilpdmnhaaRootW
import Derived.Test.YtajjhnilpdmnhaaHeld
namespace Go.Proofs.Ytajjhnilpdmnhaa
open Go.RowKit Go.Shelf
set_option linter.unusedVariables false

/-- What Root does, for numbers below M. -/
def RootOk (M : Int) : Prop := ∀ (a : Option Addr) (la ca : Nat) (xs : List Int) (w : World), Nt w a la ca xs → num xs < M →
  Calls Try.prog 41 #[.agg #[.slice a la ca]] w fun e w' => ∃ a' l' c' zs, e = .returned (.agg #[.slice a' l' c']) ∧ Nt w' a' l' c' zs ∧ IsRoot (num xs) (num zs) ∧ Below w.heap.size w w'

set_option maxHeartbeats 4000000 in
theorem above_any (a : Option Addr) (la ca : Nat) (xs : List Int) (w : World) (hx : Nt w a la ca xs) (HR : RootOk (num xs)) (h4 : 4 ≤ num xs) :
    Calls Try.prog 65 #[.agg #[.slice a la ca]] w fun e w' => ∃ a' l' c' zs, e = .returned (.agg #[.slice a' l' c']) ∧ Nt w' a' l' c' zs ∧ Low (num zs) ∧ num xs < (num zs + 1) * (num zs + 1) ∧ 0 < num zs ∧ Below w.heap.size w w' := by
  have B0 : Below w.heap.size w w := Below.refl _ _
  have l1 := hx.2
  have ux : 0 < usedN xs := by
    rcases Nat.eq_zero_or_pos (usedN xs) with h | h
    · have := (num_eq_zero hx.limbs).2 h; omega
    · exact h
  obtain ⟨b, eb, b1, b2⟩ := bits_spec hx.limbs ux
  have hb4 := bits_limbs hx.limbs
  have hb3 : 3 ≤ b + 1 := by
    rcases Nat.lt_or_ge b 2 with h | h
    · have := p2_mono (show b + 1 ≤ 2 by omega)
      have h5 : (2 : Int) ^ 2 = 4 := by decide
      omega
    · omega
  obtain ⟨h, hh⟩ : ∃ h, h = (b + 1 + 1) / 4 := ⟨_, rfl⟩
  have eh : ((b : Int) + 1 + 1) / 4 = h := by omega
  have hbb : b + 1 ≤ 262144 := by omega
  have hhb : h ≤ 65536 := by omega
  have AN := fun t ht => above_nums (t := t) hbb hb3 hh b2 ht
  have hlt : num xs / 2 ^ (2 * h) < num xs := by
    have h5 := p2_mono (show 1 ≤ 2 * h by omega)
    apply Int.ediv_lt_of_lt_mul (p2_pos _)
    have h6 : num xs * 2 ^ 1 ≤ num xs * 2 ^ (2 * h) := Int.mul_le_mul_of_nonneg_left h5 (by omega)
    rw [show (2 : Int) ^ 1 = 2 by decide] at h6
    omega
  obtain ⟨h2, hh2⟩ : ∃ h2, 2 * h = h2 := ⟨_, rfl⟩
  have e2h : (2 : Int) * h = h2 := by omega
  rw [hh2] at hlt
  simp only [hh2] at AN
  have HH2 : Hid (2 * h = h2) := hh2
  have HH : Hid (h = (b + 1 + 1) / 4) := hh
  have h1h : 1 ≤ h := by omega
  have hb21 : h2 ≤ b + 1 := by omega
  have HHR : Hid (RootOk (num xs)) := HR
  clear b1 hb4 HR hh hh2
  go_enter Try.func65, Try.ntmps65
  go_wp2_with fail
  refine ent2 w _ _ _ _ (Q := fun W => Calls Try.prog _ _ W _) ?_
  intro x1 hb hs_x1 V0 V1
  replace hx := Nt.after hb hx
  replace B0 := step B0 hb
  clear hb hs_x1
  refine (nbits_any a la ca xs x1 hx).mono ?_
  rintro e x2 ⟨rfl, hb⟩
  replace V0 := Va.after hb V0
  replace V1 := Va.after hb V1
  replace hx := Nt.after hb hx
  replace B0 := step B0 hb
  clear hb
  rw [eb]
  have c_V0 := V0.cell
  have f_V0 := V0.frozen 0
  have l_V0 := V0.lt
  have m_V0 := Nat.le_of_lt l_V0
  have c_V1 := V1.cell
  have f_V1 := V1.frozen 0
  have l_V1 := V1.lt
  have m_V1 := Nat.le_of_lt l_V1
  go_wp2_with fail
  refine (nright_ok a la ca xs h2 x2 hx (by omega)).mono ?_
  rintro e x3 ⟨at1, lt, kt, zt, rfl, ht, nt, hb⟩
  replace V0 := Va.after hb V0
  replace V1 := Va.after hb V1
  replace hx := Nt.after hb hx
  replace B0 := step B0 hb
  clear hb
  clear c_V0 f_V0 l_V0 m_V0 c_V1 f_V1 l_V1 m_V1
  have c_V0 := V0.cell
  have f_V0 := V0.frozen 0
  have l_V0 := V0.lt
  have m_V0 := Nat.le_of_lt l_V0
  have c_V1 := V1.cell
  have f_V1 := V1.frozen 0
  have l_V1 := V1.lt
  have m_V1 := Nat.le_of_lt l_V1
  go_wp2_with fail
  refine ent1 x3 _ _ (Q := fun W => Calls Try.prog _ _ W _) ?_
  intro x4 hb hs_x4 Vt
  replace V0 := Va.after hb V0
  replace V1 := Va.after hb V1
  replace hx := Nt.after hb hx
  replace ht := Nt.after hb ht
  replace B0 := step B0 hb
  clear hb hs_x4
  refine (HHR.out at1 lt kt zt x4 ht (by rw [nt]; exact hlt)).mono ?_
  rintro e x5 ⟨ar, lr, kr, zr, rfl, hr, ir, hb⟩
  replace V0 := Va.after hb V0
  replace V1 := Va.after hb V1
  replace Vt := Va.after hb Vt
  replace hx := Nt.after hb hx
  replace ht := Nt.after hb ht
  replace B0 := step B0 hb
  clear hb
  rw [nt] at ir
  obtain ⟨g1, g2, g3, g4, g5⟩ := AN _ ir
  clear c_V0 f_V0 l_V0 m_V0 c_V1 f_V1 l_V1 m_V1
  have c_V0 := V0.cell
  have f_V0 := V0.frozen 0
  have l_V0 := V0.lt
  have m_V0 := Nat.le_of_lt l_V0
  have c_V1 := V1.cell
  have f_V1 := V1.frozen 0
  have l_V1 := V1.lt
  have m_V1 := Nat.le_of_lt l_V1
  have c_Vt := Vt.cell
  have f_Vt := Vt.frozen 0
  have l_Vt := Vt.lt
  have m_Vt := Nat.le_of_lt l_Vt
  go_wp2_with fail
  refine (small_any 1 ⟨by decide, by decide⟩ x5).mono ?_
  rintro e x6 ⟨ao, lo, ko, zo, rfl, ho, no, hb⟩
  replace V0 := Va.after hb V0
  replace V1 := Va.after hb V1
  replace Vt := Va.after hb Vt
  replace hx := Nt.after hb hx
  replace ht := Nt.after hb ht
  replace hr := Nt.after hb hr
  replace B0 := step B0 hb
  clear hb
  clear c_V0 f_V0 l_V0 m_V0 c_V1 f_V1 l_V1 m_V1 c_Vt f_Vt l_Vt m_Vt
  have c_V0 := V0.cell
  have f_V0 := V0.frozen 0
  have l_V0 := V0.lt
  have m_V0 := Nat.le_of_lt l_V0
  have c_V1 := V1.cell
  have f_V1 := V1.frozen 0
  have l_V1 := V1.lt
  have m_V1 := Nat.le_of_lt l_V1
  have c_Vt := Vt.cell
  have f_Vt := Vt.frozen 0
  have l_Vt := Vt.lt
  have m_Vt := Nat.le_of_lt l_Vt
  go_wp2_with fail
  refine (nadd_ok ar ao lr kr lo ko zr zo x6 hr ho (by rw [no]; exact g5.lt)).mono ?_
  rintro e x7 ⟨an, ln, kn, zn, rfl, hn, nn, hb⟩
  replace V0 := Va.after hb V0
  replace V1 := Va.after hb V1
  replace Vt := Va.after hb Vt
  replace hx := Nt.after hb hx
  replace ht := Nt.after hb ht
  replace hr := Nt.after hb hr
  replace ho := Nt.after hb ho
  replace B0 := step B0 hb
  clear hb
  rw [no] at nn
  clear c_V0 f_V0 l_V0 m_V0 c_V1 f_V1 l_V1 m_V1 c_Vt f_Vt l_Vt m_Vt
  have c_V0 := V0.cell
  have f_V0 := V0.frozen 0
  have l_V0 := V0.lt
  have m_V0 := Nat.le_of_lt l_V0
  have c_V1 := V1.cell
  have f_V1 := V1.frozen 0
  have l_V1 := V1.lt
  have m_V1 := Nat.le_of_lt l_V1
  have c_Vt := Vt.cell
  have f_Vt := Vt.frozen 0
  have l_Vt := Vt.lt
  have m_Vt := Nat.le_of_lt l_Vt
  go_wp2_with fail
  refine ent1 x7 _ _ (Q := fun W => Calls Try.prog _ _ W _) ?_
  intro x8 hb hs_x8 Vn
  replace V0 := Va.after hb V0
  replace V1 := Va.after hb V1
  replace Vt := Va.after hb Vt
  replace hx := Nt.after hb hx
  replace ht := Nt.after hb ht
  replace hr := Nt.after hb hr
  replace ho := Nt.after hb ho
  replace hn := Nt.after hb hn
  replace B0 := step B0 hb
  clear hb hs_x8
  have hfit : bitsN zn + h ≤ 262144 := by
    have h7 : num zn < 2 ^ (b + 1 - h2 + 1) := by
      rw [nn, Int.pow_succ]; have := p2_pos (b + 1 - h2); omega
    have := bits_low hn.limbs h7
    have := HH2.out
    have := HH.out
    omega
  refine (nleft_ok an ln kn zn h x8 hn (.inr hfit)).mono ?_
  rintro e x9 ⟨as1, ls, ks, zs, rfl, hs, ns, hb⟩
  replace V0 := Va.after hb V0
  replace V1 := Va.after hb V1
  replace Vt := Va.after hb Vt
  replace Vn := Va.after hb Vn
  replace hx := Nt.after hb hx
  replace ht := Nt.after hb ht
  replace hr := Nt.after hb hr
  replace ho := Nt.after hb ho
  replace hn := Nt.after hb hn
  replace B0 := step B0 hb
  clear hb
  rw [nn] at ns
  clear c_V0 f_V0 l_V0 m_V0 c_V1 f_V1 l_V1 m_V1 c_Vt f_Vt l_Vt m_Vt
  have c_V0 := V0.cell
  have f_V0 := V0.frozen 0
  have l_V0 := V0.lt
  have m_V0 := Nat.le_of_lt l_V0
  have c_V1 := V1.cell
  have f_V1 := V1.frozen 0
  have l_V1 := V1.lt
  have m_V1 := Nat.le_of_lt l_V1
  have c_Vt := Vt.cell
  have f_Vt := Vt.frozen 0
  have l_Vt := Vt.lt
  have m_Vt := Nat.le_of_lt l_Vt
  have c_Vn := Vn.cell
  have f_Vn := Vn.frozen 0
  have l_Vn := Vn.lt
  have m_Vn := Nat.le_of_lt l_Vn
  go_wp2_with fail
  refine bodyPost_ret (results_c rfl rfl ((V1.set _).old _)) rfl ?_
  have B9 := B0.setCell (p := ⟨w.heap.size + 1, 0, none⟩) (by show _ ≤ w.heap.size + 1; omega) (.slice as1 ls ks)
  exact ⟨_, _, _, zs, rfl, (hs.store V1 _).al _, by rw [ns]; exact g2, by rw [ns]; exact g3, by rw [ns]; exact g4, B9.alloc (by rw [size_set]; omega) _⟩

theorem two_le {x r : Int} (h4 : 4 ≤ x) (hr : 0 ≤ r) (h : x < (r + 1) * (r + 1)) : 2 ≤ r := by
  rcases Int.lt_or_le r 2 with h1 | h1
  · have : r = 0 ∨ r = 1 := by omega
    rcases this with rfl | rfl <;> omega
  · exact h1
theorem quot_of {x q r m : Int} (h : x = q * r + m) (h0 : 0 ≤ m) (h1 : m < r) : q = x / r := by
  rw [h, Int.add_comm, Int.add_mul_ediv_right _ _ (by omega), Int.ediv_eq_zero_of_lt h0 h1, Int.zero_add]
theorem fits_of {x q r m : Int} (lo : Low r) (hx : x < pw 4096) (r2 : 2 ≤ r) (q0 : 0 ≤ q) (m0 : 0 ≤ m) (h : x = q * r + m) : r + q < pw 4096 := by
  have h1 := lo.lt
  have h2 : q * 2 ≤ q * r := Int.mul_le_mul_of_nonneg_left r2 q0
  generalize pw 4096 = P at *
  omega
set_option maxHeartbeats 4000000 in
theorem root_great (a : Option Addr) (la ca : Nat) (xs : List Int) (w : World) (hx : Nt w a la ca xs) (HR : RootOk (num xs)) (h4 : 4 ≤ num xs) :
    Calls Try.prog 41 #[.agg #[.slice a la ca]] w fun e w' => ∃ a' l' c' zs, e = .returned (.agg #[.slice a' l' c']) ∧ Nt w' a' l' c' zs ∧ IsRoot (num xs) (num zs) ∧ Below w.heap.size w w' := by
  have B0 : Below w.heap.size w w := Below.refl _ _
  have hb3 : 2 < bitsN xs := by
    have ux : 0 < usedN xs := by
      rcases Nat.eq_zero_or_pos (usedN xs) with h | h
      · have := (num_eq_zero hx.limbs).2 h; omega
      · exact h
    obtain ⟨b, eb, b1, b2⟩ := bits_spec hx.limbs ux
    rcases Nat.lt_or_ge b 2 with h | h
    · have := p2_mono (show b + 1 ≤ 2 by omega)
      have h5 : (2 : Int) ^ 2 = 4 := by decide
      omega
    · omega
  have HHR : Hid (RootOk (num xs)) := HR
  obtain ⟨bb, hbb⟩ : ∃ b, bitsN xs = b := ⟨_, rfl⟩
  rw [hbb] at hb3
  clear HR
  go_enter Try.func41, Try.ntmps41
  go_wp2_with fail
  refine ent2 w _ _ _ _ (Q := fun W => Calls Try.prog _ _ W _) ?_
  intro x1 hb hs_x1 V0 V1
  replace hx := Nt.after hb hx
  replace B0 := step B0 hb
  clear hb hs_x1
  refine (nbits_any a la ca xs x1 hx).mono ?_
  rintro e x2 ⟨rfl, hb⟩
  replace V0 := Va.after hb V0
  replace V1 := Va.after hb V1
  replace hx := Nt.after hb hx
  replace B0 := step B0 hb
  clear hb
  rw [hbb]
  have c_V0 := V0.cell
  have f_V0 := V0.frozen 0
  have l_V0 := V0.lt
  have m_V0 := Nat.le_of_lt l_V0
  have c_V1 := V1.cell
  have f_V1 := V1.frozen 0
  have l_V1 := V1.lt
  have m_V1 := Nat.le_of_lt l_V1
  go_wp2_with fail
  refine (above_any a la ca xs x2 hx HHR.out h4).mono ?_
  rintro e x3 ⟨ar, lr, kr, zr, rfl, hr, lo, ab, po, hb⟩
  replace V0 := Va.after hb V0
  replace V1 := Va.after hb V1
  replace hx := Nt.after hb hx
  replace B0 := step B0 hb
  clear hb
  clear c_V0 f_V0 l_V0 m_V0 c_V1 f_V1 l_V1 m_V1
  have c_V0 := V0.cell
  have f_V0 := V0.frozen 0
  have l_V0 := V0.lt
  have m_V0 := Nat.le_of_lt l_V0
  have c_V1 := V1.cell
  have f_V1 := V1.frozen 0
  have l_V1 := V1.lt
  have m_V1 := Nat.le_of_lt l_V1
  go_wp2_with fail
  refine ent1 x3 _ _ (Q := fun W => Code.wp Try.prog _ _ _ W) ?_
  intro x4 hb hs_x4 Vr
  replace V0 := Va.after hb V0
  replace V1 := Va.after hb V1
  replace hx := Nt.after hb hx
  replace hr := Nt.after hb hr
  replace B0 := step B0 hb
  clear hb hs_x4
  have hsz1 := V1.lt
  have hsz3 := Vr.lt
  clear hbb hb3
  go_loopw [] (fun wr => ∃ (ar : Option Addr) (lr kr : Nat) (zr : List Int), Hid (Va wr w.heap.size 27 #[.slice a la ca]) ∧ Hid (Va wr (w.heap.size + 1) 27 #[.slice none 0 0]) ∧ Hid (Va wr x3.heap.size 27 #[.slice ar lr kr]) ∧ Hid (Nt wr a la ca xs) ∧ Hid (Nt wr ar lr kr zr) ∧ Low (num zr) ∧ Hid (num xs < (num zr + 1) * (num zr + 1)) ∧ Hid (0 < num zr) ∧ Hid (Below w.heap.size w wr)) (fun wr => varNum wr x3.heap.size)
  case atStart => exact ⟨ar, lr, kr, zr, V0, V1, Vr, hx, hr, lo, ab, po, B0⟩
  case round =>
    clear V0 V1 Vr hx hr lo ab po B0 hsz1 hsz3
    obtain ⟨ar, lr, kr, zr, V0, V1, Vr, hx, hr, lo, ab, po, B0⟩ := hrel
    replace V0 : Va wr w.heap.size 27 #[.slice a la ca] := V0
    replace V1 : Va wr (w.heap.size + 1) 27 #[.slice none 0 0] := V1
    replace Vr : Va wr x3.heap.size 27 #[.slice ar lr kr] := Vr
    replace hx : Nt wr a la ca xs := hx
    replace hr : Nt wr ar lr kr zr := hr
    replace B0 : Below w.heap.size w wr := B0
    have r2 := two_le h4 (Int.le_of_lt po.out) ab.out
    have xx0 := hx.nonneg
    have hme := varNum_eq Vr hr
    have c_V0 := V0.cell
    have f_V0 := V0.frozen 0
    have l_V0 := V0.lt
    have m_V0 := Nat.le_of_lt l_V0
    have c_V1 := V1.cell
    have f_V1 := V1.frozen 0
    have l_V1 := V1.lt
    have m_V1 := Nat.le_of_lt l_V1
    have c_Vr := Vr.cell
    have f_Vr := Vr.frozen 0
    have l_Vr := Vr.lt
    have m_Vr := Nat.le_of_lt l_Vr
    go_wp2_with fail
    refine (ndiv_ok a ar la ca lr kr xs zr wr hx hr (by omega)).mono ?_
    rintro e x11 ⟨ao, lo1, ko, am, lm, km, zo, zm, rfl, ho, hm, d1, d2, hb⟩
    replace V0 := Va.after hb V0
    replace V1 := Va.after hb V1
    replace Vr := Va.after hb Vr
    replace hx := Nt.after hb hx
    replace hr := Nt.after hb hr
    replace B0 := step B0 hb
    clear hb
    have m0 := hm.nonneg
    have o0 := ho.nonneg
    have hq := quot_of d1 m0 d2
    have hfit := fits_of lo hx.lt r2 o0 m0 d1
    clear hm d1 d2
    clear c_V0 f_V0 l_V0 m_V0 c_V1 f_V1 l_V1 m_V1 c_Vr f_Vr l_Vr m_Vr
    have c_V0 := V0.cell
    have f_V0 := V0.frozen 0
    have l_V0 := V0.lt
    have m_V0 := Nat.le_of_lt l_V0
    have c_V1 := V1.cell
    have f_V1 := V1.frozen 0
    have l_V1 := V1.lt
    have m_V1 := Nat.le_of_lt l_V1
    have c_Vr := Vr.cell
    have f_Vr := Vr.frozen 0
    have l_Vr := Vr.lt
    have m_Vr := Nat.le_of_lt l_Vr
    go_wp2_with fail
    refine ent2 x11 _ _ _ _ (Q := fun W => Calls Try.prog _ _ W _) ?_
    intro x12 hb hs_x12 Vo Vm
    replace V0 := Va.after hb V0
    replace V1 := Va.after hb V1
    replace Vr := Va.after hb Vr
    replace hx := Nt.after hb hx
    replace hr := Nt.after hb hr
    replace ho := Nt.after hb ho
    replace B0 := step B0 hb
    clear hb hs_x12
    refine (nadd_ok ar ao lr kr lo1 ko zr zo x12 hr ho hfit).mono ?_
    rintro e x13 ⟨as1, ls, ks, zs, rfl, hs, ns, hb⟩
    replace V0 := Va.after hb V0
    replace V1 := Va.after hb V1
    replace Vr := Va.after hb Vr
    replace Vo := Va.after hb Vo
    replace Vm := Va.after hb Vm
    replace hx := Nt.after hb hx
    replace hr := Nt.after hb hr
    replace ho := Nt.after hb ho
    replace B0 := step B0 hb
    clear hb
    rw [hq] at ns
    clear c_V0 f_V0 l_V0 m_V0 c_V1 f_V1 l_V1 m_V1 c_Vr f_Vr l_Vr m_Vr
    have c_V0 := V0.cell
    have f_V0 := V0.frozen 0
    have l_V0 := V0.lt
    have m_V0 := Nat.le_of_lt l_V0
    have c_V1 := V1.cell
    have f_V1 := V1.frozen 0
    have l_V1 := V1.lt
    have m_V1 := Nat.le_of_lt l_V1
    have c_Vr := Vr.cell
    have f_Vr := Vr.frozen 0
    have l_Vr := Vr.lt
    have m_Vr := Nat.le_of_lt l_Vr
    have c_Vo := Vo.cell
    have f_Vo := Vo.frozen 0
    have l_Vo := Vo.lt
    have m_Vo := Nat.le_of_lt l_Vo
    have c_Vm := Vm.cell
    have f_Vm := Vm.frozen 0
    have l_Vm := Vm.lt
    have m_Vm := Nat.le_of_lt l_Vm
    go_wp2_with fail
    refine ent1 x13 _ _ (Q := fun W => Calls Try.prog _ _ W _) ?_
    intro x14 hb hs_x14 Vs
    replace V0 := Va.after hb V0
    replace V1 := Va.after hb V1
    replace Vr := Va.after hb Vr
    replace Vo := Va.after hb Vo
    replace Vm := Va.after hb Vm
    replace hx := Nt.after hb hx
    replace hr := Nt.after hb hr
    replace ho := Nt.after hb ho
    replace hs := Nt.after hb hs
    replace B0 := step B0 hb
    clear hb hs_x14
    refine (nright_ok as1 ls ks zs 1 x14 hs (by decide)).mono ?_
    rintro e x15 ⟨an, ln, kn, zn, rfl, hn, nn, hb⟩
    replace V0 := Va.after hb V0
    replace V1 := Va.after hb V1
    replace Vr := Va.after hb Vr
    replace Vo := Va.after hb Vo
    replace Vm := Va.after hb Vm
    replace Vs := Va.after hb Vs
    replace hx := Nt.after hb hx
    replace hr := Nt.after hb hr
    replace ho := Nt.after hb ho
    replace hs := Nt.after hb hs
    replace B0 := step B0 hb
    clear hb
    rw [ns, show (2 : Int) ^ 1 = 2 by decide] at nn
    clear c_V0 f_V0 l_V0 m_V0 c_V1 f_V1 l_V1 m_V1 c_Vr f_Vr l_Vr m_Vr c_Vo f_Vo l_Vo m_Vo c_Vm f_Vm l_Vm m_Vm
    have c_V0 := V0.cell
    have f_V0 := V0.frozen 0
    have l_V0 := V0.lt
    have m_V0 := Nat.le_of_lt l_V0
    have c_V1 := V1.cell
    have f_V1 := V1.frozen 0
    have l_V1 := V1.lt
    have m_V1 := Nat.le_of_lt l_V1
    have c_Vr := Vr.cell
    have f_Vr := Vr.frozen 0
    have l_Vr := Vr.lt
    have m_Vr := Nat.le_of_lt l_Vr
    have c_Vo := Vo.cell
    have f_Vo := Vo.frozen 0
    have l_Vo := Vo.lt
    have m_Vo := Nat.le_of_lt l_Vo
    have c_Vm := Vm.cell
    have f_Vm := Vm.frozen 0
    have l_Vm := Vm.lt
    have m_Vm := Nat.le_of_lt l_Vm
    have c_Vs := Vs.cell
    have f_Vs := Vs.frozen 0
    have l_Vs := Vs.lt
    have m_Vs := Nat.le_of_lt l_Vs
    go_wp2_with fail
    refine ent1 x15 _ _ (Q := fun W => Calls Try.prog _ _ W _) ?_
    intro x16 hb hs_x16 Vn
    replace V0 := Va.after hb V0
    replace V1 := Va.after hb V1
    replace Vr := Va.after hb Vr
    replace Vo := Va.after hb Vo
    replace Vm := Va.after hb Vm
    replace Vs := Va.after hb Vs
    replace hx := Nt.after hb hx
    replace hr := Nt.after hb hr
    replace ho := Nt.after hb ho
    replace hs := Nt.after hb hs
    replace hn := Nt.after hb hn
    replace B0 := step B0 hb
    clear hb hs_x16
    refine (ncompare_any an ar ln kn lr kr zn zr x16 hn hr).mono ?_
    rintro e x17 ⟨rfl, hb⟩
    replace V0 := Va.after hb V0
    replace V1 := Va.after hb V1
    replace Vr := Va.after hb Vr
    replace Vo := Va.after hb Vo
    replace Vm := Va.after hb Vm
    replace Vs := Va.after hb Vs
    replace Vn := Va.after hb Vn
    replace hx := Nt.after hb hx
    replace hr := Nt.after hb hr
    replace ho := Nt.after hb ho
    replace hs := Nt.after hb hs
    replace hn := Nt.after hb hn
    replace B0 := step B0 hb
    clear hb
    clear c_V0 f_V0 l_V0 m_V0 c_V1 f_V1 l_V1 m_V1 c_Vr f_Vr l_Vr m_Vr c_Vo f_Vo l_Vo m_Vo c_Vm f_Vm l_Vm m_Vm c_Vs f_Vs l_Vs m_Vs
    have c_V0 := V0.cell
    have f_V0 := V0.frozen 0
    have l_V0 := V0.lt
    have m_V0 := Nat.le_of_lt l_V0
    have c_V1 := V1.cell
    have f_V1 := V1.frozen 0
    have l_V1 := V1.lt
    have m_V1 := Nat.le_of_lt l_V1
    have c_Vr := Vr.cell
    have f_Vr := Vr.frozen 0
    have l_Vr := Vr.lt
    have m_Vr := Nat.le_of_lt l_Vr
    have c_Vo := Vo.cell
    have f_Vo := Vo.frozen 0
    have l_Vo := Vo.lt
    have m_Vo := Nat.le_of_lt l_Vo
    have c_Vm := Vm.cell
    have f_Vm := Vm.frozen 0
    have l_Vm := Vm.lt
    have m_Vm := Nat.le_of_lt l_Vm
    have c_Vs := Vs.cell
    have f_Vs := Vs.frozen 0
    have l_Vs := Vs.lt
    have m_Vs := Nat.le_of_lt l_Vs
    have c_Vn := Vn.cell
    have f_Vn := Vn.frozen 0
    have l_Vn := Vn.lt
    have m_Vn := Nat.le_of_lt l_Vn
    clear hq hfit
    have na := newton_above po.out xx0
    have ne := fun h => newton_end (a := num xs) po.out h
    rw [← nn] at na ne
    have q0 : 0 ≤ num xs / num zr := Int.ediv_nonneg xx0 (by omega)
    have np : 0 < num zn := by rw [nn]; omega
    clear nn ns q0
    go_wp2_with fail
    · rename_i hc
      have hge : num zr ≤ num zn := by
        rcases Int.lt_or_le (num zn) (num zr) with h | h
        · rw [cmp3_lt h] at hc; omega
        · exact h
      refine bodyPost_ret (results_c rfl rfl (V1.set _)) rfl ?_
      exact ⟨_, _, _, zr, rfl, hr.store V1 _, ⟨by omega, ne hge, ab.out⟩, B0.setCell (p := ⟨w.heap.size + 1, 0, none⟩) (by show _ ≤ w.heap.size + 1; omega) _⟩
    · rename_i hc
      have hlt : num zn < num zr := by
        rcases Int.lt_trichotomy (num zn) (num zr) with h | h | h
        · exact h
        · rw [cmp3_eq h] at hc; omega
        · rw [cmp3_gt h] at hc; omega
      have S3 := Vr.set (.slice an ln kn)
      have N3 := hn.store Vr (.slice an ln kn)
      have hme2 := varNum_eq S3 N3
      have lo2 : Low (num zn) := ⟨by have h7 := lo.lt; generalize pw 4096 = P at h7 ⊢; omega⟩
      refine ⟨⟨an, ln, kn, zn, V0.other (p := ⟨x3.heap.size, 0, none⟩) (by show _ ≠ x3.heap.size; omega) _, V1.other (p := ⟨x3.heap.size, 0, none⟩) (by show _ ≠ x3.heap.size; omega) _, S3, hx.store Vr _, N3, lo2, na, np, B0.setCell (p := ⟨x3.heap.size, 0, none⟩) (by show _ ≤ x3.heap.size; omega) _⟩, ?_⟩
      rw [hme2, hme]; omega
end Go.Proofs.Ytajjhnilpdmnhaa
