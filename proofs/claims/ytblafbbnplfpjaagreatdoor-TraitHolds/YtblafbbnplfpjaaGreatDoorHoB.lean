import Derived.Test.YtblafbbnplfpjaaGreatDoorMgAa
import Derived.Test.YtblafbbnplfpjaaGreatDoorMgAj
import Derived.Test.YtblafbbnplfpjaaGreatDoorHoA
namespace Go.Proofs.YtblafbbnplfpjaaGreatDoor
open Go.RowKit Go.Shelf
set_option linter.unusedVariables false
set_option linter.unusedSimpArgs false

def cnt (l : List Bool) : Nat := l.count true
theorem cnt_snoc (l : List Bool) (b : Bool) : cnt (l ++ [b]) = cnt l + (if b then 1 else 0) := by unfold cnt; cases b <;> simp
theorem cnt_le (l : List Bool) : cnt l ≤ l.length := List.count_le_length
theorem cnt_any (l : List Bool) : decide (0 < cnt l) = l.any id := by
  unfold cnt
  rw [any_contains]
  rw [Bool.eq_iff_iff, decide_eq_true_iff, List.contains_iff_mem, ← List.count_pos_iff]
theorem cnt_all (l : List Bool) : ((cnt l : Nat) == ((l.length : Nat) : Int)) = l.all id := by
  have : ∀ l : List Bool, cnt l = l.length ↔ l.all id = true := by
    intro l
    unfold cnt
    rw [List.count_eq_length, List.all_eq_true]
    exact ⟨fun h b hb => (h b hb).symm, fun h b hb => (h b hb).symm⟩
  rw [Bool.eq_iff_iff, ← this, beq_iff_eq]
  omega
theorem cnt_one {l : List Bool} (h : l.length = 1) : ((cnt l : Nat) == (0 : Int)) = !(l.headD false) := by
  match l, h with
  | [b], _ => cases b <;> rfl
def At7 (w : World) (b k : Nat) (n : Nd) (a : Option Addr) (l c : Nat) : Prop := ∀ j u, (encT ⟨n, a, l, c⟩)[j]? = some u → w.cell? ⟨b, k + j, none⟩ = some u
theorem At7.after {w w' : World} (hb : Below w.heap.size w w') {b k : Nat} {n : Nd} {a : Option Addr} {l c : Nat} (h : At7 w b k n a l c) : At7 w' b k n a l c := fun j u hj => (hb.cell (cell_lt (h j u hj))).trans (h j u hj)
theorem At7.drw {w : World} {b k : Nat} {n : Nd} {a : Option Addr} {l c : Nat} (h : At7 w b k n a l c) : At7 w.drew b k n a l c := h
section
variable {w : World} {b k : Nat} {n : Nd} {a : Option Addr} {l c : Nat} (h : At7 w b k n a l c)
include h
theorem At7.c0 : w.cell? ⟨b, k, none⟩ = some (.int .i64 n.kd) := h 0 _ rfl
theorem At7.c1 : w.cell? ⟨b, k + 1, none⟩ = some (.int .i64 n.ks) := h 1 _ rfl
theorem At7.c2 : w.cell? ⟨b, k + 2, none⟩ = some (sv n.nm) := h 2 _ rfl
theorem At7.c3 : w.cell? ⟨b, k + 3, none⟩ = some (.int .i64 n.op) := h 3 _ rfl
theorem At7.c4 : w.cell? ⟨b, k + 4, none⟩ = some (.int .i64 n.un) := h 4 _ rfl
theorem At7.c5 : w.cell? ⟨b, k + 5, none⟩ = some (.int .i64 n.pl) := h 5 _ rfl
theorem At7.c6 : w.cell? ⟨b, k + 6, none⟩ = some (.slice a l c) := h 6 _ rfl
end
theorem at7_of {w : World} {b off len : Nat} {ts : List Tc} (h : Le elT w (some ⟨b, off, none⟩) len ts) (i : Nat) (hi : i < len) {n : Nd} {a : Option Addr} {l c : Nat} (e : ts.getD i elT.dft = ⟨n, a, l, c⟩) : At7 w b (off + i * 7) n a l c := fun j u hj => by
  rw [Nat.add_assoc]
  exact h.at i hi j u (by rw [e]; exact hj)
theorem Rtw.nth {w : World} {P : Nat → Prop} : ∀ {k : Fo} {ts : List Tc}, Rtw w P k ts → ∀ i, i < k.len → ∃ (x : Fo) (m : Nd) (km r : Fo), k = x.app (.cons m km r) ∧ x.len = i ∧ Rtw w P (.cons m km .nil) [ts.getD i elT.dft]
  | .nil, ts, h, i, hi => by simp [Fo.len] at hi
  | .cons n k r, ts, h, 0, hi => by
    obtain ⟨t, ts', kts, rfl, h1, h2, h3, h4, h5, h6⟩ := h
    exact ⟨.nil, n, k, r, rfl, rfl, _, [], kts, rfl, h1, h2, h3, h4, h5, rfl⟩
  | .cons n k r, ts, h, i + 1, hi => by
    obtain ⟨t, ts', kts, rfl, h1, h2, h3, h4, h5, h6⟩ := h
    obtain ⟨x, m, km, r', e, hx, hr⟩ := Rtw.nth h6 i (by simp only [Fo.len] at hi; omega)
    exact ⟨.cons n k x, m, km, r', by rw [e]; rfl, by simp only [Fo.len, hx], hr⟩
theorem ok_one {n : Nd} {k r : Fo} {o : Int} {d : Nat} (h : (Fo.cons n k r).Ok wdB o d) : (Fo.cons n k .nil).Ok wdB o d := ⟨h.1, trivial⟩
theorem ev_take {v : Nd → Bool} {k x r : Fo} {m : Nd} {km : Fo} {i : Nat} (e : k = x.app (.cons m km r)) (hx : x.len = i) : (k.ev v).take (i + 1) = (k.ev v).take i ++ [val v m (km.ev v)] := by
  have h1 : (k.ev v) = x.ev v ++ val v m (km.ev v) :: r.ev v := by rw [e, ev_app, ev_cons]
  have h2 : (x.ev v).length = i := by rw [ev_len, hx]
  have a1 : (x.ev v ++ val v m (km.ev v) :: r.ev v).take i = x.ev v := List.take_left' h2
  have a2 : (x.ev v ++ val v m (km.ev v) :: r.ev v).take (i + 1) = x.ev v ++ [val v m (km.ev v)] := by
    rw [List.append_cons]; exact List.take_left' (by rw [List.length_append, h2]; rfl)
  rw [h1, a1, a2]
set_option maxRecDepth 20000 in
set_option maxHeartbeats 16000000 in
theorem rholds_any (a1 : Option Addr) (c1 : Nat) (a2 : Option Addr) (c2 : Nat) (f : Fx) (P : Nat → Prop) (hfo : f.Ok) (hq1 : f.byr.length ≤ 16) (hq2 : f.lin.length ≤ 16) : ∀ (fu d : Nat), d + fu = 17 → ∀ (n : Nd) (k : Fo) (o : Int) (t : Tc) (w : World), (Fo.cons n k .nil).Ok wdB o d → (∀ m ∈ (Fo.cons n k .nil).flat, N64 m) → k.flat.length ≤ 64 → Rtw w P (.cons n k .nil) [t] → Lf w a1 c1 a2 c2 f →
    Calls Tryz.prog 39 #[tvT t, fxv a1 c1 a2 c2 f] w fun e w' => e = .returned (.bool (val f.vf n (k.ev f.vf))) ∧ Below w.heap.size w w' := by
  intro fu
  induction fu with
  | zero =>
    intro d hd n k o t w hok; have := hok.1.2.2.1
    omega
  | succ fu ih =>
    intro d hd n k o t w hok h64 hkl hR hF; obtain ⟨t, ts0, kts, e0, htn, htl, hL, -, hK, -⟩ := hR
    cases e0
    obtain ⟨tn, ta, tl, tc⟩ := t
    dsimp only at htn htl hL
    subst htn; have HOK : Hid ((Fo.cons tn k .nil).Ok wdB o d) := hok; have H64 : Hid (∀ m ∈ (Fo.cons tn k .nil).flat, N64 m) := h64; have HKL : Hid (k.flat.length ≤ 64) := hkl; have HL : Hid (Le elT w ta tl kts) := hL; have HK : Hid (Rtw w P k kts) := hK; have HF : Hid (Lf w a1 c1 a2 c2 f) := hF; have HTL : Hid (tl = k.len) := htl; have HFO : Hid f.Ok := hfo
    have HIH : Hid (∀ d : Nat, d + fu = 17 → ∀ (n : Nd) (k : Fo) (o : Int) (t : Tc) (w : World), (Fo.cons n k .nil).Ok wdB o d → (∀ m ∈ (Fo.cons n k .nil).flat, N64 m) → k.flat.length ≤ 64 → Rtw w P (.cons n k .nil) [t] → Lf w a1 c1 a2 c2 f →
        Calls Tryz.prog 39 #[tvT t, fxv a1 c1 a2 c2 f] w fun e w' => e = .returned (.bool (val f.vf n (k.ev f.vf))) ∧ Below w.heap.size w w') := ih
    (obtain ⟨R, hR⟩ : ∃ R, val f.vf tn (k.ev f.vf) = R := ⟨_, rfl⟩); have HR : Hid (val f.vf tn (k.ev f.vf) = R) := hR; rw [hR]; have hk64 : k.len ≤ 64 := Nat.le_trans (Fo.len_flat k) hkl; (have htl64 : tl ≤ 64 := by rw [htl]; exact hk64); clear hok h64 hkl hL hK hF htl ih hR hfo
    dsimp only [fxv, tvT, cT]
    have B0 : Below w.heap.size w w := Below.refl _ _
    go_enter Tryz.func39, Tryz.ntmps39
    go_upto_region 1 with fail
    refine ent2 w _ _ _ _ (Q := fun W => Code.wp _ _ _ _ W) ?_; intro W2 hb hs2 V2 V3; have HV2 : Hid (Va W2 w.heap.size 56 #[.int .i64 tn.kd, .int .i64 tn.ks, sv tn.nm, .int .i64 tn.op, .int .i64 tn.un, .int .i64 tn.pl, .slice ta tl tc]) := V2; have HV3 : Hid (Va W2 (w.heap.size + 1) 25 #[.slice a1 f.byr.length c1, .slice a2 f.lin.length c2, .int .i64 f.amt, .int .i64 f.dig, .int .i64 f.qty]) := V3; have HB2 : Hid (Below w.heap.size w W2) := hb; clear V2 V3 hb hs2 B0; (go_wp2_with fail)
    go_loopw [5, 6, 7] (fun v5 v6 _ wr => ∃ i : Nat, v5 = .int .i64 (cnt ((k.ev f.vf).take i) : Nat) ∧ v6 = .int .i64 i ∧ i ≤ tl ∧ Hid (Below W2.heap.size W2 wr)) (fun _ v6 _ _ => (tl - (intOf v6).toNat : Nat))
    case atStart => exact ⟨0, by go_num, rfl, Nat.zero_le _, Below.refl _ _⟩
    case round =>
      obtain ⟨i, rfl, rfl, hi, HX⟩ := hrel; (obtain ⟨C, hC⟩ : ∃ C, cnt ((k.ev f.vf).take i) = C := ⟨_, rfl⟩); have HC : Hid (cnt ((k.ev f.vf).take i) = C) := hC
      have hC64 : C ≤ 64 := by
        rw [← hC]; have h1 := cnt_le ((k.ev f.vf).take i); rw [List.length_take, ev_len] at h1; have := HTL.out
        omega
      rw [hC]; clear hC
      rcases Nat.lt_or_ge i tl with hlt | hge
      · have hii : (i : Int) < tl := by omega
        obtain ⟨b, off, rfl⟩ := HL.out.ex (by omega); have B0 : Below w.heap.size w wr := step HB2.out HX.out; have L1 := HL.out.after B0; obtain ⟨x, m, km, r, hk, hx, hm⟩ := HK.out.nth i (by have := HTL.out; omega)
        have hgm : (kts.getD i elT.dft).n = m := by
          obtain ⟨t0, ts0, kts0, e0, h0, -⟩ := hm
          cases e0; exact h0
        (obtain ⟨⟨mn, ma, ml, mc⟩, hg⟩ : ∃ t : Tc, kts.getD i elT.dft = t := ⟨_, rfl⟩); rw [hg] at hgm hm
        dsimp only at hgm
        subst hgm; have kk : At7 wr b (off + i * 7) mn ma ml mc := at7_of L1 i hlt hg
        have HW : Hid (cnt ((k.ev f.vf).take (i + 1)) = C + (if val f.vf mn (km.ev f.vf) then 1 else 0)) := by
          show _ = _
          rw [ev_take hk hx, cnt_snoc, HC.out]
        have hd16 := HOK.out.1.2.2.1
        have HD : Hid (∀ W, Below w.heap.size w W → Calls Tryz.prog 39 #[tvT ⟨mn, ma, ml, mc⟩, fxv a1 c1 a2 c2 f] W fun e w' => e = .returned (.bool (val f.vf mn (km.ev f.vf))) ∧ Below W.heap.size W w') := fun W hW => by
          have hkk := HOK.out.1.2.2.2.2; rw [hk] at hkk
          have hfl : ∀ z ∈ (Fo.cons mn km .nil).flat, z ∈ k.flat := fun z hz => by
            rw [hk, Fo.flat_app]; refine List.mem_append.2 (.inr ?_); simp only [Fo.flat, List.append_nil, List.mem_cons, List.mem_append] at hz ⊢
            rcases hz with hz | hz
            · exact .inl hz
            · exact .inr (.inl hz)
          refine HIH.out (d + 1) (by omega) mn km _ _ W (ok_one hkk.right) (fun z hz => H64.out z ?_) ?_ (Rtw.imp (fun b' hb' hp => ⟨hp, hW.block b' hb'⟩) hm) (HF.out.after hW)
          · simp only [Fo.flat, List.append_nil, List.mem_cons]; exact .inr (hfl z hz)
          · have h9 := HKL.out
            rw [hk, Fo.flat_app] at h9; simp only [Fo.flat, List.length_append, List.length_cons] at h9
            omega
        (obtain ⟨Y, hY⟩ : ∃ Y, val f.vf mn (km.ev f.vf) = Y := ⟨_, rfl⟩); rw [hY] at HD HW
        dsimp only [fxv, tvT, cT] at HD
        clear hY hm hg hk hx L1 hd16; have HB0 : Hid (Below w.heap.size w wr) := B0; have V2 := HV2.out.after HX.out; have V3 := HV3.out.after HX.out; replace B0 := HX.out; clear HB0; have c2 := V2.t6; (go_wp2_with fail); clear c2; refine wp_region_noPanic ?_; replace V2 : Va wr.drew _ _ _ := V2; replace V3 : Va wr.drew _ _ _ := V3; replace kk := kk.drw; replace B0 := Below.drew B0; refine wp_region_held_drew (S := (fun W => W.cell? ⟨w.heap.size, 0, none⟩ = some (.int .i64 tn.kd) ∧ W.cell? ⟨w.heap.size, 1, none⟩ = some (.int .i64 tn.ks) ∧ W.cell? ⟨w.heap.size, 2, none⟩ = some (sv tn.nm) ∧ W.cell? ⟨w.heap.size, 3, none⟩ = some (.int .i64 tn.op) ∧ W.cell? ⟨w.heap.size, 4, none⟩ = some (.int .i64 tn.un) ∧ W.cell? ⟨w.heap.size, 5, none⟩ = some (.int .i64 tn.pl) ∧ W.cell? ⟨w.heap.size, 6, none⟩ = some (.slice (some ⟨b, off, none⟩) tl tc) ∧ W.cell? ⟨w.heap.size + 1, 0, none⟩ = some (.slice a1 f.byr.length c1) ∧ W.cell? ⟨w.heap.size + 1, 1, none⟩ = some (.slice a2 f.lin.length c2) ∧ W.cell? ⟨w.heap.size + 1, 2, none⟩ = some (.int .i64 f.amt) ∧ W.cell? ⟨w.heap.size + 1, 3, none⟩ = some (.int .i64 f.dig) ∧ W.cell? ⟨w.heap.size + 1, 4, none⟩ = some (.int .i64 f.qty) ∧ W.cell? ⟨b, off + i * 7, none⟩ = some (.int .i64 mn.kd) ∧ W.cell? ⟨b, off + i * 7 + 1, none⟩ = some (.int .i64 mn.ks) ∧ W.cell? ⟨b, off + i * 7 + 2, none⟩ = some (sv mn.nm) ∧ W.cell? ⟨b, off + i * 7 + 3, none⟩ = some (.int .i64 mn.op) ∧ W.cell? ⟨b, off + i * 7 + 4, none⟩ = some (.int .i64 mn.un) ∧ W.cell? ⟨b, off + i * 7 + 5, none⟩ = some (.int .i64 mn.pl) ∧ W.cell? ⟨b, off + i * 7 + 6, none⟩ = some (.slice ma ml mc))) (by kernel_rfl) ⟨V2.t0, V2.t1, V2.t2, V2.t3, V2.t4, V2.t5, V2.t6, V3.f0, V3.f1, V3.f2, V3.f3, V3.f4, kk.c0, kk.c1, kk.c2, kk.c3, kk.c4, kk.c5, kk.c6⟩ (fun hHeld => ?_)
        (obtain ⟨x11, hxd⟩ : ∃ xd, xd = wr.drew := ⟨_, rfl⟩); rw [← hxd] at V2 V3 kk B0 hHeld ⊢; clear hxd; refine tjz 0 hHeld ?_; refine tjz 1 hHeld ?_; refine tjz 2 hHeld ?_; refine tjz 3 hHeld ?_; refine tjz 4 hHeld ?_; refine tjz 5 hHeld ?_; refine ryz 6 (fun K hK => ?_); simp only [gA, gB, gC]; (go_simp); refine (HD.out _ (step HB2.out B0)).mono ?_; rintro e w5 ⟨rfl, hb⟩; replace V2 := V2.a hb; replace V3 := V3.a hb; replace kk := At7.after hb kk; replace B0 := step B0 hb; clear hb; (try go_wp2_with fail); refine hK.out _ _ ⟨V2.t0, V2.t1, V2.t2, V2.t3, V2.t4, V2.t5, V2.t6, V3.f0, V3.f1, V3.f2, V3.f3, V3.f4, kk.c0, kk.c1, kk.c2, kk.c3, kk.c4, kk.c5, kk.c6⟩ (fun hHeld => ?_)
        clear hK K; refine tjz 7 hHeld ?_; refine dnz ?_; clear hHeld; clear V2 V3 kk HD; have HX5 : Hid (Below W2.heap.size W2 w5) := B0; clear B0
        cases Y
        ·
          have HW2 : Hid (cnt ((k.ev f.vf).take (i + 1)) = C) := HW.out; clear HW; (go_wp2_with fail)
          go_roundw
          case rel => exact ⟨i + 1, by rw [HW2.out], by go_num, by omega, HX5.out⟩
          case measure => simp [intOf]; omega
        ·
          (have xc : IntKind.i64.wrap ((C : Int) + 1) = (C : Int) + 1 := by rw [IntKind.wrap_i64]; omega); have HW2 : Hid (cnt ((k.ev f.vf).take (i + 1)) = C + 1) := HW.out; clear HW; (go_wp2_with fail)
          go_roundw
          case rel => exact ⟨i + 1, by rw [HW2.out]; go_num, by go_num, by omega, HX5.out⟩
          case measure => simp [intOf]; omega
      · have hi2 : ¬ (i : Int) < tl := by omega
        have HC2 : Hid (cnt (k.ev f.vf) = C) := by
          show _ = _
          rw [← HC.out, List.take_of_length_le]; rw [ev_len]; have := HTL.out; omega
        (have HEL : Hid ((k.ev f.vf).length = tl) := by show _ = _; rw [ev_len, HTL.out]); have V2 := HV2.out.after HX.out; have V3 := HV3.out.after HX.out; have B0 := step HB2.out HX.out; clear HC hge hi HX
        have hkd : tn.kd = 1 ∨ tn.kd = 2 ∨ tn.kd = 3 ∨ tn.kd = 4 ∨ tn.kd = 5 ∨ tn.kd = 6 ∨ tn.kd = 7 := by
          rcases HOK.out.1.1 with ⟨h | h, -⟩ | ⟨h, -⟩ | ⟨h | h, -⟩ | ⟨h | h, -⟩ <;> omega
        rcases hkd with hkd | hkd | hkd | hkd | hkd | hkd | hkd
        ·
          (have e1 : (tn.kd == 1) = true := by rw [hkd]; rfl); (have e2 : (tn.kd == 2) = false := by rw [hkd]; rfl); (have e3 : (tn.kd == 3) = false := by rw [hkd]; rfl); (have e4 : (tn.kd == 4) = false := by rw [hkd]; rfl); (have e5 : (tn.kd == 5) = false := by rw [hkd]; rfl); (have e6 : (tn.kd == 6) = false := by rw [hkd]; rfl)
          have HV : Hid (R = decide (0 < C)) := by
            show _ = _
            rw [← HR.out, ← HC2.out, cnt_any]; simp [val, hkd]
          clear hkd HR HC2; have c_V2 := V2.t0; have f0_V2 := V2.frozen 0; have d_V2 := V2.t1; have f1_V2 := V2.frozen 1; have e_V2 := V2.t2; have f2_V2 := V2.frozen 2; have j_V2 := V2.t3; have f3_V2 := V2.frozen 3; have k_V2 := V2.t4; have f4_V2 := V2.frozen 4; have z_V2 := V2.t5; have f5_V2 := V2.frozen 5; have y_V2 := V2.t6; have f6_V2 := V2.frozen 6; have l_V2 := V2.lt; have m_V2 := Nat.le_of_lt l_V2; (go_wp2_with fail)
          go_ret
          exact ⟨by rw [HV.out]; rfl, B0⟩
        ·
          (have e1 : (tn.kd == 1) = false := by rw [hkd]; rfl); (have e2 : (tn.kd == 2) = true := by rw [hkd]; rfl); (have e3 : (tn.kd == 3) = false := by rw [hkd]; rfl); (have e4 : (tn.kd == 4) = false := by rw [hkd]; rfl); (have e5 : (tn.kd == 5) = false := by rw [hkd]; rfl); (have e6 : (tn.kd == 6) = false := by rw [hkd]; rfl)
          have HV : Hid (R = ((C : Int) == (tl : Int))) := by
            show _ = _
            rw [← HR.out, ← HC2.out, ← HEL.out, cnt_all]; simp [val, hkd]
          clear hkd HR HC2; have c_V2 := V2.t0; have f0_V2 := V2.frozen 0; have d_V2 := V2.t1; have f1_V2 := V2.frozen 1; have e_V2 := V2.t2; have f2_V2 := V2.frozen 2; have j_V2 := V2.t3; have f3_V2 := V2.frozen 3; have k_V2 := V2.t4; have f4_V2 := V2.frozen 4; have z_V2 := V2.t5; have f5_V2 := V2.frozen 5; have y_V2 := V2.t6; have f6_V2 := V2.frozen 6; have l_V2 := V2.lt; have m_V2 := Nat.le_of_lt l_V2; (go_wp2_with fail)
          go_ret
          exact ⟨by rw [HV.out]; rfl, B0⟩
        ·
          (have e1 : (tn.kd == 1) = false := by rw [hkd]; rfl); (have e2 : (tn.kd == 2) = false := by rw [hkd]; rfl); (have e3 : (tn.kd == 3) = true := by rw [hkd]; rfl); (have e4 : (tn.kd == 4) = false := by rw [hkd]; rfl); (have e5 : (tn.kd == 5) = false := by rw [hkd]; rfl); (have e6 : (tn.kd == 6) = false := by rw [hkd]; rfl)
          have HV : Hid (R = ((C : Int) == 0)) := by
            show _ = _
            have h1 : (k.ev f.vf).length = 1 := by
              rw [ev_len]; have h2 := HOK.out.1.2.2.2.1
              rcases HOK.out.1.1 with ⟨h, -⟩ | ⟨-, h, -⟩ | ⟨h, -⟩ | ⟨h, -⟩ <;> omega
            rw [← HR.out, ← HC2.out, cnt_one h1]; simp [val, hkd]
          clear hkd HR HC2; have c_V2 := V2.t0; have f0_V2 := V2.frozen 0; have d_V2 := V2.t1; have f1_V2 := V2.frozen 1; have e_V2 := V2.t2; have f2_V2 := V2.frozen 2; have j_V2 := V2.t3; have f3_V2 := V2.frozen 3; have k_V2 := V2.t4; have f4_V2 := V2.frozen 4; have z_V2 := V2.t5; have f5_V2 := V2.frozen 5; have y_V2 := V2.t6; have f6_V2 := V2.frozen 6; have l_V2 := V2.lt; have m_V2 := Nat.le_of_lt l_V2; (go_wp2_with fail)
          go_ret
          exact ⟨by rw [HV.out]; rfl, B0⟩
        ·
          (have e1 : (tn.kd == 1) = false := by rw [hkd]; rfl); (have e2 : (tn.kd == 2) = false := by rw [hkd]; rfl); (have e3 : (tn.kd == 3) = false := by rw [hkd]; rfl); (have e4 : (tn.kd == 4) = true := by rw [hkd]; rfl); (have e5 : (tn.kd == 5) = false := by rw [hkd]; rfl); (have e6 : (tn.kd == 6) = false := by rw [hkd]; rfl)
          have HV : Hid (R = f.byr.contains tn.nm) := by
            show _ = _
            rw [← HR.out]; simp [val, hkd, Fx.vf, vfa]
          have D := ramong_any f.byr tn.nm a1 c1 wr (HF.out.after B0).l1 (by omega); (obtain ⟨Q, hQ⟩ : ∃ q, f.byr.contains tn.nm = q := ⟨_, rfl⟩); rw [hQ] at D HV; clear hkd HR hQ; have c_V2 := V2.t0; have f0_V2 := V2.frozen 0; have d_V2 := V2.t1; have f1_V2 := V2.frozen 1; have e_V2 := V2.t2; have f2_V2 := V2.frozen 2; have j_V2 := V2.t3; have f3_V2 := V2.frozen 3; have k_V2 := V2.t4; have f4_V2 := V2.frozen 4; have z_V2 := V2.t5; have f5_V2 := V2.frozen 5; have y_V2 := V2.t6; have f6_V2 := V2.frozen 6; have l_V2 := V2.lt; have m_V2 := Nat.le_of_lt l_V2; have c_V3 := V3.f0; have f0_V3 := V3.frozen 0; have d_V3 := V3.f1; have f1_V3 := V3.frozen 1; have e_V3 := V3.f2; have f2_V3 := V3.frozen 2; have j_V3 := V3.f3; have f3_V3 := V3.frozen 3; have k_V3 := V3.f4; have f4_V3 := V3.frozen 4; have l_V3 := V3.lt; have m_V3 := Nat.le_of_lt l_V3; (go_wp2_with fail); clear c_V2 f0_V2 d_V2 f1_V2 e_V2 f2_V2 j_V2 f3_V2 k_V2 f4_V2 z_V2 f5_V2 y_V2 f6_V2 l_V2 m_V2 c_V3 f0_V3 d_V3 f1_V3 e_V3 f2_V3 j_V3 f3_V3 k_V3 f4_V3 l_V3 m_V3
          refine D.mono ?_; rintro e w9 ⟨rfl, hb⟩; have B9 := step B0 hb; clear D hb V2 V3; (go_wp2_with fail)
          go_ret
          exact ⟨by rw [HV.out]; rfl, B9⟩
        ·
          (have e1 : (tn.kd == 1) = false := by rw [hkd]; rfl); (have e2 : (tn.kd == 2) = false := by rw [hkd]; rfl); (have e3 : (tn.kd == 3) = false := by rw [hkd]; rfl); (have e4 : (tn.kd == 4) = false := by rw [hkd]; rfl); (have e5 : (tn.kd == 5) = true := by rw [hkd]; rfl); (have e6 : (tn.kd == 6) = false := by rw [hkd]; rfl)
          have HV : Hid (R = f.lin.contains tn.nm) := by
            show _ = _
            rw [← HR.out]; simp [val, hkd, Fx.vf, vfa]
          have D := ramong_any f.lin tn.nm a2 c2 wr (HF.out.after B0).l2 (by omega); (obtain ⟨Q, hQ⟩ : ∃ q, f.lin.contains tn.nm = q := ⟨_, rfl⟩); rw [hQ] at D HV; clear hkd HR hQ; have c_V2 := V2.t0; have f0_V2 := V2.frozen 0; have d_V2 := V2.t1; have f1_V2 := V2.frozen 1; have e_V2 := V2.t2; have f2_V2 := V2.frozen 2; have j_V2 := V2.t3; have f3_V2 := V2.frozen 3; have k_V2 := V2.t4; have f4_V2 := V2.frozen 4; have z_V2 := V2.t5; have f5_V2 := V2.frozen 5; have y_V2 := V2.t6; have f6_V2 := V2.frozen 6; have l_V2 := V2.lt; have m_V2 := Nat.le_of_lt l_V2; have c_V3 := V3.f0; have f0_V3 := V3.frozen 0; have d_V3 := V3.f1; have f1_V3 := V3.frozen 1; have e_V3 := V3.f2; have f2_V3 := V3.frozen 2; have j_V3 := V3.f3; have f3_V3 := V3.frozen 3; have k_V3 := V3.f4; have f4_V3 := V3.frozen 4; have l_V3 := V3.lt; have m_V3 := Nat.le_of_lt l_V3; (go_wp2_with fail); clear c_V2 f0_V2 d_V2 f1_V2 e_V2 f2_V2 j_V2 f3_V2 k_V2 f4_V2 z_V2 f5_V2 y_V2 f6_V2 l_V2 m_V2 c_V3 f0_V3 d_V3 f1_V3 e_V3 f2_V3 j_V3 f3_V3 k_V3 f4_V3 l_V3 m_V3
          refine D.mono ?_; rintro e w9 ⟨rfl, hb⟩; have B9 := step B0 hb; clear D hb V2 V3; (go_wp2_with fail)
          go_ret
          exact ⟨by rw [HV.out]; rfl, B9⟩
        ·
          (have e1 : (tn.kd == 1) = false := by rw [hkd]; rfl); (have e2 : (tn.kd == 2) = false := by rw [hkd]; rfl); (have e3 : (tn.kd == 3) = false := by rw [hkd]; rfl); (have e4 : (tn.kd == 4) = false := by rw [hkd]; rfl); (have e5 : (tn.kd == 5) = false := by rw [hkd]; rfl); (have e6 : (tn.kd == 6) = true := by rw [hkd]; rfl)
          have HV : Hid (R = bySo tn.op (qcmp (Rat.divInt f.amt (10 ^ f.dig.toNat)) (Rat.divInt tn.un (10 ^ tn.pl.toNat)))) := by
            show _ = _
            rw [← HR.out]; simp [val, hkd, Fx.vf, vfa, vq]
          (obtain ⟨PP, hPP⟩ : ∃ p : Nat, tn.pl = p := ⟨tn.pl.toNat, by have := HOK.out.1.1; rcases this with ⟨h, -⟩ | ⟨h, -⟩ | ⟨h, -⟩ | ⟨-, -, -, -, -, -, h, -⟩ <;> omega⟩); (have hcan : 0 ≤ tn.pl ∧ tn.pl ≤ 9 := by have := HOK.out.1.1; rcases this with ⟨h, -⟩ | ⟨h, -⟩ | ⟨h, -⟩ | ⟨-, -, -, -, -, -, h, h', -⟩ <;> omega); have hun : -9223372036854775808 ≤ tn.un ∧ tn.un ≤ 9223372036854775807 := H64.out tn (by simp [Fo.flat]) tn.un (by simp); have hff := HFO.out; have hfb : 0 ≤ f.dig ∧ f.dig ≤ 4 ∧ 0 ≤ f.amt ∧ 0 ≤ f.qty := ⟨hff.2.2.1, hff.2.2.2.1, hff.2.2.2.2.1, hff.2.2.2.2.2⟩; have hfc := HF.out.b1; (obtain ⟨DD, hDD⟩ : ∃ p : Nat, f.dig = p := ⟨f.dig.toNat, by omega⟩); have D := ragainst_any f.amt DD tn.un PP (by omega) (by omega) hfb.2.2.1 hfc.2 hun.1 hun.2; (have hpp2 : tn.pl.toNat = PP := by omega); rw [hpp2] at HV; (have hdd2 : f.dig.toNat = DD := by omega); rw [hdd2] at HV; (obtain ⟨Q, hQ⟩ : ∃ q, qcmp (Rat.divInt f.amt (10 ^ DD)) (Rat.divInt tn.un (10 ^ PP)) = q := ⟨_, rfl⟩)
          rw [hQ] at D HV; have HPP : Hid (tn.pl = PP) := hPP; have HDD : Hid (f.dig = DD) := hDD; rw [hPP] at V2; rw [hDD] at V3; clear hkd HR hff hfb hfc hun hcan hpp2 hQ hPP hDD hdd2; have c_V2 := V2.t0; have f0_V2 := V2.frozen 0; have d_V2 := V2.t1; have f1_V2 := V2.frozen 1; have e_V2 := V2.t2; have f2_V2 := V2.frozen 2; have j_V2 := V2.t3; have f3_V2 := V2.frozen 3; have k_V2 := V2.t4; have f4_V2 := V2.frozen 4; have z_V2 := V2.t5; have f5_V2 := V2.frozen 5; have y_V2 := V2.t6; have f6_V2 := V2.frozen 6; have l_V2 := V2.lt; have m_V2 := Nat.le_of_lt l_V2; have c_V3 := V3.f0; have f0_V3 := V3.frozen 0; have d_V3 := V3.f1; have f1_V3 := V3.frozen 1; have e_V3 := V3.f2; have f2_V3 := V3.frozen 2; have j_V3 := V3.f3; have f3_V3 := V3.frozen 3; have k_V3 := V3.f4; have f4_V3 := V3.frozen 4; have l_V3 := V3.lt; have m_V3 := Nat.le_of_lt l_V3; (go_wp2_with fail); clear c_V2 f0_V2 d_V2 f1_V2 e_V2 f2_V2 j_V2 f3_V2 k_V2 f4_V2 z_V2 f5_V2 y_V2 f6_V2 l_V2 m_V2 c_V3 f0_V3 d_V3 f1_V3 e_V3 f2_V3 j_V3 f3_V3 k_V3 f4_V3 l_V3 m_V3
          refine wp_region_noPanic ?_; replace V2 : Va wr.drew _ _ _ := V2; replace V3 : Va wr.drew _ _ _ := V3; replace B0 := Below.drew B0; refine wp_region_held_drew (S := (fun W => W.cell? ⟨w.heap.size, 0, none⟩ = some (.int .i64 tn.kd) ∧ W.cell? ⟨w.heap.size, 1, none⟩ = some (.int .i64 tn.ks) ∧ W.cell? ⟨w.heap.size, 2, none⟩ = some (sv tn.nm) ∧ W.cell? ⟨w.heap.size, 3, none⟩ = some (.int .i64 tn.op) ∧ W.cell? ⟨w.heap.size, 4, none⟩ = some (.int .i64 tn.un) ∧ W.cell? ⟨w.heap.size, 5, none⟩ = some (.int .i64 PP) ∧ W.cell? ⟨w.heap.size, 6, none⟩ = some (.slice ta tl tc) ∧ W.cell? ⟨w.heap.size + 1, 0, none⟩ = some (.slice a1 f.byr.length c1) ∧ W.cell? ⟨w.heap.size + 1, 1, none⟩ = some (.slice a2 f.lin.length c2) ∧ W.cell? ⟨w.heap.size + 1, 2, none⟩ = some (.int .i64 f.amt) ∧ W.cell? ⟨w.heap.size + 1, 3, none⟩ = some (.int .i64 DD) ∧ W.cell? ⟨w.heap.size + 1, 4, none⟩ = some (.int .i64 f.qty))) (by kernel_rfl) ⟨V2.t0, V2.t1, V2.t2, V2.t3, V2.t4, V2.t5, V2.t6, V3.f0, V3.f1, V3.f2, V3.f3, V3.f4⟩ (fun hHeld => ?_)
          (obtain ⟨x31, hxd⟩ : ∃ xd, xd = wr.drew := ⟨_, rfl⟩); rw [← hxd] at V2 V3 B0 hHeld ⊢; clear hxd; refine tjz 0 hHeld ?_; refine tjz 1 hHeld ?_; refine tjz 2 hHeld ?_; refine tjz 3 hHeld ?_; refine tjz 4 hHeld ?_; refine tjz 5 hHeld ?_; refine tjz 6 hHeld ?_; refine tjz 7 hHeld ?_; refine tjz 8 hHeld ?_; refine tjz 9 hHeld ?_; refine ryz 10 (fun K hK => ?_); simp only [gA, gB, gC]; (go_simp)
          refine (D _).mono ?_; rintro e x32 ⟨rfl, hb⟩; replace V2 := V2.a hb; replace V3 := V3.a hb; replace B0 := step B0 hb; clear hb; (try go_wp2_with fail); refine hK.out _ _ ⟨V2.t0, V2.t1, V2.t2, V2.t3, V2.t4, V2.t5, V2.t6, V3.f0, V3.f1, V3.f2, V3.f3, V3.f4⟩ (fun hHeld => ?_); clear hK K; refine ryz 11 (fun K hK => ?_); simp only [gA, gB, gC]; (go_simp); refine (rby_any tn.op Q _).mono ?_; rintro e x33 ⟨rfl, hb⟩; replace V2 := V2.a hb; replace V3 := V3.a hb; replace B0 := step B0 hb; clear hb; (try go_wp2_with fail); refine hK.out _ _ ⟨V2.t0, V2.t1, V2.t2, V2.t3, V2.t4, V2.t5, V2.t6, V3.f0, V3.f1, V3.f2, V3.f3, V3.f4⟩ (fun hHeld => ?_); clear hK K; refine tjz 12 hHeld ?_; refine dnz ?_; clear hHeld; (go_wp2_with fail)
          go_ret
          exact ⟨by rw [HV.out]; rfl, B0⟩
        ·
          (have e1 : (tn.kd == 1) = false := by rw [hkd]; rfl); (have e2 : (tn.kd == 2) = false := by rw [hkd]; rfl); (have e3 : (tn.kd == 3) = false := by rw [hkd]; rfl); (have e4 : (tn.kd == 4) = false := by rw [hkd]; rfl); (have e5 : (tn.kd == 5) = false := by rw [hkd]; rfl); (have e6 : (tn.kd == 6) = false := by rw [hkd]; rfl)
          have HV : Hid (R = bySo tn.op (qcmp (Rat.divInt f.qty (10 ^ 0)) (Rat.divInt tn.un (10 ^ tn.pl.toNat)))) := by
            show _ = _
            rw [← HR.out]; simp [val, hkd, Fx.vf, vfa, vq]
          (obtain ⟨PP, hPP⟩ : ∃ p : Nat, tn.pl = p := ⟨tn.pl.toNat, by have := HOK.out.1.1; rcases this with ⟨h, -⟩ | ⟨h, -⟩ | ⟨h, -⟩ | ⟨-, -, -, -, -, -, h, -⟩ <;> omega⟩); (have hcan : 0 ≤ tn.pl ∧ tn.pl ≤ 9 := by have := HOK.out.1.1; rcases this with ⟨h, -⟩ | ⟨h, -⟩ | ⟨h, -⟩ | ⟨-, -, -, -, -, -, h, h', -⟩ <;> omega); have hun : -9223372036854775808 ≤ tn.un ∧ tn.un ≤ 9223372036854775807 := H64.out tn (by simp [Fo.flat]) tn.un (by simp); have hff := HFO.out; have hfb : 0 ≤ f.dig ∧ f.dig ≤ 4 ∧ 0 ≤ f.amt ∧ 0 ≤ f.qty := ⟨hff.2.2.1, hff.2.2.2.1, hff.2.2.2.2.1, hff.2.2.2.2.2⟩; have hfc := HF.out.b3; have D := ragainst_any f.qty 0 tn.un PP (by omega) (by omega) hfb.2.2.2 hfc.2 hun.1 hun.2; (have hpp2 : tn.pl.toNat = PP := by omega); rw [hpp2] at HV; (obtain ⟨Q, hQ⟩ : ∃ q, qcmp (Rat.divInt f.qty (10 ^ 0)) (Rat.divInt tn.un (10 ^ PP)) = q := ⟨_, rfl⟩); rw [hQ] at D HV; have HPP : Hid (tn.pl = PP) := hPP; rw [hPP] at V2; clear hkd HR hff hfb hfc hun hcan hpp2 hQ hPP
          have c_V2 := V2.t0; have f0_V2 := V2.frozen 0; have d_V2 := V2.t1; have f1_V2 := V2.frozen 1; have e_V2 := V2.t2; have f2_V2 := V2.frozen 2; have j_V2 := V2.t3; have f3_V2 := V2.frozen 3; have k_V2 := V2.t4; have f4_V2 := V2.frozen 4; have z_V2 := V2.t5; have f5_V2 := V2.frozen 5; have y_V2 := V2.t6; have f6_V2 := V2.frozen 6; have l_V2 := V2.lt; have m_V2 := Nat.le_of_lt l_V2; have c_V3 := V3.f0; have f0_V3 := V3.frozen 0; have d_V3 := V3.f1; have f1_V3 := V3.frozen 1; have e_V3 := V3.f2; have f2_V3 := V3.frozen 2; have j_V3 := V3.f3; have f3_V3 := V3.frozen 3; have k_V3 := V3.f4; have f4_V3 := V3.frozen 4; have l_V3 := V3.lt; have m_V3 := Nat.le_of_lt l_V3; (go_wp2_with fail); clear c_V2 f0_V2 d_V2 f1_V2 e_V2 f2_V2 j_V2 f3_V2 k_V2 f4_V2 z_V2 f5_V2 y_V2 f6_V2 l_V2 m_V2 c_V3 f0_V3 d_V3 f1_V3 e_V3 f2_V3 j_V3 f3_V3 k_V3 f4_V3 l_V3 m_V3; refine wp_region_noPanic ?_; replace V2 : Va wr.drew _ _ _ := V2; replace V3 : Va wr.drew _ _ _ := V3; replace B0 := Below.drew B0
          refine wp_region_held_drew (S := (fun W => W.cell? ⟨w.heap.size, 0, none⟩ = some (.int .i64 tn.kd) ∧ W.cell? ⟨w.heap.size, 1, none⟩ = some (.int .i64 tn.ks) ∧ W.cell? ⟨w.heap.size, 2, none⟩ = some (sv tn.nm) ∧ W.cell? ⟨w.heap.size, 3, none⟩ = some (.int .i64 tn.op) ∧ W.cell? ⟨w.heap.size, 4, none⟩ = some (.int .i64 tn.un) ∧ W.cell? ⟨w.heap.size, 5, none⟩ = some (.int .i64 PP) ∧ W.cell? ⟨w.heap.size, 6, none⟩ = some (.slice ta tl tc) ∧ W.cell? ⟨w.heap.size + 1, 0, none⟩ = some (.slice a1 f.byr.length c1) ∧ W.cell? ⟨w.heap.size + 1, 1, none⟩ = some (.slice a2 f.lin.length c2) ∧ W.cell? ⟨w.heap.size + 1, 2, none⟩ = some (.int .i64 f.amt) ∧ W.cell? ⟨w.heap.size + 1, 3, none⟩ = some (.int .i64 f.dig) ∧ W.cell? ⟨w.heap.size + 1, 4, none⟩ = some (.int .i64 f.qty))) (by kernel_rfl) ⟨V2.t0, V2.t1, V2.t2, V2.t3, V2.t4, V2.t5, V2.t6, V3.f0, V3.f1, V3.f2, V3.f3, V3.f4⟩ (fun hHeld => ?_); (obtain ⟨x34, hxd⟩ : ∃ xd, xd = wr.drew := ⟨_, rfl⟩)
          rw [← hxd] at V2 V3 B0 hHeld ⊢; clear hxd; refine tjz 0 hHeld ?_; refine tjz 1 hHeld ?_; refine tjz 2 hHeld ?_; refine tjz 3 hHeld ?_; refine tjz 4 hHeld ?_; refine tjz 5 hHeld ?_; refine tjz 6 hHeld ?_; refine tjz 7 hHeld ?_; refine ryz 8 (fun K hK => ?_); simp only [gA, gB, gC]; (go_simp); refine (D _).mono ?_; rintro e x35 ⟨rfl, hb⟩; replace V2 := V2.a hb; replace V3 := V3.a hb; replace B0 := step B0 hb; clear hb; (try go_wp2_with fail); refine hK.out _ _ ⟨V2.t0, V2.t1, V2.t2, V2.t3, V2.t4, V2.t5, V2.t6, V3.f0, V3.f1, V3.f2, V3.f3, V3.f4⟩ (fun hHeld => ?_)
          clear hK K; refine ryz 9 (fun K hK => ?_); simp only [gA, gB, gC]; (go_simp); refine (rby_any tn.op Q _).mono ?_; rintro e x36 ⟨rfl, hb⟩; replace V2 := V2.a hb; replace V3 := V3.a hb; replace B0 := step B0 hb; clear hb; (try go_wp2_with fail); refine hK.out _ _ ⟨V2.t0, V2.t1, V2.t2, V2.t3, V2.t4, V2.t5, V2.t6, V3.f0, V3.f1, V3.f2, V3.f3, V3.f4⟩ (fun hHeld => ?_); clear hK K; refine tjz 10 hHeld ?_; refine dnz ?_; clear hHeld; (go_wp2_with fail)
          go_ret
          exact ⟨by rw [HV.out]; rfl, B0⟩
end Go.Proofs.YtblafbbnplfpjaaGreatDoor
