/-
  The document's Of: what digits come to, so many at a time as go into 32 bits.
-/
import Derived.Test.YtlcopgmkgphodaaDoorOnW
import Derived.Test.YtlcopgmkgphodaaDoorOfP
namespace Go.Proofs.YtlcopgmkgphodaaDoor
open Go.RowKit Go.Shelf
set_option linter.unusedVariables false

/-- What Of answers: the number, or that it is long. -/
def OfR (w w' : World) (e : Ending) (V : Int) : Prop :=
  ((V < pw 4096 ∧ ∃ a m c zs, e = .returned (.tuple #[.slice a m c, .bool true]) ∧ m ≤ c ∧ Sl w' a m zs ∧ usedN zs = m ∧ num zs = V ∧ (a = none → m = 0 ∧ c = 0)) ∨ (pw 4096 ≤ V ∧ e = .returned (.tuple #[.slice none 0 0, .bool false]))) ∧ Below w.heap.size w w'
/-- Between two pieces: k digits are taken. -/
def OfS (w : World) (b : Nat) (rs : List Int) (k : Nat) (d : Value) (cs : List Int) (W : World) : Prop :=
  Gr W w.heap.size d cs ∧ H.Limbs cs ∧ Tzr cs ∧ H.num cs = tvI b (rs.take k) ∧ cs.length ≤ 8192 ∧ Below w.heap.size w W
/-- Inside a piece: j more digits are taken. -/
def OfI (b : Nat) (rs : List Int) (k j : Nat) (p q : Int) : Prop := p = (b : Int) ^ j ∧ q = tvI b ((rs.drop k).take j) ∧ 1 ≤ p ∧ p < 4294967296 ∧ 0 ≤ q ∧ q < p
theorem OfI.start (b : Nat) (rs : List Int) (k : Nat) : OfI b rs k 0 1 0 := ⟨by simp, by simp [tvI], by omega, by omega, by omega, by omega⟩
theorem OfI.step {b : Nat} {rs : List Int} {k j : Nat} {p q : Int} (h : OfI b rs k j p q) (h2 : 2 ≤ b) (hd : DgI b rs) (hj : k + j < rs.length) (hp : p * b < 4294967296) : OfI b rs k (j + 1) (p * b) (q * b + rs.getD (k + j) 0) := by
  obtain ⟨rfl, rfl, p1, p2, q0, q1⟩ := h
  have hz := hd.getD hj
  have hb : (1 : Int) ≤ b := by omega
  have e : tvI b ((rs.drop k).take (j + 1)) = tvI b ((rs.drop k).take j) * b + rs.getD (k + j) 0 := by rw [drop_take_snoc rs k j hj, tvI_snoc]
  have hn := tvI_pos hb ((hd.drop k).take (j + 1))
  have hl := tvI_lt hb ((hd.drop k).take (j + 1))
  have hlen : ((rs.drop k).take (j + 1)).length = j + 1 := by simp; omega
  rw [hlen, e, Int.pow_succ] at hl
  rw [e] at hn
  have h1 : (b : Int) ^ j * 1 ≤ (b : Int) ^ j * b := Int.mul_le_mul_of_nonneg_left hb (by omega)
  exact ⟨by rw [Int.pow_succ], e.symm, by omega, hp, hn, hl⟩
theorem OfS.next {w : World} {b : Nat} {rs : List Int} {k j : Nat} {d d' : Value} {cs cs' : List Int} {W W' : World} {p q : Int} (hk : k + j ≤ rs.length) (h : OfS w b rs k d cs W) (hi : OfI b rs k j p q) (hG : Gr W' w.heap.size d' cs') (hL : H.Limbs cs') (hz : Tzr cs') (hn : H.num cs' = H.num cs * p + q) (hl : cs'.length ≤ 8192) (hb : Below w.heap.size W W') : OfS w b rs (k + j) d' cs' W' := by
  obtain ⟨h1, h2, h3, h4, h5, h6⟩ := h
  obtain ⟨rfl, rfl, -⟩ := hi
  refine ⟨hG, hL, hz, ?_, hl, h6.trans hb⟩
  rw [hn, h4, take_more, tvI_append]
  have : ((rs.drop k).take j).length = j := by simp; omega
  rw [this]
theorem ofs_val {b : Nat} {rs : List Int} {k j : Nat} {cs cs' : List Int} {p q : Int} (hk : k + j ≤ rs.length) (h4 : H.num cs = tvI b (rs.take k)) (hi : OfI b rs k j p q) (hn : H.num cs' = H.num cs * p + q) : H.num cs' = tvI b (rs.take (k + j)) := by
  obtain ⟨rfl, rfl, -⟩ := hi
  rw [hn, h4, take_more, tvI_append]
  have : ((rs.drop k).take j).length = j := by simp; omega
  rw [this]
theorem of3_long {b : Nat} {rs cs' : List Int} {k : Nat} (h2 : 2 ≤ b) (hd : DgI b rs) (hL : H.Limbs cs') (hz : Tzr cs') (hlong : 8192 < cs'.length) (hnv : H.num cs' = tvI b (rs.take k)) : pw 4096 ≤ tvI b rs := by
  have h1 := (long32_iff hL hz).1 hlong
  rw [hnv] at h1
  exact Int.le_trans h1 (tvI_mono (b := b) (by omega) hd k)
theorem of3_short {cs : List Int} {V : Int} (hL : H.Limbs cs) (hz : Tzr cs) (h : cs.length ≤ 8192) (e : H.num cs = V) : V < pw 4096 := by
  rcases Int.lt_or_le V (pw 4096) with h' | h'
  · exact h'
  · rw [← e] at h'
    have := (long32_iff hL hz).2 h'
    omega
theorem rtrim_none (w : World) : Calls Tryd.prog 18 #[.slice none 0 0] w fun e w' => e = .returned (.slice none 0 0) ∧ w' = w := by
  go_enter Tryd.func18, Tryd.ntmps18
  go_wp2_with fail
  refine wp_loop_rounds 1 ?_
  rw [rounds_succ]
  go_wp2_with fail
  go_ret
  exact ⟨rfl, rfl⟩
theorem rlimbs_zero (a : Option Addr) (c : Nat) (w : World) :
    Calls Tryd.prog 22 #[.slice a 0 c] w fun e w' => e = .returned (.slice none 0 0) ∧ w' = w := by
  have tr := rtrim_none w
  go_enter Tryd.func22, Tryd.ntmps22
  go_wp2_with fail
  refine wp_loop_rounds 1 ?_
  rw [rounds_succ]
  go_wp2_with fail
  go_at_call 18
  refine tr.mono ?_
  rintro e w2 ⟨rfl, rfl⟩
  go_wp2_with fail
  go_ret
  exact ⟨rfl, rfl⟩
/-- A list that is not empty lies somewhere. -/
theorem Sl.there3 {w : World} {a : Option Addr} {l c : Nat} {zs : List Int} (h : Sl w a l zs) (hu : usedN zs = l) (h0 : num zs ≠ 0) : a = none → l = 0 ∧ c = 0 := by
  intro e
  have hl : 0 < l := by
    rcases Nat.eq_zero_or_pos l with h' | h'
    · exact absurd ((num_eq_zero h.2.1).2 (by omega)) h0
    · exact h'
  obtain ⟨b, off, e2, -⟩ := h.2.2 hl
  rw [e] at e2; cases e2
theorem rev_getD (ws : List Int) {k : Nat} (h : k < ws.length) : ws.reverse.getD k 0 = ws.getD (ws.length - 1 - k) 0 := by
  rw [List.getD_eq_getElem?_getD, List.getElem?_reverse h, ← List.getD_eq_getElem?_getD]
theorem int_of3 {a b : Int} (h : a = b) : Value.int .i64 a = .int .i64 b := by rw [h]
set_option maxHeartbeats 4000000 in
set_option maxRecDepth 20000 in
theorem rof3 (b : Nat) (h2 : 2 ≤ b) (h36 : b ≤ 36) (a : Option Addr) (n cap : Nat) (ws : List Int) (w : World) (h : Sl w a n ws) (hn : n ≤ 300000) (hd : DgI b ws) :
    Calls Tryd.prog 10 #[.slice a n cap, .int .i64 b] w fun e w' => OfR w w' e (tvI b ws.reverse) := by
  have hwl := h.1
  obtain ⟨rs, hrs⟩ : ∃ rs, ws.reverse = rs := ⟨_, rfl⟩
  have hrl : rs.length = n := by rw [← hrs, List.length_reverse]; exact hwl
  have hrd : DgI b rs := by rw [← hrs]; exact fun z hz => hd z (List.mem_reverse.1 hz)
  have HRG : Hid (∀ k, k < n → rs.getD k 0 = ws.getD (n - 1 - k) 0) := fun k hk => by rw [← hrs, rev_getD ws (by omega), hwl]
  rw [hrs]
  have HS : Hid (Sl w a n ws) := h
  have HRD : Hid (DgI b rs) := hrd
  have HRL : Hid (rs.length = n) := hrl
  have S0 : Hid (OfS w b rs 0 (.slice none 0 0) [] w) := ⟨Gr.nil _ _, H.Limbs.nil, Tzr.nil, by simp [H.num, tvI], by simp, Below.refl _ _⟩
  clear h hwl hrs hrl hrd hd
  go_enter Tryd.func10, Tryd.ntmps10
  go_wp2_with fail
  go_loopw [6, 7] (fun d i wr => ∃ (k : Nat) (cs : List Int), k ≤ n ∧ i = .int .i64 ((n : Int) - 1 - k) ∧ Hid (OfS w b rs k d cs wr)) (fun _ i _ => (intOf i + 1).toNat)
  case atStart => exact ⟨0, [], by omega, int_of3 (by omega), S0⟩
  case round =>
    obtain ⟨k, cs, hk, rfl, HS1⟩ := hrel
    clear S0
    by_cases hlt : k < n
    · have hki : (0 : Int) ≤ (n : Int) - 1 - k := by omega
      have hkb : decide ((k : Int) ≤ (n : Int) - 1) = true := by simp; omega
      go_wp2_with fail
      go_loopw [7, 8, 9] (fun i pp mm wq => ∃ (j : Nat) (p q : Int), k + j ≤ n ∧ i = .int .i64 ((n : Int) - 1 - k - j) ∧ pp = .int .u64 p ∧ mm = .int .u64 q ∧ Hid (OfI b rs k j p q) ∧ Hid (OfS w b rs k u6 cs wq)) (fun i _ _ _ => (intOf i + 1).toNat)
      case atStart => exact ⟨0, 1, 0, by omega, int_of3 (by omega), rfl, rfl, OfI.start b rs k, HS1.out⟩
      case round =>
        clear HS1
        obtain ⟨j, p, q, hkj, rfl, rfl, rfl, HI, HS1⟩ := hrel
        have p1 := HI.out.2.2.1
        have p2 := HI.out.2.2.2.1
        have q0 := HI.out.2.2.2.2.1
        have q1 := HI.out.2.2.2.2.2
        have wb : IntKind.u64.wrap (b : Int) = b := by rw [IntKind.wrap_u64]; omega
        obtain ⟨y, hy⟩ : ∃ y, p * (b : Int) = y := ⟨_, rfl⟩
        have yb := mul32_bd (a := p) (b := (b : Int)) (by omega) (by omega) (by omega) (by omega)
        rw [hy] at yb
        obtain ⟨y0, y1⟩ := yb
        have wy : IntKind.u64.wrap y = y := by rw [IntKind.wrap_u64]; omega
        by_cases hend : k + j < n
        · have hi0 : (0 : Int) ≤ (n : Int) - 1 - k - j := by omega
          by_cases hyw : y < 4294967296
          · -- one more digit
            have hst := HI.out.step h2 HRD.out (by rw [HRL.out]; omega) (by rw [hy]; exact hyw)
            rw [hy] at hst
            have hsl := (Sl.below HS.out HS1.out.2.2.2.2.2 (Nat.le_refl _)).2.2 (by omega)
            obtain ⟨bb', off', ea', hcell'⟩ := hsl
            have hcx := hcell' (n - 1 - (k + j)) (by omega)
            rw [← HRG.out (k + j) (by omega)] at hcx
            obtain ⟨x, hx⟩ : ∃ x, rs.getD (k + j) 0 = x := ⟨_, rfl⟩
            have hxb := HRD.out.getD (i := k + j) (by rw [HRL.out]; omega)
            rw [hx] at hcx hst hxb
            subst ea'
            obtain ⟨z, hz⟩ : ∃ z, q * (b : Int) = z := ⟨_, rfl⟩
            have zb := mul32_bd (a := q) (b := (b : Int)) (by omega) (by omega) (by omega) (by omega)
            rw [hz] at zb hst
            obtain ⟨r, hr⟩ : ∃ r, z + x = r := ⟨_, rfl⟩
            rw [hr] at hst
            obtain ⟨z0, z1⟩ := zb
            obtain ⟨x0, x1⟩ := hxb
            have wz : IntKind.u64.wrap z = z := by rw [IntKind.wrap_u64]; omega
            have wr3 : IntKind.u64.wrap r = r := by rw [IntKind.wrap_u64]; omega
            have HN : Hid (OfI b rs k (j + 1) y r) := hst
            have ei : ((n : Int) - 1 - k - j).toNat = n - 1 - (k + j) := by omega
            have in1 : (n : Int) - 1 - k - j < n := by omega
            clear hst hx hcell' HI
            go_wp2_with fail
            go_roundw
            case rel => exact ⟨j + 1, y, r, by omega, int_of3 (by omega), rfl, rfl, HN, HS1.out⟩
            case measure => simp [intOf]; omega
          · have hyw2 : (4294967296 : Int) ≤ y := by omega
            have hyd : decide (y < 4294967296) = false := by simpa using hyw
            have hj0 : 0 < j := by
              rcases Nat.eq_zero_or_pos j with h0 | h0
              · exfalso
                subst h0
                have e := HI.out.1
                simp at e
                have e1 := hy; rw [e, Int.one_mul] at e1; omega
              · exact h0
            have hp1 := HI.out.2.2.1; have hp2 := HI.out.2.2.2.1; have hq0 := HI.out.2.2.2.2.1; have hq1 := HI.out.2.2.2.2.2
            have on := onto_any w.heap.size u6 cs p q wr HS1.out.1 HS1.out.2.1 HS1.out.2.2.1 HS1.out.2.2.2.2.2.size (by have := HS1.out.2.2.2.2.1; omega) hp1 (by omega) hq0 (by omega)
            go_wp2_with fail
            go_at_call 21
            refine on.mono ?_
            rintro e w2 ⟨v', cs', rfl, hG', hL', hz', hn', hlen', hb'⟩
            obtain ⟨a', c', hv', hc', hs'⟩ := hG'.sl hL'.up
            subst hv'
            clear on
            by_cases hlong : 8192 < cs'.length
            · have hli : (8192 : Int) < cs'.length := by omega
              have hnv := ofs_val (by rw [HRL.out]; omega) HS1.out.2.2.2.1 HI.out hn'
              have hpw := of3_long h2 HRD.out hL' hz' hlong hnv
              have HR : Hid (OfR w w2 (.returned (.tuple #[.slice none 0 0, .bool false])) (tvI b rs)) := ⟨.inr ⟨hpw, rfl⟩, HS1.out.2.2.2.2.2.trans hb'⟩
              clear hpw hnv hs' hG' hb' hn' hL' hz'
              go_wp2_with fail
              go_ret2
              exact HR.out
            · have hli : ¬ (8192 : Int) < cs'.length := by omega
              have HN : Hid (OfS w b rs (k + j) (.slice a' cs'.length c') cs' w2) := HS1.out.next (by rw [HRL.out]; omega) HI.out hG' hL' hz' hn' (by omega) hb'
              clear hs' hG' hb' hn' hL' hz'
              go_wp2_with fail
              go_roundw
              case rel => exact ⟨k + j, cs', by omega, int_of3 (by omega), HN⟩
              case measure => simp [intOf]; omega
        · have hi0 : ¬ (0 : Int) ≤ (n : Int) - 1 - k - j := by omega
          have hj0 : 0 < j := by
            rcases Nat.eq_zero_or_pos j with h0 | h0
            · exfalso
              subst h0
              have e := HI.out.1
              simp at e
              omega
            · exact h0
          have hp1 := HI.out.2.2.1; have hp2 := HI.out.2.2.2.1; have hq0 := HI.out.2.2.2.2.1; have hq1 := HI.out.2.2.2.2.2
          have on := onto_any w.heap.size u6 cs p q wr HS1.out.1 HS1.out.2.1 HS1.out.2.2.1 HS1.out.2.2.2.2.2.size (by have := HS1.out.2.2.2.2.1; omega) hp1 (by omega) hq0 (by omega)
          go_wp2_with fail
          go_at_call 21
          refine on.mono ?_
          rintro e w2 ⟨v', cs', rfl, hG', hL', hz', hn', hlen', hb'⟩
          obtain ⟨a', c', hv', hc', hs'⟩ := hG'.sl hL'.up
          subst hv'
          clear on
          by_cases hlong : 8192 < cs'.length
          · have hli : (8192 : Int) < cs'.length := by omega
            have hnv := ofs_val (by rw [HRL.out]; omega) HS1.out.2.2.2.1 HI.out hn'
            have hpw := of3_long h2 HRD.out hL' hz' hlong hnv
            have HR : Hid (OfR w w2 (.returned (.tuple #[.slice none 0 0, .bool false])) (tvI b rs)) := ⟨.inr ⟨hpw, rfl⟩, HS1.out.2.2.2.2.2.trans hb'⟩
            clear hpw hnv hs' hG' hb' hn' hL' hz'
            go_wp2_with fail
            go_ret2
            exact HR.out
          · have hli : ¬ (8192 : Int) < cs'.length := by omega
            have HN : Hid (OfS w b rs (k + j) (.slice a' cs'.length c') cs' w2) := HS1.out.next (by rw [HRL.out]; omega) HI.out hG' hL' hz' hn' (by omega) hb'
            clear hs' hG' hb' hn' hL' hz'
            go_wp2_with fail
            go_roundw
            case rel => exact ⟨k + j, cs', by omega, int_of3 (by omega), HN⟩
            case measure => simp [intOf]; omega
    · have hki : ¬ (0 : Int) ≤ (n : Int) - 1 - k := by omega
      obtain ⟨a', c', hv', hc', hs'⟩ := HS1.out.1.sl HS1.out.2.1.up
      subst hv'
      have hlim : Calls Tryd.prog 22 #[.slice a' cs.length c'] wr fun e w' => ∃ a2 m2 c2 zs2, e = .returned (.slice a2 m2 c2) ∧ m2 ≤ c2 ∧ Sl w' a2 m2 zs2 ∧ usedN zs2 = m2 ∧ num zs2 = H.num cs ∧ (a2 = none → m2 = 0 ∧ c2 = 0) ∧ Below wr.heap.size wr w' := by
        rcases Nat.eq_zero_or_pos cs.length with h0 | h0
        · have e0 := List.length_eq_zero_iff.1 h0
          rw [e0]
          refine (rlimbs_zero a' c' wr).mono ?_
          rintro e w2 ⟨rfl, rfl⟩
          exact ⟨none, 0, 0, [], rfl, Nat.le_refl _, ⟨rfl, Limbs.nil, fun h => absurd h (by decide)⟩, rfl, rfl, fun _ => ⟨rfl, rfl⟩, Below.refl _ _⟩
        · refine (limbs3 a' cs.length c' cs wr hs' HS1.out.2.1 (by have := HS1.out.2.2.2.2.1; omega)).mono ?_
          rintro e w2 ⟨a2, m2, c2, zs2, rfl, hmc, hmb, hs2, hu2, hn2, hb2⟩
          have hne : num zs2 ≠ 0 := by
            rw [hn2]
            intro h
            have := (H.num_eq_zero HS1.out.2.1).1 h
            rw [tzr_used HS1.out.2.1 HS1.out.2.2.1] at this
            omega
          exact ⟨a2, m2, c2, zs2, rfl, hmc, hs2, hu2, hn2, Sl.there3 hs2 hu2 hne, hb2⟩
      have hval : H.num cs = tvI b rs := by
        have := HS1.out.2.2.2.1
        rw [List.take_of_length_le (by rw [HRL.out]; omega)] at this
        exact this
      have HV : Hid (H.Limbs cs ∧ Tzr cs ∧ cs.length ≤ 8192 ∧ H.num cs = tvI b rs) := ⟨HS1.out.2.1, HS1.out.2.2.1, HS1.out.2.2.2.2.1, hval⟩
      rw [hval] at hlim
      have HBl : Hid (Below w.heap.size w wr) := HS1.out.2.2.2.2.2
      clear hs' hval HS1
      go_wp2_with fail
      go_at_call 22
      refine hlim.mono ?_
      rintro e w2 ⟨a2, m2, c2, zs2, rfl, hmc, hs2, hu2, hn2, hnl, hb2⟩
      have HR : Hid (OfR w w2 (.returned (.tuple #[.slice a2 m2 c2, .bool true])) (tvI b rs)) := ⟨.inl ⟨of3_short HV.out.1 HV.out.2.1 HV.out.2.2.1 HV.out.2.2.2, a2, m2, c2, zs2, rfl, hmc, hs2, hu2, hn2, hnl⟩, step HBl.out hb2⟩
      clear hs2 hu2 hn2 hb2 HV HBl hlim
      go_wp2_with fail
      go_ret2
      exact HR.out
end Go.Proofs.YtlcopgmkgphodaaDoor
