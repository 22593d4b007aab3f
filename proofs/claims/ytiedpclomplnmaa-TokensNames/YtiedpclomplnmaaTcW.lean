/-
  tokens: the document's kinds of bytes, part, code, Word, Code; the lists of the kept words.
-/
import Derived.Test.YtiedpclomplnmaaTc9
namespace Go.Proofs.Ytiedpclomplnmaa
open Go.RowKit Go.Shelf
set_option linter.unusedVariables false

theorem rSmall_any (c : UInt8) (w : World) : Calls Try.prog 31 #[.int .u8 c.toNat] w fun e w' => e = .returned (.bool (sm c)) ∧ w' = w := by
  have hs : sm c = (decide ((97 : Int) ≤ c.toNat) && decide ((c.toNat : Int) ≤ 122)) := by
    unfold sm; rw [Bool.eq_iff_iff]; simp; omega
  have HS : Hid (sm c = (decide ((97 : Int) ≤ c.toNat) && decide ((c.toNat : Int) ≤ 122))) := hs
  clear hs
  by_cases h1 : (97 : Int) ≤ c.toNat
  · by_cases h2 : (c.toNat : Int) ≤ 122
    · go_enter Try.func31, Try.ntmps31
      go_wp2_with fail
      go_ret
      exact ⟨by rw [HS.out]; simp [h1, h2], rfl⟩
    · go_enter Try.func31, Try.ntmps31
      go_wp2_with fail
      go_ret
      exact ⟨by rw [HS.out]; simp [h1, h2], rfl⟩
  · go_enter Try.func31, Try.ntmps31
    go_wp2_with fail
    go_ret
    exact ⟨by rw [HS.out]; simp; omega, rfl⟩
theorem rcapital_any (c : UInt8) (w : World) : Calls Try.prog 33 #[.int .u8 c.toNat] w fun e w' => e = .returned (.bool (cp c)) ∧ w' = w := by
  have hs : cp c = (decide ((65 : Int) ≤ c.toNat) && decide ((c.toNat : Int) ≤ 90)) := by
    unfold cp; rw [Bool.eq_iff_iff]; simp; omega
  have HS : Hid (cp c = (decide ((65 : Int) ≤ c.toNat) && decide ((c.toNat : Int) ≤ 90))) := hs
  clear hs
  by_cases h1 : (65 : Int) ≤ c.toNat
  · by_cases h2 : (c.toNat : Int) ≤ 90
    · go_enter Try.func33, Try.ntmps33
      go_wp2_with fail
      go_ret
      exact ⟨by rw [HS.out]; simp [h1, h2], rfl⟩
    · go_enter Try.func33, Try.ntmps33
      go_wp2_with fail
      go_ret
      exact ⟨by rw [HS.out]; simp [h1, h2], rfl⟩
  · go_enter Try.func33, Try.ntmps33
    go_wp2_with fail
    go_ret
    exact ⟨by rw [HS.out]; simp; omega, rfl⟩
theorem rdigit_any (c : UInt8) (w : World) : Calls Try.prog 40 #[.int .u8 c.toNat] w fun e w' => e = .returned (.bool (dg c)) ∧ w' = w := by
  have hs : dg c = (decide ((48 : Int) ≤ c.toNat) && decide ((c.toNat : Int) ≤ 57)) := by
    unfold dg; rw [Bool.eq_iff_iff]; simp; omega
  have HS : Hid (dg c = (decide ((48 : Int) ≤ c.toNat) && decide ((c.toNat : Int) ≤ 57))) := hs
  clear hs
  by_cases h1 : (48 : Int) ≤ c.toNat
  · by_cases h2 : (c.toNat : Int) ≤ 57
    · go_enter Try.func40, Try.ntmps40
      go_wp2_with fail
      go_ret
      exact ⟨by rw [HS.out]; simp [h1, h2], rfl⟩
    · go_enter Try.func40, Try.ntmps40
      go_wp2_with fail
      go_ret
      exact ⟨by rw [HS.out]; simp [h1, h2], rfl⟩
  · go_enter Try.func40, Try.ntmps40
    go_wp2_with fail
    go_ret
    exact ⟨by rw [HS.out]; simp; omega, rfl⟩
theorem rwithin_any (c : UInt8) (w : World) : Calls Try.prog 32 #[.int .u8 c.toNat] w fun e w' => e = .returned (.bool (ip c)) ∧ w' = w := by
  have c1 := fun W => rSmall_any c W
  have c2 := fun W => rdigit_any c W
  have he := u8_eq c 95 (by omega)
  have HS : Hid (ip c = (sm c || dg c || c == 95)) := rfl
  cases h1 : sm c
  · cases h2 : dg c
    · rw [h1] at c1; rw [h2] at c2
      by_cases h3 : (c.toNat : Int) = 95
      · have HE : Hid (ip c = true) := by
          have : c = 95 := he.1 h3
          show _ = _
          rw [HS.out]; simp [this]
        clear HS h1 h2 he
        have hb : ((c.toNat : Int) == 95) = true := by simpa using h3
        clear h3
        go_enter Try.func32, Try.ntmps32
        go_wp2_with (first | (go_at_call 31; refine (c1 _).mono ?_; rintro e w' ⟨rfl, rfl⟩) | (go_at_call 40; refine (c2 _).mono ?_; rintro e w' ⟨rfl, rfl⟩))
        go_ret
        exact ⟨by rw [HE.out]; rfl, rfl⟩
      · have HE : Hid (ip c = false) := by
          have : ¬ c = 95 := fun h => h3 (he.2 h)
          show _ = _
          rw [HS.out]; simp [this, h1, h2]
        clear HS h1 h2 he
        have hb : ((c.toNat : Int) == 95) = false := by simpa using h3
        clear h3
        go_enter Try.func32, Try.ntmps32
        go_wp2_with (first | (go_at_call 31; refine (c1 _).mono ?_; rintro e w' ⟨rfl, rfl⟩) | (go_at_call 40; refine (c2 _).mono ?_; rintro e w' ⟨rfl, rfl⟩))
        go_ret
        exact ⟨by rw [HE.out]; rfl, rfl⟩
    · have HE : Hid (ip c = true) := by show _ = _; rw [HS.out]; simp [h2]
      rw [h1] at c1; rw [h2] at c2
      clear HS h1 h2 he
      go_enter Try.func32, Try.ntmps32
      go_wp2_with (first | (go_at_call 31; refine (c1 _).mono ?_; rintro e w' ⟨rfl, rfl⟩) | (go_at_call 40; refine (c2 _).mono ?_; rintro e w' ⟨rfl, rfl⟩))
      go_ret
      exact ⟨by rw [HE.out]; rfl, rfl⟩
  · have HE : Hid (ip c = true) := by show _ = _; rw [HS.out]; simp [h1]
    rw [h1] at c1
    clear HS h1 he c2
    go_enter Try.func32, Try.ntmps32
    go_wp2_with (go_at_call 31; refine (c1 _).mono ?_; rintro e w' ⟨rfl, rfl⟩)
    go_ret
    exact ⟨by rw [HE.out]; rfl, rfl⟩
theorem rpart_any (s : List UInt8) (w : World) (hl : s.length ≤ 140737488355328) :
    Calls Try.prog 21 #[sv s] w fun e w' => e = .returned (.int .i64 (pt s)) ∧ w' = w := by
  cases s with
  | nil =>
    go_enter Try.func21, Try.ntmps21
    go_wp2_with fail
    go_ret
    exact ⟨rfl, rfl⟩
  | cons c t =>
    have c1 := fun W => rSmall_any c W
    have HP : Hid (pt (c :: t) = if sm c then rn ip (c :: t) else 0) := rfl
    have HR : Hid (sm c = true → 1 + rn ip ((c :: t).drop 1) = rn ip (c :: t)) := by
      intro h
      show 1 + rn ip t = rn ip (c :: t)
      rw [rn, if_pos (sm_ip h)]; omega
    have hat := str_at (c :: t) 0 c rfl
    have hi : (0 : Int) < (c :: t).length := by simp
    have hn0 : ¬ ((c :: t).length : Int) = 0 := by simp; omega
    have hn0b : (((c :: t).length : Int) == 0) = false := by simpa using hn0
    have hl1 : 1 ≤ (c :: t).length := by simp
    generalize hs : c :: t = s at *
    clear hs
    cases hp : sm c
    · rw [hp] at c1
      have HE : Hid (pt s = 0) := by show _ = _; rw [HP.out, hp]; rfl
      clear HP hp HR
      go_enter Try.func21, Try.ntmps21
      go_wp2_with (go_at_call 31; refine (c1 _).mono ?_; rintro e w' ⟨rfl, rfl⟩)
      go_ret
      exact ⟨by rw [HE.out]; rfl, rfl⟩
    · rw [hp] at c1
      have HE : Hid (pt s = rn ip s) := by show _ = _; rw [HP.out, hp]; rfl
      have HR1 : Hid (1 + rn ip (s.drop 1) = rn ip s) := HR.out hp
      clear HP hp HR
      go_enter Try.func21, Try.ntmps21
      go_wp2_with fail
      refine (c1 _).mono ?_
      rintro e w' ⟨rfl, hw'⟩
      rw [hw']; clear hw' w'
      go_wp2_with fail
      go_loopw [3] (fun i wr => ∃ n : Nat, i = .int .i64 n ∧ n ≤ s.length ∧ Hid (n + rn ip (s.drop n) = rn ip s) ∧ wr = w) (fun i _ => (s.length - (intOf i).toNat : Nat))
      case atStart => exact ⟨1, rfl, hl1, HR1.out, rfl⟩
      case round =>
        clear HR1 hat c1
        obtain ⟨n, rfl, hn, HN, hw⟩ := hrel
        subst hw
        rcases Nat.lt_or_ge n s.length with hlt | hge
        · obtain ⟨x, hc, hcd⟩ := byte_at s n hlt
          have hat := str_at s n x hc
          have hi2 : (n : Int) < s.length := by omega
          have hkc := rwithin_any x
          clear hc
          cases hp : ip x
          · have HE2 : Hid ((n : Int) = rn ip s) := by
              have := HN.out
              rw [hcd, rn, hp] at this
              show _ = _
              simp at this
              omega
            rw [hp] at hkc
            clear hcd hp HN
            go_wp2_with (go_at_call 32; refine (hkc _).mono ?_; rintro e w' ⟨rfl, rfl⟩)
            go_ret
            exact ⟨by rw [HE.out, ← HE2.out]; rfl, rfl⟩
          · have HE2 : Hid ((n + 1) + rn ip (s.drop (n + 1)) = rn ip s) := by
              have := HN.out
              rw [hcd, rn, hp] at this
              show _ = _
              simp at this
              omega
            rw [hp] at hkc
            clear hcd hp HN
            go_wp2_with fail
            refine (hkc _).mono ?_
            rintro e w' ⟨rfl, hw'⟩
            rw [hw']; clear hw' w'
            go_wp2_with fail
            go_roundw
            case rel => exact ⟨n + 1, rfl, by omega, HE2.out, trivial⟩
            case measure => simp [intOf]; omega
        · obtain rfl : n = s.length := by omega
          have HE2 : Hid (rn ip s = s.length) := by
            have := HN.out
            rw [List.drop_length] at this
            show _ = _
            simp [rn] at this
            omega
          clear HN hge
          go_wp2_with fail
          go_ret
          exact ⟨by rw [HE.out, HE2.out]; rfl, rfl⟩
def cdN (s : List UInt8) : Nat := if cdB s then 3 else 0
theorem rcode_any (s : List UInt8) (w : World) :
    Calls Try.prog 25 #[sv s] w fun e w' => e = .returned (.int .i64 (cdN s)) ∧ w' = w := by
  have hsmall : s.length < 3 → cdB s = false := by
    intro h
    match s, h with
    | [], _ => rfl
    | [_], _ => rfl
    | [_, _], _ => rfl
  rcases Nat.lt_or_ge s.length 3 with h | h
  · have HE : Hid (cdN s = 0) := by show _ = _; unfold cdN; rw [hsmall h]; rfl
    have hi : (s.length : Int) < 3 := by omega
    clear h hsmall
    go_enter Try.func25, Try.ntmps25
    go_wp2_with fail
    go_ret
    exact ⟨by rw [HE.out]; rfl, rfl⟩
  · match s, h with
    | a :: b :: c :: t, _ =>
      have HS : Hid (cdB (a :: b :: c :: t) = (cp a && cp b && cp c)) := rfl
      have ha := str_at (a :: b :: c :: t) 0 a rfl
      have hb := str_at (a :: b :: c :: t) 1 b rfl
      have hc := str_at (a :: b :: c :: t) 2 c rfl
      have hi : (3 : Int) ≤ (a :: b :: c :: t).length := by simp; omega
      have ca := rcapital_any a
      have cb := rcapital_any b
      have cc := rcapital_any c
      clear hsmall
      generalize a :: b :: c :: t = s at *
      have HN : Hid (cdN s = if (cp a && cp b && cp c) = true then 3 else 0) := by show _ = _; unfold cdN; rw [HS.out]
      clear HS
      generalize cp a = x at *
      generalize cp b = y at *
      generalize cp c = z at *
      cases x with
      | false =>
        go_enter Try.func25, Try.ntmps25
        go_wp2_with fail
        refine (ca _).mono ?_
        rintro e w' ⟨rfl, hw'⟩
        rw [hw']; clear hw' w'
        go_wp2_with fail
        go_ret
        exact ⟨by rw [HN.out]; rfl, rfl⟩
      | true =>
        cases y with
        | false =>
          go_enter Try.func25, Try.ntmps25
          go_wp2_with fail
          refine (ca _).mono ?_
          rintro e w' ⟨rfl, hw'⟩
          rw [hw']; clear hw' w'
          go_wp2_with fail
          refine (cb _).mono ?_
          rintro e w' ⟨rfl, hw'⟩
          rw [hw']; clear hw' w'
          go_wp2_with fail
          go_ret
          exact ⟨by rw [HN.out]; rfl, rfl⟩
        | true =>
          go_enter Try.func25, Try.ntmps25
          go_wp2_with fail
          refine (ca _).mono ?_
          rintro e w' ⟨rfl, hw'⟩
          rw [hw']; clear hw' w'
          go_wp2_with fail
          refine (cb _).mono ?_
          rintro e w' ⟨rfl, hw'⟩
          rw [hw']; clear hw' w'
          go_wp2_with fail
          refine (cc _).mono ?_
          rintro e w' ⟨rfl, hw'⟩
          rw [hw']; clear hw' w'
          cases z with
          | false =>
            go_wp2_with fail
            go_ret
            exact ⟨by rw [HN.out]; rfl, rfl⟩
          | true =>
            go_wp2_with fail
            go_ret
            exact ⟨by rw [HN.out]; rfl, rfl⟩
theorem cdF_eq (s : List UInt8) : cdF s = (decide (s.length = 3) && decide (cdN s = 3)) := by
  by_cases h : s.length = 3
  · have : cdF s = cdB s := by have := cdF_take s; rwa [List.take_of_length_le (by omega)] at this
    rw [this]
    unfold cdN
    cases cdB s <;> simp [h]
  · simp [cdF, h]
theorem rCode_any (s : List UInt8) (w : World) :
    Calls Try.prog 12 #[sv s] w fun e w' => e = .returned (.bool (cdF s)) ∧ w' = w := by
  have HC : Hid (cdF s = (decide (s.length = 3) && decide (cdN s = 3))) := cdF_eq s
  have rc := rcode_any s
  generalize cdN s = q at *
  by_cases h : s.length = 3
  · have hi : (s.length : Int) = 3 := by omega
    have hib : ((s.length : Int) == 3) = true := by simpa using hi
    by_cases hq : q = 3
    · have HE : Hid (cdF s = true) := by show _ = _; rw [HC.out]; simp [h, hq]
      subst hq
      clear HC h hi
      go_enter Try.func12, Try.ntmps12
      go_wp2_with (go_at_call 25; refine (rc _).mono ?_; rintro e w' ⟨rfl, rfl⟩)
      go_ret
      exact ⟨by rw [HE.out]; rfl, rfl⟩
    · have HE : Hid (cdF s = false) := by show _ = _; rw [HC.out]; simp [hq]
      have hqi : ((q : Int) == 3) = false := by simp; omega
      clear HC h hi hq
      go_enter Try.func12, Try.ntmps12
      go_wp2_with (go_at_call 25; refine (rc _).mono ?_; rintro e w' ⟨rfl, rfl⟩)
      go_ret
      exact ⟨by rw [HE.out]; rfl, rfl⟩
  · have HE : Hid (cdF s = false) := by show _ = _; rw [HC.out]; simp [h]
    have hib : ((s.length : Int) == 3) = false := by simp; omega
    clear HC h
    go_enter Try.func12, Try.ntmps12
    go_wp2_with fail
    go_ret
    exact ⟨by rw [HE.out]; rfl, rfl⟩
theorem kw_len : kwL.length = 29 := rfl
def kwC : Array Value := (kwL.map (fun l : List UInt8 => sv l)).toArray
theorem kwC_at (k : Nat) (h : k < 29) : kwC[k]? = some (sv (kwL.getD k [])) := by
  have : k < kwL.length := h
  simp [kwC, List.getD_eq_getElem?_getD, List.getElem?_eq_getElem this]
set_option maxRecDepth 10000 in
theorem lkept_any (w : World) : Calls Try.prog 8 #[] w fun e w' => e = .returned (.slice (some ⟨w.heap.size, 0, none⟩) 29 29) ∧ Va w' w.heap.size 9 kwC ∧ Below w.heap.size w w' := by
  go_enter Try.func8, Try.ntmps8
  go_wp2_with fail
  go_ret
  exact ⟨rfl, Va.new w _ _, (Below.refl _ _).alloc (Nat.le_refl _) _⟩
set_option maxRecDepth 10000 in
set_option maxHeartbeats 1000000 in
theorem rkept_any (s : List UInt8) (w : World) : Calls Try.prog 22 #[sv s] w fun e w' => e = .returned (.bool (kwL.any (fun x => x == s))) ∧ Below w.heap.size w w' := by
  obtain ⟨R, hR⟩ : ∃ R, (kwL.any (fun x => x == s)) = R := ⟨_, rfl⟩
  rw [hR]
  have HR : Hid ((kwL.drop 0).any (fun x => x == s) = R) := hR
  clear hR
  go_enter Try.func22, Try.ntmps22
  go_wp2_with fail
  refine ent1 w _ _ (Q := fun W => Code.wp _ _ _ _ W) ?_
  intro W0 hB0 hs0 V0
  have HV : Hid (Va W0 w.heap.size 9 kwC) := V0
  have HB : Hid (Below w.heap.size w W0) := hB0
  clear V0 hB0 hs0
  go_loopw [4] (fun i wr => ∃ k : Nat, i = .int .i64 k ∧ k ≤ 29 ∧ Hid ((kwL.drop k).any (fun x => x == s) = R) ∧ wr = W0) (fun i _ => (29 - (intOf i).toNat : Nat))
  case atStart => exact ⟨0, rfl, Nat.zero_le _, HR.out, rfl⟩
  case round =>
    clear HR
    obtain ⟨k, rfl, hk, HR, hw⟩ := hrel
    subst hw
    rcases Nat.lt_or_ge k 29 with hlt | hge
    · have hki : (k : Int) < 29 := by omega
      have c0 : wr.cell? ⟨w.heap.size, k, none⟩ = some (sv (kwL.getD k [])) := by rw [HV.out.cellAt k, kwC_at k hlt]
      have hdr : kwL.drop k = kwL.getD k [] :: kwL.drop (k + 1) := by
        have h' : k < kwL.length := hlt
        rw [List.drop_eq_getElem_cons h', List.getD_eq_getElem?_getD, List.getElem?_eq_getElem h']; rfl
      have HE : Hid (((kwL.getD k [] == s) || (kwL.drop (k + 1)).any (fun x => x == s)) = R) := by
        have := HR.out
        rw [hdr] at this
        exact this
      clear hdr HR
      generalize kwL.getD k [] = X at *
      cases hx : (X == s) with
      | true =>
        have HE2 : Hid (R = true) := by have := HE.out; rw [hx] at this; exact this.symm
        clear HE
        go_wp2_with fail
        go_ret
        exact ⟨by rw [HE2.out]; rfl, HB.out⟩
      | false =>
        have HE2 : Hid ((kwL.drop (k + 1)).any (fun x => x == s) = R) := by have := HE.out; rw [hx] at this; exact this
        clear HE
        go_wp2_with fail
        go_roundw
        case rel => exact ⟨k + 1, rfl, by omega, HE2.out, trivial⟩
        case measure => simp [intOf]; omega
    · obtain rfl : k = 29 := by omega
      have HE2 : Hid (R = false) := by have := HR.out; exact this.symm
      clear hge HR
      go_wp2_with fail
      go_ret
      exact ⟨by rw [HE2.out]; rfl, HB.out⟩
theorem rWord_any (s : List UInt8) (w : World) : Calls Try.prog 10 #[sv s] w fun e w' => e = .returned (.bool (wdB s)) ∧ Below w.heap.size w w' := by
  cases hs0 : s with
  | nil =>
    go_enter Try.func10, Try.ntmps10
    go_wp2_with fail
    go_ret
    exact ⟨rfl, Below.refl _ _⟩
  | cons c t =>
    rw [← hs0]
    have hne : s ≠ [] := by rw [hs0]; simp
    have hl0 : (0 : Int) < s.length := by rw [hs0]; simp
    clear hs0
    rcases Nat.lt_or_ge 24 s.length with h24 | h24
    · have HE : Hid (wdB s = false) := by show _ = _; unfold wdB; simp; intro h; omega
      have hi : (24 : Int) < s.length := by omega
      clear h24 hne
      go_enter Try.func10, Try.ntmps10
      go_wp2_with fail
      go_ret
      exact ⟨by rw [HE.out]; rfl, Below.refl _ _⟩
    · have hi : (s.length : Int) ≤ 24 := by omega
      have hp := fun W => rpart_any s W (by omega)
      have hk := rkept_any s
      have HW : Hid (wdB s = (decide (pt s = s.length) && !(kwL.any (fun x => x == s)))) := by show _ = _; unfold wdB; simp [hne, h24]
      generalize pt s = q at *
      by_cases hq : q = s.length
      · subst hq
        have HE : Hid (wdB s = !(kwL.any (fun x => x == s))) := by show _ = _; rw [HW.out]; simp
        clear HW h24 hne
        generalize (kwL.any (fun x => x == s)) = R at *
        go_enter Try.func10, Try.ntmps10
        go_wp2_with fail
        refine (hp _).mono ?_
        rintro e w' ⟨rfl, hw'⟩
        rw [hw']; clear hw' w' hp
        go_wp2_with fail
        refine (hk _).mono ?_
        rintro e w1 ⟨rfl, hb⟩
        go_wp2_with fail
        go_ret
        exact ⟨by rw [HE.out]; rfl, hb⟩
      · have HE : Hid (wdB s = false) := by show _ = _; rw [HW.out]; simp [hq]
        have hqb : ((q : Int) == s.length) = false := by simp; omega
        clear HW hq h24 hne
        go_enter Try.func10, Try.ntmps10
        go_wp2_with fail
        refine (hp _).mono ?_
        rintro e w' ⟨rfl, hw'⟩
        rw [hw']; clear hw' w' hp
        go_wp2_with fail
        go_ret
        exact ⟨by rw [HE.out]; rfl, Below.refl _ _⟩
end Go.Proofs.Ytiedpclomplnmaa
