/-
  tokens: markLength, beginsDate, Code, goesOn, remark, longest.
-/
import Derived.Test.YtiedpclomplnmaaTc2
namespace Go.Proofs.Ytiedpclomplnmaa
open Go.RowKit Go.Shelf
set_option linter.unusedVariables false

def cdF (s : List UInt8) : Bool := decide (s.length = 3) && decide (rn cp s = 3)
theorem code_any (s : List UInt8) (w : World) :
    Calls Try.prog 11 #[sv s] w fun e w' => e = .returned (.bool (cdF s)) ∧ w' = w := by
  by_cases h3 : s.length = 3
  · have hr := fun W => runC s W (by omega)
    have hi : (s.length : Int) = 3 := by omega
    have HS : Hid (cdF s = decide (rn cp s = 3)) := by show _ = _; simp [cdF, h3]
    generalize rn cp s = q at *
    clear h3
    by_cases hq : q = 3
    · subst hq
      go_enter Try.func11, Try.ntmps11
      go_wp2_with (go_at_call 23; refine (hr _).mono ?_; rintro e w' ⟨rfl, rfl⟩)
      go_ret
      exact ⟨by rw [HS.out]; rfl, rfl⟩
    · have hqi : ¬ (q : Int) = 3 := by omega
      have hqb : ((q : Int) == 3) = false := by simpa using hqi
      have HE : Hid (cdF s = false) := by show _ = _; rw [HS.out]; simp [hq]
      clear HS hq hqi
      go_enter Try.func11, Try.ntmps11
      go_wp2_with (go_at_call 23; refine (hr _).mono ?_; rintro e w' ⟨rfl, rfl⟩)
      go_ret
      exact ⟨by rw [HE.out]; rfl, rfl⟩
  · have HE : Hid (cdF s = false) := by show _ = _; simp [cdF, h3]
    have hi : ¬ (s.length : Int) = 3 := by omega
    have hib : ((s.length : Int) == 3) = false := by simpa using hi
    clear h3 hi
    go_enter Try.func11, Try.ntmps11
    go_wp2_with fail
    go_ret
    exact ⟨by rw [HE.out]; rfl, rfl⟩
theorem cdF_take (s : List UInt8) : cdF (s.take 3) = cdB s := by
  match s with
  | [] => rfl
  | [a] => rfl
  | [a, b] => rfl
  | a :: b :: c :: t =>
    show cdF [a, b, c] = (cp a && cp b && cp c)
    cases ha : cp a <;> cases hb : cp b <;> cases hc : cp c <;> simp [cdF, rn, ha, hb, hc]
theorem goesOn_any (s : List UInt8) (w : World) :
    Calls Try.prog 28 #[sv s] w fun e w' => e = .returned (.bool (gs s)) ∧ w' = w := by
  cases s with
  | nil =>
    go_enter Try.func28, Try.ntmps28
    go_wp2_with fail
    go_ret
    exact ⟨rfl, rfl⟩
  | cons c t =>
    have c1 := fun W => isCapital_any c W
    have c2 := fun W => isInPart_any c W
    have HP : Hid (gs (c :: t) = (cp c || ip c || c == 46)) := rfl
    have hat := str_at (c :: t) 0 c rfl
    have hne : (c :: t == []) = false := rfl
    have hne2 : ([] == c :: t) = false := rfl
    have hi : (0 : Int) < (c :: t).length := by simp
    have hce := u8_eq c 46 (by omega)
    generalize hs : c :: t = s at *
    clear hs
    cases hp : cp c
    · rw [hp] at c1
      cases hq : ip c
      · rw [hq] at c2
        by_cases h3 : (c.toNat : Int) = 46
        · have HE : Hid (gs s = true) := by
            have : c = 46 := hce.1 h3
            show _ = _
            rw [HP.out]; simp [this]
          have hb : ((c.toNat : Int) == 46) = true := by simpa using h3
          clear HP hp hq h3 hce
          go_enter Try.func28, Try.ntmps28
          go_wp2_with (first | (go_at_call 24; refine (c1 _).mono ?_; rintro e w' ⟨rfl, rfl⟩) | (go_at_call 30; refine (c2 _).mono ?_; rintro e w' ⟨rfl, rfl⟩))
          go_ret
          exact ⟨by rw [HE.out]; rfl, rfl⟩
        · have HE : Hid (gs s = false) := by
            have : ¬ c = 46 := fun h => h3 (hce.2 h)
            show _ = _
            rw [HP.out]; simp [this, hp, hq]
          have hb : ((c.toNat : Int) == 46) = false := by simpa using h3
          clear HP hp hq h3 hce
          go_enter Try.func28, Try.ntmps28
          go_wp2_with (first | (go_at_call 24; refine (c1 _).mono ?_; rintro e w' ⟨rfl, rfl⟩) | (go_at_call 30; refine (c2 _).mono ?_; rintro e w' ⟨rfl, rfl⟩))
          go_ret
          exact ⟨by rw [HE.out]; rfl, rfl⟩
      · rw [hq] at c2
        have HE : Hid (gs s = true) := by show _ = _; rw [HP.out]; simp [hq]
        clear HP hp hq hce
        go_enter Try.func28, Try.ntmps28
        go_wp2_with (first | (go_at_call 24; refine (c1 _).mono ?_; rintro e w' ⟨rfl, rfl⟩) | (go_at_call 30; refine (c2 _).mono ?_; rintro e w' ⟨rfl, rfl⟩))
        go_ret
        exact ⟨by rw [HE.out]; rfl, rfl⟩
    · rw [hp] at c1
      have HE : Hid (gs s = true) := by show _ = _; rw [HP.out]; simp [hp]
      clear HP hp hce c2
      go_enter Try.func28, Try.ntmps28
      go_wp2_with (go_at_call 24; refine (c1 _).mono ?_; rintro e w' ⟨rfl, rfl⟩)
      go_ret
      exact ⟨by rw [HE.out]; rfl, rfl⟩
theorem index_rm : ∀ s : List UInt8, (Lib.indexByte s 10 = -1 ∧ rm s = s.length) ∨ (Lib.indexByte s 10 = rm s ∧ rm s < s.length)
  | [] => .inl ⟨rfl, rfl⟩
  | c :: t => by
    have ih := index_rm t
    unfold rm at ih ⊢
    simp only [Lib.indexByte, rn]
    by_cases hc : c = 10
    · right; subst hc; simp
    · have h1 : (c == 10) = false := by simpa using hc
      have h2 : (c != 10) = true := by simpa using hc
      simp only [h1, h2]
      rcases ih with ⟨e1, e2⟩ | ⟨e1, e2⟩
      · left; rw [e1, e2]; simp
      · right
        rw [e1]
        refine ⟨?_, by simp at e2 ⊢; exact e2⟩
        have : (((rn (fun c => c != 10) t : Nat) : Int) == -1) = false := by simp
        simp [this]
theorem remark_any (s : List UInt8) (w : World) :
    Calls Try.prog 26 #[sv s] w fun e w' => e = .returned (.int .i64 (rm s)) ∧ w' = w := by
  have hc := fun W => Try.strings_IndexByte ⟨s.toArray⟩ 10 W
  have hx := index_rm s
  have e10 : (10 : Int).toNat.toUInt8 = 10 := rfl
  simp only [e10] at hc
  generalize rm s = q at *
  generalize Lib.indexByte s 10 = v at *
  rcases hx with ⟨rfl, rfl⟩ | ⟨rfl, -⟩
  · go_enter Try.func26, Try.ntmps26
    go_wp2_with (go_at_call 34; refine (hc _).mono ?_; rintro e w' ⟨rfl, rfl⟩)
    go_ret
    exact ⟨rfl, rfl⟩
  · go_enter Try.func26, Try.ntmps26
    go_wp2_with (go_at_call 34; refine (hc _).mono ?_; rintro e w' ⟨rfl, rfl⟩)
    go_ret
    exact ⟨rfl, rfl⟩
theorem mark_any (c : UInt8) (t : List UInt8) (w : World) :
    Calls Try.prog 39 #[sv (c :: t)] w fun e w' => e = .returned (.int .i64 (mkL (c :: t))) ∧ w' = w := by
  have hat := str_at (c :: t) 0 c rfl
  have hi : (0 : Int) < (c :: t).length := by simp
  have e60 := u8_eq c 60 (by omega)
  by_cases h60 : (c.toNat : Int) = 60
  · have c60 : c = 60 := e60.1 h60
    have b60 : ((c.toNat : Int) == 60) = true := by simpa using h60
    cases t with
    | nil =>
      have HE : Hid (mkL [c] = 1) := by show _ = _; rw [c60]; rfl
      have hl1 : ([c].length : Int) = 1 := rfl
      clear h60 e60  c60
      generalize [c] = s at *
      go_enter Try.func39, Try.ntmps39
      go_wp2_with fail
      go_ret
      exact ⟨by rw [HE.out]; rfl, rfl⟩
    | cons d r =>
      have hat1 := str_at (c :: d :: r) 1 d rfl
      have hi1 : (1 : Int) < (c :: d :: r).length := by simp; omega
      have e61 := u8_eq d 61 (by omega)
      by_cases h61 : (d.toNat : Int) = 61
      · have HE : Hid (mkL (c :: d :: r) = 2) := by show _ = _; rw [c60, e61.1 h61]; rfl
        have b61 : ((d.toNat : Int) == 61) = true := by simpa using h61
        clear h60 e60  c60 h61 e61
        generalize c :: d :: r = s at *
        go_enter Try.func39, Try.ntmps39
        go_wp2_with fail
        go_ret
        exact ⟨by rw [HE.out]; rfl, rfl⟩
      · have HE : Hid (mkL (c :: d :: r) = 1) := by show _ = _; rw [mkL_cons, if_pos (by simp [c60])]; simp [show ¬ d = 61 from fun h => h61 (e61.2 h)]
        have b61 : ((d.toNat : Int) == 61) = false := by simpa using h61
        clear h60 e60  c60 h61 e61
        generalize c :: d :: r = s at *
        go_enter Try.func39, Try.ntmps39
        go_wp2_with fail
        go_ret
        exact ⟨by rw [HE.out]; rfl, rfl⟩
  · have n60 : ¬ c = 60 := fun h => h60 (e60.2 h)
    have b60 : ((c.toNat : Int) == 60) = false := by simpa using h60
    have e62 := u8_eq c 62 (by omega)
    by_cases h62 : (c.toNat : Int) = 62
    · have c62 : c = 62 := e62.1 h62
      have b62 : ((c.toNat : Int) == 62) = true := by simpa using h62
      cases t with
      | nil =>
        have HE : Hid (mkL [c] = 1) := by show _ = _; rw [c62]; rfl
        have hl1 : ([c].length : Int) = 1 := rfl
        clear h60 e60 h62 e62 n60 c62
        generalize [c] = s at *
        go_enter Try.func39, Try.ntmps39
        go_wp2_with fail
        go_ret
        exact ⟨by rw [HE.out]; rfl, rfl⟩
      | cons d r =>
        have hat1 := str_at (c :: d :: r) 1 d rfl
        have hi1 : (1 : Int) < (c :: d :: r).length := by simp; omega
        have e61 := u8_eq d 61 (by omega)
        by_cases h61 : (d.toNat : Int) = 61
        · have HE : Hid (mkL (c :: d :: r) = 2) := by show _ = _; rw [c62, e61.1 h61]; rfl
          have b61 : ((d.toNat : Int) == 61) = true := by simpa using h61
          clear h60 e60 h62 e62 n60 c62 h61 e61
          generalize c :: d :: r = s at *
          go_enter Try.func39, Try.ntmps39
          go_wp2_with fail
          go_ret
          exact ⟨by rw [HE.out]; rfl, rfl⟩
        · have HE : Hid (mkL (c :: d :: r) = 1) := by show _ = _; rw [mkL_cons, if_pos (by simp [c62])]; simp [show ¬ d = 61 from fun h => h61 (e61.2 h)]
          have b61 : ((d.toNat : Int) == 61) = false := by simpa using h61
          clear h60 e60 h62 e62 n60 c62 h61 e61
          generalize c :: d :: r = s at *
          go_enter Try.func39, Try.ntmps39
          go_wp2_with fail
          go_ret
          exact ⟨by rw [HE.out]; rfl, rfl⟩
    · have n62 : ¬ c = 62 := fun h => h62 (e62.2 h)
      have b62 : ((c.toNat : Int) == 62) = false := by simpa using h62
      have e59 := u8_eq c 59 (by omega)
      by_cases h59 : (c.toNat : Int) = 59
      · have c59 : c = 59 := e59.1 h59
        have b59 : ((c.toNat : Int) == 59) = true := by simpa using h59
        have HE : Hid (mkL (c :: t) = 1) := by show _ = _; rw [c59]; rfl
        clear h60 e60 h62 e62 h59 e59 n60 n62 c59
        generalize c :: t = s at *
        go_enter Try.func39, Try.ntmps39
        go_wp2_with fail
        go_ret
        exact ⟨by rw [HE.out]; rfl, rfl⟩
      · have n59 : ¬ c = 59 := fun h => h59 (e59.2 h)
        have b59 : ((c.toNat : Int) == 59) = false := by simpa using h59
        have e44 := u8_eq c 44 (by omega)
        by_cases h44 : (c.toNat : Int) = 44
        · have c44 : c = 44 := e44.1 h44
          have b44 : ((c.toNat : Int) == 44) = true := by simpa using h44
          have HE : Hid (mkL (c :: t) = 1) := by show _ = _; rw [c44]; rfl
          clear h60 e60 h62 e62 h59 e59 h44 e44 n60 n62 n59 c44
          generalize c :: t = s at *
          go_enter Try.func39, Try.ntmps39
          go_wp2_with fail
          go_ret
          exact ⟨by rw [HE.out]; rfl, rfl⟩
        · have n44 : ¬ c = 44 := fun h => h44 (e44.2 h)
          have b44 : ((c.toNat : Int) == 44) = false := by simpa using h44
          have e40 := u8_eq c 40 (by omega)
          by_cases h40 : (c.toNat : Int) = 40
          · have c40 : c = 40 := e40.1 h40
            have b40 : ((c.toNat : Int) == 40) = true := by simpa using h40
            have HE : Hid (mkL (c :: t) = 1) := by show _ = _; rw [c40]; rfl
            clear h60 e60 h62 e62 h59 e59 h44 e44 h40 e40 n60 n62 n59 n44 c40
            generalize c :: t = s at *
            go_enter Try.func39, Try.ntmps39
            go_wp2_with fail
            go_ret
            exact ⟨by rw [HE.out]; rfl, rfl⟩
          · have n40 : ¬ c = 40 := fun h => h40 (e40.2 h)
            have b40 : ((c.toNat : Int) == 40) = false := by simpa using h40
            have e41 := u8_eq c 41 (by omega)
            by_cases h41 : (c.toNat : Int) = 41
            · have c41 : c = 41 := e41.1 h41
              have b41 : ((c.toNat : Int) == 41) = true := by simpa using h41
              have HE : Hid (mkL (c :: t) = 1) := by show _ = _; rw [c41]; rfl
              clear h60 e60 h62 e62 h59 e59 h44 e44 h40 e40 h41 e41 n60 n62 n59 n44 n40 c41
              generalize c :: t = s at *
              go_enter Try.func39, Try.ntmps39
              go_wp2_with fail
              go_ret
              exact ⟨by rw [HE.out]; rfl, rfl⟩
            · have n41 : ¬ c = 41 := fun h => h41 (e41.2 h)
              have b41 : ((c.toNat : Int) == 41) = false := by simpa using h41
              have e37 := u8_eq c 37 (by omega)
              by_cases h37 : (c.toNat : Int) = 37
              · have c37 : c = 37 := e37.1 h37
                have b37 : ((c.toNat : Int) == 37) = true := by simpa using h37
                have HE : Hid (mkL (c :: t) = 1) := by show _ = _; rw [c37]; rfl
                clear h60 e60 h62 e62 h59 e59 h44 e44 h40 e40 h41 e41 h37 e37 n60 n62 n59 n44 n40 n41 c37
                generalize c :: t = s at *
                go_enter Try.func39, Try.ntmps39
                go_wp2_with fail
                go_ret
                exact ⟨by rw [HE.out]; rfl, rfl⟩
              · have n37 : ¬ c = 37 := fun h => h37 (e37.2 h)
                have b37 : ((c.toNat : Int) == 37) = false := by simpa using h37
                have HE : Hid (mkL (c :: t) = 0) := by show _ = _; rw [mkL_cons, if_neg (by simp [n60, n62]), if_neg (by simp [n59, n44, n40, n41, n37])]
                clear h60 e60 h62 e62 h59 e59 h44 e44 h40 e40 h41 e41 h37 e37 n60 n62 n59 n44 n40 n41 n37
                generalize c :: t = s at *
                go_enter Try.func39, Try.ntmps39
                go_wp2_with fail
                go_ret
                exact ⟨by rw [HE.out]; rfl, rfl⟩
/-- Orders were drawn, nothing else. -/
def Dr (w w' : World) : Prop := ∃ n, w' = w.drewN n
theorem Dr.refl (w : World) : Dr w w := ⟨0, rfl⟩
theorem Dr.trans {a b c : World} (h : Dr a b) (g : Dr b c) : Dr a c := by
  obtain ⟨n, rfl⟩ := h
  obtain ⟨m, rfl⟩ := g
  exact ⟨n + m, by rw [World.drewN_drewN]⟩
theorem Dr.dr {a b : World} (h : Dr a b) (n : Nat) : Dr a (b.drewN n) := h.trans ⟨n, rfl⟩
theorem Dr.below {a b : World} (h : Dr a b) (n : Nat) : Below n a b := by
  obtain ⟨m, rfl⟩ := h
  exact ⟨rfl, rfl, rfl, Nat.le_refl _, fun _ _ => rfl⟩
theorem date_any (s : List UInt8) (w : World) :
    Calls Try.prog 36 #[sv s] w fun e w' => e = .returned (.bool (dtB s)) ∧ Dr w w' := by
  rcases Nat.lt_or_ge s.length 10 with h10 | h10
  · have HE : Hid (dtB s = false) := by
      show _ = _
      cases h : dtB s with
      | false => rfl
      | true => have := dtB_len s h; omega
    have hi : (s.length : Int) < 10 := by omega
    clear h10
    go_enter Try.func36, Try.ntmps36
    go_wp2_with fail
    go_ret
    exact ⟨by rw [HE.out]; rfl, Dr.refl w⟩
  · have hi : (10 : Int) ≤ s.length := by omega
    go_enter Try.func36, Try.ntmps36
    go_wp2_with fail
    go_loopw [7] (fun i wr => ∃ n : Nat, i = .int .i64 n ∧ n ≤ 10 ∧ Hid (∀ j, j < n → (if j = 4 ∨ j = 7 then s.getD j 0 = 45 else dg (s.getD j 0) = true)) ∧ Hid (Dr w wr)) (fun i _ => (10 - (intOf i).toNat : Nat))
    case atStart => exact ⟨0, rfl, Nat.zero_le _, fun j hj => absurd hj (Nat.not_lt_zero _), Dr.refl w⟩
    case round =>
      obtain ⟨n, rfl, hn, HN, HD⟩ := hrel
      rcases Nat.lt_or_ge n 10 with hlt | hge
      · obtain ⟨c, hc, hcd⟩ := byte_at s n (by omega)
        have hat := str_at s n c hc
        have hgd : s.getD n 0 = c := by rw [List.getD_eq_getElem?_getD, hc]; rfl
        have hi1 : (n : Int) < s.length := by omega
        have hi2 : (n : Int) < 10 := by omega
        clear hc hcd
        by_cases h47 : n = 4 ∨ n = 7
        · have hD : ∀ hh, (ByteArray.mk #[100, 100, 100, 100, 45, 100, 100, 45, 100, 100])[n]'hh = 45 := by
            intro hh; rcases h47 with rfl | rfl <;> rfl
          have he := u8_eq c 45 (by omega)
          by_cases h45 : (c.toNat : Int) = 45
          · have HE : Hid (∀ j, j < n + 1 → (if j = 4 ∨ j = 7 then s.getD j 0 = 45 else dg (s.getD j 0) = true)) := by
              intro j hj
              rcases Nat.lt_or_ge j n with h | h
              · exact HN.out j h
              · obtain rfl : j = n := by omega
                rw [if_pos h47, hgd]; exact he.1 h45
            have hb : ((c.toNat : Int) == 45) = true := by simpa using h45
            clear HN hgd h47 he h45
            go_wp2_with fail
            go_quiet (fail)
            go_wp2_with fail
            go_roundw
            case rel => exact ⟨n + 1, rfl, by omega, HE.out, HD.out.dr _⟩
            case measure => simp [intOf]; omega
          · have HE : Hid (dtB s = false) := by
              show _ = _
              cases h : dtB s with
              | false => rfl
              | true =>
                have := ((dtB_iff s).1 h).2 n hlt
                rw [if_pos h47, hgd] at this
                exact absurd (he.2 this) h45
            have hb : ((c.toNat : Int) == 45) = false := by simpa using h45
            clear HN hgd h47 he h45
            go_wp2_with fail
            go_quiet (fail)
            go_wp2_with fail
            go_ret
            exact ⟨by rw [HE.out]; rfl, HD.out.dr _⟩
        · have hD : ∀ hh, (ByteArray.mk #[100, 100, 100, 100, 45, 100, 100, 45, 100, 100])[n]'hh = 100 := by
            intro hh
            have : n = 0 ∨ n = 1 ∨ n = 2 ∨ n = 3 ∨ n = 5 ∨ n = 6 ∨ n = 8 ∨ n = 9 := by omega
            rcases this with rfl | rfl | rfl | rfl | rfl | rfl | rfl | rfl <;> rfl
          have cd := isDigit_any c
          cases hdg : dg c
          · have HE : Hid (dtB s = false) := by
              show _ = _
              cases h : dtB s with
              | false => rfl
              | true =>
                have := ((dtB_iff s).1 h).2 n hlt
                rw [if_neg h47, hgd, hdg] at this
                cases this
            rw [hdg] at cd
            clear HN hgd h47 hdg
            go_wp2_with fail
            go_quiet ((refine (cd (wr.drewN _)).mono ?_; rintro e w2 ⟨rfl, rfl⟩; exact ⟨rfl, _, rfl⟩))
            go_wp2_with fail
            go_ret
            exact ⟨by rw [HE.out]; rfl, HD.out.dr _⟩
          · have HE : Hid (∀ j, j < n + 1 → (if j = 4 ∨ j = 7 then s.getD j 0 = 45 else dg (s.getD j 0) = true)) := by
              intro j hj
              rcases Nat.lt_or_ge j n with h | h
              · exact HN.out j h
              · obtain rfl : j = n := by omega
                rw [if_neg h47, hgd]; exact hdg
            rw [hdg] at cd
            clear HN hgd h47 hdg
            go_wp2_with fail
            go_quiet ((refine (cd (wr.drewN _)).mono ?_; rintro e w2 ⟨rfl, rfl⟩; exact ⟨rfl, _, rfl⟩))
            go_wp2_with fail
            go_roundw
            case rel => exact ⟨n + 1, rfl, by omega, HE.out, HD.out.dr _⟩
            case measure => simp [intOf]; omega
      · obtain rfl : n = 10 := by omega
        have HE : Hid (dtB s = true) := (dtB_iff s).2 ⟨h10, HN.out⟩
        clear HN hge
        go_wp2_with fail
        go_ret
        exact ⟨by rw [HE.out]; rfl, HD.out⟩
/-- longest: its kind and length. -/
theorem longest_any (c : UInt8) (t : List UInt8) (w : World) (hl : (c :: t).length ≤ 140737488355328) :
    Calls Try.prog 27 #[sv (c :: t)] w fun e w' => e = .returned (.tuple #[.int .i64 (lx (c :: t)).1, .int .i64 (lx (c :: t)).2]) ∧ Dr w w' := by
  have hat := str_at (c :: t) 0 c rfl
  have hi : (0 : Int) < (c :: t).length := by simp
  have c1 := isSmall_any c
  have c2 := fun W => word_any (c :: t) W hl
  have c4 := date_any (c :: t)
  have c5 := isDigit_any c
  have c6 := fun W => number_any (c :: t) W hl
  have c7 := mark_any c t
  have HX : Hid (lx (c :: t) = if sm c then (1, wl (c :: t)) else if cdB (c :: t) then (2, 3) else if dtB (c :: t) then (4, 10) else if dg c then (3, nl (c :: t)) else (5, mkL (c :: t))) := rfl
  have c3 := code_any ((c :: t).take 3)
  rw [cdF_take] at c3
  have hsl : ∃ m : Nat, min (3 : Int) (c :: t).length = m ∧ m ≤ (c :: t).length ∧ ∀ W, (Instr.sliceAt 9 (.string ⟨(c :: t).toArray⟩) none (some (.int .i64 m)) none).run Try.prog W = .ok (.string ⟨((c :: t).take 3).toArray⟩) W := by
    refine ⟨min 3 (c :: t).length, by omega, by omega, fun W => ?_⟩
    rw [slice_hi (c :: t) _ (min 3 (c :: t).length) rfl (by omega)]
    rcases Nat.lt_or_ge (c :: t).length 3 with h | h
    · rw [Nat.min_eq_right (by omega), List.take_length, List.take_of_length_le (by omega)]
    · rw [Nat.min_eq_left h]
  obtain ⟨m, hm, hml, hsl⟩ := hsl
  have hm0 : (0 : Int) ≤ m := by omega
  have hmi : (m : Int) ≤ (c :: t).length := by omega
  generalize (c :: t).take 3 = T3 at *
  generalize hs : c :: t = s at *
  clear hs hml
  generalize wl s = W1 at *
  generalize nl s = W2 at *
  generalize mkL s = W3 at *
  cases h1 : sm c
  · rw [h1] at c1
    cases h2 : cdB s
    · rw [h2] at c3
      cases h3 : dtB s
      · rw [h3] at c4
        cases h4 : dg c
        · rw [h4] at c5
          have HE : Hid (lx s = (5, W3)) := by show _ = _; rw [HX.out, h1, h2, h3, h4]; rfl
          clear HX h1 h2 h3 h4
          go_enter Try.func27, Try.ntmps27
          go_wp2_with (first | (go_at_call 29; refine (c1 _).mono ?_; rintro e w' ⟨rfl, rfl⟩) | (go_at_call 11; refine (c3 _).mono ?_; rintro e w' ⟨rfl, rfl⟩) | (go_at_call 36; refine (c4 _).mono ?_; rintro e w' ⟨rfl, hdr⟩) | (go_at_call 37; refine (c5 _).mono ?_; rintro e w' ⟨rfl, rfl⟩) | (go_at_call 39; refine (c7 _).mono ?_; rintro e w' ⟨rfl, rfl⟩))
          go_ret2
          exact ⟨by rw [HE.out]; rfl, by first | exact hdr | exact Dr.refl _⟩
        · rw [h4] at c5
          have HE : Hid (lx s = (3, W2)) := by show _ = _; rw [HX.out, h1, h2, h3, h4]; rfl
          clear HX h1 h2 h3 h4
          go_enter Try.func27, Try.ntmps27
          go_wp2_with (first | (go_at_call 29; refine (c1 _).mono ?_; rintro e w' ⟨rfl, rfl⟩) | (go_at_call 11; refine (c3 _).mono ?_; rintro e w' ⟨rfl, rfl⟩) | (go_at_call 36; refine (c4 _).mono ?_; rintro e w' ⟨rfl, hdr⟩) | (go_at_call 37; refine (c5 _).mono ?_; rintro e w' ⟨rfl, rfl⟩) | (go_at_call 38; refine (c6 _).mono ?_; rintro e w' ⟨rfl, rfl⟩))
          go_ret2
          exact ⟨by rw [HE.out]; rfl, by first | exact hdr | exact Dr.refl _⟩
      · rw [h3] at c4
        have HE : Hid (lx s = (4, 10)) := by show _ = _; rw [HX.out, h1, h2, h3]; rfl
        clear HX h1 h2 h3
        go_enter Try.func27, Try.ntmps27
        go_wp2_with (first | (go_at_call 29; refine (c1 _).mono ?_; rintro e w' ⟨rfl, rfl⟩) | (go_at_call 11; refine (c3 _).mono ?_; rintro e w' ⟨rfl, rfl⟩) | (go_at_call 36; refine (c4 _).mono ?_; rintro e w' ⟨rfl, hdr⟩))
        go_ret2
        exact ⟨by rw [HE.out]; rfl, by first | exact hdr | exact Dr.refl _⟩
    · rw [h2] at c3
      have HE : Hid (lx s = (2, 3)) := by show _ = _; rw [HX.out, h1, h2]; rfl
      clear HX h1 h2
      go_enter Try.func27, Try.ntmps27
      go_wp2_with (first | (go_at_call 29; refine (c1 _).mono ?_; rintro e w' ⟨rfl, rfl⟩) | (go_at_call 11; refine (c3 _).mono ?_; rintro e w' ⟨rfl, rfl⟩))
      go_ret2
      exact ⟨by rw [HE.out]; rfl, by first | exact hdr | exact Dr.refl _⟩
  · rw [h1] at c1
    have HE : Hid (lx s = (1, W1)) := by show _ = _; rw [HX.out, h1]; rfl
    clear HX h1
    go_enter Try.func27, Try.ntmps27
    go_wp2_with (first | (go_at_call 29; refine (c1 _).mono ?_; rintro e w' ⟨rfl, rfl⟩) | (go_at_call 35; refine (c2 _).mono ?_; rintro e w' ⟨rfl, rfl⟩))
    go_ret2
    exact ⟨by rw [HE.out]; rfl, by first | exact hdr | exact Dr.refl _⟩
end Go.Proofs.Ytiedpclomplnmaa
