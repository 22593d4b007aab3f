/-
  Amounts in plain Lean: what is read is told so, what is told is read so; how many bytes are read at most.
-/
import Derived.Test.YtigimdcaakfckaaGreatDoorMyP
namespace Go.Proofs.YtigimdcaakfckaaGreatDoor
set_option linter.unusedVariables false

/-- The amount, its digits being t. -/
def amt (D : Nat) (nm t : List UInt8) (u : Int) : List UInt8 := textL (decide (u < 0)) D t ++ (32 :: nm)
theorem fin_some {v : Int} {l : List UInt8} {n : Nat} {u : Int} (h : finR v l = (n, some u)) : l = [] ∧ u = v := by
  cases l <;> simp [finR] at h
  exact ⟨rfl, h.2.symm⟩
theorem fix_some {K : List UInt8 → R9} : ∀ {t l : List UInt8} {n : Nat} {u : Int}, fixC t K l = (n, some u) → ∃ l' m, l = t ++ l' ∧ K l' = (m, some u)
  | [], l, n, u, h => ⟨l, n, rfl, h⟩
  | a :: t, [], n, u, h => by cases h
  | a :: t, b :: l, n, u, h => by
    have e1 : fixC (a :: t) K (b :: l) = if b = a then one (fixC t K l) else (0, none) := rfl
    rw [e1] at h; split at h
    next hb =>
      obtain ⟨m, rfl, hm⟩ := one_some h
      obtain ⟨l', m', e, hK⟩ := fix_some hm
      exact ⟨l', m', by rw [hb, e]; rfl, hK⟩
    next => cases h
theorem fix_app (K : List UInt8 → R9) : ∀ (t l : List UInt8), fixC t K (t ++ l) = plus t.length (K l)
  | [], l => (plus_zero _).symm
  | a :: t, l => by
    show (if a = a then one (fixC t K (t ++ l)) else (0, none)) = _
    rw [if_pos rfl, fix_app K t l]
    simp [one, plus]; omega
theorem tail_some {neg : Bool} {nm : List UInt8} {far : Nat} {l : List UInt8} {n : Nat} {u : Int} (h : tailR neg nm far l = (n, some u)) : l = 32 :: nm ∧ u = sgn neg far := by
  obtain ⟨l1, m1, rfl, h1⟩ := fix_some h
  obtain ⟨l2, m2, rfl, h2⟩ := fix_some h1
  obtain ⟨rfl, rfl⟩ := fin_some h2
  exact ⟨by simp, rfl⟩
theorem beh_some {neg : Bool} {nm : List UInt8} : ∀ {k far : Nat} {l : List UInt8} {n : Nat} {u : Int}, Inv9 neg far k → behR neg nm k far l = (n, some u) →
    ∃ b : List UInt8, b.length = k ∧ Dig 10 b ∧ l = b ++ 32 :: nm ∧ u = sgn neg (far * 10 ^ k + tv 10 b) ∧ Inv9 neg (far * 10 ^ k + tv 10 b) 0
  | 0, far, l, n, u, I, h => by
    obtain ⟨rfl, rfl⟩ := tail_some h
    exact ⟨[], rfl, Dig.nil _, rfl, by simp [tv_nil], by simpa [tv_nil] using I⟩
  | k + 1, far, [], n, u, I, h => by cases h
  | k + 1, far, c :: l, n, u, I, h => by
    have e1 : behR neg nm (k + 1) far (c :: l) = if okD neg far k c then one (behR neg nm k (far * 10 + wv c) l) else (0, none) := rfl
    rw [e1] at h; split at h
    next hc =>
      obtain ⟨m, rfl, hm⟩ := one_some h
      obtain ⟨hd, I2⟩ := (okD_iff _ _ _ _).1 hc
      obtain ⟨b, hb, hD, rfl, hu, I3⟩ := beh_some I2 hm
      have e : (far * 10 + wv c) * 10 ^ k + tv 10 b = far * 10 ^ (k + 1) + tv 10 (c :: b) := by rw [tv_cons, hb, Nat.pow_succ]; grind
      rw [e] at hu I3
      refine ⟨c :: b, by simp [hb], fun x hx => ?_, rfl, hu, I3⟩
      rcases List.mem_cons.1 hx with h | h
      · rw [h]; simpa [isD] using hd
      · exact hD x h
    next => cases h
theorem ah_some {neg : Bool} {nm : List UInt8} {D : Nat} : ∀ {l : List UInt8} {far n : Nat} {u : Int}, Inv9 neg far D → ahR neg nm D far l = (n, some u) →
    ∃ a b : List UInt8, b.length = D ∧ Dig 10 a ∧ Dig 10 b ∧ (far = 0 → a = []) ∧ l = a ++ (ptD D ++ (b ++ 32 :: nm)) ∧ u = sgn neg ((far * 10 ^ a.length + tv 10 a) * 10 ^ D + tv 10 b) ∧ Inv9 neg ((far * 10 ^ a.length + tv 10 a) * 10 ^ D + tv 10 b) 0 := by
  have key : ∀ {l : List UInt8} {far n : Nat} {u : Int}, Inv9 neg far D → ptR neg nm D far l = (n, some u) →
      ∃ a b : List UInt8, b.length = D ∧ Dig 10 a ∧ Dig 10 b ∧ (far = 0 → a = []) ∧ l = a ++ (ptD D ++ (b ++ 32 :: nm)) ∧ u = sgn neg ((far * 10 ^ a.length + tv 10 a) * 10 ^ D + tv 10 b) ∧ Inv9 neg ((far * 10 ^ a.length + tv 10 a) * 10 ^ D + tv 10 b) 0 := by
    intro l far n u I h
    obtain ⟨l1, m1, rfl, h1⟩ := fix_some h
    obtain ⟨b, hb, hD, rfl, hu, I3⟩ := beh_some I h1
    exact ⟨[], b, hb, Dig.nil _, hD, fun _ => rfl, rfl, by simpa [tv_nil] using hu, by simpa [tv_nil] using I3⟩
  intro l
  induction l with
  | nil => intro far n u I h; exact key I h
  | cons c l ih =>
    intro far n u I h
    have e1 : ahR neg nm D far (c :: l) = if (decide (0 < far) && okD neg far D c) = true then one (ahR neg nm D (far * 10 + wv c) l) else ptR neg nm D far (c :: l) := rfl
    rw [e1] at h; split at h
    next hc =>
      obtain ⟨m, rfl, hm⟩ := one_some h
      simp only [Bool.and_eq_true, decide_eq_true_eq] at hc
      obtain ⟨hd, I2⟩ := (okD_iff _ _ _ _).1 hc.2
      obtain ⟨a, b, hb, hA, hB, _, rfl, hu, I3⟩ := ih I2 hm
      have e : (far * 10 + wv c) * 10 ^ a.length + tv 10 a = far * 10 ^ (c :: a).length + tv 10 (c :: a) := by rw [tv_cons, List.length_cons, Nat.pow_succ]; grind
      rw [e] at hu I3
      refine ⟨c :: a, b, hb, fun x hx => ?_, hB, fun h0 => by omega, rfl, hu, I3⟩
      rcases List.mem_cons.1 hx with h | h
      · rw [h]; simpa [isD] using hd
      · exact hA x h
    next => exact key I h
theorem fir_some {neg : Bool} {nm : List UInt8} {D : Nat} {l : List UInt8} {n : Nat} {u : Int} (h : firR neg nm D l = (n, some u)) :
    ∃ a b : List UInt8, b.length = D ∧ a ≠ [] ∧ Dig 10 a ∧ Dig 10 b ∧ (a.head? = some 48 → a = [48]) ∧ l = a ++ (ptD D ++ (b ++ 32 :: nm)) ∧ u = sgn neg (tv 10 (a ++ b)) ∧ Inv9 neg (tv 10 (a ++ b)) 0 := by
  cases l with
  | nil => cases h
  | cons c l =>
    have e1 : firR neg nm D (c :: l) = if okD neg 0 D c = true then one (ahR neg nm D (wv c) l) else (0, none) := rfl
    rw [e1] at h; split at h
    next hc =>
      obtain ⟨m, rfl, hm⟩ := one_some h
      obtain ⟨hd, I2⟩ := (okD_iff _ _ _ _).1 hc
      rw [Nat.zero_mul, Nat.zero_add] at I2
      obtain ⟨a, b, hb, hA, hB, h0, rfl, hu, I3⟩ := ah_some I2 hm
      have e : (wv c * 10 ^ a.length + tv 10 a) * 10 ^ D + tv 10 b = tv 10 ((c :: a) ++ b) := by rw [tv_append, tv_cons, hb]
      rw [e] at hu I3
      refine ⟨c :: a, b, hb, by simp, fun x hx => ?_, hB, fun hh => ?_, rfl, hu, I3⟩
      · rcases List.mem_cons.1 hx with h | h
        · rw [h]; simpa [isD] using hd
        · exact hA x h
      · have : c = 48 := by simpa using hh
        subst this
        rw [h0 wv_nought]
    next => cases h
theorem inv_sgn {neg : Bool} {v : Nat} (I : Inv9 neg v 0) : (sgn neg v).natAbs = v ∧ decide (sgn neg v < 0) = neg ∧ -9223372036854775808 ≤ sgn neg v ∧ sgn neg v ≤ 9223372036854775807 := by
  obtain ⟨h1, h2⟩ := I
  cases neg
  · simp [mostU] at h1; simp [sgn]; omega
  · simp [mostU] at h1; have := h2 rfl rfl; simp [sgn]; omega
/-- The digits with noughts ahead are the only ones. -/
theorem pad_of {D : Nat} {a b t : List UInt8} (hb : b.length = D) (ha : a ≠ []) (hA : Dig 10 a) (hB : Dig 10 b) (h0 : a.head? = some 48 → a = [48]) (ht : Tx 10 t (tv 10 (a ++ b))) : padL D t = a ++ b := by
  have hl : 0 < a.length := List.length_pos_iff.2 ha
  have hab : (a ++ b).length = a.length + D := by rw [List.length_append, hb]
  by_cases h : a.head? = some 48
  · have e := h0 h
    subst e
    refine tv_len_inj (by omega) (by omega) (padL_dig ht.dig) (hA.append hB) ?_ (by rw [padL_tv, ht.val])
    have := ht.le (by omega) (k := D + 1) (by have := tv_lt (hA.append hB); rw [hab] at this; simpa [Nat.add_comm] using this) (by omega)
    rw [padL_len, hab]; simp; omega
  · have hT : Tx 10 (a ++ b) (tv 10 (a ++ b)) := by
      refine ⟨by simp [ha], hA.append hB, rfl, fun hh => ?_⟩
      exfalso
      match a, ha with
      | c :: a, _ => simp at hh h; exact h hh
    rw [ht.unique (by omega) (by omega) hT]
    unfold padL
    rw [show D + 1 - (a ++ b).length = 0 by omega]; rfl
theorem ptL_of {D : Nat} {a b : List UInt8} (hb : b.length = D) : ptL D (a ++ b) = a ++ (ptD D ++ b) := by
  unfold ptL ptD
  by_cases h : D = 0
  · rw [if_pos h, if_pos h]; rfl
  · rw [if_neg h, if_neg h, List.length_append, hb, Nat.add_sub_cancel, List.take_left, List.drop_left]; rfl
/-- What is read is told as it was read. -/
theorem par_some {nm : List UInt8} {D : Nat} {l : List UInt8} {n : Nat} {u : Int} (h : parR nm D l = (n, some u)) :
    -9223372036854775808 ≤ u ∧ u ≤ 9223372036854775807 ∧ ∀ t, Tx 10 t u.natAbs → l = amt D nm t u := by
  have key : ∀ {neg : Bool} {l : List UInt8} {n : Nat} {u : Int}, firR neg nm D l = (n, some u) → -9223372036854775808 ≤ u ∧ u ≤ 9223372036854775807 ∧ ∀ t, Tx 10 t u.natAbs → sgL neg l = amt D nm t u := by
    intro neg l n u h
    obtain ⟨a, b, hb, ha, hA, hB, h0, rfl, rfl, I⟩ := fir_some h
    obtain ⟨e1, e2, e3, e4⟩ := inv_sgn I
    refine ⟨e3, e4, fun t ht => ?_⟩
    rw [e1] at ht
    unfold amt textL
    rw [e2, pad_of hb ha hA hB h0 ht, ptL_of hb]
    cases neg <;> simp [sgL]
  cases l with
  | nil => exact key (neg := false) h
  | cons c l =>
    have e1 : parR nm D (c :: l) = if c = 45 then one (firR true nm D l) else firR false nm D (c :: l) := rfl
    rw [e1] at h; split at h
    next hc =>
      obtain ⟨m, rfl, hm⟩ := one_some h
      subst hc
      exact key hm
    next => exact key (neg := false) h
theorem inv_le {neg : Bool} {far k : Nat} {x V : Nat} (hV : V = far * 10 ^ k + x) (I : Inv9 neg V 0) : far ≤ mostU neg / 10 ^ k := by
  obtain ⟨h1, h2⟩ := I
  rw [Nat.le_div_iff_mul_le (Nat.pow_pos (by omega))]
  rw [Nat.pow_zero, Nat.div_one] at h1; omega
theorem inv_of {neg : Bool} {far k : Nat} {x V : Nat} (hV : V = far * 10 ^ k + x) (I : Inv9 neg V 0) (hx : neg = true → k = 0 → x = 0) : Inv9 neg far k := by
  refine ⟨inv_le hV I, fun h h0 => ?_⟩
  have := I.2 h rfl
  rw [hV, h0, hx h h0] at this
  simpa using this
theorem isD_of {c : UInt8} (h : wv c < 10) : isD c = true := by simp [isD, h]
theorem beh_back {neg : Bool} {nm : List UInt8} : ∀ {b : List UInt8} {far : Nat}, Dig 10 b → Inv9 neg (far * 10 ^ b.length + tv 10 b) 0 → behR neg nm b.length far (b ++ 32 :: nm) = (b.length + (1 + nm.length), some (sgn neg (far * 10 ^ b.length + tv 10 b)))
  | [], far, hD, I => by
    have e := fix_app (fixC nm (finR (sgn neg far))) [32] nm
    have e2 := fix_app (finR (sgn neg far)) nm []
    rw [List.append_nil] at e2
    show fixC [32] (fixC nm (finR (sgn neg far))) ([32] ++ nm) = _
    rw [e, e2]
    simp [plus, finR, tv_nil]
  | c :: b, far, hD, I => by
    obtain ⟨hc, hb⟩ := hD.cons
    have e : far * 10 ^ (c :: b).length + tv 10 (c :: b) = (far * 10 + wv c) * 10 ^ b.length + tv 10 b := by rw [tv_cons, List.length_cons, Nat.pow_succ]; grind
    rw [e] at I ⊢
    have hok : okD neg far b.length c = true := (okD_iff _ _ _ _).2 ⟨isD_of hc, inv_of rfl I (fun _ h => by rw [List.length_eq_zero_iff.1 h]; rfl)⟩
    show (if okD neg far b.length c then one (behR neg nm b.length (far * 10 + wv c) (b ++ 32 :: nm)) else (0, none)) = _
    rw [if_pos hok, beh_back hb I]
    simp [one]; omega
theorem pt_back {neg : Bool} {nm : List UInt8} {D : Nat} {b : List UInt8} {far : Nat} (hb : b.length = D) (hD : Dig 10 b) (I : Inv9 neg (far * 10 ^ D + tv 10 b) 0) : ptR neg nm D far (ptD D ++ (b ++ 32 :: nm)) = ((ptD D ++ (b ++ 32 :: nm)).length, some (sgn neg (far * 10 ^ D + tv 10 b))) := by
  unfold ptR
  subst hb
  rw [fix_app, beh_back hD I]
  simp [plus]; omega
theorem ah_back {neg : Bool} {nm : List UInt8} {D : Nat} {b : List UInt8} (hb : b.length = D) (hB : Dig 10 b) : ∀ {a : List UInt8} {far : Nat}, Dig 10 a → (a ≠ [] → 0 < far) → Inv9 neg ((far * 10 ^ a.length + tv 10 a) * 10 ^ D + tv 10 b) 0 →
    ahR neg nm D far (a ++ (ptD D ++ (b ++ 32 :: nm))) = ((a ++ (ptD D ++ (b ++ 32 :: nm))).length, some (sgn neg ((far * 10 ^ a.length + tv 10 a) * 10 ^ D + tv 10 b)))
  | [], far, hA, hf, I => by
    have e : far * 10 ^ ([] : List UInt8).length + tv 10 [] = far := by simp [tv_nil]
    rw [e] at I ⊢
    have hp := pt_back (nm := nm) hb hB I
    rw [List.nil_append]
    obtain ⟨c, r, hr, hc⟩ : ∃ c r, ptD D ++ (b ++ 32 :: nm) = c :: r ∧ isD c = false := by
      unfold ptD
      by_cases h : D = 0
      · subst h; rw [List.length_eq_zero_iff.1 hb]; exact ⟨32, nm, rfl, by decide⟩
      · rw [if_neg h]; exact ⟨46, _, rfl, by decide⟩
    have hno : ¬ (decide (0 < far) && okD neg far D c) = true := by
      intro h
      simp only [Bool.and_eq_true] at h
      have := ((okD_iff _ _ _ _).1 h.2).1
      rw [hc] at this; cases this
    rw [hr] at hp ⊢
    show (if (decide (0 < far) && okD neg far D c) = true then one (ahR neg nm D (far * 10 + wv c) r) else ptR neg nm D far (c :: r)) = _
    rw [if_neg hno]; exact hp
  | c :: a, far, hA, hf, I => by
    obtain ⟨hc, ha⟩ := hA.cons
    have e : far * 10 ^ (c :: a).length + tv 10 (c :: a) = (far * 10 + wv c) * 10 ^ a.length + tv 10 a := by rw [tv_cons, List.length_cons, Nat.pow_succ]; grind
    rw [e] at I ⊢
    have h0 := hf (by simp)
    have hok : okD neg far D c = true := by
      refine (okD_iff _ _ _ _).2 ⟨isD_of hc, inv_le (x := (far * 10 + wv c) * (10 ^ a.length - 1) * 10 ^ D + (tv 10 a * 10 ^ D + tv 10 b)) ?_ I, fun _ _ => by omega⟩
      have h1 : 1 ≤ 10 ^ a.length := Nat.pow_pos (by omega)
      obtain ⟨p, hp⟩ : ∃ p, 10 ^ a.length = p + 1 := ⟨10 ^ a.length - 1, by omega⟩
      rw [hp]; simp; grind
    show (if (decide (0 < far) && okD neg far D c) = true then one (ahR neg nm D (far * 10 + wv c) (a ++ (ptD D ++ (b ++ 32 :: nm)))) else _) = _
    rw [if_pos (by simp [h0, hok]), ah_back hb hB ha (fun _ => by omega) I]
    simp [one]
theorem fir_back {neg : Bool} {nm : List UInt8} {D : Nat} {a b : List UInt8} (hb : b.length = D) (ha : a ≠ []) (hA : Dig 10 a) (hB : Dig 10 b) (h0 : a.head? = some 48 → a = [48]) (I : Inv9 neg (tv 10 (a ++ b)) 0) :
    firR neg nm D (a ++ (ptD D ++ (b ++ 32 :: nm))) = ((a ++ (ptD D ++ (b ++ 32 :: nm))).length, some (sgn neg (tv 10 (a ++ b)))) := by
  match a, ha with
  | c :: a, _ =>
    obtain ⟨hc, ha⟩ := hA.cons
    have e : tv 10 ((c :: a) ++ b) = (wv c * 10 ^ a.length + tv 10 a) * 10 ^ D + tv 10 b := by rw [tv_append, tv_cons, hb]
    have I0 := I
    rw [e] at I ⊢
    have hz : wv c = 0 → a = [] := fun h => by
      have h1 := wv_zero h
      have h2 := h0 (by rw [h1]; rfl)
      simpa using congrArg List.tail h2
    have hok : okD neg 0 D c = true := by
      refine (okD_iff _ _ _ _).2 ⟨isD_of hc, inv_le (x := wv c * (10 ^ a.length - 1) * 10 ^ D + (tv 10 a * 10 ^ D + tv 10 b)) ?_ I, fun hn hD => ?_⟩
      · have h1 : 1 ≤ 10 ^ a.length := Nat.pow_pos (by omega)
        obtain ⟨p, hp⟩ : ∃ p, 10 ^ a.length = p + 1 := ⟨10 ^ a.length - 1, by omega⟩
        rw [hp]; simp; grind
      · intro h
        have h1 : wv c = 0 := by omega
        have h2 := I.2 hn rfl
        subst hD
        rw [hz h1, h1, List.length_eq_zero_iff.1 hb] at h2
        exact h2 (by simp [tv_nil])
    show (if okD neg 0 D c = true then one (ahR neg nm D (wv c) (a ++ (ptD D ++ (b ++ 32 :: nm)))) else (0, none)) = _
    rw [if_pos hok, ah_back hb hB ha (fun h => Nat.pos_of_ne_zero (fun h1 => h (hz h1))) I]
    simp [one]
/-- The digits of an amount, ahead of the point and behind it. -/
theorem pad_cut {D : Nat} {t : List UInt8} {v : Nat} (ht : Tx 10 t v) : ∃ a b, padL D t = a ++ b ∧ b.length = D ∧ a ≠ [] ∧ Dig 10 a ∧ Dig 10 b ∧ (a.head? = some 48 → a = [48]) ∧ tv 10 (a ++ b) = v := by
  have hl := padL_len D t
  have hp := ht.pos
  have hd : Dig 10 (padL D t) := padL_dig ht.dig
  have hv : tv 10 (padL D t) = v := (padL_tv D t).trans ht.val
  have lA : ((padL D t).take ((padL D t).length - D)).length = (padL D t).length - D := by simp
  refine ⟨(padL D t).take ((padL D t).length - D), (padL D t).drop ((padL D t).length - D), (List.take_append_drop _ _).symm, by simp; omega, List.length_pos_iff.1 (by omega), fun c hc => hd c (List.mem_of_mem_take hc), fun c hc => hd c (List.mem_of_mem_drop hc), fun hh => ?_, by rw [List.take_append_drop]; exact hv⟩
  by_cases h : t.length ≤ D
  · have l1 : ((padL D t).take ((padL D t).length - D)).length = 1 := by omega
    obtain ⟨x, hx⟩ := List.length_eq_one_iff.1 l1
    rw [hx] at hh ⊢
    simpa using hh
  · have e : padL D t = t := by unfold padL; rw [show D + 1 - t.length = 0 by omega]; rfl
    rw [e] at hh ⊢
    have hne : 0 < t.length - D := by omega
    have h4 : t.head? = some 48 := by
      rw [List.head?_take, if_neg (by omega)] at hh; exact hh
    have h5 := ht.nz h4
    have h6 : D = 0 := by omega
    obtain ⟨x, hx⟩ := List.length_eq_one_iff.1 h5
    rw [hx] at h4 ⊢
    subst h6
    simpa using h4
/-- What is told is read. -/
theorem par_back {nm : List UInt8} {D : Nat} {u : Int} {t : List UInt8} (h1 : -9223372036854775808 ≤ u) (h2 : u ≤ 9223372036854775807) (ht : Tx 10 t u.natAbs) : parR nm D (amt D nm t u) = ((amt D nm t u).length, some u) := by
  obtain ⟨a, b, e, hb, ha, hA, hB, h0, hv⟩ := pad_cut (D := D) ht
  have I : Inv9 (decide (u < 0)) (tv 10 (a ++ b)) 0 := by
    rw [hv]
    refine ⟨?_, fun h _ => ?_⟩
    · rw [Nat.pow_zero, Nat.div_one]
      by_cases h : u < 0 <;> simp [mostU, h] <;> omega
    · simp at h; omega
  have hf := fir_back (nm := nm) hb ha hA hB h0 I
  rw [hv, sgn_abs] at hf
  have ea : amt D nm t u = sgL (decide (u < 0)) (a ++ (ptD D ++ (b ++ 32 :: nm))) := by
    unfold amt textL
    rw [e, ptL_of hb]
    cases decide (u < 0) <;> simp [sgL]
  rw [ea]
  cases hn : decide (u < 0)
  · rw [hn] at hf
    have hh := head_dig_sign hA ha (ptD D ++ (b ++ 32 :: nm))
    show parR nm D (a ++ (ptD D ++ (b ++ 32 :: nm))) = _
    generalize a ++ (ptD D ++ (b ++ 32 :: nm)) = l at *
    cases l with
    | nil => exact hf
    | cons c l =>
      show (if c = 45 then one (firR true nm D l) else firR false nm D (c :: l)) = _
      rw [if_neg (by simpa using hh)]; exact hf
  · rw [hn] at hf
    show one (firR true nm D (a ++ (ptD D ++ (b ++ 32 :: nm)))) = _
    rw [hf]; simp [one, sgL]
/-- How many bytes are read at most. -/
theorem fix_le {K : List UInt8 → R9} {m : Nat} (h : ∀ l, (K l).1 ≤ m) : ∀ (t l : List UInt8), (fixC t K l).1 ≤ t.length + m
  | [], l => by have := h l; show (K l).1 ≤ _; simp; omega
  | a :: t, [] => Nat.zero_le _
  | a :: t, b :: l => by
    show (if b = a then one (fixC t K l) else (0, none)).1 ≤ _
    split
    · have := fix_le h t l; simp [one]; omega
    · exact Nat.zero_le _
theorem beh_le {neg : Bool} {nm : List UInt8} : ∀ (k far : Nat) (l : List UInt8), (behR neg nm k far l).1 ≤ k + (1 + nm.length)
  | 0, far, l => by
    have h0 : ∀ l, (finR (sgn neg far) l).1 ≤ 0 := fun l => by cases l <;> simp [finR]
    have := fix_le (fun l => fix_le h0 nm l) [32] l
    show (fixC [32] (fixC nm (finR (sgn neg far))) l).1 ≤ _
    simp at this; omega
  | k + 1, far, [] => Nat.zero_le _
  | k + 1, far, c :: l => by
    show (if okD neg far k c then one (behR neg nm k (far * 10 + wv c) l) else (0, none)).1 ≤ _
    split
    · have := beh_le (neg := neg) (nm := nm) k (far * 10 + wv c) l; simp [one]; omega
    · exact Nat.zero_le _
theorem pt_le {neg : Bool} {nm : List UInt8} {D far : Nat} (l : List UInt8) : (ptR neg nm D far l).1 ≤ 1 + (D + (1 + nm.length)) := by
  have := fix_le (beh_le (neg := neg) (nm := nm) D far) (ptD D) l
  have h : (ptD D).length ≤ 1 := by unfold ptD; split <;> simp
  unfold ptR; omega
theorem ah_le {neg : Bool} {nm : List UInt8} {D : Nat} : ∀ (l : List UInt8) (far j : Nat), 10 ^ j ≤ far → j ≤ 18 → (ahR neg nm D far l).1 + j ≤ 18 + (1 + (D + (1 + nm.length)))
  | [], far, j, h, hj => by have : (ahR neg nm D far []).1 ≤ _ := pt_le (neg := neg) (nm := nm) (D := D) (far := far) []; omega
  | c :: l, far, j, h, hj => by
    show (if (decide (0 < far) && okD neg far D c) = true then one (ahR neg nm D (far * 10 + wv c) l) else ptR neg nm D far (c :: l)).1 + j ≤ _
    split
    next hc =>
      simp only [Bool.and_eq_true] at hc
      obtain ⟨hd, I⟩ := (okD_iff _ _ _ _).1 hc.2
      have h1 : far * 10 + wv c ≤ mostU neg := Nat.le_trans I.1 (Nat.div_le_self _ _)
      have h2 := mostU_lt neg
      have h3 : 10 ^ (j + 1) ≤ far * 10 + wv c := by rw [Nat.pow_succ]; omega
      have h4 : j + 1 ≤ 18 := by
        rcases Nat.lt_or_ge (j + 1) 19 with h5 | h5
        · omega
        · have : 10 ^ 19 ≤ 10 ^ (j + 1) := Nat.pow_le_pow_right (by omega) h5
          omega
      have := ah_le (neg := neg) (nm := nm) (D := D) l (far * 10 + wv c) (j + 1) h3 h4
      simp [one]; omega
    next => have := pt_le (neg := neg) (nm := nm) (D := D) (far := far) (c :: l); omega
theorem fir_le {neg : Bool} {nm : List UInt8} {D : Nat} (l : List UInt8) : (firR neg nm D l).1 ≤ 20 + (D + (1 + nm.length)) := by
  cases l with
  | nil => exact Nat.zero_le _
  | cons c l =>
    show (if okD neg 0 D c = true then one (ahR neg nm D (wv c) l) else (0, none)).1 ≤ _
    split
    · rcases Nat.eq_zero_or_pos (wv c) with h | h
      · rw [h]
        have : (ahR neg nm D 0 l).1 ≤ 1 + (D + (1 + nm.length)) := by
          cases l with
          | nil => exact pt_le []
          | cons b l =>
            show (if (decide (0 < 0) && okD neg 0 D b) = true then one (ahR neg nm D (0 * 10 + wv b) l) else ptR neg nm D 0 (b :: l)).1 ≤ _
            rw [if_neg (by simp)]; exact pt_le _
        simp [one]; omega
      · have := ah_le (neg := neg) (nm := nm) (D := D) l (wv c) 0 (by rw [Nat.pow_zero]; exact h) (by omega); simp [one]; omega
    · exact Nat.zero_le _
theorem par_le {nm : List UInt8} {D : Nat} (l : List UInt8) : (parR nm D l).1 ≤ 21 + (D + (1 + nm.length)) := by
  cases l with
  | nil => exact Nat.zero_le _
  | cons c l =>
    show (if c = 45 then one (firR true nm D l) else firR false nm D (c :: l)).1 ≤ _
    split
    · have := fir_le (neg := true) (nm := nm) (D := D) l; simp [one]; omega
    · have := fir_le (neg := false) (nm := nm) (D := D) (c :: l); omega
end Go.Proofs.YtigimdcaakfckaaGreatDoor
