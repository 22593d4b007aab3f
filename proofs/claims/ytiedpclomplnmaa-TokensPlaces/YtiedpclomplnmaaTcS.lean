/-
  tokens: places: each token's text stands at its place, between them blanks and remarks alone.
-/
import Derived.Test.YtiedpclomplnmaaTcR
namespace Go.Proofs.Ytiedpclomplnmaa
set_option linter.unusedVariables false

theorem st_split : ∀ (s : List UInt8) (n k : Nat), n ≤ s.length → st k s = st k (s.take n) ++ st (k + n) (s.drop n)
  | s, 0, k, _ => by simp [st]
  | [], n + 1, k, h => by simp at h
  | c :: t, n + 1, k, h => by
    have := st_split t n (k + 1) (by simpa using h)
    simp only [List.take_succ_cons, List.drop_succ_cons, st]
    rw [this, show k + 1 + n = k + (n + 1) by omega]
    split <;> simp
/-- The byte n has the place l, c. -/
structure At (s : List UInt8) (n l c : Nat) : Prop where
  l1 : 1 ≤ l
  c1 : 1 ≤ c
  ll : l ≤ (0 :: st 0 s).length
  at_ : (0 :: st 0 s).getD (l - 1) 0 + c = n + 1
  le : n ≤ s.length
  cnt : (st 0 (s.take n)).length = l - 1
theorem At.start (s : List UInt8) : At s 0 1 1 := ⟨Nat.le_refl _, Nat.le_refl _, by simp, by simp, Nat.zero_le _, by simp [st]⟩
theorem drop_cons {s : List UInt8} {n : Nat} {b : UInt8} {t : List UInt8} (h : s.drop n = b :: t) : n < s.length ∧ s[n]? = some b ∧ s.drop (n + 1) = t := by
  have hl : n < s.length := by
    rcases Nat.lt_or_ge n s.length with h' | h'
    · exact h'
    · rw [List.drop_eq_nil_of_le h'] at h; cases h
  rw [List.drop_eq_getElem_cons hl] at h
  injection h with h1 h2
  exact ⟨hl, by rw [List.getElem?_eq_getElem hl, h1], h2⟩
theorem take_one {s : List UInt8} {n : Nat} {b : UInt8} (h : s[n]? = some b) : s.take (n + 1) = s.take n ++ [b] := by
  rw [List.take_add_one, h]; rfl
theorem st_end : ∀ (s : List UInt8) (k : Nat) (b : UInt8), st k (s ++ [b]) = st k s ++ (if b = 10 then [k + s.length + 1] else [])
  | [], k, b => by simp [st]
  | c :: t, k, b => by
    have := st_end t (k + 1) b
    simp only [List.cons_append, st, List.length_cons]
    rw [this, show k + 1 + t.length + 1 = k + (t.length + 1) + 1 by omega]
    split <;> simp
theorem At.line {s : List UInt8} {n l c : Nat} (h : At s n l c) {t : List UInt8} (hd : s.drop n = 10 :: t) : At s (n + 1) (l + 1) 1 := by
  obtain ⟨hl, hb, ht⟩ := drop_cons hd
  have hs := st_split s n 0 (by omega)
  rw [hd, st, if_pos rfl] at hs
  have h1 := h.l1
  have hg : (st 0 s)[l - 1]? = some (0 + n + 1) := by
    rw [hs, List.getElem?_append_right (by rw [h.cnt]; omega), h.cnt]; simp
  have hlt := (List.getElem?_eq_some_iff.1 hg).1
  refine ⟨by omega, Nat.le_refl _, by simp only [List.length_cons]; omega, ?_, by omega, ?_⟩
  · rw [Nat.add_sub_cancel, List.getD_eq_getElem?_getD]
    obtain ⟨d, rfl⟩ : ∃ d, l = d + 1 := ⟨l - 1, by omega⟩
    rw [Nat.add_sub_cancel] at hg
    rw [List.getElem?_cons_succ, hg]; simp
  · rw [take_one hb, st_end, if_pos rfl, List.length_append, h.cnt]; simp; omega
theorem At.byte {s : List UInt8} {n l c : Nat} (h : At s n l c) {b : UInt8} {t : List UInt8} (hd : s.drop n = b :: t) (hb : b ≠ 10) : At s (n + 1) l (c + 1) := by
  obtain ⟨hl, hb', ht⟩ := drop_cons hd
  refine ⟨h.l1, by omega, h.ll, by have := h.at_; omega, by omega, ?_⟩
  rw [take_one hb', st_end, if_neg hb, List.append_nil]; exact h.cnt
theorem At.bytes {s : List UInt8} : ∀ (k : Nat) {n l c : Nat}, At s n l c → k ≤ (s.drop n).length → (∀ b ∈ (s.drop n).take k, b ≠ 10) → At s (n + k) l (c + k)
  | 0, n, l, c, h, _, _ => h
  | k + 1, n, l, c, h, hk, hb => by
    cases hd : s.drop n with
    | nil => rw [hd] at hk; simp at hk
    | cons b t =>
      obtain ⟨hl, -, ht⟩ := drop_cons hd
      rw [hd] at hk hb
      have h1 := h.byte hd (hb b (by simp))
      have := At.bytes k h1 (by rw [ht]; simpa using hk) (by rw [ht]; intro x hx; exact hb x (by simp [hx]))
      rw [show n + (k + 1) = n + 1 + k by omega, show c + (k + 1) = c + 1 + k by omega]; exact this
def blk (c : UInt8) : Bool := c == 32 || c == 9 || c == 10 || c == 13
/-- Blanks and remarks: the state behind them, if there is nothing else. -/
def bws : Bool → List UInt8 → Option Bool
  | r, [] => some r
  | r, c :: t => if (if c = 35 then true else if c = 10 then false else r) = false ∧ blk c = false then none else bws (if c = 35 then true else if c = 10 then false else r) t
theorem bws_append : ∀ (x y : List UInt8) (r : Bool), bws r (x ++ y) = (bws r x).bind (fun r' => bws r' y)
  | [], y, r => rfl
  | c :: t, y, r => by
    rw [List.cons_append, bws, bws]
    generalize (if c = 35 then true else if c = 10 then false else r) = q
    by_cases h : q = false ∧ blk c = false
    · rw [if_pos h, if_pos h]; rfl
    · rw [if_neg h, if_neg h]; exact bws_append t y _
theorem bws_remark : ∀ (x : List UInt8), (∀ c ∈ x, c ≠ 10) → bws true x = some true
  | [], _ => rfl
  | c :: t, h => by
    have h1 : ¬ c = 10 := h c (List.mem_cons_self ..)
    have := bws_remark t (fun x hx => h x (List.mem_cons_of_mem _ hx))
    simp only [bws, if_neg h1]
    split <;> simp_all
theorem take_more {s : List UInt8} {e n : Nat} (k : Nat) (h : e ≤ n) : (s.drop e).take (n + k - e) = (s.drop e).take (n - e) ++ (s.drop n).take k := by
  rw [show n + k - e = (n - e) + k by omega, List.take_add, List.drop_drop, show e + (n - e) = n by omega]
theorem lx_no10 : ∀ (s : List UInt8), ∀ b ∈ s.take (lx s).2, b ≠ 10 := by
  intro s b hb
  rintro rfl
  -- the token would hold a byte 10: cut there, it is the same token
  rcases line1 s with h | ⟨x, y, rfl, hx⟩
  · exact h 10 (List.mem_of_mem_take hb) rfl
  · cases x with
    | nil =>
      have : lx (10 :: y) = (5, 0) := by
        rw [lx_cons, if_neg (by decide)]
        rw [if_neg, if_neg, if_neg (by decide)]
        · rfl
        · have := dtB_iff (10 :: y)
          intro h; have := (this.1 h).2 0 (by omega); simp at this; revert this; decide
        · have h9 : cp 10 = false := rfl
          rcases y with _ | ⟨p, _ | ⟨q, y⟩⟩ <;> simp [cdB, h9]
      rw [List.nil_append, this] at hb
      cases hb
    | cons c t =>
      have h1 := lx_sep dead10 y (c :: t) (by simp)
      have h2 := lx_le (c :: t)
      rw [h1, List.take_append_of_le_length h2] at hb
      exact hx 10 (List.mem_of_mem_take hb) rfl
theorem rn_all (p : UInt8 → Bool) : ∀ (s : List UInt8), ∀ x ∈ s.take (rn p s), p x = true
  | [], x, h => by simp at h
  | c :: t, x, h => by
    rw [rn] at h
    by_cases hc : p c = true
    · rw [if_pos hc, List.take_succ_cons] at h
      rcases List.mem_cons.1 h with rfl | h
      · exact hc
      · exact rn_all p t x h
    · rw [if_neg hc] at h; simp at h
theorem rn_stop (p : UInt8 → Bool) : ∀ (s : List UInt8), s.drop (rn p s) = [] ∨ ∃ x u, s.drop (rn p s) = x :: u ∧ p x = false
  | [] => .inl (by simp)
  | c :: t => by
    rw [rn]
    by_cases hc : p c = true
    · rw [if_pos hc, List.drop_succ_cons]; exact rn_stop p t
    · rw [if_neg hc]; exact .inr ⟨c, t, rfl, by simpa using hc⟩
/-- The tokens lie at their places, from the byte e on. -/
def PL (s : List UInt8) : Nat → List Tk → Prop
  | _, [] => False
  | e, t :: ts => ∃ n, e ≤ n ∧ At s n t.ln t.co ∧ n + t.tx.length ≤ s.length ∧ (s.drop n).take t.tx.length = t.tx ∧ (bws false ((s.drop e).take (n - e))).isSome = true ∧ (t.kd = 0 ↔ ts = []) ∧ (t.tx = [] ↔ ts = []) ∧ (ts = [] → n = s.length) ∧ (ts ≠ [] → PL s (n + t.tx.length) ts)
theorem lx_kd (s : List UInt8) : (lx s).1 ≠ 0 := by
  cases s with
  | nil => decide
  | cons c t => rw [lx_cons]; split; simp; split; simp; split; simp; split <;> simp
theorem places (s : List UInt8) : ∀ (f n e l c : Nat) (r : Bool) (ts : List Tk), (s.drop n).length ≤ f → At s n l c → e ≤ n → bws false ((s.drop e).take (n - e)) = some r → (r = true → s.drop n = [] ∨ ∃ t, s.drop n = 10 :: t) → cu (s.drop n) l c = .ok ts → PL s e ts := by
  intro f
  induction f with
  | zero =>
    intro n e l c r ts h ha hen hb hr he
    have hd : s.drop n = [] := List.length_eq_zero_iff.1 (by omega)
    have hle := ha.le
    have hn : n = s.length := by have := congrArg List.length hd; simp at this; omega
    rw [hd, cu_nil] at he; cases he
    exact ⟨n, hen, ha, by simp; omega, by simp, by rw [hb]; rfl, by simp, by simp, fun _ => hn, fun h => absurd rfl h⟩
  | succ f ih =>
    intro n e l c r ts h ha hen hb hr he
    cases hd : s.drop n with
    | nil =>
      have hle := ha.le
      have hn : n = s.length := by have := congrArg List.length hd; simp at this; omega
      rw [hd, cu_nil] at he; cases he
      exact ⟨n, hen, ha, by simp; omega, by simp, by rw [hb]; rfl, by simp, by simp, fun _ => hn, fun h => absurd rfl h⟩
    | cons b t =>
      obtain ⟨hl, -, ht⟩ := drop_cons hd
      rw [hd] at h he
      simp only [List.length_cons] at h
      have htk1 : (s.drop n).take 1 = [b] := by rw [hd]; rfl
      rw [cu_cons] at he
      by_cases h1 : b = 10
      · subst h1
        rw [if_pos rfl, ← ht] at he
        refine ih (n + 1) e (l + 1) 1 false ts (by rw [ht]; omega) (ha.line hd) (by omega) ?_ (fun h => by cases h) he
        rw [take_more 1 hen, htk1, bws_append, hb]
        cases r <;> rfl
      · rw [if_neg h1] at he
        have hrf : r = false := by
          cases r with
          | false => rfl
          | true =>
            rcases hr rfl with h0 | ⟨u, h0⟩
            · rw [hd] at h0; cases h0
            · rw [hd] at h0; injection h0 with h0 _; exact absurd h0 h1
        subst hrf
        by_cases h2 : b = 32 ∨ b = 9 ∨ b = 13
        · rw [if_pos h2, ← ht] at he
          refine ih (n + 1) e l (c + 1) false ts (by rw [ht]; omega) (ha.byte hd h1) (by omega) ?_ (fun h => by cases h) he
          rw [take_more 1 hen, htk1, bws_append, hb]
          rcases h2 with rfl | rfl | rfl <;> rfl
        · rw [if_neg h2] at he
          by_cases h3 : b = 35
          · subst h3
            rw [if_pos rfl] at he
            have hrl : rm t ≤ t.length := rn_le _ _
            have hno : ∀ x ∈ t.take (rm t), x ≠ 10 := by
              intro x hx
              have := rn_all (fun c => c != 10) t x hx
              simpa using this
            have htk : (s.drop n).take (1 + rm t) = 35 :: t.take (rm t) := by rw [hd, Nat.add_comm, List.take_succ_cons]
            have hdr : s.drop (n + (1 + rm t)) = t.drop (rm t) := by rw [show n + (1 + rm t) = (n + 1) + rm t by omega, ← List.drop_drop, ht]
            rw [← hdr] at he
            refine ih (n + (1 + rm t)) e l (c + (1 + rm t)) true ts (by rw [hdr]; simp; omega) (At.bytes _ ha (by rw [hd]; simp; omega) (by rw [htk]; intro x hx; rcases List.mem_cons.1 hx with rfl | hx; decide; exact hno x hx)) (by omega) ?_ ?_ (by rw [show c + (1 + rm t) = c + 1 + rm t by omega]; exact he)
            · rw [take_more _ hen, htk, bws_append, hb]
              show bws true (t.take (rm t)) = some true
              exact bws_remark _ hno
            · intro _
              rw [hdr]
              rcases rn_stop (fun c => c != 10) t with h0 | ⟨x, u, h0, hx⟩
              · exact .inl h0
              · right
                refine ⟨u, ?_⟩
                have : x = 10 := by simpa using hx
                rw [← this]; exact h0
          · rw [if_neg h3] at he
            by_cases h4 : bad (b :: t) = true
            · rw [if_pos h4] at he; cases he
            · rw [if_neg h4] at he
              have hpos := bad_pos h4
              have hle := lx_le (b :: t)
              have hn10 := lx_no10 (b :: t)
              have hkd := lx_kd (b :: t)
              have hdr : (b :: t).drop (lx (b :: t)).2 = s.drop (n + (lx (b :: t)).2) := by rw [← hd, List.drop_drop]
              cases hr2 : cu ((b :: t).drop (lx (b :: t)).2) l (c + (lx (b :: t)).2) with
              | no x y => rw [hr2] at he; cases he
              | ok us =>
                rw [hr2] at he
                have hus := ok_ne _ (Nat.le_refl _) hr2
                rw [hdr] at hr2
                have hts : ts = ⟨(lx (b :: t)).1, (b :: t).take (lx (b :: t)).2, l, c⟩ :: us := by cases he; rfl
                subst hts
                generalize (lx (b :: t)).2 = q at *
                generalize (lx (b :: t)).1 = K at *
                have htl : ((b :: t).take q).length = q := by rw [List.length_take]; omega
                have hnl : n + q ≤ s.length := by have := congrArg List.length hd; simp at this hle; omega
                refine ⟨n, hen, ha, by show n + ((b :: t).take q).length ≤ _; rw [htl]; exact hnl, by show (s.drop n).take ((b :: t).take q).length = _; rw [htl, hd], by rw [hb]; rfl, by constructor; intro h0; exact absurd h0 hkd; intro h0; exact absurd h0 hus, ?_, fun h0 => absurd h0 hus, fun _ => ?_⟩
                · constructor
                  · intro h0
                    have := congrArg List.length h0
                    rw [htl] at this
                    simp at this; omega
                  · intro h0; exact absurd h0 hus
                · show PL s (n + ((b :: t).take q).length) us
                  rw [htl]
                  refine ih (n + q) (n + q) l (c + q) false us (by rw [← hdr]; simp at hle ⊢; omega) (At.bytes q ha (by rw [hd]; exact hle) (by rw [hd]; exact hn10)) (Nat.le_refl _) (by rw [Nat.sub_self]; rfl) (fun h => by cases h) hr2
theorem refused_at (s : List UInt8) : ∀ (f n l c L C : Nat), (s.drop n).length ≤ f → At s n l c → cu (s.drop n) l c = .no L C → ∃ p b, s[p]? = some b ∧ At s p L C ∧ blk b = false := by
  intro f
  induction f with
  | zero =>
    intro n l c L C h ha he
    have hd : s.drop n = [] := List.length_eq_zero_iff.1 (by omega)
    rw [hd, cu_nil] at he; cases he
  | succ f ih =>
    intro n l c L C h ha he
    cases hd : s.drop n with
    | nil => rw [hd, cu_nil] at he; cases he
    | cons b t =>
      obtain ⟨hl, hgb, ht⟩ := drop_cons hd
      rw [hd] at h he
      simp only [List.length_cons] at h
      rw [cu_cons] at he
      by_cases h1 : b = 10
      · subst h1
        rw [if_pos rfl, ← ht] at he
        exact ih (n + 1) (l + 1) 1 L C (by rw [ht]; omega) (ha.line hd) he
      · rw [if_neg h1] at he
        by_cases h2 : b = 32 ∨ b = 9 ∨ b = 13
        · rw [if_pos h2, ← ht] at he
          exact ih (n + 1) l (c + 1) L C (by rw [ht]; omega) (ha.byte hd h1) he
        · rw [if_neg h2] at he
          by_cases h3 : b = 35
          · subst h3
            rw [if_pos rfl] at he
            have hrl : rm t ≤ t.length := rn_le _ _
            have hno : ∀ x ∈ t.take (rm t), x ≠ 10 := by
              intro x hx
              have := rn_all (fun c => c != 10) t x hx
              simpa using this
            have htk : (s.drop n).take (1 + rm t) = 35 :: t.take (rm t) := by rw [hd, Nat.add_comm, List.take_succ_cons]
            have hdr : s.drop (n + (1 + rm t)) = t.drop (rm t) := by rw [show n + (1 + rm t) = (n + 1) + rm t by omega, ← List.drop_drop, ht]
            rw [← hdr] at he
            exact ih (n + (1 + rm t)) l (c + (1 + rm t)) L C (by rw [hdr]; simp; omega) (At.bytes _ ha (by rw [hd]; simp; omega) (by rw [htk]; intro x hx; rcases List.mem_cons.1 hx with rfl | hx; decide; exact hno x hx)) (by rw [show c + (1 + rm t) = c + 1 + rm t by omega]; exact he)
          · rw [if_neg h3] at he
            by_cases h4 : bad (b :: t) = true
            · rw [if_pos h4] at he
              cases he
              refine ⟨n, b, hgb, ha, ?_⟩
              have g1 : ¬ b = 32 := fun h => h2 (.inl h)
              have g2 : ¬ b = 9 := fun h => h2 (.inr (.inl h))
              have g3 : ¬ b = 13 := fun h => h2 (.inr (.inr h))
              simp [blk, g1, g2, g3, h1]
            · rw [if_neg h4] at he
              have hpos := bad_pos h4
              have hle := lx_le (b :: t)
              have hn10 := lx_no10 (b :: t)
              have hdr : (b :: t).drop (lx (b :: t)).2 = s.drop (n + (lx (b :: t)).2) := by rw [← hd, List.drop_drop]
              cases hr2 : cu ((b :: t).drop (lx (b :: t)).2) l (c + (lx (b :: t)).2) with
              | ok us => rw [hr2] at he; cases he
              | no x y =>
                rw [hr2] at he; cases he
                rw [hdr] at hr2
                exact ih _ l _ L C (by rw [← hdr]; simp at hle ⊢; omega) (At.bytes _ ha (by rw [hd]; exact hle) (by rw [hd]; exact hn10)) hr2
end Go.Proofs.Ytiedpclomplnmaa
