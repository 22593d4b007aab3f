/-
  tokens: what follows of the cut, as plain facts of bytes: tokens with blanks between.
-/
import Derived.Test.YtiedpclomplnmaaTcP
namespace Go.Proofs.Ytiedpclomplnmaa
set_option linter.unusedVariables false

/-- The tokens' texts with a blank between each two. -/
def jn : List Tk → List UInt8
  | [] => []
  | [t] => t.tx
  | t :: u :: ts => t.tx ++ 32 :: jn (u :: ts)
/-- The same kinds and texts, all on one line. -/
def Alike (l : Nat) : List Tk → List Tk → Prop
  | [], [] => True
  | a :: as_, b :: bs => b.kd = a.kd ∧ b.tx = a.tx ∧ b.ln = l ∧ Alike l as_ bs
  | _, _ => False
theorem Alike.length {l : Nat} : ∀ {a b : List Tk}, Alike l a b → b.length = a.length
  | [], [], _ => rfl
  | a :: as_, b :: bs, h => by simp [Alike.length h.2.2.2]
  | [], _ :: _, h => h.elim
  | _ :: _, [], h => h.elim
theorem Alike.at {l : Nat} : ∀ {a b : List Tk} (i : Nat) (d : Tk), Alike l a b → i < a.length → (b.getD i d).kd = (a.getD i d).kd ∧ (b.getD i d).tx = (a.getD i d).tx ∧ (b.getD i d).ln = l
  | [], _, i, d, h, hi => by simp at hi
  | a :: as_, b :: bs, 0, d, h, hi => ⟨h.1, h.2.1, h.2.2.1⟩
  | a :: as_, b :: bs, i + 1, d, h, hi => by
    have := Alike.at i d h.2.2.2 (by simpa using hi)
    simpa using this
  | a :: as_, [], i, d, h, hi => h.elim
theorem ok_ne {s : List UInt8} {l c : Nat} {ts : List Tk} : ∀ (f : Nat), s.length ≤ f → cu s l c = .ok ts → ts ≠ [] := by
  intro f
  induction f generalizing s l c ts with
  | zero =>
    intro h e
    obtain rfl : s = [] := List.length_eq_zero_iff.1 (by omega)
    rw [cu_nil] at e; cases e; simp
  | succ f ih =>
    intro h e
    cases s with
    | nil => rw [cu_nil] at e; cases e; simp
    | cons b t =>
      simp only [List.length_cons] at h
      rw [cu_cons] at e
      split at e
      · exact ih (by omega) e
      · split at e
        · exact ih (by omega) e
        · split at e
          · exact ih (by simp; omega) e
          · split at e
            · cases e
            · generalize cu ((b :: t).drop (lx (b :: t)).2) l (c + (lx (b :: t)).2) = r at e
              cases r with
              | ok us => simp [Cr.pre] at e; rw [← e]; simp
              | no x y => simp [Cr.pre] at e
theorem lx_tok {s : List UInt8} (h : 0 < (lx s).2) (m : List UInt8) : lx (s.take (lx s).2 ++ 32 :: m) = lx s := by
  rw [lx_sep dead32 m _ (by intro h0; have h1 := congrArg List.length h0; have h2 := lx_le s; rw [List.length_take, List.length_nil] at h1; omega), lx_take s (by omega)]
/-- THE STAGE'S THEOREM, of bytes. -/
theorem back : ∀ (f : Nat) {s : List UInt8} {l c : Nat} {ts : List Tk} (c' : Nat), s.length ≤ f → cu s l c = .ok ts → ∃ us, cu (jn ts) 1 c' = .ok us ∧ Alike 1 ts us := by
  intro f
  induction f with
  | zero =>
    intro s l c ts c' h e
    obtain rfl : s = [] := List.length_eq_zero_iff.1 (by omega)
    rw [cu_nil] at e; cases e
    exact ⟨_, cu_nil 1 c', rfl, rfl, rfl, trivial⟩
  | succ f ih =>
    intro s l c ts c' h e
    cases s with
    | nil => rw [cu_nil] at e; cases e; exact ⟨_, cu_nil 1 c', rfl, rfl, rfl, trivial⟩
    | cons b t =>
      simp only [List.length_cons] at h
      rw [cu_cons] at e
      split at e
      · exact ih c' (by omega) e
      · rename_i n10
        split at e
        · exact ih c' (by omega) e
        · rename_i nbl
          split at e
          · exact ih c' (by simp; omega) e
          · rename_i n35
            split at e
            · cases e
            · rename_i hb
              have hpos := bad_pos hb
              have hle := lx_le (b :: t)
              cases hr : cu ((b :: t).drop (lx (b :: t)).2) l (c + (lx (b :: t)).2) with
              | no x y => rw [hr] at e; simp [Cr.pre] at e
              | ok us =>
                rw [hr] at e
                simp only [Cr.pre, List.singleton_append, Cr.ok.injEq] at e
                subst e
                have hne := ok_ne _ (Nat.le_refl _) hr
                obtain ⟨u, us, rfl⟩ := List.exists_cons_of_ne_nil hne
                have hs := lx_tok hpos (jn (u :: us))
                obtain ⟨vs, hv, hal⟩ := ih (c' + (lx (b :: t)).2 + 1) (by simp at hle ⊢; omega) hr
                generalize hX : (b :: t).take (lx (b :: t)).2 = X at hs ⊢
                have hXl : X.length = (lx (b :: t)).2 := by rw [← hX, List.length_take]; omega
                obtain ⟨n, hn⟩ : ∃ n, (lx (b :: t)).2 = n + 1 := ⟨(lx (b :: t)).2 - 1, by omega⟩
                have hXb : X = b :: t.take n := by rw [← hX, hn, List.take_succ_cons]
                refine ⟨⟨(lx (b :: t)).1, X, 1, c'⟩ :: vs, ?_, rfl, rfl, rfl, hal⟩
                show cu (X ++ 32 :: jn (u :: us)) 1 c' = _
                have hcons : X ++ 32 :: jn (u :: us) = b :: (t.take n ++ 32 :: jn (u :: us)) := by rw [hXb]; rfl
                rw [hcons, cu_cons, if_neg n10, if_neg nbl, if_neg n35, ← hcons, hs]
                have hdr : (X ++ 32 :: jn (u :: us)).drop (lx (b :: t)).2 = 32 :: jn (u :: us) := by rw [← hXl]; simp
                have htk : (X ++ 32 :: jn (u :: us)).take (lx (b :: t)).2 = X := by rw [← hXl]; simp
                have hbad : bad (X ++ 32 :: jn (u :: us)) = false := by
                  unfold bad
                  rw [hs, hdr, gs_dead dead32]
                  simp; omega
                rw [hbad, if_neg (by simp), hdr, htk, cu_cons, if_neg (by decide), if_pos (.inl rfl), hv]
                rfl
theorem jn_cons (t : Tk) (ts : List Tk) (h : ts ≠ []) : jn (t :: ts) = t.tx ++ 32 :: jn ts := by
  obtain ⟨u, us, rfl⟩ := List.exists_cons_of_ne_nil h
  rfl
/-- Texts put together one by one. -/
theorem jn_snoc : ∀ (a : List Tk) (t : Tk), a ≠ [] → jn (a ++ [t]) = jn a ++ 32 :: t.tx
  | [], _, h => absurd rfl h
  | [x], t, _ => rfl
  | x :: y :: a, t, _ => by
    rw [List.cons_append, jn_cons x _ (by simp), jn_snoc (y :: a) t (by simp), jn_cons x _ (by simp)]
    simp
end Go.Proofs.Ytiedpclomplnmaa
