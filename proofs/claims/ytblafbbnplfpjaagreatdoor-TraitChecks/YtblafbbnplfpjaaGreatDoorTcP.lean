/-
  tokens: what a text is cut into, as a plain function of its bytes; what follows of it.
-/
import Derived.WalkKit
namespace Go.Proofs.YtblafbbnplfpjaaGreatDoor
set_option linter.unusedVariables false

def sm (c : UInt8) : Bool := decide (97 ≤ c.toNat) && decide (c.toNat ≤ 122)
def cp (c : UInt8) : Bool := decide (65 ≤ c.toNat) && decide (c.toNat ≤ 90)
def dg (c : UInt8) : Bool := decide (48 ≤ c.toNat) && decide (c.toNat ≤ 57)
def ip (c : UInt8) : Bool := sm c || dg c || c == 95
/-- How many bytes at the beginning are of a kind. -/
def rn (p : UInt8 → Bool) : List UInt8 → Nat
  | [] => 0
  | c :: t => if p c then rn p t + 1 else 0
theorem rn_le (p : UInt8 → Bool) : ∀ s, rn p s ≤ s.length
  | [] => Nat.le_refl _
  | c :: t => by
    have := rn_le p t
    unfold rn
    split <;> simp <;> omega
/-- A separator ends what runs there. -/
theorem rn_sep (p : UInt8 → Bool) (b : UInt8) (hb : p b = false) (m : List UInt8) : ∀ s, rn p (s ++ b :: m) = rn p s
  | [] => by simp [rn, hb]
  | c :: t => by
    simp only [List.cons_append, rn]
    rw [rn_sep p b hb m t]
theorem rn_take (p : UInt8 → Bool) : ∀ (s : List UInt8) (n : Nat), rn p (s.take n) = min n (rn p s)
  | [], n => by simp [rn]
  | c :: t, 0 => by simp [rn]
  | c :: t, n + 1 => by
    simp only [List.take_succ_cons, rn]
    rw [rn_take p t n]
    split <;> omega
/-- The part with which a text begins. -/
def pt : List UInt8 → Nat
  | [] => 0
  | c :: t => if sm c then rn ip (c :: t) else 0
theorem pt_cons (c : UInt8) (t : List UInt8) : pt (c :: t) = if sm c then rn ip (c :: t) else 0 := rfl
theorem pt_le (s : List UInt8) : pt s ≤ s.length := by
  cases s with
  | nil => exact Nat.le_refl _
  | cons c t =>
    rw [pt_cons]
    split
    · exact rn_le _ _
    · exact Nat.zero_le _
theorem sm_ip {c : UInt8} (h : sm c = true) : ip c = true := by simp [ip, h]
theorem pt_pos {c : UInt8} {t : List UInt8} (h : sm c = true) : 0 < pt (c :: t) := by simp [pt, h, rn, sm_ip h]
theorem pt_sep (b : UInt8) (hb : ip b = false) (m s : List UInt8) : pt (s ++ b :: m) = pt s := by
  cases s with
  | nil =>
    have : sm b = false := by cases h : sm b; rfl; rw [sm_ip h] at hb; cases hb
    simp [pt, this]
  | cons c t =>
    have := rn_sep ip b hb m (c :: t)
    rw [List.cons_append] at this
    simp only [List.cons_append, pt, this]
theorem pt_take (s : List UInt8) (n : Nat) : pt (s.take n) = min n (pt s) := by
  cases s with
  | nil => simp [pt]
  | cons c t =>
    cases n with
    | zero => simp [pt]
    | succ n =>
      have := rn_take ip (c :: t) (n + 1)
      rw [List.take_succ_cons] at this
      simp only [List.take_succ_cons, pt, this]
      split <;> omega
/-- What follows a part in a word: points and parts. -/
def wt : Nat → List UInt8 → Nat
  | 0, _ => 0
  | _ + 1, [] => 0
  | f + 1, c :: t => if c = 46 ∧ pt t ≠ 0 then 1 + pt t + wt f (t.drop (pt t)) else 0
theorem wt_fuel : ∀ (f g : Nat) (s : List UInt8), s.length ≤ f → s.length ≤ g → wt f s = wt g s
  | 0, 0, s, _, _ => rfl
  | 0, g + 1, [], _, _ => rfl
  | f + 1, 0, [], _, _ => rfl
  | f + 1, g + 1, [], _, _ => rfl
  | f + 1, g + 1, c :: t, hf, hg => by
    have := wt_fuel f g (t.drop (pt t)) (by simp at hf ⊢; omega) (by simp at hg ⊢; omega)
    simp only [wt, this]
def wq (s : List UInt8) : Nat := wt s.length s
theorem wq_cons (c : UInt8) (t : List UInt8) : wq (c :: t) = if c = 46 ∧ pt t ≠ 0 then 1 + pt t + wq (t.drop (pt t)) else 0 := by
  show wt (t.length + 1) (c :: t) = _
  unfold wq
  rw [← wt_fuel t.length (t.drop (pt t)).length (t.drop (pt t)) (by simp) (Nat.le_refl _)]
  rfl
theorem wt_le : ∀ (f : Nat) (s : List UInt8), wt f s ≤ s.length
  | 0, s => Nat.zero_le _
  | f + 1, [] => Nat.le_refl _
  | f + 1, c :: t => by
    have h1 := wt_le f (t.drop (pt t))
    have h2 := pt_le t
    simp only [wt, List.length_cons]
    simp only [List.length_drop] at h1
    split <;> omega
theorem wq_le (s : List UInt8) : wq s ≤ s.length := wt_le _ _
/-- A word's length. -/
def wl (s : List UInt8) : Nat := pt s + wq (s.drop (pt s))
theorem wl_le (s : List UInt8) : wl s ≤ s.length := by
  have h1 := wq_le (s.drop (pt s)); have h2 := pt_le s
  simp only [List.length_drop] at h1
  unfold wl; omega
theorem wt_sep (b : UInt8) (hb : ip b = false) (hb' : b ≠ 46) (m : List UInt8) : ∀ (f : Nat) (s : List UInt8), s.length ≤ f → wq (s ++ b :: m) = wq s
  | f, [], _ => by rw [List.nil_append, wq_cons, if_neg (fun h => hb' h.1)]; rfl
  | 0, c :: t, h => by simp at h
  | f + 1, c :: t, h => by
    rw [List.cons_append, wq_cons, wq_cons, pt_sep b hb m t]
    have := pt_le t
    rw [List.drop_append_of_le_length this, wt_sep b hb hb' m f (t.drop (pt t)) (by simp at h ⊢; omega)]
theorem wl_sep (b : UInt8) (hb : ip b = false) (hb' : b ≠ 46) (m s : List UInt8) : wl (s ++ b :: m) = wl s := by
  unfold wl
  rw [pt_sep b hb m s, List.drop_append_of_le_length (pt_le s), wt_sep b hb hb' m _ _ (Nat.le_refl _)]
theorem wq_take : ∀ (f : Nat) (s : List UInt8), s.length ≤ f → wq (s.take (wq s)) = wq s
  | f, [], _ => by simp
  | 0, c :: t, h => by simp at h
  | f + 1, c :: t, h => by
    rw [wq_cons]
    by_cases hc : c = 46 ∧ pt t ≠ 0
    · rw [if_pos hc, show 1 + pt t + wq (t.drop (pt t)) = (pt t + wq (t.drop (pt t))) + 1 by omega, List.take_succ_cons, wq_cons]
      have e1 : pt (t.take (pt t + wq (t.drop (pt t)))) = pt t := by rw [pt_take]; omega
      rw [e1, if_pos hc, List.drop_take, show pt t + wq (t.drop (pt t)) - pt t = wq (t.drop (pt t)) by omega, wq_take f (t.drop (pt t)) (by simp at h ⊢; omega)]
      omega
    · rw [if_neg hc]; rfl
theorem wl_take (s : List UInt8) : wl (s.take (wl s)) = wl s := by
  have e1 : pt (s.take (wl s)) = pt s := by rw [pt_take]; unfold wl; omega
  have e2 := wq_take _ (s.drop (pt s)) (Nat.le_refl _)
  rw [show wl (s.take (wl s)) = pt (s.take (wl s)) + wq ((s.take (wl s)).drop (pt (s.take (wl s)))) from rfl, e1, List.drop_take, show wl s - pt s = wq (s.drop (pt s)) by unfold wl; omega, e2]
  rfl
/-- A number's length. -/
def nl (s : List UInt8) : Nat := match s.drop (rn dg s) with
  | [] => rn dg s
  | c :: t => if c = 46 ∧ rn dg t ≠ 0 then rn dg s + 1 + rn dg t else rn dg s
theorem nl_le (s : List UInt8) : nl s ≤ s.length := by
  unfold nl
  have h := rn_le dg s
  split
  · exact h
  · rename_i c t e
    have h1 := congrArg List.length e
    have h2 := rn_le dg t
    simp at h1
    split <;> omega
theorem nl_sep (b : UInt8) (hb : dg b = false) (hb' : b ≠ 46) (m s : List UInt8) : nl (s ++ b :: m) = nl s := by
  unfold nl
  rw [rn_sep dg b hb m s, List.drop_append_of_le_length (rn_le dg s)]
  cases e : s.drop (rn dg s) with
  | nil => simp [hb']
  | cons c t => simp only [List.cons_append, rn_sep dg b hb m t]
theorem nl_take (s : List UInt8) : nl (s.take (nl s)) = nl s := by
  have hle := rn_le dg s
  cases e : s.drop (rn dg s) with
  | nil =>
    have hn : nl s = rn dg s := by unfold nl; rw [e]
    have h1 : rn dg (s.take (nl s)) = rn dg s := by rw [rn_take]; omega
    have h2 : (s.take (nl s)).drop (rn dg s) = [] := by rw [List.drop_take, e]; simp
    rw [show nl (s.take (nl s)) = (match (s.take (nl s)).drop (rn dg (s.take (nl s))) with | [] => rn dg (s.take (nl s)) | c :: t => if c = 46 ∧ rn dg t ≠ 0 then rn dg (s.take (nl s)) + 1 + rn dg t else rn dg (s.take (nl s))) from rfl, h1, h2, hn]
  | cons c t =>
    by_cases hc : c = 46 ∧ rn dg t ≠ 0
    · have hn : nl s = rn dg s + 1 + rn dg t := by unfold nl; rw [e]; simp [hc]
      have h1 : rn dg (s.take (nl s)) = rn dg s := by rw [rn_take]; omega
      have h2 : (s.take (nl s)).drop (rn dg s) = c :: t.take (rn dg t) := by
        rw [List.drop_take, e, show nl s - rn dg s = rn dg t + 1 by omega]; rfl
      have h3 : rn dg (t.take (rn dg t)) = rn dg t := by rw [rn_take]; omega
      rw [show nl (s.take (nl s)) = (match (s.take (nl s)).drop (rn dg (s.take (nl s))) with | [] => rn dg (s.take (nl s)) | c :: t => if c = 46 ∧ rn dg t ≠ 0 then rn dg (s.take (nl s)) + 1 + rn dg t else rn dg (s.take (nl s))) from rfl, h1, h2]
      simp only [h3, if_pos hc, hn]
    · have hn : nl s = rn dg s := by unfold nl; rw [e]; simp only [if_neg hc]
      have h1 : rn dg (s.take (nl s)) = rn dg s := by rw [rn_take]; omega
      have h2 : (s.take (nl s)).drop (rn dg s) = [] := by rw [List.drop_take, e, show nl s - rn dg s = 0 by omega]; rfl
      rw [show nl (s.take (nl s)) = (match (s.take (nl s)).drop (rn dg (s.take (nl s))) with | [] => rn dg (s.take (nl s)) | c :: t => if c = 46 ∧ rn dg t ≠ 0 then rn dg (s.take (nl s)) + 1 + rn dg t else rn dg (s.take (nl s))) from rfl, h1, h2, hn]
/-- Does it begin with a date? -/
def dtB : List UInt8 → Bool
  | a :: b :: c :: d :: e :: f :: g :: h :: i :: j :: _ => dg a && dg b && dg c && dg d && (e == 45) && dg f && dg g && (h == 45) && dg i && dg j
  | _ => false
/-- With a code? -/
def cdB : List UInt8 → Bool
  | a :: b :: c :: _ => cp a && cp b && cp c
  | _ => false
/-- A mark's length. -/
def mkL : List UInt8 → Nat
  | [] => 0
  | c :: t => if c = 60 ∨ c = 62 then (match t with | [] => 1 | d :: _ => if d = 61 then 2 else 1) else if c = 59 ∨ c = 44 ∨ c = 40 ∨ c = 41 ∨ c = 37 then 1 else 0
theorem mkL_cons (c : UInt8) (t : List UInt8) : mkL (c :: t) = if c = 60 ∨ c = 62 then (match t with | [] => 1 | d :: _ => if d = 61 then 2 else 1) else if c = 59 ∨ c = 44 ∨ c = 40 ∨ c = 41 ∨ c = 37 then 1 else 0 := rfl
/-- The longest token: its kind and its length. -/
def lx : List UInt8 → Nat × Nat
  | [] => (5, 0)
  | c :: t => if sm c then (1, wl (c :: t)) else if cdB (c :: t) then (2, 3) else if dtB (c :: t) then (4, 10) else if dg c then (3, nl (c :: t)) else (5, mkL (c :: t))
theorem lx_cons (c : UInt8) (t : List UInt8) : lx (c :: t) = if sm c then (1, wl (c :: t)) else if cdB (c :: t) then (2, 3) else if dtB (c :: t) then (4, 10) else if dg c then (3, nl (c :: t)) else (5, mkL (c :: t)) := rfl
/-- A byte that belongs to no token. -/
structure Dead (b : UInt8) : Prop where
  ip : ip b = false
  dg : dg b = false
  cp : cp b = false
  pt : b ≠ 46
  hy : (b == 45) = false
  eq : b ≠ 61
theorem dead32 : Dead 32 := ⟨rfl, rfl, rfl, by decide, rfl, by decide⟩
theorem dead10 : Dead 10 := ⟨rfl, rfl, rfl, by decide, rfl, by decide⟩
theorem cdB_sep {b : UInt8} (hb : Dead b) (m : List UInt8) : ∀ s, cdB (s ++ b :: m) = cdB s
  | [] => by rcases m with _ | ⟨x, _ | ⟨y, m⟩⟩ <;> simp [cdB, hb.cp]
  | [x] => by rcases m with _ | ⟨y, m⟩ <;> simp [cdB, hb.cp]
  | [x, y] => by simp [cdB, hb.cp]
  | x :: y :: z :: s => by simp [cdB]
theorem dtB_len : ∀ s : List UInt8, dtB s = true → 10 ≤ s.length := by
  intro s h
  unfold dtB at h
  split at h
  · simp
  · cases h
def dtAt (s : List UInt8) : Prop := 10 ≤ s.length ∧ ∀ i, i < 10 → (if i = 4 ∨ i = 7 then s.getD i 0 = 45 else dg (s.getD i 0) = true)
theorem dtB_iff (s : List UInt8) : dtB s = true ↔ dtAt s := by
  constructor
  · intro h
    refine ⟨dtB_len s h, ?_⟩
    unfold dtB at h
    split at h
    · simp only [Bool.and_eq_true, beq_iff_eq] at h
      obtain ⟨⟨⟨⟨⟨⟨⟨⟨⟨h0, h1⟩, h2⟩, h3⟩, h4⟩, h5⟩, h6⟩, h7⟩, h8⟩, h9⟩ := h
      intro i hi
      rcases i with _ | _ | _ | _ | _ | _ | _ | _ | _ | _ | i <;> simp_all <;> omega
    · cases h
  · rintro ⟨hl, h⟩
    match s, hl with
    | a :: b :: c :: d :: e :: f :: g :: h' :: i :: j :: r, _ =>
      have h0 := h 0 (by omega); have h1 := h 1 (by omega); have h2 := h 2 (by omega); have h3 := h 3 (by omega); have h4 := h 4 (by omega)
      have h5 := h 5 (by omega); have h6 := h 6 (by omega); have h7 := h 7 (by omega); have h8 := h 8 (by omega); have h9 := h 9 (by omega)
      simp at h0 h1 h2 h3 h4 h5 h6 h7 h8 h9
      simp [dtB, h0, h1, h2, h3, h4, h5, h6, h7, h8, h9]
theorem dtB_sep {b : UInt8} (hb : Dead b) (m s : List UInt8) : dtB (s ++ b :: m) = dtB s := by
  rw [Bool.eq_iff_iff, dtB_iff, dtB_iff]
  constructor
  · rintro ⟨hl, h⟩
    have h10 : 10 ≤ s.length := by
      rcases Nat.lt_or_ge s.length 10 with hlt | hge
      · have := h s.length hlt
        have e : (s ++ b :: m).getD s.length 0 = b := by simp
        rw [e] at this
        split at this
        · have := hb.hy; simp_all
        · rw [hb.dg] at this; cases this
      · exact hge
    refine ⟨h10, fun i hi => ?_⟩
    have := h i hi
    have e : (s ++ b :: m).getD i 0 = s.getD i 0 := by
      simp only [List.getD_eq_getElem?_getD]
      rw [List.getElem?_append_left (by omega)]
    rwa [e] at this
  · rintro ⟨hl, h⟩
    refine ⟨by simp; omega, fun i hi => ?_⟩
    have e : (s ++ b :: m).getD i 0 = s.getD i 0 := by
      simp only [List.getD_eq_getElem?_getD]
      rw [List.getElem?_append_left (by omega)]
    rw [e]; exact h i hi
theorem mkL_sep {b : UInt8} (hb : Dead b) (m : List UInt8) : ∀ s, s ≠ [] → mkL (s ++ b :: m) = mkL s
  | [], h => absurd rfl h
  | [c], _ => by simp [mkL, hb.eq]
  | c :: d :: t, _ => by simp [mkL]
theorem lx_sep {b : UInt8} (hb : Dead b) (m : List UInt8) : ∀ s, s ≠ [] → lx (s ++ b :: m) = lx s
  | [], h => absurd rfl h
  | c :: t, _ => by
    have h1 := wl_sep b hb.ip hb.pt m (c :: t)
    have h2 := cdB_sep hb m (c :: t)
    have h3 := dtB_sep hb m (c :: t)
    have h4 := nl_sep b hb.dg hb.pt m (c :: t)
    have h5 := mkL_sep hb m (c :: t) (by simp)
    rw [List.cons_append] at h1 h2 h3 h4 h5
    simp only [List.cons_append, lx, h1, h2, h3, h4, h5]
theorem dtB_take (s : List UInt8) : dtB (s.take 10) = dtB s := by
  unfold dtB
  match s with
  | [] => rfl
  | [_] => rfl
  | [_, _] => rfl
  | [_, _, _] => rfl
  | [_, _, _, _] => rfl
  | [_, _, _, _, _] => rfl
  | [_, _, _, _, _, _] => rfl
  | [_, _, _, _, _, _, _] => rfl
  | [_, _, _, _, _, _, _, _] => rfl
  | [_, _, _, _, _, _, _, _, _] => rfl
  | _ :: _ :: _ :: _ :: _ :: _ :: _ :: _ :: _ :: _ :: _ => rfl
theorem nodt {s : List UInt8} (h : rn dg s ≠ 4 ∨ s.drop 4 = [] ∨ ∃ c t, s.drop 4 = c :: t ∧ c ≠ 45) : dtB s = false := by
  cases e : dtB s with
  | false => rfl
  | true =>
    exfalso
    unfold dtB at e
    split at e
    · simp only [Bool.and_eq_true, beq_iff_eq] at e
      obtain ⟨⟨⟨⟨⟨⟨⟨⟨⟨h0, h1⟩, h2⟩, h3⟩, h4⟩, h5⟩, h6⟩, h7⟩, h8⟩, h9⟩ := e
      subst h4
      rcases h with h | h | ⟨c, t, h, hc⟩
      · apply h
        have : dg 45 = false := rfl
        simp [rn, h0, h1, h2, h3, this]
      · simp at h
      · simp at h; exact hc h.1.symm
    · cases e
/-- The longest token alone is cut as that token. -/
theorem lx_take (s : List UInt8) (h : (lx s).2 ≠ 0) : lx (s.take (lx s).2) = lx s := by
  cases s with
  | nil => exact absurd rfl h
  | cons c t =>
    by_cases h1 : sm c = true
    · have e : lx (c :: t) = (1, wl (c :: t)) := by simp [lx, h1]
      rw [e] at h ⊢
      have e2 := wl_take (c :: t)
      cases hn : wl (c :: t) with
      | zero => exact absurd hn h
      | succ n =>
        rw [hn] at e2
        show lx ((c :: t).take (n + 1)) = _
        rw [List.take_succ_cons] at e2 ⊢
        simp [lx, h1, e2]
    · have h1 : sm c = false := by simpa using h1
      by_cases h2 : cdB (c :: t) = true
      · have e : lx (c :: t) = (2, 3) := by simp [lx, h1, h2]
        rw [e]
        match t, h2 with
        | x :: y :: t, h2 =>
          show lx [c, x, y] = _
          have : cdB [c, x, y] = true := by simpa [cdB] using h2
          simp [lx, h1, this]
      · have h2 : cdB (c :: t) = false := by simpa using h2
        by_cases h3 : dtB (c :: t) = true
        · have e : lx (c :: t) = (4, 10) := by simp [lx, h1, h2, h3]
          rw [e]
          have e3 := dtB_take (c :: t)
          rw [h3] at e3
          show lx ((c :: t).take (9 + 1)) = _
          rw [List.take_succ_cons] at e3 ⊢
          have hc : dg c = true := by
            have := (dtB_iff _).1 h3
            have := this.2 0 (by omega)
            simpa using this
          have e4 : cdB (c :: t.take 9) = false := by
            have : cp c = false := by
              simp [dg, cp] at hc ⊢; omega
            rcases t.take 9 with _ | ⟨x, _ | ⟨y, r⟩⟩ <;> simp [cdB, this]
          simp [lx, h1, e4, e3]
        · have h3 : dtB (c :: t) = false := by simpa using h3
          by_cases h4 : dg c = true
          · have e : lx (c :: t) = (3, nl (c :: t)) := by simp [lx, h1, h2, h3, h4]
            rw [e] at h ⊢
            have e2 := nl_take (c :: t)
            have hc : cp c = false := by simp [dg, cp] at h4 ⊢; omega
            cases hn : nl (c :: t) with
            | zero => exact absurd hn h
            | succ n =>
              rw [hn] at e2
              show lx ((c :: t).take (n + 1)) = _
              rw [List.take_succ_cons] at e2 ⊢
              have e4 : cdB (c :: t.take n) = false := by
                rcases t.take n with _ | ⟨x, _ | ⟨y, r⟩⟩ <;> simp [cdB, hc]
              have e3 : dtB (c :: t.take n) = false := by
                cases e5 : dtB (c :: t.take n) with
                | false => rfl
                | true =>
                  have := (dtB_iff _).1 e5
                  rw [← h3, eq_comm, dtB_iff]
                  obtain ⟨hl, hh⟩ := this
                  simp at hl
                  refine ⟨by simp; omega, fun i hi => ?_⟩
                  have hi2 := hh i hi
                  have eg : (c :: t.take n).getD i 0 = (c :: t).getD i 0 := by
                    rw [← List.take_succ_cons]
                    simp only [List.getD_eq_getElem?_getD]
                    rw [List.getElem?_take_of_lt (by omega)]
                  rwa [eg] at hi2
              simp [lx, h1, e4, e3, h4, e2]
          · have h4 : dg c = false := by simpa using h4
            have e : lx (c :: t) = (5, mkL (c :: t)) := by simp [lx, h1, h2, h3, h4]
            rw [e] at h ⊢
            have hk : mkL (c :: t) = 1 ∨ mkL (c :: t) = 2 ∧ ∃ r, t = 61 :: r ∧ (c = 60 ∨ c = 62) := by
              have h : mkL (c :: t) ≠ 0 := h
              rw [mkL_cons] at h ⊢
              split
              · rename_i hc
                match t with
                | [] => exact .inl rfl
                | d :: r =>
                  by_cases hd : d = 61
                  · right; subst hd; exact ⟨by simp, r, rfl, hc⟩
                  · left; simp [hd]
              · rename_i hc
                split
                · exact .inl rfl
                · rename_i hc2; simp only [if_neg hc, if_neg hc2] at h; exact absurd rfl h
            have hcp : cp c = false → cdB (c :: ([] : List UInt8)) = false ∧ cdB [c, 61] = false := fun _ => ⟨rfl, rfl⟩
            rcases hk with hk | ⟨hk, r, rfl, hc⟩
            · show lx ((c :: t).take (mkL (c :: t))) = (5, mkL (c :: t))
              rw [hk]
              have : mkL [c] = 1 := by
                rw [mkL_cons] at hk ⊢
                by_cases hc : c = 60 ∨ c = 62
                · simp [hc]
                · simp only [if_neg hc] at hk ⊢; exact hk
              simp [lx, h1, cdB, dtB, h4, this]
            · show lx ((c :: 61 :: r).take (mkL (c :: 61 :: r))) = (5, mkL (c :: 61 :: r))
              rw [hk]
              have : mkL [c, 61] = 2 := by simp [mkL, hc]
              simp [lx, h1, cdB, dtB, h4, this]
theorem lx_le (s : List UInt8) : (lx s).2 ≤ s.length := by
  cases s with
  | nil => exact Nat.le_refl _
  | cons c t =>
    rw [lx_cons]
    split
    · exact wl_le _
    · split
      · rename_i h
        match t, h with
        | x :: y :: t, _ => simp
      · split
        · rename_i h; exact dtB_len _ h
        · split
          · exact nl_le _
          · show mkL (c :: t) ≤ _
            rw [mkL_cons]
            split
            · split
              · simp
              · split <;> simp
            · split <;> simp
/-- May this not stand right behind a token? -/
def gs : List UInt8 → Bool
  | [] => false
  | c :: _ => cp c || ip c || c == 46
theorem gs_dead {b : UInt8} (hb : Dead b) (m : List UInt8) : gs (b :: m) = false := by
  have h2 : (b == 46) = false := by simpa using hb.pt
  simp [gs, hb.cp, hb.ip, h2]
/-- A token: kind, text, line, byte. -/
structure Tk where
  kd : Nat
  tx : List UInt8
  ln : Nat
  co : Nat
inductive Cr
  | ok (ts : List Tk)
  | no (l c : Nat)
def Cr.pre (a : List Tk) : Cr → Cr
  | .ok ts => .ok (a ++ ts)
  | .no l c => .no l c
theorem Cr.pre_pre (a b : List Tk) (r : Cr) : Cr.pre a (Cr.pre b r) = Cr.pre (a ++ b) r := by cases r <;> simp [Cr.pre]
theorem Cr.pre_nil (r : Cr) : Cr.pre [] r = r := by cases r <;> simp [Cr.pre]
def rm (s : List UInt8) : Nat := rn (fun c => c != 10) s
/-- Is the token refused? -/
def bad (s : List UInt8) : Bool := (lx s).2 == 0 || ((lx s).1 != 5 && gs (s.drop (lx s).2))
def ct : Nat → List UInt8 → Nat → Nat → Cr
  | 0, _, l, c => .ok [⟨0, [], l, c⟩]
  | _ + 1, [], l, c => .ok [⟨0, [], l, c⟩]
  | f + 1, b :: t, l, c =>
    if b = 10 then ct f t (l + 1) 1
    else if b = 32 ∨ b = 9 ∨ b = 13 then ct f t l (c + 1)
    else if b = 35 then ct f (t.drop (rm t)) l (c + 1 + rm t)
    else if bad (b :: t) = true then .no l c
    else Cr.pre [⟨(lx (b :: t)).1, (b :: t).take (lx (b :: t)).2, l, c⟩] (ct f ((b :: t).drop (lx (b :: t)).2) l (c + (lx (b :: t)).2))
theorem bad_pos {s : List UInt8} (h : bad s ≠ true) : 0 < (lx s).2 := by
  rcases Nat.eq_zero_or_pos (lx s).2 with h0 | h0
  · exfalso; apply h; simp [bad, h0]
  · exact h0
theorem ct_fuel : ∀ (f g : Nat) (s : List UInt8) (l c : Nat), s.length ≤ f → s.length ≤ g → ct f s l c = ct g s l c
  | 0, 0, s, _, _, _, _ => rfl
  | 0, g + 1, [], _, _, _, _ => rfl
  | f + 1, 0, [], _, _, _, _ => rfl
  | f + 1, g + 1, [], _, _, _, _ => rfl
  | f + 1, g + 1, b :: t, l, c, hf, hg => by
    simp only [List.length_cons] at hf hg
    unfold ct
    split
    · exact ct_fuel f g t _ _ (by omega) (by omega)
    · split
      · exact ct_fuel f g t _ _ (by omega) (by omega)
      · split
        · exact ct_fuel f g _ _ _ (by simp; omega) (by simp; omega)
        · split
          · rfl
          · rename_i h4
            have := bad_pos h4
            rw [ct_fuel f g _ _ _ (by simp; omega) (by simp; omega)]
def cu (s : List UInt8) (l c : Nat) : Cr := ct s.length s l c
theorem cu_nil (l c : Nat) : cu [] l c = .ok [⟨0, [], l, c⟩] := rfl
theorem cu_cons (b : UInt8) (t : List UInt8) (l c : Nat) : cu (b :: t) l c =
    if b = 10 then cu t (l + 1) 1
    else if b = 32 ∨ b = 9 ∨ b = 13 then cu t l (c + 1)
    else if b = 35 then cu (t.drop (rm t)) l (c + 1 + rm t)
    else if bad (b :: t) = true then .no l c
    else Cr.pre [⟨(lx (b :: t)).1, (b :: t).take (lx (b :: t)).2, l, c⟩] (cu ((b :: t).drop (lx (b :: t)).2) l (c + (lx (b :: t)).2)) := by
  show ct (t.length + 1) (b :: t) l c = _
  unfold cu
  rw [ct]
  by_cases h1 : b = 10
  · rw [if_pos h1, if_pos h1]
  · rw [if_neg h1, if_neg h1]
    by_cases h2 : b = 32 ∨ b = 9 ∨ b = 13
    · rw [if_pos h2, if_pos h2]
    · rw [if_neg h2, if_neg h2]
      by_cases h3 : b = 35
      · rw [if_pos h3, if_pos h3]
        exact ct_fuel _ _ _ _ _ (by simp) (Nat.le_refl _)
      · rw [if_neg h3, if_neg h3]
        by_cases h4 : bad (b :: t) = true
        · rw [if_pos h4, if_pos h4]
        · rw [if_neg h4, if_neg h4]
          have := bad_pos h4
          rw [ct_fuel _ _ _ _ _ (by simp; omega) (Nat.le_refl _)]
end Go.Proofs.YtblafbbnplfpjaaGreatDoor
