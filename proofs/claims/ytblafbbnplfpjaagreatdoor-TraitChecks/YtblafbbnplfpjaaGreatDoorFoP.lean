/-
  Conditions as numbers and lists: nodes, forests of nodes in their order, what may be, what holds, what is plain.
-/
import Derived.WalkKit
namespace Go.Proofs.YtblafbbnplfpjaaGreatDoor
set_option linter.unusedVariables false

/-- A node of a condition. -/
structure Nd where
  kd : Int
  ks : Int
  nm : List UInt8
  op : Int
  un : Int
  pl : Int
deriving DecidableEq
def nd0 : Nd := ⟨0, 0, [], 0, 0, 0⟩
def ndN : Nd := ⟨3, 1, [], 0, 0, 0⟩
/-- Trees one behind the other: the first one's node, what is below it, the others. -/
inductive Fo where
  | nil : Fo
  | cons : Nd → Fo → Fo → Fo
def Fo.flat : Fo → List Nd
  | .nil => []
  | .cons n k r => n :: (k.flat ++ r.flat)
def Fo.len : Fo → Nat
  | .nil => 0
  | .cons _ _ r => r.len + 1
def Fo.app : Fo → Fo → Fo
  | .nil, b => b
  | .cons n k r, b => .cons n k (r.app b)
theorem Fo.app_nil : ∀ a : Fo, a.app .nil = a
  | .nil => rfl
  | .cons n k r => by simp only [Fo.app, Fo.app_nil r]
theorem Fo.flat_app : ∀ a b : Fo, (a.app b).flat = a.flat ++ b.flat
  | .nil, b => rfl
  | .cons n k r, b => by simp only [Fo.app, Fo.flat, Fo.flat_app r b, List.cons_append, List.append_assoc]
theorem Fo.len_app : ∀ a b : Fo, (a.app b).len = a.len + b.len
  | .nil, b => by simp [Fo.app, Fo.len]
  | .cons n k r, b => by simp only [Fo.app, Fo.len, Fo.len_app r b]; omega
theorem Fo.len_flat : ∀ a : Fo, a.len ≤ a.flat.length
  | .nil => by simp [Fo.len, Fo.flat]
  | .cons n k r => by have := Fo.len_flat r; simp only [Fo.len, Fo.flat, List.length_cons, List.length_append]; omega
theorem Fo.nil_of_len {a : Fo} (h : a.len = 0) : a = .nil := by
  cases a with
  | nil => rfl
  | cons n k r => simp [Fo.len] at h
/-- A decimal that may be. -/
def CanD (U P : Int) : Prop := 0 ≤ P ∧ P ≤ 9 ∧ (0 < P → U.tmod 10 ≠ 0)
/-- A node that may be, its kids aside. -/
def NdOk (W : List UInt8 → Bool) (n : Nd) : Prop :=
  ((n.kd = 1 ∨ n.kd = 2) ∧ 2 ≤ n.ks ∧ n.nm = [] ∧ n.op = 0 ∧ n.un = 0 ∧ n.pl = 0) ∨
  (n.kd = 3 ∧ n.ks = 1 ∧ n.nm = [] ∧ n.op = 0 ∧ n.un = 0 ∧ n.pl = 0) ∨
  ((n.kd = 4 ∨ n.kd = 5) ∧ n.ks = 0 ∧ W n.nm = true ∧ n.op = 0 ∧ n.un = 0 ∧ n.pl = 0) ∨
  ((n.kd = 6 ∨ n.kd = 7) ∧ n.ks = 0 ∧ n.nm = [] ∧ 1 ≤ n.op ∧ n.op ≤ 4 ∧ 0 ≤ n.un ∧ CanD n.un n.pl)
/-- Trees that may be under a node of the kind o, so deep. -/
def Fo.Ok (W : List UInt8 → Bool) : Fo → Int → Nat → Prop
  | .nil, _, _ => True
  | .cons n k r, o, d => (NdOk W n ∧ ¬ (n.kd = o ∧ n.kd ≠ 3) ∧ d ≤ 16 ∧ n.ks = (k.len : Int) ∧ k.Ok W n.kd (d + 1)) ∧ r.Ok W o d
def Cond (W : List UInt8 → Bool) (l : List Nd) : Prop := l = [] ∨ (l.length ≤ 64 ∧ ∃ n k, l = (Fo.cons n k .nil).flat ∧ (Fo.cons n k .nil).Ok W 0 1)

variable {W : List UInt8 → Bool}
theorem flat_inj : ∀ (a b : Fo) (o o' : Int) (d d' : Nat) (x y : List Nd), a.Ok W o d → b.Ok W o' d' → a.len = b.len → a.flat ++ x = b.flat ++ y → a = b ∧ x = y
  | .nil, b, _, _, _, _, x, y, _, _, hl, h => by
    have e := Fo.nil_of_len (a := b) (by simpa [Fo.len] using hl.symm)
    subst e; exact ⟨rfl, by simpa [Fo.flat] using h⟩
  | .cons n k r, .nil, _, _, _, _, x, y, _, _, hl, h => by simp [Fo.len] at hl
  | .cons n k r, .cons m j q, o, o', d, d', x, y, ha, hb, hl, h => by
    simp only [Fo.flat, List.cons_append, List.cons.injEq, List.append_assoc] at h
    obtain ⟨rfl, h⟩ := h
    obtain ⟨⟨-, -, -, hk, ok⟩, or⟩ := ha
    obtain ⟨⟨-, -, -, hj, oj⟩, oq⟩ := hb
    obtain ⟨rfl, h2⟩ := flat_inj k j _ _ _ _ _ _ ok oj (by omega) h
    obtain ⟨rfl, h3⟩ := flat_inj r q _ _ _ _ _ _ or oq (by simp [Fo.len] at hl; exact hl) h2
    exact ⟨rfl, h3⟩
theorem Fo.Ok.app : ∀ {a b : Fo} {o : Int} {d : Nat}, a.Ok W o d → b.Ok W o d → (a.app b).Ok W o d
  | .nil, b, o, d, _, hb => hb
  | .cons n k r, b, o, d, ha, hb => ⟨ha.1, Fo.Ok.app ha.2 hb⟩
theorem Fo.Ok.mono : ∀ {a : Fo} {o : Int} {d d' : Nat}, d' ≤ d → a.Ok W o d → a.Ok W o d'
  | .nil, _, _, _, _, _ => trivial
  | .cons n k r, o, d, d', hd, h => ⟨⟨h.1.1, h.1.2.1, by have := h.1.2.2.1; omega, h.1.2.2.2.1, Fo.Ok.mono (by omega) h.1.2.2.2.2⟩, Fo.Ok.mono hd h.2⟩
/-- Trees of the kind c give what is below them. -/
def Fo.melt (c : Int) : Fo → Fo
  | .nil => .nil
  | .cons n k r => if n.kd = c then k.app (r.melt c) else .cons n k (r.melt c)
theorem Fo.melt_app (c : Int) : ∀ a b : Fo, (a.app b).melt c = (a.melt c).app (b.melt c)
  | .nil, b => rfl
  | .cons n k r, b => by
    have assoc : ∀ x y z : Fo, (x.app y).app z = x.app (y.app z) := by
      intro x; induction x with
      | nil => intro y z; rfl
      | cons n k r _ ih => intro y z; simp only [Fo.app, ih]
    simp only [Fo.app, Fo.melt, Fo.melt_app c r b]; split
    · exact (assoc _ _ _).symm
    · rfl
theorem kd_ne_zero {n : Nd} (h : NdOk W n) : n.kd ≠ 0 := by
  rcases h with ⟨h | h, _⟩ | ⟨h, _⟩ | ⟨h | h, _⟩ | ⟨h | h, _⟩ <;> omega
theorem melt_ok (c : Int) (hc : c = 1 ∨ c = 2) : ∀ {a : Fo} {d : Nat}, a.Ok W 0 d → (a.melt c).Ok W c d
  | .nil, _, _ => trivial
  | .cons n k r, d, h => by
    unfold Fo.melt
    have hr := melt_ok c hc h.2
    split
    · rename_i e
      refine Fo.Ok.app ?_ hr
      have := h.1.2.2.2.2
      rw [e] at this
      exact this.mono (by omega)
    · rename_i e
      exact ⟨⟨h.1.1, fun x => e x.1, h.1.2.2.1, h.1.2.2.2⟩, hr⟩
theorem melt_len (c : Int) (hc : c = 1 ∨ c = 2) : ∀ {a : Fo} {o : Int} {d : Nat}, a.Ok W o d → a.len ≤ (a.melt c).len
  | .nil, _, _, _ => by simp [Fo.melt]
  | .cons n k r, o, d, h => by
    have hr := melt_len c hc h.2
    unfold Fo.melt
    split
    · rename_i e
      obtain ⟨⟨hn, -, -, hk, -⟩, -⟩ := h
      rw [Fo.len_app]
      have : 2 ≤ n.ks := by
        rcases hn with ⟨-, h, -⟩ | ⟨h, -⟩ | ⟨h | h, -⟩ | ⟨h | h, -⟩ <;> omega
      simp only [Fo.len]; omega
    · simp only [Fo.len]; omega
/-- A condition made plain, or its Not. -/
def Fo.plain : Fo → Bool → Fo
  | .nil, _ => .nil
  | .cons n k r, neg =>
    (if n.kd = 1 ∨ n.kd = 2 then
      .cons ⟨if neg then 3 - n.kd else n.kd, (((k.plain neg).melt (if neg then 3 - n.kd else n.kd)).len : Nat), [], 0, 0, 0⟩ ((k.plain neg).melt (if neg then 3 - n.kd else n.kd)) .nil
    else if n.kd = 3 then k.plain (!neg)
    else if n.kd = 4 ∨ n.kd = 5 then (if neg then .cons ndN (.cons n .nil .nil) .nil else .cons n .nil .nil)
    else .cons (if neg then { n with op := 5 - n.op } else n) .nil .nil).app (r.plain neg)
theorem len_zero {n : Nd} {k : Fo} (h : n.ks = 0) (hk : n.ks = (k.len : Int)) : k = .nil := Fo.nil_of_len (by omega)
theorem plain_len : ∀ (a : Fo) (neg : Bool) (o : Int) (d : Nat), a.Ok W o d → (a.plain neg).len = a.len
  | .nil, _, _, _, _ => rfl
  | .cons n k r, neg, o, d, h => by
    have hr := plain_len r neg o d h.2
    obtain ⟨⟨hn, -, -, hk, ok⟩, -⟩ := h
    unfold Fo.plain
    rw [Fo.len_app, hr]
    simp only [Fo.len]
    split
    · simp [Fo.len]; omega
    split
    · rename_i e
      rw [plain_len k (!neg) _ _ ok]
      have : n.ks = 1 := by rcases hn with ⟨h | h, -⟩ | ⟨-, h, -⟩ | ⟨h | h, -⟩ | ⟨h | h, -⟩ <;> omega
      omega
    split
    · split <;> simp [Fo.len] <;> omega
    · simp [Fo.len]; omega
theorem plain_ok : ∀ (a : Fo) (neg : Bool) (o : Int) (d : Nat), a.Ok W o (d + neg.toNat) → (a.plain neg).Ok W 0 d
  | .nil, _, _, _, _ => trivial
  | .cons n k r, neg, o, d, h => by
    have hr := plain_ok r neg o d h.2
    obtain ⟨⟨hn, -, hd, hk, ok⟩, -⟩ := h
    unfold Fo.plain
    refine Fo.Ok.app ?_ hr
    split
    · rename_i e
      have hc : (if neg = true then 3 - n.kd else n.kd) = 1 ∨ (if neg = true then 3 - n.kd else n.kd) = 2 := by split <;> omega
      generalize (if neg = true then 3 - n.kd else n.kd) = c at hc ⊢
      have h1 : (k.plain neg).Ok W 0 (d + 1) := plain_ok k neg n.kd (d + 1) (by rw [Nat.add_right_comm]; exact ok)
      have h2 := melt_len (W := W) c hc h1
      rw [plain_len k neg _ _ ok] at h2
      have h3 : 2 ≤ n.ks := by rcases hn with ⟨-, h, -⟩ | ⟨h, -⟩ | ⟨h | h, -⟩ | ⟨h | h, -⟩ <;> omega
      refine ⟨⟨.inl ⟨hc, ?_, rfl, rfl, rfl, rfl⟩, ?_, by omega, rfl, melt_ok c hc h1⟩, trivial⟩
      · show (2 : Int) ≤ ((Fo.melt c (k.plain neg)).len : Nat); omega
      · show ¬ (c = 0 ∧ _); omega
    split
    · rename_i e1 e
      cases neg with
      | false => exact plain_ok k true n.kd d (by simpa using ok)
      | true => exact (plain_ok k false n.kd d (ok.mono (by simp; omega)))
    split
    · rename_i e1 e2 e
      have hk0 : n.ks = 0 := by rcases hn with ⟨h | h, -⟩ | ⟨h, -⟩ | ⟨-, h, -⟩ | ⟨h | h, -⟩ <;> omega
      cases neg with
      | false => exact ⟨⟨hn, by have := kd_ne_zero hn; omega, by simpa using hd, by simpa [Fo.len] using hk0, trivial⟩, trivial⟩
      | true =>
        simp at hd
        exact ⟨⟨.inr (.inl ⟨rfl, rfl, rfl, rfl, rfl, rfl⟩), by simp [ndN], by omega, rfl, ⟨⟨hn, by simp only [ndN]; omega, by omega, by simpa [Fo.len] using hk0, trivial⟩, trivial⟩⟩, trivial⟩
    · rename_i e1 e2 e3
      have h6 : (n.kd = 6 ∨ n.kd = 7) ∧ n.ks = 0 ∧ n.nm = [] ∧ 1 ≤ n.op ∧ n.op ≤ 4 ∧ 0 ≤ n.un ∧ CanD n.un n.pl := by
        rcases hn with ⟨h, -⟩ | ⟨h, -⟩ | ⟨h, -⟩ | h
        · exact absurd h e1
        · exact absurd h e2
        · exact absurd h e3
        · exact h
      obtain ⟨h6, hk0, hnm, h1, h4, h0, hcan⟩ := h6
      cases neg with
      | false => simp only [Bool.false_eq_true, if_false]; exact ⟨⟨hn, by have := kd_ne_zero hn; omega, by simpa using hd, by simpa [Fo.len] using hk0, trivial⟩, trivial⟩
      | true => exact ⟨⟨.inr (.inr (.inr ⟨h6, hk0, hnm, by show 1 ≤ 5 - n.op; omega, by show 5 - n.op ≤ 4; omega, h0, hcan⟩)), by show ¬ (n.kd = 0 ∧ _); omega, by simp at hd; omega, by simpa [Fo.len] using hk0, trivial⟩, trivial⟩
/-- Nots above traits alone. -/
def Fo.Pf : Fo → Prop
  | .nil => True
  | .cons n k r => (n.kd = 3 → ∃ m, k = .cons m .nil .nil ∧ (m.kd = 4 ∨ m.kd = 5)) ∧ k.Pf ∧ r.Pf
theorem Fo.Pf.app : ∀ {a b : Fo}, a.Pf → b.Pf → (a.app b).Pf
  | .nil, b, _, hb => hb
  | .cons n k r, b, ha, hb => ⟨ha.1, ha.2.1, Fo.Pf.app ha.2.2 hb⟩
theorem melt_pf (c : Int) : ∀ {a : Fo}, a.Pf → (a.melt c).Pf
  | .nil, _ => trivial
  | .cons n k r, h => by
    unfold Fo.melt
    split
    · exact Fo.Pf.app h.2.1 (melt_pf c h.2.2)
    · exact ⟨h.1, h.2.1, melt_pf c h.2.2⟩
theorem plain_pf : ∀ (a : Fo) (neg : Bool), (a.plain neg).Pf
  | .nil, _ => trivial
  | .cons n k r, neg => by
    unfold Fo.plain
    refine Fo.Pf.app ?_ (plain_pf r neg)
    split
    · refine ⟨fun e => ?_, melt_pf _ (plain_pf k neg), trivial⟩
      exfalso; revert e; show (if neg = true then 3 - n.kd else n.kd) = 3 → False
      split <;> omega
    split
    · exact plain_pf k (!neg)
    split
    · rename_i e
      split
      · exact ⟨fun _ => ⟨n, rfl, e⟩, ⟨fun x => by omega, trivial, trivial⟩, trivial⟩
      · exact ⟨fun x => by omega, trivial, trivial⟩
    · rename_i e1 e2 e3
      refine ⟨fun x => ?_, trivial, trivial⟩
      exfalso; revert x; split <;> exact e2
theorem melt_id (c : Int) (hc : c ≠ 3) : ∀ {a : Fo} {d : Nat}, a.Ok W c d → a.melt c = a
  | .nil, _, _ => rfl
  | .cons n k r, d, h => by
    unfold Fo.melt
    rw [melt_id c hc h.2, if_neg]
    intro e; exact h.1.2.1 ⟨e, by omega⟩
theorem plain_id : ∀ (a : Fo) (o : Int) (d : Nat), a.Ok W o d → a.Pf → a.plain false = a
  | .nil, _, _, _, _ => rfl
  | .cons n k r, o, d, h, p => by
    have hr := plain_id r o d h.2 p.2.2
    obtain ⟨⟨hn, -, -, hk, ok⟩, -⟩ := h
    unfold Fo.plain
    rw [hr]
    split
    · rename_i e
      have hm : (k.plain false).melt n.kd = k := by
        rw [plain_id k _ _ ok p.2.1]
        exact melt_id _ (by omega) ok
      simp only [Bool.false_eq_true, if_false, hm, Fo.app]
      congr 1
      rcases hn with ⟨-, -, h1, h2, h3, h4⟩ | ⟨h, -⟩ | ⟨h | h, -⟩ | ⟨h | h, -⟩
      · cases n; simp only [Nd.mk.injEq] at *; exact ⟨trivial, by omega, h1.symm, h2.symm, h3.symm, h4.symm⟩
      all_goals omega
    split
    · rename_i e
      obtain ⟨m, rfl, hm⟩ := p.1 e
      have hN : n = ndN := by
        rcases hn with ⟨h | h, -⟩ | ⟨h0, h1, h2, h3, h4, h5⟩ | ⟨h | h, -⟩ | ⟨h | h, -⟩
        case inr.inl => cases n; simp only [ndN, Nd.mk.injEq] at *; exact ⟨h0, h1, h2, h3, h4, h5⟩
        all_goals omega
      rw [hN]
      unfold Fo.plain
      rw [if_neg (by omega), if_neg (by omega), if_pos hm]
      rfl
    have hk0 : n.ks = 0 := by rcases hn with ⟨h, -⟩ | ⟨h, -⟩ | ⟨-, h, -⟩ | ⟨-, h, -⟩ <;> first | exact h | exact absurd h (by assumption)
    have hk' := len_zero hk0 hk
    subst hk'
    split
    · rfl
    · rfl
/-- What the nodes hold, one after the other. -/
def Fo.ev (v : Nd → Bool) : Fo → List Bool
  | .nil => []
  | .cons n k r => (if n.kd = 1 then (k.ev v).any id else if n.kd = 2 then (k.ev v).all id else if n.kd = 3 then !((k.ev v).headD false) else v n) :: r.ev v
theorem ev_app (v : Nd → Bool) : ∀ a b : Fo, (a.app b).ev v = a.ev v ++ b.ev v
  | .nil, b => rfl
  | .cons n k r, b => by simp only [Fo.app, Fo.ev, ev_app v r b, List.cons_append]
theorem ev_len (v : Nd → Bool) : ∀ a : Fo, (a.ev v).length = a.len
  | .nil => rfl
  | .cons n k r => by simp only [Fo.ev, Fo.len, List.length_cons, ev_len v r]
theorem melt_any (v : Nd → Bool) : ∀ a : Fo, ((a.melt 1).ev v).any id = (a.ev v).any id
  | .nil => rfl
  | .cons n k r => by
    unfold Fo.melt
    have ih := melt_any v r
    split
    · rename_i e
      rw [ev_app, List.any_append, ih]; simp [Fo.ev, e]
    · simp only [Fo.ev, List.any_cons, ih]
theorem melt_all (v : Nd → Bool) : ∀ a : Fo, ((a.melt 2).ev v).all id = (a.ev v).all id
  | .nil => rfl
  | .cons n k r => by
    unfold Fo.melt
    have ih := melt_all v r
    split
    · rename_i e
      rw [ev_app, List.all_append, ih]; simp [Fo.ev, e]
    · simp only [Fo.ev, List.all_cons, ih]
theorem any_not (l : List Bool) : (l.any (fun b => !b)) = !(l.all id) := by
  induction l with
  | nil => rfl
  | cons b l ih => simp only [List.any_cons, List.all_cons, ih, id]; cases b <;> simp
theorem all_not (l : List Bool) : (l.all (fun b => !b)) = !(l.any id) := by
  induction l with
  | nil => rfl
  | cons b l ih => simp only [List.any_cons, List.all_cons, ih, id]; cases b <;> simp
theorem xor_map (neg : Bool) (l : List Bool) : l.map (fun b => b ^^ neg) = if neg then l.map (fun b => !b) else l := by
  cases neg <;> simp
/-- A Not of an amount's or a quantity's test. -/
def Turns (v : Nd → Bool) : Prop := ∀ n : Nd, (n.kd = 6 ∨ n.kd = 7) → 1 ≤ n.op → n.op ≤ 4 → v { n with op := 5 - n.op } = !v n
theorem plain_ev (v : Nd → Bool) (hv : Turns v) : ∀ (a : Fo) (neg : Bool) (o : Int) (d : Nat), a.Ok W o d → (a.plain neg).ev v = (a.ev v).map (fun b => b ^^ neg)
  | .nil, _, _, _, _ => rfl
  | .cons n k r, neg, o, d, h => by
    have hr := plain_ev v hv r neg o d h.2
    obtain ⟨⟨hn, -, -, hk, ok⟩, -⟩ := h
    unfold Fo.plain
    rw [ev_app, hr]
    show _ = ((if n.kd = 1 then (k.ev v).any id else if n.kd = 2 then (k.ev v).all id else if n.kd = 3 then !((k.ev v).headD false) else v n) ^^ neg) :: (r.ev v).map (fun b => b ^^ neg)
    rw [← List.singleton_append]
    congr 1
    split
    · rename_i e
      have ik := plain_ev v hv k neg _ _ ok
      rw [xor_map] at ik
      rcases e with e | e
      · cases neg with
        | false =>
          simp only [e, Bool.false_eq_true, if_false] at ik ⊢
          simp only [Fo.ev, if_pos, melt_any, ik, Bool.xor_false]
        | true =>
          simp only [e, if_true] at ik ⊢
          simp [Fo.ev, melt_all, ik, all_not]
      · cases neg with
        | false =>
          simp only [e, Bool.false_eq_true, if_false] at ik ⊢
          simp [Fo.ev, melt_all, ik]
        | true =>
          simp only [e, if_true] at ik ⊢
          simp [Fo.ev, melt_any, ik, any_not]
    split
    · rename_i e1 e
      have h1 : n.ks = 1 := by rcases hn with ⟨h | h, -⟩ | ⟨-, h, -⟩ | ⟨h | h, -⟩ | ⟨h | h, -⟩ <;> omega
      rw [plain_ev v hv k (!neg) _ _ ok, if_neg (show ¬ n.kd = 1 by omega), if_neg (show ¬ n.kd = 2 by omega)]
      have hl : (k.ev v).length = 1 := by rw [ev_len]; omega
      match hb : k.ev v, hl with
      | [b], _ => cases neg <;> cases b <;> rfl
    have e1 : ¬ n.kd = 1 := by omega
    have e2 : ¬ n.kd = 2 := by omega
    have e3 : ¬ n.kd = 3 := by assumption
    rw [if_neg e1, if_neg e2]
    split
    · cases neg with
      | false => simp [Fo.ev, e1, e2, e3]
      | true => simp [Fo.ev, ndN, e1, e2, e3]
    · rename_i e4
      have h6 : (n.kd = 6 ∨ n.kd = 7) ∧ 1 ≤ n.op ∧ n.op ≤ 4 := by
        rcases hn with ⟨h, -⟩ | ⟨h, -⟩ | ⟨h, -⟩ | ⟨h, -, -, h1, h2, -⟩
        · omega
        · omega
        · exact absurd h e4
        · exact ⟨h, h1, h2⟩
      cases neg with
      | false => simp [Fo.ev, e1, e2, e3]
      | true => simp [Fo.ev, e1, e2, e3, hv n h6.1 h6.2.1 h6.2.2]
/-- Names of the nodes of one kind, in their order. -/
def nms (c : Int) (l : List Nd) : List (List UInt8) := (l.filter (fun n => decide (n.kd = c))).map (·.nm)
theorem nms_app (c : Int) (a b : List Nd) : nms c (a ++ b) = nms c a ++ nms c b := by simp [nms]
theorem nms_cons (c : Int) (n : Nd) (l : List Nd) : nms c (n :: l) = (if n.kd = c then [n.nm] else []) ++ nms c l := by
  simp only [nms, List.filter_cons]; split <;> rename_i h <;> simp at h <;> simp [h]
theorem melt_nms (c d : Int) (hd : d ≠ c) : ∀ a : Fo, nms c (a.melt d).flat = nms c a.flat
  | .nil => rfl
  | .cons n k r => by
    unfold Fo.melt
    have ih := melt_nms c d hd r
    split
    · rename_i e
      rw [Fo.flat_app, nms_app, ih]
      simp only [Fo.flat, nms_cons, nms_app]
      rw [if_neg (by omega)]; rfl
    · simp only [Fo.flat, nms_cons, nms_app, ih]
theorem plain_nms (c : Int) (hc : c = 4 ∨ c = 5) : ∀ (a : Fo) (neg : Bool) (o : Int) (d : Nat), a.Ok W o d → nms c (a.plain neg).flat = nms c a.flat
  | .nil, _, _, _, _ => rfl
  | .cons n k r, neg, o, d, h => by
    have hr := plain_nms c hc r neg o d h.2
    obtain ⟨⟨hn, -, -, hk, ok⟩, -⟩ := h
    unfold Fo.plain
    rw [Fo.flat_app, nms_app, hr]
    simp only [Fo.flat, nms_cons, nms_app]
    rw [← List.append_assoc]
    congr 1
    split
    · rename_i e
      simp only [Fo.flat, nms_cons, nms_app]
      rw [melt_nms c _ (by split <;> omega), plain_nms c hc k neg _ _ ok, if_neg (by split <;> omega), if_neg (by omega)]
      simp [nms]
    split
    · rename_i e
      rw [plain_nms c hc k _ _ _ ok, if_neg (by omega)]; rfl
    have hk0 : n.ks = 0 := by rcases hn with ⟨h, -⟩ | ⟨h, -⟩ | ⟨-, h, -⟩ | ⟨-, h, -⟩ <;> first | exact h | exact absurd h (by assumption)
    have hk' := len_zero hk0 hk
    subst hk'
    split
    · cases neg
      · simp [Fo.flat, nms_cons]
      · simp only [if_true, Fo.flat, nms_cons, List.append_nil]
        rw [if_neg (show ¬ ndN.kd = c by show ¬ (3 : Int) = c; omega)]; rfl
    · cases neg
      · simp [Fo.flat, nms_cons]
      · have hc' : ¬ n.kd = c := by rcases hc with rfl | rfl <;> omega
        simp [Fo.flat, nms_cons, hc']
/-- Is each Not right above a trait? -/
def tr1 : List Nd → Bool
  | [] => false
  | m :: _ => decide (m.kd = 4 ∨ m.kd = 5)
def sgl : List Nd → Bool
  | [] => true
  | n :: l => (decide (n.kd ≠ 3) || tr1 l) && sgl l
theorem sgl_flat : ∀ (a : Fo) (x : List Nd), a.Pf → sgl (a.flat ++ x) = sgl x
  | .nil, x, _ => rfl
  | .cons n k r, x, p => by
    simp only [Fo.flat, List.cons_append, List.append_assoc]
    rw [sgl, sgl_flat k _ p.2.1, sgl_flat r x p.2.2]
    by_cases e : n.kd = 3
    · obtain ⟨m, rfl, hm⟩ := p.1 e
      simp [Fo.flat, tr1, hm]
    · simp [e]
/-- What a condition made plain is: all that is asked of it, at once. -/
theorem plain_all {n : Nd} {k : Fo} (h : (Fo.cons n k .nil).Ok W 0 1) : ∃ m j, (Fo.cons n k .nil).plain false = .cons m j .nil ∧ (Fo.cons m j .nil).Ok W 0 1 ∧ (Fo.cons m j .nil).plain false = .cons m j .nil ∧
    sgl (Fo.cons m j .nil).flat = true ∧ (∀ v, Turns v → (Fo.cons m j .nil).ev v = (Fo.cons n k .nil).ev v) ∧ (∀ c, (c = 4 ∨ c = 5) → nms c (Fo.cons m j .nil).flat = nms c (Fo.cons n k .nil).flat) := by
  have h1 := plain_len _ false _ _ h
  have h2 := plain_ok _ false 0 1 h
  have h3 := plain_pf (Fo.cons n k .nil) false
  have h4 := fun v hv => plain_ev (W := W) v hv _ false _ _ h
  have h5 := fun c hc => plain_nms (W := W) c hc _ false _ _ h
  match e : (Fo.cons n k .nil).plain false, h1 with
  | .cons m j .nil, _ =>
    rw [e] at h2 h3 h4 h5
    refine ⟨m, j, rfl, h2, plain_id _ _ _ h2 h3, ?_, fun v hv => by rw [h4 v hv]; simp, h5⟩
    have := sgl_flat _ [] h3
    simpa [sgl] using this
end Go.Proofs.YtblafbbnplfpjaaGreatDoor
