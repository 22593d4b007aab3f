/-
  Conditions as numbers and lists: nodes, forests of nodes in their order, what may be, what holds, what is plain.
-/
import Derived.WalkKit
import Derived.Test.YtmjfkciaohbkoaaDoorBsA
import Derived.Below
import Derived.BigQuiet
import Derived.Deep.QuietTactic
import Derived.Deep.DeepCutAuto
import Derived.Deep.CutBlock
import Derived.Deep.OwnRows
import Derived.Laws.CopyOwn
import Derived.WalkSmall
namespace Go.Proofs.YtmjfkciaohbkoaaDoor
set_option linter.unusedVariables false

/-- A node of a condition. -/
structure Nd where
  kd : Int
  ks : Int
  nm : List UInt8
  op : Int
  un : Int
  pl : Int
deriving DecidableEq
def nd0 : Nd := ⟨0, 0, [], 0, 0, 0⟩
def ndN : Nd := ⟨3, 1, [], 0, 0, 0⟩
/-- Trees one behind the other: the first one's node, what is below it, the others. -/
inductive Fo where
  | nil : Fo
  | cons : Nd → Fo → Fo → Fo
def Fo.flat : Fo → List Nd
  | .nil => []
  | .cons n k r => n :: (k.flat ++ r.flat)
def Fo.len : Fo → Nat
  | .nil => 0
  | .cons _ _ r => r.len + 1
def Fo.app : Fo → Fo → Fo
  | .nil, b => b
  | .cons n k r, b => .cons n k (r.app b)
theorem Fo.app_nil : ∀ a : Fo, a.app .nil = a
  | .nil => rfl
  | .cons n k r => by simp only [Fo.app, Fo.app_nil r]
theorem Fo.flat_app : ∀ a b : Fo, (a.app b).flat = a.flat ++ b.flat
  | .nil, b => rfl
  | .cons n k r, b => by simp only [Fo.app, Fo.flat, Fo.flat_app r b, List.cons_append, List.append_assoc]
theorem Fo.len_app : ∀ a b : Fo, (a.app b).len = a.len + b.len
  | .nil, b => by simp [Fo.app, Fo.len]
  | .cons n k r, b => by simp only [Fo.app, Fo.len, Fo.len_app r b]; omega
theorem Fo.len_flat : ∀ a : Fo, a.len ≤ a.flat.length
  | .nil => by simp [Fo.len, Fo.flat]
  | .cons n k r => by have := Fo.len_flat r; simp only [Fo.len, Fo.flat, List.length_cons, List.length_append]; omega
theorem Fo.nil_of_len {a : Fo} (h : a.len = 0) : a = .nil := by
  cases a with
  | nil => rfl
  | cons n k r => simp [Fo.len] at h
/-- A decimal that may be. -/
def CanD (U P : Int) : Prop := 0 ≤ P ∧ P ≤ 9 ∧ (0 < P → U.tmod 10 ≠ 0)
/-- A node that may be, its kids aside. -/
def NdOk (W : List UInt8 → Bool) (n : Nd) : Prop :=
  ((n.kd = 1 ∨ n.kd = 2) ∧ 2 ≤ n.ks ∧ n.nm = [] ∧ n.op = 0 ∧ n.un = 0 ∧ n.pl = 0) ∨
  (n.kd = 3 ∧ n.ks = 1 ∧ n.nm = [] ∧ n.op = 0 ∧ n.un = 0 ∧ n.pl = 0) ∨
  ((n.kd = 4 ∨ n.kd = 5) ∧ n.ks = 0 ∧ W n.nm = true ∧ n.op = 0 ∧ n.un = 0 ∧ n.pl = 0) ∨
  ((n.kd = 6 ∨ n.kd = 7) ∧ n.ks = 0 ∧ n.nm = [] ∧ 1 ≤ n.op ∧ n.op ≤ 4 ∧ 0 ≤ n.un ∧ CanD n.un n.pl)
/-- Trees that may be under a node of the kind o, so deep. -/
def Fo.Ok (W : List UInt8 → Bool) : Fo → Int → Nat → Prop
  | .nil, _, _ => True
  | .cons n k r, o, d => (NdOk W n ∧ ¬ (n.kd = o ∧ n.kd ≠ 3) ∧ d ≤ 16 ∧ n.ks = (k.len : Int) ∧ k.Ok W n.kd (d + 1)) ∧ r.Ok W o d
def Cond (W : List UInt8 → Bool) (l : List Nd) : Prop := l = [] ∨ (l.length ≤ 64 ∧ ∃ n k, l = (Fo.cons n k .nil).flat ∧ (Fo.cons n k .nil).Ok W 0 1)

variable {W : List UInt8 → Bool}
theorem flat_inj : ∀ (a b : Fo) (o o' : Int) (d d' : Nat) (x y : List Nd), a.Ok W o d → b.Ok W o' d' → a.len = b.len → a.flat ++ x = b.flat ++ y → a = b ∧ x = y
  | .nil, b, _, _, _, _, x, y, _, _, hl, h => by
    have e := Fo.nil_of_len (a := b) (by simpa [Fo.len] using hl.symm)
    subst e; exact ⟨rfl, by simpa [Fo.flat] using h⟩
  | .cons n k r, .nil, _, _, _, _, x, y, _, _, hl, h => by simp [Fo.len] at hl
  | .cons n k r, .cons m j q, o, o', d, d', x, y, ha, hb, hl, h => by
    simp only [Fo.flat, List.cons_append, List.cons.injEq, List.append_assoc] at h
    obtain ⟨rfl, h⟩ := h
    obtain ⟨⟨-, -, -, hk, ok⟩, or⟩ := ha
    obtain ⟨⟨-, -, -, hj, oj⟩, oq⟩ := hb
    obtain ⟨rfl, h2⟩ := flat_inj k j _ _ _ _ _ _ ok oj (by omega) h
    obtain ⟨rfl, h3⟩ := flat_inj r q _ _ _ _ _ _ or oq (by simp [Fo.len] at hl; exact hl) h2
    exact ⟨rfl, h3⟩
theorem Fo.Ok.app : ∀ {a b : Fo} {o : Int} {d : Nat}, a.Ok W o d → b.Ok W o d → (a.app b).Ok W o d
  | .nil, b, o, d, _, hb => hb
  | .cons n k r, b, o, d, ha, hb => ⟨ha.1, Fo.Ok.app ha.2 hb⟩
theorem Fo.Ok.mono : ∀ {a : Fo} {o : Int} {d d' : Nat}, d' ≤ d → a.Ok W o d → a.Ok W o d'
  | .nil, _, _, _, _, _ => trivial
  | .cons n k r, o, d, d', hd, h => ⟨⟨h.1.1, h.1.2.1, by have := h.1.2.2.1; omega, h.1.2.2.2.1, Fo.Ok.mono (by omega) h.1.2.2.2.2⟩, Fo.Ok.mono hd h.2⟩
/-- Trees of the kind c give what is below them. -/
def Fo.melt (c : Int) : Fo → Fo
  | .nil => .nil
  | .cons n k r => if n.kd = c then k.app (r.melt c) else .cons n k (r.melt c)
theorem Fo.melt_app (c : Int) : ∀ a b : Fo, (a.app b).melt c = (a.melt c).app (b.melt c)
  | .nil, b => rfl
  | .cons n k r, b => by
    have assoc : ∀ x y z : Fo, (x.app y).app z = x.app (y.app z) := by
      intro x; induction x with
      | nil => intro y z; rfl
      | cons n k r _ ih => intro y z; simp only [Fo.app, ih]
    simp only [Fo.app, Fo.melt, Fo.melt_app c r b]; split
    · exact (assoc _ _ _).symm
    · rfl
theorem kd_ne_zero {n : Nd} (h : NdOk W n) : n.kd ≠ 0 := by
  rcases h with ⟨h | h, _⟩ | ⟨h, _⟩ | ⟨h | h, _⟩ | ⟨h | h, _⟩ <;> omega
theorem melt_ok (c : Int) (hc : c = 1 ∨ c = 2) : ∀ {a : Fo} {d : Nat}, a.Ok W 0 d → (a.melt c).Ok W c d
  | .nil, _, _ => trivial
  | .cons n k r, d, h => by
    unfold Fo.melt
    have hr := melt_ok c hc h.2
    split
    · rename_i e
      refine Fo.Ok.app ?_ hr
      have := h.1.2.2.2.2
      rw [e] at this
      exact this.mono (by omega)
    · rename_i e
      exact ⟨⟨h.1.1, fun x => e x.1, h.1.2.2.1, h.1.2.2.2⟩, hr⟩
theorem melt_len (c : Int) (hc : c = 1 ∨ c = 2) : ∀ {a : Fo} {o : Int} {d : Nat}, a.Ok W o d → a.len ≤ (a.melt c).len
  | .nil, _, _, _ => by simp [Fo.melt]
  | .cons n k r, o, d, h => by
    have hr := melt_len c hc h.2
    unfold Fo.melt
    split
    · rename_i e
      obtain ⟨⟨hn, -, -, hk, -⟩, -⟩ := h
      rw [Fo.len_app]
      have : 2 ≤ n.ks := by
        rcases hn with ⟨-, h, -⟩ | ⟨h, -⟩ | ⟨h | h, -⟩ | ⟨h | h, -⟩ <;> omega
      simp only [Fo.len]; omega
    · simp only [Fo.len]; omega
/-- A condition made plain, or its Not. -/
def Fo.plain : Fo → Bool → Fo
  | .nil, _ => .nil
  | .cons n k r, neg =>
    (if n.kd = 1 ∨ n.kd = 2 then
      .cons ⟨if neg then 3 - n.kd else n.kd, (((k.plain neg).melt (if neg then 3 - n.kd else n.kd)).len : Nat), [], 0, 0, 0⟩ ((k.plain neg).melt (if neg then 3 - n.kd else n.kd)) .nil
    else if n.kd = 3 then k.plain (!neg)
    else if n.kd = 4 ∨ n.kd = 5 then (if neg then .cons ndN (.cons n .nil .nil) .nil else .cons n .nil .nil)
    else .cons (if neg then { n with op := 5 - n.op } else n) .nil .nil).app (r.plain neg)
theorem len_zero {n : Nd} {k : Fo} (h : n.ks = 0) (hk : n.ks = (k.len : Int)) : k = .nil := Fo.nil_of_len (by omega)
theorem plain_len : ∀ (a : Fo) (neg : Bool) (o : Int) (d : Nat), a.Ok W o d → (a.plain neg).len = a.len
  | .nil, _, _, _, _ => rfl
  | .cons n k r, neg, o, d, h => by
    have hr := plain_len r neg o d h.2
    obtain ⟨⟨hn, -, -, hk, ok⟩, -⟩ := h
    unfold Fo.plain
    rw [Fo.len_app, hr]
    simp only [Fo.len]
    split
    · simp [Fo.len]; omega
    split
    · rename_i e
      rw [plain_len k (!neg) _ _ ok]
      have : n.ks = 1 := by rcases hn with ⟨h | h, -⟩ | ⟨-, h, -⟩ | ⟨h | h, -⟩ | ⟨h | h, -⟩ <;> omega
      omega
    split
    · split <;> simp [Fo.len] <;> omega
    · simp [Fo.len]; omega
theorem plain_ok : ∀ (a : Fo) (neg : Bool) (o : Int) (d : Nat), a.Ok W o (d + neg.toNat) → (a.plain neg).Ok W 0 d
  | .nil, _, _, _, _ => trivial
  | .cons n k r, neg, o, d, h => by
    have hr := plain_ok r neg o d h.2
    obtain ⟨⟨hn, -, hd, hk, ok⟩, -⟩ := h
    unfold Fo.plain
    refine Fo.Ok.app ?_ hr
    split
    · rename_i e
      have hc : (if neg = true then 3 - n.kd else n.kd) = 1 ∨ (if neg = true then 3 - n.kd else n.kd) = 2 := by split <;> omega
      generalize (if neg = true then 3 - n.kd else n.kd) = c at hc ⊢
      have h1 : (k.plain neg).Ok W 0 (d + 1) := plain_ok k neg n.kd (d + 1) (by rw [Nat.add_right_comm]; exact ok)
      have h2 := melt_len (W := W) c hc h1
      rw [plain_len k neg _ _ ok] at h2
      have h3 : 2 ≤ n.ks := by rcases hn with ⟨-, h, -⟩ | ⟨h, -⟩ | ⟨h | h, -⟩ | ⟨h | h, -⟩ <;> omega
      refine ⟨⟨.inl ⟨hc, ?_, rfl, rfl, rfl, rfl⟩, ?_, by omega, rfl, melt_ok c hc h1⟩, trivial⟩
      · show (2 : Int) ≤ ((Fo.melt c (k.plain neg)).len : Nat); omega
      · show ¬ (c = 0 ∧ _); omega
    split
    · rename_i e1 e
      cases neg with
      | false => exact plain_ok k true n.kd d (by simpa using ok)
      | true => exact (plain_ok k false n.kd d (ok.mono (by simp; omega)))
    split
    · rename_i e1 e2 e
      have hk0 : n.ks = 0 := by rcases hn with ⟨h | h, -⟩ | ⟨h, -⟩ | ⟨-, h, -⟩ | ⟨h | h, -⟩ <;> omega
      cases neg with
      | false => exact ⟨⟨hn, by have := kd_ne_zero hn; omega, by simpa using hd, by simpa [Fo.len] using hk0, trivial⟩, trivial⟩
      | true =>
        simp at hd
        exact ⟨⟨.inr (.inl ⟨rfl, rfl, rfl, rfl, rfl, rfl⟩), by simp [ndN], by omega, rfl, ⟨⟨hn, by simp only [ndN]; omega, by omega, by simpa [Fo.len] using hk0, trivial⟩, trivial⟩⟩, trivial⟩
    · rename_i e1 e2 e3
      have h6 : (n.kd = 6 ∨ n.kd = 7) ∧ n.ks = 0 ∧ n.nm = [] ∧ 1 ≤ n.op ∧ n.op ≤ 4 ∧ 0 ≤ n.un ∧ CanD n.un n.pl := by
        rcases hn with ⟨h, -⟩ | ⟨h, -⟩ | ⟨h, -⟩ | h
        · exact absurd h e1
        · exact absurd h e2
        · exact absurd h e3
        · exact h
      obtain ⟨h6, hk0, hnm, h1, h4, h0, hcan⟩ := h6
      cases neg with
      | false => simp only [Bool.false_eq_true, if_false]; exact ⟨⟨hn, by have := kd_ne_zero hn; omega, by simpa using hd, by simpa [Fo.len] using hk0, trivial⟩, trivial⟩
      | true => exact ⟨⟨.inr (.inr (.inr ⟨h6, hk0, hnm, by show 1 ≤ 5 - n.op; omega, by show 5 - n.op ≤ 4; omega, h0, hcan⟩)), by show ¬ (n.kd = 0 ∧ _); omega, by simp at hd; omega, by simpa [Fo.len] using hk0, trivial⟩, trivial⟩
/-- Nots above traits alone. -/
def Fo.Pf : Fo → Prop
  | .nil => True
  | .cons n k r => (n.kd = 3 → ∃ m, k = .cons m .nil .nil ∧ (m.kd = 4 ∨ m.kd = 5)) ∧ k.Pf ∧ r.Pf
theorem Fo.Pf.app : ∀ {a b : Fo}, a.Pf → b.Pf → (a.app b).Pf
  | .nil, b, _, hb => hb
  | .cons n k r, b, ha, hb => ⟨ha.1, ha.2.1, Fo.Pf.app ha.2.2 hb⟩
theorem melt_pf (c : Int) : ∀ {a : Fo}, a.Pf → (a.melt c).Pf
  | .nil, _ => trivial
  | .cons n k r, h => by
    unfold Fo.melt
    split
    · exact Fo.Pf.app h.2.1 (melt_pf c h.2.2)
    · exact ⟨h.1, h.2.1, melt_pf c h.2.2⟩
theorem plain_pf : ∀ (a : Fo) (neg : Bool), (a.plain neg).Pf
  | .nil, _ => trivial
  | .cons n k r, neg => by
    unfold Fo.plain
    refine Fo.Pf.app ?_ (plain_pf r neg)
    split
    · refine ⟨fun e => ?_, melt_pf _ (plain_pf k neg), trivial⟩
      exfalso; revert e; show (if neg = true then 3 - n.kd else n.kd) = 3 → False
      split <;> omega
    split
    · exact plain_pf k (!neg)
    split
    · rename_i e
      split
      · exact ⟨fun _ => ⟨n, rfl, e⟩, ⟨fun x => by omega, trivial, trivial⟩, trivial⟩
      · exact ⟨fun x => by omega, trivial, trivial⟩
    · rename_i e1 e2 e3
      refine ⟨fun x => ?_, trivial, trivial⟩
      exfalso; revert x; split <;> exact e2
theorem melt_id (c : Int) (hc : c ≠ 3) : ∀ {a : Fo} {d : Nat}, a.Ok W c d → a.melt c = a
  | .nil, _, _ => rfl
  | .cons n k r, d, h => by
    unfold Fo.melt
    rw [melt_id c hc h.2, if_neg]
    intro e; exact h.1.2.1 ⟨e, by omega⟩
theorem plain_id : ∀ (a : Fo) (o : Int) (d : Nat), a.Ok W o d → a.Pf → a.plain false = a
  | .nil, _, _, _, _ => rfl
  | .cons n k r, o, d, h, p => by
    have hr := plain_id r o d h.2 p.2.2
    obtain ⟨⟨hn, -, -, hk, ok⟩, -⟩ := h
    unfold Fo.plain
    rw [hr]
    split
    · rename_i e
      have hm : (k.plain false).melt n.kd = k := by
        rw [plain_id k _ _ ok p.2.1]
        exact melt_id _ (by omega) ok
      simp only [Bool.false_eq_true, if_false, hm, Fo.app]
      congr 1
      rcases hn with ⟨-, -, h1, h2, h3, h4⟩ | ⟨h, -⟩ | ⟨h | h, -⟩ | ⟨h | h, -⟩
      · cases n; simp only [Nd.mk.injEq] at *; exact ⟨trivial, by omega, h1.symm, h2.symm, h3.symm, h4.symm⟩
      all_goals omega
    split
    · rename_i e
      obtain ⟨m, rfl, hm⟩ := p.1 e
      have hN : n = ndN := by
        rcases hn with ⟨h | h, -⟩ | ⟨h0, h1, h2, h3, h4, h5⟩ | ⟨h | h, -⟩ | ⟨h | h, -⟩
        case inr.inl => cases n; simp only [ndN, Nd.mk.injEq] at *; exact ⟨h0, h1, h2, h3, h4, h5⟩
        all_goals omega
      rw [hN]
      unfold Fo.plain
      rw [if_neg (by omega), if_neg (by omega), if_pos hm]
      rfl
    have hk0 : n.ks = 0 := by rcases hn with ⟨h, -⟩ | ⟨h, -⟩ | ⟨-, h, -⟩ | ⟨-, h, -⟩ <;> first | exact h | exact absurd h (by assumption)
    have hk' := len_zero hk0 hk
    subst hk'
    split
    · rfl
    · rfl
/-- What the nodes hold, one after the other. -/
def Fo.ev (v : Nd → Bool) : Fo → List Bool
  | .nil => []
  | .cons n k r => (if n.kd = 1 then (k.ev v).any id else if n.kd = 2 then (k.ev v).all id else if n.kd = 3 then !((k.ev v).headD false) else v n) :: r.ev v
theorem ev_app (v : Nd → Bool) : ∀ a b : Fo, (a.app b).ev v = a.ev v ++ b.ev v
  | .nil, b => rfl
  | .cons n k r, b => by simp only [Fo.app, Fo.ev, ev_app v r b, List.cons_append]
theorem ev_len (v : Nd → Bool) : ∀ a : Fo, (a.ev v).length = a.len
  | .nil => rfl
  | .cons n k r => by simp only [Fo.ev, Fo.len, List.length_cons, ev_len v r]
theorem melt_any (v : Nd → Bool) : ∀ a : Fo, ((a.melt 1).ev v).any id = (a.ev v).any id
  | .nil => rfl
  | .cons n k r => by
    unfold Fo.melt
    have ih := melt_any v r
    split
    · rename_i e
      rw [ev_app, List.any_append, ih]; simp [Fo.ev, e]
    · simp only [Fo.ev, List.any_cons, ih]
theorem melt_all (v : Nd → Bool) : ∀ a : Fo, ((a.melt 2).ev v).all id = (a.ev v).all id
  | .nil => rfl
  | .cons n k r => by
    unfold Fo.melt
    have ih := melt_all v r
    split
    · rename_i e
      rw [ev_app, List.all_append, ih]; simp [Fo.ev, e]
    · simp only [Fo.ev, List.all_cons, ih]
theorem any_not (l : List Bool) : (l.any (fun b => !b)) = !(l.all id) := by
  induction l with
  | nil => rfl
  | cons b l ih => simp only [List.any_cons, List.all_cons, ih, id]; cases b <;> simp
theorem all_not (l : List Bool) : (l.all (fun b => !b)) = !(l.any id) := by
  induction l with
  | nil => rfl
  | cons b l ih => simp only [List.any_cons, List.all_cons, ih, id]; cases b <;> simp
theorem xor_map (neg : Bool) (l : List Bool) : l.map (fun b => b ^^ neg) = if neg then l.map (fun b => !b) else l := by
  cases neg <;> simp
/-- A Not of an amount's or a quantity's test. -/
def Turns (v : Nd → Bool) : Prop := ∀ n : Nd, (n.kd = 6 ∨ n.kd = 7) → 1 ≤ n.op → n.op ≤ 4 → v { n with op := 5 - n.op } = !v n
theorem plain_ev (v : Nd → Bool) (hv : Turns v) : ∀ (a : Fo) (neg : Bool) (o : Int) (d : Nat), a.Ok W o d → (a.plain neg).ev v = (a.ev v).map (fun b => b ^^ neg)
  | .nil, _, _, _, _ => rfl
  | .cons n k r, neg, o, d, h => by
    have hr := plain_ev v hv r neg o d h.2
    obtain ⟨⟨hn, -, -, hk, ok⟩, -⟩ := h
    unfold Fo.plain
    rw [ev_app, hr]
    show _ = ((if n.kd = 1 then (k.ev v).any id else if n.kd = 2 then (k.ev v).all id else if n.kd = 3 then !((k.ev v).headD false) else v n) ^^ neg) :: (r.ev v).map (fun b => b ^^ neg)
    rw [← List.singleton_append]
    congr 1
    split
    · rename_i e
      have ik := plain_ev v hv k neg _ _ ok
      rw [xor_map] at ik
      rcases e with e | e
      · cases neg with
        | false =>
          simp only [e, Bool.false_eq_true, if_false] at ik ⊢
          simp only [Fo.ev, if_pos, melt_any, ik, Bool.xor_false]
        | true =>
          simp only [e, if_true] at ik ⊢
          simp [Fo.ev, melt_all, ik, all_not]
      · cases neg with
        | false =>
          simp only [e, Bool.false_eq_true, if_false] at ik ⊢
          simp [Fo.ev, melt_all, ik]
        | true =>
          simp only [e, if_true] at ik ⊢
          simp [Fo.ev, melt_any, ik, any_not]
    split
    · rename_i e1 e
      have h1 : n.ks = 1 := by rcases hn with ⟨h | h, -⟩ | ⟨-, h, -⟩ | ⟨h | h, -⟩ | ⟨h | h, -⟩ <;> omega
      rw [plain_ev v hv k (!neg) _ _ ok, if_neg (show ¬ n.kd = 1 by omega), if_neg (show ¬ n.kd = 2 by omega)]
      have hl : (k.ev v).length = 1 := by rw [ev_len]; omega
      match hb : k.ev v, hl with
      | [b], _ => cases neg <;> cases b <;> rfl
    have e1 : ¬ n.kd = 1 := by omega
    have e2 : ¬ n.kd = 2 := by omega
    have e3 : ¬ n.kd = 3 := by assumption
    rw [if_neg e1, if_neg e2]
    split
    · cases neg with
      | false => simp [Fo.ev, e1, e2, e3]
      | true => simp [Fo.ev, ndN, e1, e2, e3]
    · rename_i e4
      have h6 : (n.kd = 6 ∨ n.kd = 7) ∧ 1 ≤ n.op ∧ n.op ≤ 4 := by
        rcases hn with ⟨h, -⟩ | ⟨h, -⟩ | ⟨h, -⟩ | ⟨h, -, -, h1, h2, -⟩
        · omega
        · omega
        · exact absurd h e4
        · exact ⟨h, h1, h2⟩
      cases neg with
      | false => simp [Fo.ev, e1, e2, e3]
      | true => simp [Fo.ev, e1, e2, e3, hv n h6.1 h6.2.1 h6.2.2]
/-- Names of the nodes of one kind, in their order. -/
def nms (c : Int) (l : List Nd) : List (List UInt8) := (l.filter (fun n => decide (n.kd = c))).map (·.nm)
theorem nms_app (c : Int) (a b : List Nd) : nms c (a ++ b) = nms c a ++ nms c b := by simp [nms]
theorem nms_cons (c : Int) (n : Nd) (l : List Nd) : nms c (n :: l) = (if n.kd = c then [n.nm] else []) ++ nms c l := by
  simp only [nms, List.filter_cons]; split <;> rename_i h <;> simp at h <;> simp [h]
theorem melt_nms (c d : Int) (hd : d ≠ c) : ∀ a : Fo, nms c (a.melt d).flat = nms c a.flat
  | .nil => rfl
  | .cons n k r => by
    unfold Fo.melt
    have ih := melt_nms c d hd r
    split
    · rename_i e
      rw [Fo.flat_app, nms_app, ih]
      simp only [Fo.flat, nms_cons, nms_app]
      rw [if_neg (by omega)]; rfl
    · simp only [Fo.flat, nms_cons, nms_app, ih]
theorem plain_nms (c : Int) (hc : c = 4 ∨ c = 5) : ∀ (a : Fo) (neg : Bool) (o : Int) (d : Nat), a.Ok W o d → nms c (a.plain neg).flat = nms c a.flat
  | .nil, _, _, _, _ => rfl
  | .cons n k r, neg, o, d, h => by
    have hr := plain_nms c hc r neg o d h.2
    obtain ⟨⟨hn, -, -, hk, ok⟩, -⟩ := h
    unfold Fo.plain
    rw [Fo.flat_app, nms_app, hr]
    simp only [Fo.flat, nms_cons, nms_app]
    rw [← List.append_assoc]
    congr 1
    split
    · rename_i e
      simp only [Fo.flat, nms_cons, nms_app]
      rw [melt_nms c _ (by split <;> omega), plain_nms c hc k neg _ _ ok, if_neg (by split <;> omega), if_neg (by omega)]
      simp [nms]
    split
    · rename_i e
      rw [plain_nms c hc k _ _ _ ok, if_neg (by omega)]; rfl
    have hk0 : n.ks = 0 := by rcases hn with ⟨h, -⟩ | ⟨h, -⟩ | ⟨-, h, -⟩ | ⟨-, h, -⟩ <;> first | exact h | exact absurd h (by assumption)
    have hk' := len_zero hk0 hk
    subst hk'
    split
    · cases neg
      · simp [Fo.flat, nms_cons]
      · simp only [if_true, Fo.flat, nms_cons, List.append_nil]
        rw [if_neg (show ¬ ndN.kd = c by show ¬ (3 : Int) = c; omega)]; rfl
    · cases neg
      · simp [Fo.flat, nms_cons]
      · have hc' : ¬ n.kd = c := by rcases hc with rfl | rfl <;> omega
        simp [Fo.flat, nms_cons, hc']
/-- Is each Not right above a trait? -/
def tr1 : List Nd → Bool
  | [] => false
  | m :: _ => decide (m.kd = 4 ∨ m.kd = 5)
def sgl : List Nd → Bool
  | [] => true
  | n :: l => (decide (n.kd ≠ 3) || tr1 l) && sgl l
theorem sgl_flat : ∀ (a : Fo) (x : List Nd), a.Pf → sgl (a.flat ++ x) = sgl x
  | .nil, x, _ => rfl
  | .cons n k r, x, p => by
    simp only [Fo.flat, List.cons_append, List.append_assoc]
    rw [sgl, sgl_flat k _ p.2.1, sgl_flat r x p.2.2]
    by_cases e : n.kd = 3
    · obtain ⟨m, rfl, hm⟩ := p.1 e
      simp [Fo.flat, tr1, hm]
    · simp [e]
/-- What a condition made plain is: all that is asked of it, at once. -/
theorem plain_all {n : Nd} {k : Fo} (h : (Fo.cons n k .nil).Ok W 0 1) : ∃ m j, (Fo.cons n k .nil).plain false = .cons m j .nil ∧ (Fo.cons m j .nil).Ok W 0 1 ∧ (Fo.cons m j .nil).plain false = .cons m j .nil ∧
    sgl (Fo.cons m j .nil).flat = true ∧ (∀ v, Turns v → (Fo.cons m j .nil).ev v = (Fo.cons n k .nil).ev v) ∧ (∀ c, (c = 4 ∨ c = 5) → nms c (Fo.cons m j .nil).flat = nms c (Fo.cons n k .nil).flat) := by
  have h1 := plain_len _ false _ _ h
  have h2 := plain_ok _ false 0 1 h
  have h3 := plain_pf (Fo.cons n k .nil) false
  have h4 := fun v hv => plain_ev (W := W) v hv _ false _ _ h
  have h5 := fun c hc => plain_nms (W := W) c hc _ false _ _ h
  match e : (Fo.cons n k .nil).plain false, h1 with
  | .cons m j .nil, _ =>
    rw [e] at h2 h3 h4 h5
    refine ⟨m, j, rfl, h2, plain_id _ _ _ h2 h3, ?_, fun v hv => by rw [h4 v hv]; simp, h5⟩
    have := sgl_flat _ [] h3
    simpa [sgl] using this
end Go.Proofs.YtmjfkciaohbkoaaDoor
namespace Go.Proofs.YtmjfkciaohbkoaaDoor
set_option linter.unusedVariables false
variable {W : List UInt8 → Bool}

theorem Fo.app_assoc : ∀ a b c : Fo, (a.app b).app c = a.app (b.app c)
  | .nil, b, c => rfl
  | .cons n k r, b, c => by simp only [Fo.app, Fo.app_assoc r b c]
theorem Fo.split : ∀ (a : Fo) (j : Nat), j ≤ a.len → ∃ x y : Fo, a = x.app y ∧ x.len = j
  | a, 0, _ => ⟨.nil, a, rfl, rfl⟩
  | .nil, j + 1, h => by simp [Fo.len] at h
  | .cons n k r, j + 1, h => by
    obtain ⟨x, y, rfl, hx⟩ := Fo.split r j (by simp [Fo.len] at h; omega)
    exact ⟨.cons n k x, y, rfl, by simp [Fo.len, hx]⟩
theorem Fo.Ok.left : ∀ {a b : Fo} {o : Int} {d : Nat}, (a.app b).Ok W o d → a.Ok W o d
  | .nil, _, _, _, _ => trivial
  | .cons n k r, b, o, d, h => ⟨h.1, Fo.Ok.left h.2⟩
theorem Fo.Ok.right : ∀ {a b : Fo} {o : Int} {d : Nat}, (a.app b).Ok W o d → b.Ok W o d
  | .nil, _, _, _, h => h
  | .cons n k r, b, o, d, h => Fo.Ok.right h.2
/-- No tree that may be there stands at the head of these nodes. -/
def NoTree (W : List UInt8 → Bool) (l : List Nd) (o : Int) (d : Nat) : Prop := ∀ n k r, l = (Fo.cons n k .nil).flat ++ r → ¬ (Fo.cons n k .nil).Ok W o d
theorem no_end (o : Int) (d : Nat) : NoTree W [] o d := by
  intro n k r h; simp [Fo.flat] at h
theorem no_deep (l : List Nd) (o : Int) (d : Nat) (hd : 16 < d) : NoTree W l o d := by
  intro n k r h ok; have := ok.1.2.2.1; omega
theorem no_node (n : Nd) (l : List Nd) (o : Int) (d : Nat) (hn : ¬ (NdOk W n ∧ ¬ (n.kd = o ∧ n.kd ≠ 3))) : NoTree W (n :: l) o d := by
  intro m k r h ok
  simp only [Fo.flat, List.cons_append, List.cons.injEq] at h
  obtain ⟨rfl, -⟩ := h
  exact hn ⟨ok.1.1, ok.1.2.1⟩
theorem no_kid {n : Nd} {l rest : List Nd} {o : Int} {d : Nat} {kj : Fo} (hk : kj.Ok W n.kd (d + 1)) (hl : l = kj.flat ++ rest) (hj : (kj.len : Int) < n.ks) (hno : NoTree W rest n.kd (d + 1)) : NoTree W (n :: l) o d := by
  intro m k r h ok
  simp only [Fo.flat, List.cons_append, List.cons.injEq, List.append_assoc, List.nil_append] at h
  obtain ⟨rfl, h⟩ := h
  obtain ⟨⟨-, -, -, hks, okk⟩, -⟩ := ok
  obtain ⟨x, y, rfl, hx⟩ := Fo.split k kj.len (by omega)
  rw [hl, Fo.flat_app, List.append_assoc] at h
  obtain ⟨rfl, h2⟩ := flat_inj kj x _ _ _ _ _ _ hk okk.left hx.symm h
  have oky := okk.right
  rw [Fo.len_app] at hks
  cases y with
  | nil => simp [Fo.len] at hks; omega
  | cons a b c => exact hno a b (c.flat ++ r) (by rw [h2]; simp [Fo.flat]) ⟨oky.1, trivial⟩
/-- What comes of the trees one by one: each made plain. -/
def Fo.fl (neg : Bool) : Fo → List (List Nd)
  | .nil => []
  | .cons n k r => ((Fo.cons n k .nil).plain neg).flat :: r.fl neg
theorem fl_len (neg : Bool) : ∀ a : Fo, (a.fl neg).length = a.len
  | .nil => rfl
  | .cons n k r => by simp only [Fo.fl, Fo.len, List.length_cons, fl_len neg r]
theorem plain_cons (n : Nd) (k r : Fo) (neg : Bool) : (Fo.cons n k r).plain neg = ((Fo.cons n k .nil).plain neg).app (r.plain neg) := by
  conv => lhs; unfold Fo.plain
  conv => rhs; lhs; unfold Fo.plain
  show _ = (Fo.app _ .nil).app _
  rw [Fo.app_nil]
/-- A list of trees put together under one node of the kind c: how many kids, which nodes. -/
def gatN (c : Int) : List (List Nd) → Int
  | [] => 0
  | l :: ls => (if (l.headD nd0).kd = c then (l.headD nd0).ks else 1) + gatN c ls
def gatL (c : Int) : List (List Nd) → List Nd
  | [] => []
  | l :: ls => (if (l.headD nd0).kd = c then l.tail else l) ++ gatL c ls
theorem gatN_app (c : Int) : ∀ a b : List (List Nd), gatN c (a ++ b) = gatN c a + gatN c b
  | [], b => by simp [gatN]
  | l :: ls, b => by simp only [List.cons_append, gatN, gatN_app c ls b]; omega
theorem gatL_app (c : Int) : ∀ a b : List (List Nd), gatL c (a ++ b) = gatL c a ++ gatL c b
  | [], b => rfl
  | l :: ls, b => by simp only [List.cons_append, gatL, gatL_app c ls b, List.append_assoc]
theorem gat_plain (c : Int) (neg : Bool) : ∀ (a : Fo) (o : Int) (d : Nat), a.Ok W o (d + neg.toNat) → gatN c (a.fl neg) = (((a.plain neg).melt c).len : Nat) ∧ gatL c (a.fl neg) = ((a.plain neg).melt c).flat
  | .nil, _, _, _ => ⟨rfl, rfl⟩
  | .cons n k r, o, d, h => by
    obtain ⟨i1, i2⟩ := gat_plain c neg r o d h.2
    have h1 : (Fo.cons n k .nil).Ok W o (d + neg.toNat) := ⟨h.1, trivial⟩
    have hl := plain_len _ neg _ _ h1
    have ho := plain_ok _ neg _ _ h1
    rw [plain_cons, Fo.melt_app]
    simp only [Fo.fl, gatN, gatL]
    match e : (Fo.cons n k .nil).plain neg, hl with
    | .cons m j .nil, _ =>
      rw [e] at ho
      have hks := ho.1.2.2.2.1
      rw [i1, i2, Fo.len_app, Fo.flat_app]
      simp only [Fo.flat, List.append_nil, List.headD_cons, List.tail_cons]
      by_cases hm : m.kd = c
      · simp only [hm, if_true, Fo.melt, Fo.app_nil]
        exact ⟨by rw [hks]; omega, trivial⟩
      · simp only [hm, if_false, Fo.melt, Fo.len, Fo.flat, List.append_nil]
        exact ⟨by omega, trivial⟩
/-- The two forms of a node, of the forms of its kids. -/
def frm (n : Nd) (ys ns : List (List Nd)) (neg : Bool) : List Nd :=
  if n.kd = 1 ∨ n.kd = 2 then ⟨if neg then 3 - n.kd else n.kd, gatN (if neg then 3 - n.kd else n.kd) (if neg then ns else ys), [], 0, 0, 0⟩ :: gatL (if neg then 3 - n.kd else n.kd) (if neg then ns else ys)
  else if n.kd = 3 then (if neg then ys else ns).headD []
  else if n.kd = 4 ∨ n.kd = 5 then (if neg then [ndN, n] else [n])
  else [if neg then { n with op := 5 - n.op } else n]
theorem frm_plain (n : Nd) (k : Fo) (neg : Bool) (o : Int) (d : Nat) (h : (Fo.cons n k .nil).Ok W o (d + 1)) : frm n (k.fl false) (k.fl true) neg = ((Fo.cons n k .nil).plain neg).flat := by
  obtain ⟨⟨hn, -, -, hk, ok⟩, -⟩ := h
  unfold frm
  unfold Fo.plain
  rw [show (Fo.nil.plain neg) = .nil from rfl, Fo.app_nil]
  split
  · have hf : (if neg = true then k.fl true else k.fl false) = k.fl neg := by cases neg <;> rfl
    rw [hf]
    obtain ⟨g1, g2⟩ := gat_plain (W := W) (if neg = true then 3 - n.kd else n.kd) neg k n.kd (d + 1) (ok.mono (by cases neg <;> simp))
    rw [g1, g2]; simp [Fo.flat]
  split
  · have h1 : n.ks = 1 := by rcases hn with ⟨h | h, -⟩ | ⟨-, h, -⟩ | ⟨h | h, -⟩ | ⟨h | h, -⟩ <;> omega
    have hf : (if neg = true then k.fl false else k.fl true) = k.fl (!neg) := by cases neg <;> rfl
    rw [hf]
    match k, hk with
    | .cons a b .nil, _ => rfl
    | .nil, hk => simp [Fo.len] at hk; omega
    | .cons a b (.cons _ _ _), hk => simp [Fo.len] at hk; omega
  split
  · cases neg <;> rfl
  · cases neg <;> rfl
theorem melt_size (c : Int) : ∀ a : Fo, (a.melt c).flat.length ≤ a.flat.length
  | .nil => by simp [Fo.melt]
  | .cons n k r => by
    have := melt_size c r
    unfold Fo.melt; split
    · rw [Fo.flat_app]; simp only [Fo.flat, List.length_append, List.length_cons]; omega
    · simp only [Fo.flat, List.length_append, List.length_cons]; omega
theorem plain_size : ∀ (a : Fo) (neg : Bool), (a.plain neg).flat.length ≤ 2 * a.flat.length
  | .nil, _ => by simp [Fo.plain, Fo.flat]
  | .cons n k r, neg => by
    have h1 := plain_size r neg
    have h2 := plain_size k neg
    have h3 := plain_size k (!neg)
    unfold Fo.plain
    rw [Fo.flat_app]
    simp only [Fo.flat, List.length_append, List.length_cons]
    split
    · have h4 := melt_size (if neg = true then 3 - n.kd else n.kd) (k.plain neg)
      simp only [Fo.flat, List.length_cons, List.append_nil]; omega
    split
    · omega
    split
    · split <;> simp [Fo.flat] <;> omega
    · simp [Fo.flat]; omega
theorem fl_ne (neg : Bool) : ∀ (a : Fo) (o : Int) (d : Nat), a.Ok W o d → ∀ l ∈ a.fl neg, l ≠ [] ∧ l.length ≤ 2 * a.flat.length
  | .nil, _, _, _, l, hl => by simp [Fo.fl] at hl
  | .cons n k r, o, d, h, l, hl => by
    simp only [Fo.fl, List.mem_cons] at hl
    rcases hl with rfl | hl
    · have h1 : (Fo.cons n k .nil).Ok W o d := ⟨h.1, trivial⟩
      have h2 := plain_len _ neg _ _ h1
      have h3 := plain_size (Fo.cons n k .nil) neg
      refine ⟨?_, ?_⟩
      · intro e
        have h4 := Fo.len_flat ((Fo.cons n k .nil).plain neg)
        rw [e, h2] at h4; simp [Fo.len] at h4
      · simp only [Fo.flat, List.length_append, List.length_cons, List.append_nil] at h3 ⊢; omega
    · obtain ⟨h1, h2⟩ := fl_ne neg r o d h.2 l hl
      refine ⟨h1, ?_⟩
      simp only [Fo.flat, List.length_append, List.length_cons]; omega
end Go.Proofs.YtmjfkciaohbkoaaDoor
namespace Go.Proofs.YtmjfkciaohbkoaaDoor
open Go.RowKit Go.Shelf

/-- A list of limbs that can be read: of an empty one nothing is known but that. -/
def Sl (w : World) (a : Option Addr) (len : Nat) (zs : List Int) : Prop :=
  zs.length = len ∧ Limbs zs ∧ (0 < len → ∃ b off, a = some ⟨b, off, none⟩ ∧ ∀ i, i < len → w.cell? ⟨b, off + i, none⟩ = some (.int .u64 (zs.getD i 0)))

theorem ret_int {k : IntKind} {a b : Int} (h : a = b) : Ending.returned (.int k a) = .returned (.int k b) := by rw [h]

/-- Limbs as memory holds them. -/
def row (cs : List Int) : List Value := cs.map (Value.int .u64)
theorem addr_add (b off j : Nat) : (⟨b, off, none⟩ : Addr).add j = ⟨b, off + j, none⟩ := by
  unfold Addr.add; split <;> simp_all
theorem row_length (cs : List Int) : (row cs).length = cs.length := by simp [row]
theorem row_getElem? (cs : List Int) (i : Nat) (h : i < cs.length) : (row cs)[i]? = some (.int .u64 (cs.getD i 0)) := by
  simp [row, List.getD_eq_getElem?_getD, List.getElem?_eq_getElem h]
theorem Sl.below {w w' : World} {a : Option Addr} {len : Nat} {zs : List Int} {B : Nat} (h : Sl w a len zs) (b : Below B w w') (hB : w.heap.size ≤ B) : Sl w' a len zs := by
  obtain ⟨h1, h2, h3⟩ := h
  refine ⟨h1, h2, fun h0 => ?_⟩
  obtain ⟨bb, off, rfl, hc⟩ := h3 h0
  refine ⟨bb, off, rfl, fun i hi => ?_⟩
  have hh := hc i hi
  have hlt : bb < w.heap.size := by
    rcases Nat.lt_or_ge bb w.heap.size with h' | h'
    · exact h'
    · simp [World.cell?, Array.getElem?_eq_none h'] at hh
  rw [b.cell (p := ⟨bb, off + i, none⟩) (by show bb < B; omega)]; exact hh
theorem Sl.take {w : World} {a : Option Addr} {len m : Nat} {zs : List Int} (h : Sl w a len zs) (hm : m ≤ len) : Sl w a m (zs.take m) := by
  obtain ⟨h1, h2, h3⟩ := h
  refine ⟨by rw [List.length_take]; omega, h2.take m, fun h0 => ?_⟩
  obtain ⟨b, off, rfl, hc⟩ := h3 (by omega)
  refine ⟨b, off, rfl, fun i hi => ?_⟩
  rw [hc i (by omega), List.getD_eq_getElem?_getD, List.getD_eq_getElem?_getD, List.getElem?_take_of_lt hi]
theorem Sl.drewN {w : World} {a : Option Addr} {len : Nat} {zs : List Int} (h : Sl w a len zs) (n : Nat) : Sl (w.drewN n) a len zs := h

end Go.Proofs.YtmjfkciaohbkoaaDoor
namespace Go.Proofs.YtmjfkciaohbkoaaDoor

/-- -1, 0 or 1. -/
def cmp3 (x y : Int) : Int := if x < y then -1 else if y < x then 1 else 0
theorem cmp3_lt {x y : Int} (h : x < y) : cmp3 x y = -1 := by simp [cmp3, h]
theorem cmp3_gt {x y : Int} (h : y < x) : cmp3 x y = 1 := by unfold cmp3; rw [if_neg (by omega), if_pos h]
theorem cmp3_eq {x y : Int} (h : x = y) : cmp3 x y = 0 := by subst h; simp [cmp3]
theorem cmp3_turn (x y : Int) : cmp3 y x = -cmp3 x y := by
  rcases Int.lt_trichotomy x y with h | h | h
  · rw [cmp3_lt h, cmp3_gt h]; rfl
  · rw [cmp3_eq h, cmp3_eq h.symm]; rfl
  · rw [cmp3_gt h, cmp3_lt h]
theorem cmp3_bd (x y : Int) : -1 ≤ cmp3 x y ∧ cmp3 x y ≤ 1 := by
  rcases Int.lt_trichotomy x y with h | h | h
  · rw [cmp3_lt h]; decide
  · rw [cmp3_eq h]; decide
  · rw [cmp3_gt h]; decide
theorem cmp3_self (x : Int) : cmp3 x x = 0 := cmp3_eq rfl
theorem cmp3_neg_iff (x y : Int) : cmp3 x y < 0 ↔ x < y := by
  rcases Int.lt_trichotomy x y with h | h | h
  · rw [cmp3_lt h]; omega
  · rw [cmp3_eq h]; omega
  · rw [cmp3_gt h]; omega

theorem num_above {a b : List Int} {t : Nat} (h : ∀ j, t ≤ j → a.getD j 0 = b.getD j 0) : ∀ k, num (a.take (t + k)) - num (a.take t) = num (b.take (t + k)) - num (b.take t)
  | 0 => by simp only [Nat.add_zero]; omega
  | k + 1 => by
    have ih := num_above h k
    rw [← Nat.add_assoc, num_take_succ, num_take_succ, h (t + k) (by omega)]; omega
theorem num_above' {a b : List Int} {t : Nat} (h : ∀ j, t ≤ j → a.getD j 0 = b.getD j 0) : num a - num (a.take t) = num b - num (b.take t) := by
  have e := num_above h (a.length + b.length)
  have e1 : a.take (t + (a.length + b.length)) = a := List.take_of_length_le (by omega)
  have e2 : b.take (t + (a.length + b.length)) = b := List.take_of_length_le (by omega)
  rw [e1, e2] at e; exact e
/-- The highest limb in which they differ decides. -/
theorem num_lt_at {a b : List Int} {t : Nat} (ha : Limbs a) (hb : Limbs b) (h : ∀ j, t < j → a.getD j 0 = b.getD j 0) (hlt : a.getD t 0 < b.getD t 0) : num a < num b := by
  have e := num_above' (t := t + 1) (fun j hj => h j (by omega))
  rw [num_take_succ, num_take_succ] at e
  have h1 := num_lt (ha.take t); have h2 := num_nonneg (hb.take t)
  have h3 : num (a.take t) < pw t := by
    refine Int.lt_of_lt_of_le h1 (pw_mono ?_)
    rw [List.length_take]; omega
  have h4 : (a.getD t 0 + 1) * pw t ≤ b.getD t 0 * pw t := Int.mul_le_mul_of_nonneg_right (by omega) (by have := pw_pos t; omega)
  rw [Int.add_mul, Int.one_mul] at h4
  omega
theorem num_lt_len {a b : List Int} (ha : Limbs a) (hb : Limbs b) (h : usedN a < usedN b) : num a < num b := by
  have h1 := num_lt_used ha; have h2 := num_ge_used hb (by omega)
  have := pw_mono (show usedN a ≤ usedN b - 1 by omega); omega
theorem num_eq_of {a b : List Int} (h : ∀ j, a.getD j 0 = b.getD j 0) : num a = num b := by
  have e := num_above' (a := a) (b := b) (t := 0) (fun j _ => h j)
  simp [num] at e; omega
end Go.Proofs.YtmjfkciaohbkoaaDoor

namespace Go.Proofs.YtmjfkciaohbkoaaDoor
open Go.RowKit Go.Shelf

end Go.Proofs.YtmjfkciaohbkoaaDoor
