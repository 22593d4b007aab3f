/-
  Conditions as numbers and lists: nodes, forests of nodes in their order, what may be, what holds, what is plain.
-/
import Derived.WalkKit
import Derived.Test.YtblafbbnplfpjaaGreatDoorBsA
import Derived.Below
import Derived.BigQuiet
import Derived.Deep.QuietTactic
import Derived.Deep.DeepCutAuto
import Derived.Deep.CutBlock
import Derived.Deep.OwnRows
import Derived.Laws.CopyOwn
import Derived.WalkSmall
namespace Go.Proofs.YtblafbbnplfpjaaGreatDoor
set_option linter.unusedVariables false

/-- A node of a condition. -/
structure Nd where
  kd : Int
  ks : Int
  nm : List UInt8
  op : Int
  un : Int
  pl : Int
deriving DecidableEq
def nd0 : Nd := ⟨0, 0, [], 0, 0, 0⟩
def ndN : Nd := ⟨3, 1, [], 0, 0, 0⟩
/-- Trees one behind the other: the first one's node, what is below it, the others. -/
inductive Fo where
  | nil : Fo
  | cons : Nd → Fo → Fo → Fo
def Fo.flat : Fo → List Nd
  | .nil => []
  | .cons n k r => n :: (k.flat ++ r.flat)
def Fo.len : Fo → Nat
  | .nil => 0
  | .cons _ _ r => r.len + 1
def Fo.app : Fo → Fo → Fo
  | .nil, b => b
  | .cons n k r, b => .cons n k (r.app b)
theorem Fo.app_nil : ∀ a : Fo, a.app .nil = a
  | .nil => rfl
  | .cons n k r => by simp only [Fo.app, Fo.app_nil r]
theorem Fo.flat_app : ∀ a b : Fo, (a.app b).flat = a.flat ++ b.flat
  | .nil, b => rfl
  | .cons n k r, b => by simp only [Fo.app, Fo.flat, Fo.flat_app r b, List.cons_append, List.append_assoc]
theorem Fo.len_app : ∀ a b : Fo, (a.app b).len = a.len + b.len
  | .nil, b => by simp [Fo.app, Fo.len]
  | .cons n k r, b => by simp only [Fo.app, Fo.len, Fo.len_app r b]; omega
theorem Fo.len_flat : ∀ a : Fo, a.len ≤ a.flat.length
  | .nil => by simp [Fo.len, Fo.flat]
  | .cons n k r => by have := Fo.len_flat r; simp only [Fo.len, Fo.flat, List.length_cons, List.length_append]; omega
theorem Fo.nil_of_len {a : Fo} (h : a.len = 0) : a = .nil := by
  cases a with
  | nil => rfl
  | cons n k r => simp [Fo.len] at h
/-- A decimal that may be. -/
def CanD (U P : Int) : Prop := 0 ≤ P ∧ P ≤ 9 ∧ (0 < P → U.tmod 10 ≠ 0)
/-- A node that may be, its kids aside. -/
def NdOk (W : List UInt8 → Bool) (n : Nd) : Prop :=
  ((n.kd = 1 ∨ n.kd = 2) ∧ 2 ≤ n.ks ∧ n.nm = [] ∧ n.op = 0 ∧ n.un = 0 ∧ n.pl = 0) ∨
  (n.kd = 3 ∧ n.ks = 1 ∧ n.nm = [] ∧ n.op = 0 ∧ n.un = 0 ∧ n.pl = 0) ∨
  ((n.kd = 4 ∨ n.kd = 5) ∧ n.ks = 0 ∧ W n.nm = true ∧ n.op = 0 ∧ n.un = 0 ∧ n.pl = 0) ∨
  ((n.kd = 6 ∨ n.kd = 7) ∧ n.ks = 0 ∧ n.nm = [] ∧ 1 ≤ n.op ∧ n.op ≤ 4 ∧ 0 ≤ n.un ∧ CanD n.un n.pl)
/-- Trees that may be under a node of the kind o, so deep. -/
def Fo.Ok (W : List UInt8 → Bool) : Fo → Int → Nat → Prop
  | .nil, _, _ => True
  | .cons n k r, o, d => (NdOk W n ∧ ¬ (n.kd = o ∧ n.kd ≠ 3) ∧ d ≤ 16 ∧ n.ks = (k.len : Int) ∧ k.Ok W n.kd (d + 1)) ∧ r.Ok W o d
def Cond (W : List UInt8 → Bool) (l : List Nd) : Prop := l = [] ∨ (l.length ≤ 64 ∧ ∃ n k, l = (Fo.cons n k .nil).flat ∧ (Fo.cons n k .nil).Ok W 0 1)

variable {W : List UInt8 → Bool}
theorem flat_inj : ∀ (a b : Fo) (o o' : Int) (d d' : Nat) (x y : List Nd), a.Ok W o d → b.Ok W o' d' → a.len = b.len → a.flat ++ x = b.flat ++ y → a = b ∧ x = y
  | .nil, b, _, _, _, _, x, y, _, _, hl, h => by
    have e := Fo.nil_of_len (a := b) (by simpa [Fo.len] using hl.symm)
    subst e; exact ⟨rfl, by simpa [Fo.flat] using h⟩
  | .cons n k r, .nil, _, _, _, _, x, y, _, _, hl, h => by simp [Fo.len] at hl
  | .cons n k r, .cons m j q, o, o', d, d', x, y, ha, hb, hl, h => by
    simp only [Fo.flat, List.cons_append, List.cons.injEq, List.append_assoc] at h
    obtain ⟨rfl, h⟩ := h
    obtain ⟨⟨-, -, -, hk, ok⟩, or⟩ := ha
    obtain ⟨⟨-, -, -, hj, oj⟩, oq⟩ := hb
    obtain ⟨rfl, h2⟩ := flat_inj k j _ _ _ _ _ _ ok oj (by omega) h
    obtain ⟨rfl, h3⟩ := flat_inj r q _ _ _ _ _ _ or oq (by simp [Fo.len] at hl; exact hl) h2
    exact ⟨rfl, h3⟩
theorem Fo.Ok.app : ∀ {a b : Fo} {o : Int} {d : Nat}, a.Ok W o d → b.Ok W o d → (a.app b).Ok W o d
  | .nil, b, o, d, _, hb => hb
  | .cons n k r, b, o, d, ha, hb => ⟨ha.1, Fo.Ok.app ha.2 hb⟩
theorem Fo.Ok.mono : ∀ {a : Fo} {o : Int} {d d' : Nat}, d' ≤ d → a.Ok W o d → a.Ok W o d'
  | .nil, _, _, _, _, _ => trivial
  | .cons n k r, o, d, d', hd, h => ⟨⟨h.1.1, h.1.2.1, by have := h.1.2.2.1; omega, h.1.2.2.2.1, Fo.Ok.mono (by omega) h.1.2.2.2.2⟩, Fo.Ok.mono hd h.2⟩
/-- Trees of the kind c give what is below them. -/
def Fo.melt (c : Int) : Fo → Fo
  | .nil => .nil
  | .cons n k r => if n.kd = c then k.app (r.melt c) else .cons n k (r.melt c)
theorem Fo.melt_app (c : Int) : ∀ a b : Fo, (a.app b).melt c = (a.melt c).app (b.melt c)
  | .nil, b => rfl
  | .cons n k r, b => by
    have assoc : ∀ x y z : Fo, (x.app y).app z = x.app (y.app z) := by
      intro x; induction x with
      | nil => intro y z; rfl
      | cons n k r _ ih => intro y z; simp only [Fo.app, ih]
    simp only [Fo.app, Fo.melt, Fo.melt_app c r b]; split
    · exact (assoc _ _ _).symm
    · rfl
theorem kd_ne_zero {n : Nd} (h : NdOk W n) : n.kd ≠ 0 := by
  rcases h with ⟨h | h, _⟩ | ⟨h, _⟩ | ⟨h | h, _⟩ | ⟨h | h, _⟩ <;> omega
theorem melt_ok (c : Int) (hc : c = 1 ∨ c = 2) : ∀ {a : Fo} {d : Nat}, a.Ok W 0 d → (a.melt c).Ok W c d
  | .nil, _, _ => trivial
  | .cons n k r, d, h => by
    unfold Fo.melt
    have hr := melt_ok c hc h.2
    split
    · rename_i e
      refine Fo.Ok.app ?_ hr
      have := h.1.2.2.2.2
      rw [e] at this
      exact this.mono (by omega)
    · rename_i e
      exact ⟨⟨h.1.1, fun x => e x.1, h.1.2.2.1, h.1.2.2.2⟩, hr⟩
theorem melt_len (c : Int) (hc : c = 1 ∨ c = 2) : ∀ {a : Fo} {o : Int} {d : Nat}, a.Ok W o d → a.len ≤ (a.melt c).len
  | .nil, _, _, _ => by simp [Fo.melt]
  | .cons n k r, o, d, h => by
    have hr := melt_len c hc h.2
    unfold Fo.melt
    split
    · rename_i e
      obtain ⟨⟨hn, -, -, hk, -⟩, -⟩ := h
      rw [Fo.len_app]
      have : 2 ≤ n.ks := by
        rcases hn with ⟨-, h, -⟩ | ⟨h, -⟩ | ⟨h | h, -⟩ | ⟨h | h, -⟩ <;> omega
      simp only [Fo.len]; omega
    · simp only [Fo.len]; omega
/-- A condition made plain, or its Not. -/
def Fo.plain : Fo → Bool → Fo
  | .nil, _ => .nil
  | .cons n k r, neg =>
    (if n.kd = 1 ∨ n.kd = 2 then
      .cons ⟨if neg then 3 - n.kd else n.kd, (((k.plain neg).melt (if neg then 3 - n.kd else n.kd)).len : Nat), [], 0, 0, 0⟩ ((k.plain neg).melt (if neg then 3 - n.kd else n.kd)) .nil
    else if n.kd = 3 then k.plain (!neg)
    else if n.kd = 4 ∨ n.kd = 5 then (if neg then .cons ndN (.cons n .nil .nil) .nil else .cons n .nil .nil)
    else .cons (if neg then { n with op := 5 - n.op } else n) .nil .nil).app (r.plain neg)
theorem plain_len : ∀ (a : Fo) (neg : Bool) (o : Int) (d : Nat), a.Ok W o d → (a.plain neg).len = a.len
  | .nil, _, _, _, _ => rfl
  | .cons n k r, neg, o, d, h => by
    have hr := plain_len r neg o d h.2
    obtain ⟨⟨hn, -, -, hk, ok⟩, -⟩ := h
    unfold Fo.plain
    rw [Fo.len_app, hr]
    simp only [Fo.len]
    split
    · simp [Fo.len]; omega
    split
    · rename_i e
      rw [plain_len k (!neg) _ _ ok]
      have : n.ks = 1 := by rcases hn with ⟨h | h, -⟩ | ⟨-, h, -⟩ | ⟨h | h, -⟩ | ⟨h | h, -⟩ <;> omega
      omega
    split
    · split <;> simp [Fo.len] <;> omega
    · simp [Fo.len]; omega
theorem plain_ok : ∀ (a : Fo) (neg : Bool) (o : Int) (d : Nat), a.Ok W o (d + neg.toNat) → (a.plain neg).Ok W 0 d
  | .nil, _, _, _, _ => trivial
  | .cons n k r, neg, o, d, h => by
    have hr := plain_ok r neg o d h.2
    obtain ⟨⟨hn, -, hd, hk, ok⟩, -⟩ := h
    unfold Fo.plain
    refine Fo.Ok.app ?_ hr
    split
    · rename_i e
      have hc : (if neg = true then 3 - n.kd else n.kd) = 1 ∨ (if neg = true then 3 - n.kd else n.kd) = 2 := by split <;> omega
      generalize (if neg = true then 3 - n.kd else n.kd) = c at hc ⊢
      have h1 : (k.plain neg).Ok W 0 (d + 1) := plain_ok k neg n.kd (d + 1) (by rw [Nat.add_right_comm]; exact ok)
      have h2 := melt_len (W := W) c hc h1
      rw [plain_len k neg _ _ ok] at h2
      have h3 : 2 ≤ n.ks := by rcases hn with ⟨-, h, -⟩ | ⟨h, -⟩ | ⟨h | h, -⟩ | ⟨h | h, -⟩ <;> omega
      refine ⟨⟨.inl ⟨hc, ?_, rfl, rfl, rfl, rfl⟩, ?_, by omega, rfl, melt_ok c hc h1⟩, trivial⟩
      · show (2 : Int) ≤ ((Fo.melt c (k.plain neg)).len : Nat); omega
      · show ¬ (c = 0 ∧ _); omega
    split
    · rename_i e1 e
      cases neg with
      | false => exact plain_ok k true n.kd d (by simpa using ok)
      | true => exact (plain_ok k false n.kd d (ok.mono (by simp; omega)))
    split
    · rename_i e1 e2 e
      have hk0 : n.ks = 0 := by rcases hn with ⟨h | h, -⟩ | ⟨h, -⟩ | ⟨-, h, -⟩ | ⟨h | h, -⟩ <;> omega
      cases neg with
      | false => exact ⟨⟨hn, by have := kd_ne_zero hn; omega, by simpa using hd, by simpa [Fo.len] using hk0, trivial⟩, trivial⟩
      | true =>
        simp at hd
        exact ⟨⟨.inr (.inl ⟨rfl, rfl, rfl, rfl, rfl, rfl⟩), by simp [ndN], by omega, rfl, ⟨⟨hn, by simp only [ndN]; omega, by omega, by simpa [Fo.len] using hk0, trivial⟩, trivial⟩⟩, trivial⟩
    · rename_i e1 e2 e3
      have h6 : (n.kd = 6 ∨ n.kd = 7) ∧ n.ks = 0 ∧ n.nm = [] ∧ 1 ≤ n.op ∧ n.op ≤ 4 ∧ 0 ≤ n.un ∧ CanD n.un n.pl := by
        rcases hn with ⟨h, -⟩ | ⟨h, -⟩ | ⟨h, -⟩ | h
        · exact absurd h e1
        · exact absurd h e2
        · exact absurd h e3
        · exact h
      obtain ⟨h6, hk0, hnm, h1, h4, h0, hcan⟩ := h6
      cases neg with
      | false => simp only [Bool.false_eq_true, if_false]; exact ⟨⟨hn, by have := kd_ne_zero hn; omega, by simpa using hd, by simpa [Fo.len] using hk0, trivial⟩, trivial⟩
      | true => exact ⟨⟨.inr (.inr (.inr ⟨h6, hk0, hnm, by show 1 ≤ 5 - n.op; omega, by show 5 - n.op ≤ 4; omega, h0, hcan⟩)), by show ¬ (n.kd = 0 ∧ _); omega, by simp at hd; omega, by simpa [Fo.len] using hk0, trivial⟩, trivial⟩
/-- Nots above traits alone. -/
def Fo.Pf : Fo → Prop
  | .nil => True
  | .cons n k r => (n.kd = 3 → ∃ m, k = .cons m .nil .nil ∧ (m.kd = 4 ∨ m.kd = 5)) ∧ k.Pf ∧ r.Pf
theorem Fo.Pf.app : ∀ {a b : Fo}, a.Pf → b.Pf → (a.app b).Pf
  | .nil, b, _, hb => hb
  | .cons n k r, b, ha, hb => ⟨ha.1, ha.2.1, Fo.Pf.app ha.2.2 hb⟩
/-- What the nodes hold, one after the other. -/
def Fo.ev (v : Nd → Bool) : Fo → List Bool
  | .nil => []
  | .cons n k r => (if n.kd = 1 then (k.ev v).any id else if n.kd = 2 then (k.ev v).all id else if n.kd = 3 then !((k.ev v).headD false) else v n) :: r.ev v
theorem ev_app (v : Nd → Bool) : ∀ a b : Fo, (a.app b).ev v = a.ev v ++ b.ev v
  | .nil, b => rfl
  | .cons n k r, b => by simp only [Fo.app, Fo.ev, ev_app v r b, List.cons_append]
theorem ev_len (v : Nd → Bool) : ∀ a : Fo, (a.ev v).length = a.len
  | .nil => rfl
  | .cons n k r => by simp only [Fo.ev, Fo.len, List.length_cons, ev_len v r]
/-- Names of the nodes of one kind, in their order. -/
def nms (c : Int) (l : List Nd) : List (List UInt8) := (l.filter (fun n => decide (n.kd = c))).map (·.nm)
theorem nms_app (c : Int) (a b : List Nd) : nms c (a ++ b) = nms c a ++ nms c b := by simp [nms]
theorem nms_cons (c : Int) (n : Nd) (l : List Nd) : nms c (n :: l) = (if n.kd = c then [n.nm] else []) ++ nms c l := by
  simp only [nms, List.filter_cons]; split <;> rename_i h <;> simp at h <;> simp [h]
end Go.Proofs.YtblafbbnplfpjaaGreatDoor
namespace Go.Proofs.YtblafbbnplfpjaaGreatDoor
set_option linter.unusedVariables false
variable {W : List UInt8 → Bool}

theorem Fo.app_assoc : ∀ a b c : Fo, (a.app b).app c = a.app (b.app c)
  | .nil, b, c => rfl
  | .cons n k r, b, c => by simp only [Fo.app, Fo.app_assoc r b c]
theorem Fo.split : ∀ (a : Fo) (j : Nat), j ≤ a.len → ∃ x y : Fo, a = x.app y ∧ x.len = j
  | a, 0, _ => ⟨.nil, a, rfl, rfl⟩
  | .nil, j + 1, h => by simp [Fo.len] at h
  | .cons n k r, j + 1, h => by
    obtain ⟨x, y, rfl, hx⟩ := Fo.split r j (by simp [Fo.len] at h; omega)
    exact ⟨.cons n k x, y, rfl, by simp [Fo.len, hx]⟩
theorem Fo.Ok.left : ∀ {a b : Fo} {o : Int} {d : Nat}, (a.app b).Ok W o d → a.Ok W o d
  | .nil, _, _, _, _ => trivial
  | .cons n k r, b, o, d, h => ⟨h.1, Fo.Ok.left h.2⟩
theorem Fo.Ok.right : ∀ {a b : Fo} {o : Int} {d : Nat}, (a.app b).Ok W o d → b.Ok W o d
  | .nil, _, _, _, h => h
  | .cons n k r, b, o, d, h => Fo.Ok.right h.2
/-- No tree that may be there stands at the head of these nodes. -/
def NoTree (W : List UInt8 → Bool) (l : List Nd) (o : Int) (d : Nat) : Prop := ∀ n k r, l = (Fo.cons n k .nil).flat ++ r → ¬ (Fo.cons n k .nil).Ok W o d
theorem no_end (o : Int) (d : Nat) : NoTree W [] o d := by
  intro n k r h; simp [Fo.flat] at h
theorem no_deep (l : List Nd) (o : Int) (d : Nat) (hd : 16 < d) : NoTree W l o d := by
  intro n k r h ok; have := ok.1.2.2.1; omega
theorem no_node (n : Nd) (l : List Nd) (o : Int) (d : Nat) (hn : ¬ (NdOk W n ∧ ¬ (n.kd = o ∧ n.kd ≠ 3))) : NoTree W (n :: l) o d := by
  intro m k r h ok
  simp only [Fo.flat, List.cons_append, List.cons.injEq] at h
  obtain ⟨rfl, -⟩ := h
  exact hn ⟨ok.1.1, ok.1.2.1⟩
theorem no_kid {n : Nd} {l rest : List Nd} {o : Int} {d : Nat} {kj : Fo} (hk : kj.Ok W n.kd (d + 1)) (hl : l = kj.flat ++ rest) (hj : (kj.len : Int) < n.ks) (hno : NoTree W rest n.kd (d + 1)) : NoTree W (n :: l) o d := by
  intro m k r h ok
  simp only [Fo.flat, List.cons_append, List.cons.injEq, List.append_assoc, List.nil_append] at h
  obtain ⟨rfl, h⟩ := h
  obtain ⟨⟨-, -, -, hks, okk⟩, -⟩ := ok
  obtain ⟨x, y, rfl, hx⟩ := Fo.split k kj.len (by omega)
  rw [hl, Fo.flat_app, List.append_assoc] at h
  obtain ⟨rfl, h2⟩ := flat_inj kj x _ _ _ _ _ _ hk okk.left hx.symm h
  have oky := okk.right
  rw [Fo.len_app] at hks
  cases y with
  | nil => simp [Fo.len] at hks; omega
  | cons a b c => exact hno a b (c.flat ++ r) (by rw [h2]; simp [Fo.flat]) ⟨oky.1, trivial⟩
/-- What comes of the trees one by one: each made plain. -/
def Fo.fl (neg : Bool) : Fo → List (List Nd)
  | .nil => []
  | .cons n k r => ((Fo.cons n k .nil).plain neg).flat :: r.fl neg
theorem fl_len (neg : Bool) : ∀ a : Fo, (a.fl neg).length = a.len
  | .nil => rfl
  | .cons n k r => by simp only [Fo.fl, Fo.len, List.length_cons, fl_len neg r]
theorem plain_cons (n : Nd) (k r : Fo) (neg : Bool) : (Fo.cons n k r).plain neg = ((Fo.cons n k .nil).plain neg).app (r.plain neg) := by
  conv => lhs; unfold Fo.plain
  conv => rhs; lhs; unfold Fo.plain
  show _ = (Fo.app _ .nil).app _
  rw [Fo.app_nil]
/-- A list of trees put together under one node of the kind c: how many kids, which nodes. -/
def gatN (c : Int) : List (List Nd) → Int
  | [] => 0
  | l :: ls => (if (l.headD nd0).kd = c then (l.headD nd0).ks else 1) + gatN c ls
def gatL (c : Int) : List (List Nd) → List Nd
  | [] => []
  | l :: ls => (if (l.headD nd0).kd = c then l.tail else l) ++ gatL c ls
theorem gatN_app (c : Int) : ∀ a b : List (List Nd), gatN c (a ++ b) = gatN c a + gatN c b
  | [], b => by simp [gatN]
  | l :: ls, b => by simp only [List.cons_append, gatN, gatN_app c ls b]; omega
theorem gatL_app (c : Int) : ∀ a b : List (List Nd), gatL c (a ++ b) = gatL c a ++ gatL c b
  | [], b => rfl
  | l :: ls, b => by simp only [List.cons_append, gatL, gatL_app c ls b, List.append_assoc]
theorem gat_plain (c : Int) (neg : Bool) : ∀ (a : Fo) (o : Int) (d : Nat), a.Ok W o (d + neg.toNat) → gatN c (a.fl neg) = (((a.plain neg).melt c).len : Nat) ∧ gatL c (a.fl neg) = ((a.plain neg).melt c).flat
  | .nil, _, _, _ => ⟨rfl, rfl⟩
  | .cons n k r, o, d, h => by
    obtain ⟨i1, i2⟩ := gat_plain c neg r o d h.2
    have h1 : (Fo.cons n k .nil).Ok W o (d + neg.toNat) := ⟨h.1, trivial⟩
    have hl := plain_len _ neg _ _ h1
    have ho := plain_ok _ neg _ _ h1
    rw [plain_cons, Fo.melt_app]
    simp only [Fo.fl, gatN, gatL]
    match e : (Fo.cons n k .nil).plain neg, hl with
    | .cons m j .nil, _ =>
      rw [e] at ho
      have hks := ho.1.2.2.2.1
      rw [i1, i2, Fo.len_app, Fo.flat_app]
      simp only [Fo.flat, List.append_nil, List.headD_cons, List.tail_cons]
      by_cases hm : m.kd = c
      · simp only [hm, if_true, Fo.melt, Fo.app_nil]
        exact ⟨by rw [hks]; omega, trivial⟩
      · simp only [hm, if_false, Fo.melt, Fo.len, Fo.flat, List.append_nil]
        exact ⟨by omega, trivial⟩
/-- The two forms of a node, of the forms of its kids. -/
def frm (n : Nd) (ys ns : List (List Nd)) (neg : Bool) : List Nd :=
  if n.kd = 1 ∨ n.kd = 2 then ⟨if neg then 3 - n.kd else n.kd, gatN (if neg then 3 - n.kd else n.kd) (if neg then ns else ys), [], 0, 0, 0⟩ :: gatL (if neg then 3 - n.kd else n.kd) (if neg then ns else ys)
  else if n.kd = 3 then (if neg then ys else ns).headD []
  else if n.kd = 4 ∨ n.kd = 5 then (if neg then [ndN, n] else [n])
  else [if neg then { n with op := 5 - n.op } else n]
theorem frm_plain (n : Nd) (k : Fo) (neg : Bool) (o : Int) (d : Nat) (h : (Fo.cons n k .nil).Ok W o (d + 1)) : frm n (k.fl false) (k.fl true) neg = ((Fo.cons n k .nil).plain neg).flat := by
  obtain ⟨⟨hn, -, -, hk, ok⟩, -⟩ := h
  unfold frm
  unfold Fo.plain
  rw [show (Fo.nil.plain neg) = .nil from rfl, Fo.app_nil]
  split
  · have hf : (if neg = true then k.fl true else k.fl false) = k.fl neg := by cases neg <;> rfl
    rw [hf]
    obtain ⟨g1, g2⟩ := gat_plain (W := W) (if neg = true then 3 - n.kd else n.kd) neg k n.kd (d + 1) (ok.mono (by cases neg <;> simp))
    rw [g1, g2]; simp [Fo.flat]
  split
  · have h1 : n.ks = 1 := by rcases hn with ⟨h | h, -⟩ | ⟨-, h, -⟩ | ⟨h | h, -⟩ | ⟨h | h, -⟩ <;> omega
    have hf : (if neg = true then k.fl false else k.fl true) = k.fl (!neg) := by cases neg <;> rfl
    rw [hf]
    match k, hk with
    | .cons a b .nil, _ => rfl
    | .nil, hk => simp [Fo.len] at hk; omega
    | .cons a b (.cons _ _ _), hk => simp [Fo.len] at hk; omega
  split
  · cases neg <;> rfl
  · cases neg <;> rfl
theorem melt_size (c : Int) : ∀ a : Fo, (a.melt c).flat.length ≤ a.flat.length
  | .nil => by simp [Fo.melt]
  | .cons n k r => by
    have := melt_size c r
    unfold Fo.melt; split
    · rw [Fo.flat_app]; simp only [Fo.flat, List.length_append, List.length_cons]; omega
    · simp only [Fo.flat, List.length_append, List.length_cons]; omega
theorem plain_size : ∀ (a : Fo) (neg : Bool), (a.plain neg).flat.length ≤ 2 * a.flat.length
  | .nil, _ => by simp [Fo.plain, Fo.flat]
  | .cons n k r, neg => by
    have h1 := plain_size r neg
    have h2 := plain_size k neg
    have h3 := plain_size k (!neg)
    unfold Fo.plain
    rw [Fo.flat_app]
    simp only [Fo.flat, List.length_append, List.length_cons]
    split
    · have h4 := melt_size (if neg = true then 3 - n.kd else n.kd) (k.plain neg)
      simp only [Fo.flat, List.length_cons, List.append_nil]; omega
    split
    · omega
    split
    · split <;> simp [Fo.flat] <;> omega
    · simp [Fo.flat]; omega
theorem fl_ne (neg : Bool) : ∀ (a : Fo) (o : Int) (d : Nat), a.Ok W o d → ∀ l ∈ a.fl neg, l ≠ [] ∧ l.length ≤ 2 * a.flat.length
  | .nil, _, _, _, l, hl => by simp [Fo.fl] at hl
  | .cons n k r, o, d, h, l, hl => by
    simp only [Fo.fl, List.mem_cons] at hl
    rcases hl with rfl | hl
    · have h1 : (Fo.cons n k .nil).Ok W o d := ⟨h.1, trivial⟩
      have h2 := plain_len _ neg _ _ h1
      have h3 := plain_size (Fo.cons n k .nil) neg
      refine ⟨?_, ?_⟩
      · intro e
        have h4 := Fo.len_flat ((Fo.cons n k .nil).plain neg)
        rw [e, h2] at h4; simp [Fo.len] at h4
      · simp only [Fo.flat, List.length_append, List.length_cons, List.append_nil] at h3 ⊢; omega
    · obtain ⟨h1, h2⟩ := fl_ne neg r o d h.2 l hl
      refine ⟨h1, ?_⟩
      simp only [Fo.flat, List.length_append, List.length_cons]; omega
end Go.Proofs.YtblafbbnplfpjaaGreatDoor
namespace Go.Proofs.YtblafbbnplfpjaaGreatDoor
set_option linter.unusedVariables false

def sm (c : UInt8) : Bool := decide (97 ≤ c.toNat) && decide (c.toNat ≤ 122)
def cp (c : UInt8) : Bool := decide (65 ≤ c.toNat) && decide (c.toNat ≤ 90)
def dg (c : UInt8) : Bool := decide (48 ≤ c.toNat) && decide (c.toNat ≤ 57)
def ip (c : UInt8) : Bool := sm c || dg c || c == 95
/-- How many bytes at the beginning are of a kind. -/
def rn (p : UInt8 → Bool) : List UInt8 → Nat
  | [] => 0
  | c :: t => if p c then rn p t + 1 else 0
theorem rn_le (p : UInt8 → Bool) : ∀ s, rn p s ≤ s.length
  | [] => Nat.le_refl _
  | c :: t => by
    have := rn_le p t
    unfold rn
    split <;> simp <;> omega
/-- The part with which a text begins. -/
def pt : List UInt8 → Nat
  | [] => 0
  | c :: t => if sm c then rn ip (c :: t) else 0
theorem pt_cons (c : UInt8) (t : List UInt8) : pt (c :: t) = if sm c then rn ip (c :: t) else 0 := rfl
theorem pt_le (s : List UInt8) : pt s ≤ s.length := by
  cases s with
  | nil => exact Nat.le_refl _
  | cons c t =>
    rw [pt_cons]
    split
    · exact rn_le _ _
    · exact Nat.zero_le _
theorem sm_ip {c : UInt8} (h : sm c = true) : ip c = true := by simp [ip, h]
/-- What follows a part in a word: points and parts. -/
def wt : Nat → List UInt8 → Nat
  | 0, _ => 0
  | _ + 1, [] => 0
  | f + 1, c :: t => if c = 46 ∧ pt t ≠ 0 then 1 + pt t + wt f (t.drop (pt t)) else 0
def wq (s : List UInt8) : Nat := wt s.length s
/-- A word's length. -/
def wl (s : List UInt8) : Nat := pt s + wq (s.drop (pt s))
/-- A number's length. -/
def nl (s : List UInt8) : Nat := match s.drop (rn dg s) with
  | [] => rn dg s
  | c :: t => if c = 46 ∧ rn dg t ≠ 0 then rn dg s + 1 + rn dg t else rn dg s
/-- Does it begin with a date? -/
def dtB : List UInt8 → Bool
  | a :: b :: c :: d :: e :: f :: g :: h :: i :: j :: _ => dg a && dg b && dg c && dg d && (e == 45) && dg f && dg g && (h == 45) && dg i && dg j
  | _ => false
/-- With a code? -/
def cdB : List UInt8 → Bool
  | a :: b :: c :: _ => cp a && cp b && cp c
  | _ => false
/-- A mark's length. -/
def mkL : List UInt8 → Nat
  | [] => 0
  | c :: t => if c = 60 ∨ c = 62 then (match t with | [] => 1 | d :: _ => if d = 61 then 2 else 1) else if c = 59 ∨ c = 44 ∨ c = 40 ∨ c = 41 ∨ c = 37 then 1 else 0
/-- The longest token: its kind and its length. -/
def lx : List UInt8 → Nat × Nat
  | [] => (5, 0)
  | c :: t => if sm c then (1, wl (c :: t)) else if cdB (c :: t) then (2, 3) else if dtB (c :: t) then (4, 10) else if dg c then (3, nl (c :: t)) else (5, mkL (c :: t))
/-- May this not stand right behind a token? -/
def gs : List UInt8 → Bool
  | [] => false
  | c :: _ => cp c || ip c || c == 46
/-- A token: kind, text, line, byte. -/
structure Tk where
  kd : Nat
  tx : List UInt8
  ln : Nat
  co : Nat
inductive Cr
  | ok (ts : List Tk)
  | no (l c : Nat)
def Cr.pre (a : List Tk) : Cr → Cr
  | .ok ts => .ok (a ++ ts)
  | .no l c => .no l c
def rm (s : List UInt8) : Nat := rn (fun c => c != 10) s
/-- Is the token refused? -/
def bad (s : List UInt8) : Bool := (lx s).2 == 0 || ((lx s).1 != 5 && gs (s.drop (lx s).2))
def ct : Nat → List UInt8 → Nat → Nat → Cr
  | 0, _, l, c => .ok [⟨0, [], l, c⟩]
  | _ + 1, [], l, c => .ok [⟨0, [], l, c⟩]
  | f + 1, b :: t, l, c =>
    if b = 10 then ct f t (l + 1) 1
    else if b = 32 ∨ b = 9 ∨ b = 13 then ct f t l (c + 1)
    else if b = 35 then ct f (t.drop (rm t)) l (c + 1 + rm t)
    else if bad (b :: t) = true then .no l c
    else Cr.pre [⟨(lx (b :: t)).1, (b :: t).take (lx (b :: t)).2, l, c⟩] (ct f ((b :: t).drop (lx (b :: t)).2) l (c + (lx (b :: t)).2))
def cu (s : List UInt8) (l c : Nat) : Cr := ct s.length s l c
end Go.Proofs.YtblafbbnplfpjaaGreatDoor
namespace Go.Proofs.YtblafbbnplfpjaaGreatDoor
open Go.RowKit Go.Shelf

/-- A list of limbs that can be read: of an empty one nothing is known but that. -/
def Sl (w : World) (a : Option Addr) (len : Nat) (zs : List Int) : Prop :=
  zs.length = len ∧ Limbs zs ∧ (0 < len → ∃ b off, a = some ⟨b, off, none⟩ ∧ ∀ i, i < len → w.cell? ⟨b, off + i, none⟩ = some (.int .u64 (zs.getD i 0)))

theorem ret_int {k : IntKind} {a b : Int} (h : a = b) : Ending.returned (.int k a) = .returned (.int k b) := by rw [h]

set_option maxHeartbeats 400000 in
theorem used_any (a : Option Addr) (len cap : Nat) (zs : List Int) (w : World) (h : Sl w a len zs) (hl : len ≤ 40000000000000) :
    Calls Tryz.prog 163 #[.slice a len cap] w fun e w' => e = .returned (.int .i64 (usedN zs)) ∧ w' = w := by
  obtain ⟨hz, hL, hc⟩ := h
  by_cases h0 : len = 0
  · subst h0
    have e0 : usedN zs = 0 := by have := usedN_le zs; omega
    rw [e0]
    go_enter Tryz.func163, Tryz.ntmps163
    go_wp2_with fail
    refine wp_loop_rounds 1 ?_
    rw [rounds_succ]
    go_wp2_with fail
    go_ret
    exact ⟨rfl, rfl⟩
  · obtain ⟨b, off, rfl, hcell⟩ := hc (by omega)
    go_enter Tryz.func163, Tryz.ntmps163
    go_wp2_with fail
    go_loop [8] (fun i => ∃ k : Nat, k ≤ len ∧ i = .int .i64 k ∧ Hid (∀ j, len - k ≤ j → j < len → zs.getD j 0 = 0)) (fun i => len - (intOf i).toNat)
    case atStart => exact ⟨0, Nat.zero_le _, rfl, fun j h1 h2 => absurd h1 (by omega)⟩
    case round =>
      obtain ⟨k, hk, rfl, hI⟩ := hrel
      by_cases hlt : k < len
      · have hcx := hcell (len - 1 - k) (by omega)
        have ex : ((len : Int) - 1 - k).toNat = len - 1 - k := by omega
        go_wp2_with fail
        · have hne : (zs[len - 1 - k]?.getD 0 != 0) = true := by assumption
          have hne' : zs.getD (len - 1 - k) 0 ≠ 0 := by rw [List.getD_eq_getElem?_getD]; simpa using hne
          have hu : usedN zs = len - k := usedN_eq (by omega) (fun i h1 h2 => hI.out i h1 (by omega)) (.inr (by rw [show len - k - 1 = len - 1 - k by omega]; exact hne'))
          go_ret
          exact ⟨ret_int (by omega), rfl⟩
        · have hne : (zs[len - 1 - k]?.getD 0 != 0) = false := by assumption
          have hne' : zs.getD (len - 1 - k) 0 = 0 := by rw [List.getD_eq_getElem?_getD]; simpa using hne
          go_round
          case rel =>
            refine ⟨k + 1, by omega, by go_num, ?_⟩
            intro j h1 h2
            by_cases hj : j = len - 1 - k
            · rw [hj]; exact hne'
            · exact hI.out j (by omega) h2
          case measure => simp [intOf]; omega
      · have hu : usedN zs = 0 := usedN_eq (by omega) (fun i h1 h2 => hI.out i (by omega) (by omega)) (.inl rfl)
        go_wp2_with fail
        go_ret
        exact ⟨ret_int (by omega), rfl⟩

theorem cut_any (a : Option Addr) (len cap : Nat) (zs : List Int) (w : World) (h : Sl w a len zs) (hl : len ≤ 40000000000000) (hcap : len ≤ cap) :
    Calls Tryz.prog 183 #[.slice a len cap] w fun e w' => e = .returned (.slice a (usedN zs) cap) ∧ w' = w := by
  have hu := usedN_le zs
  have hz := h.1
  go_enter Tryz.func183, Tryz.ntmps183
  go_wp2_with fail
  refine (used_any a len cap zs _ h hl).mono ?_
  rintro e w' ⟨rfl, rfl⟩
  have hu' : usedN zs ≤ len := by omega
  clear h
  cases a with
  | none =>
    go_wp2_with fail
    go_ret
    exact ⟨rfl, rfl⟩
  | some a =>
    go_wp2_with fail
    go_ret
    exact ⟨rfl, rfl⟩

theorem limbAt_any (a : Option Addr) (len cap : Nat) (zs : List Int) (i : Int) (w : World) (h : Sl w a len zs) (hi : 0 ≤ i) :
    Calls Tryz.prog 214 #[.slice a len cap, .int .i64 i] w fun e w' => e = .returned (.int .u64 (zs.getD i.toNat 0)) ∧ w' = w := by
  obtain ⟨hz, hL, hc⟩ := h
  obtain ⟨k, rfl⟩ := Int.eq_ofNat_of_zero_le hi
  rw [Int.toNat_natCast]
  by_cases hlt : k < len
  · obtain ⟨b, off, rfl, hcell⟩ := hc (by omega)
    have hcx := hcell k hlt
    clear hc hcell
    generalize zs.getD k 0 = z at hcx ⊢
    go_enter Tryz.func214, Tryz.ntmps214
    go_wp2_with fail
    go_ret
    exact ⟨rfl, rfl⟩
  · have e0 : zs.getD k 0 = 0 := by rw [List.getD_eq_getElem?_getD, List.getElem?_eq_none (by omega)]; rfl
    rw [e0]
    go_enter Tryz.func214, Tryz.ntmps214
    go_wp2_with fail
    go_ret
    exact ⟨rfl, rfl⟩

/-- Limbs as memory holds them. -/
def row (cs : List Int) : List Value := cs.map (Value.int .u64)
/-- A row of limbs that a call made itself: block g, whole. -/
def Own (w : World) (g : Nat) (cs : List Int) : Prop := w.heap[g]? = some (.cells (row cs).toArray 124 (0, 0))

set_option maxRecDepth 20000 in
theorem make_row (n : Nat) (hn : n ≤ 30000000000000) (w : World) : (Instr.makeSlice 60 (.int .i64 (n : Int)) (.int .i64 (n : Int))).run Tryz.prog w =
    .ok (.slice (some ⟨w.heap.size, 0, none⟩) n n) (w.alloc (.cells (row (List.replicate n 0)).toArray 124)) := by
  have h := run_make_row' (P := Tryz.prog) 60 124 (.int .u64 0) 8 Tryz.underlying60 (by kernel_rfl) rfl .i64 .i64 n (by omega) (by omega) w
  rw [h]
  congr 3
  apply Array.ext'
  rw [toList_madeCells_one]
  simp [row]

theorem addr_add (b off j : Nat) : (⟨b, off, none⟩ : Addr).add j = ⟨b, off + j, none⟩ := by
  unfold Addr.add; split <;> simp_all
theorem row_length (cs : List Int) : (row cs).length = cs.length := by simp [row]
theorem row_getElem? (cs : List Int) (i : Nat) (h : i < cs.length) : (row cs)[i]? = some (.int .u64 (cs.getD i 0)) := by
  simp [row, List.getD_eq_getElem?_getD, List.getElem?_eq_getElem h]
theorem Own.cell {w : World} {g : Nat} {cs : List Int} (h : Own w g cs) (i : Nat) (hi : i < cs.length) : w.cell? ⟨g, i, none⟩ = some (.int .u64 (cs.getD i 0)) := by
  have := row_getElem? cs i hi
  unfold Own at h
  simp [World.cell?, h, this]
theorem Own.frozen {w : World} {g : Nat} {cs : List Int} (h : Own w g cs) (i : Nat) : w.frozen? ⟨g, i, none⟩ = false := by
  unfold Own at h
  simp [World.frozen?, h]
theorem Own.lt {w : World} {g : Nat} {cs : List Int} (h : Own w g cs) : g < w.heap.size := by
  unfold Own at h
  rcases Nat.lt_or_ge g w.heap.size with h' | h'
  · exact h'
  · rw [Array.getElem?_eq_none h'] at h; cases h
theorem Own.below {B : Nat} {w w' : World} {g : Nat} {cs : List Int} (h : Own w g cs) (b : Below B w w') (hg : g < B) : Own w' g cs := by
  unfold Own at *; rw [b.block g hg]; exact h
theorem Own.set {w : World} {g : Nat} {cs : List Int} (h : Own w g cs) (i : Nat) (v : Int) : Own (w.setCell ⟨g, i, none⟩ (.int .u64 v)) g (cs.set i v) := by
  unfold Own at *
  simp only [World.setCell]
  rw [Array.getElem?_modify, if_pos rfl, h]
  simp [row, List.map_set]
theorem Own.sl {w : World} {g : Nat} {cs : List Int} (h : Own w g cs) (hL : Limbs cs) : Sl w (some ⟨g, 0, none⟩) cs.length cs :=
  ⟨rfl, hL, fun _ => ⟨g, 0, rfl, fun i hi => by rw [Nat.zero_add]; exact h.cell i hi⟩⟩
theorem Sl.below {w w' : World} {a : Option Addr} {len : Nat} {zs : List Int} {B : Nat} (h : Sl w a len zs) (b : Below B w w') (hB : w.heap.size ≤ B) : Sl w' a len zs := by
  obtain ⟨h1, h2, h3⟩ := h
  refine ⟨h1, h2, fun h0 => ?_⟩
  obtain ⟨bb, off, rfl, hc⟩ := h3 h0
  refine ⟨bb, off, rfl, fun i hi => ?_⟩
  have hh := hc i hi
  have hlt : bb < w.heap.size := by
    rcases Nat.lt_or_ge bb w.heap.size with h' | h'
    · exact h'
    · simp [World.cell?, Array.getElem?_eq_none h'] at hh
  rw [b.cell (p := ⟨bb, off + i, none⟩) (by show bb < B; omega)]; exact hh
theorem Sl.take {w : World} {a : Option Addr} {len m : Nat} {zs : List Int} (h : Sl w a len zs) (hm : m ≤ len) : Sl w a m (zs.take m) := by
  obtain ⟨h1, h2, h3⟩ := h
  refine ⟨by rw [List.length_take]; omega, h2.take m, fun h0 => ?_⟩
  obtain ⟨b, off, rfl, hc⟩ := h3 (by omega)
  refine ⟨b, off, rfl, fun i hi => ?_⟩
  rw [hc i (by omega), List.getD_eq_getElem?_getD, List.getD_eq_getElem?_getD, List.getElem?_take_of_lt hi]
theorem Sl.drewN {w : World} {a : Option Addr} {len : Nat} {zs : List Int} (h : Sl w a len zs) (n : Nat) : Sl (w.drewN n) a len zs := h

set_option maxHeartbeats 400000 in
theorem widened_any (a : Option Addr) (len cap n : Nat) (zs : List Int) (w : World) (h : Sl w a len zs) (hl : len ≤ 20000000000000) (hcap : len ≤ cap) (hn : usedN zs ≤ n) (hn' : n ≤ 30000000000000) :
    Calls Tryz.prog 197 #[.slice a len cap, .int .i64 n] w fun e w' =>
      ∃ g, e = .returned (.slice (some ⟨g, 0, none⟩) n n) ∧ w.heap.size ≤ g ∧ Own w' g (zs.take (usedN zs) ++ List.replicate (n - usedN zs) 0) ∧ Below w.heap.size w w' := by
  have hu := usedN_le zs
  have hz := h.1
  have hu' : usedN zs ≤ len := by omega
  have hmk := make_row n hn'
  go_enter Tryz.func197, Tryz.ntmps197
  go_wp2_with fail
  refine (used_any a len cap zs _ (h.below ((Below.refl _ _).alloc (Nat.le_refl _) _) (Nat.le_refl _)) (by omega)).mono ?_
  rintro e w' ⟨rfl, rfl⟩
  go_wp2_with (refine wpList_copy_splice rfl (.tmp 8) (.tmp 12) 60 60 rfl 124 Tryz.underlying60 (by kernel_rfl) _ _ _ _ _ _ rfl rfl w.heap.size 0 (row (List.replicate n 0)) 124 ?hg (row (zs.take (usedN zs))) ?hn ?hpos ?hfit ?h1 w.heap.size w ?hb ?hBg ?_)
  case hg => exact heap_alloc_new _ _
  case hn => rw [row_length, List.length_take]; show _ = min _ _; omega
  case hpos =>
    intro h0
    rw [row_length, List.length_take] at h0
    obtain ⟨b, off, rfl, hc⟩ := h.2.2 (by omega)
    refine ⟨_, rfl, fun j v hj => ?_⟩
    have hj' : j < (row (zs.take (usedN zs))).length := by
      rcases Nat.lt_or_ge j (row (zs.take (usedN zs))).length with h' | h'
      · exact h'
      · rw [List.getElem?_eq_none h'] at hj; cases hj
    rw [row_length, List.length_take] at hj'
    rw [row_getElem? _ _ (by rw [List.length_take]; omega), List.getD_eq_getElem?_getD, List.getElem?_take_of_lt (by omega), ← List.getD_eq_getElem?_getD] at hj
    cases hj
    obtain ⟨b', off', e, hc'⟩ := (h.below ((Below.refl w.heap.size w).alloc (Nat.le_refl _) (Obj.cells (row (List.replicate n 0)).toArray 124)) (Nat.le_refl _)).2.2 (by omega)
    cases e
    have hcj := hc' j (by omega)
    rw [addr_add]; exact hcj
  case hfit => rw [row_length, row_length, List.length_take, List.length_replicate]; omega
  case h1 =>
    intro v hv
    simp only [row, List.mem_map] at hv
    obtain ⟨x, -, rfl⟩ := hv
    rfl
  case hb => exact (Below.refl _ _).alloc (Nat.le_refl _) _
  case hBg => exact Nat.le_refl _
  intro w1 hg1 hb1
  go_wp2_with fail
  go_ret
  refine ⟨w.heap.size, rfl, Nat.le_refl _, ?_, hb1⟩
  have e : splice (row (List.replicate n 0)) 0 (row (zs.take (usedN zs))) = row (zs.take (usedN zs) ++ List.replicate (n - usedN zs) 0) := by
    simp only [splice, row, List.take_zero, List.nil_append, Nat.zero_add, List.length_map, List.length_take, List.map_append, Nat.min_eq_left hu]
    rw [← List.map_drop, List.drop_replicate]
  have := hg1.out
  rw [e] at this
  exact this
end Go.Proofs.YtblafbbnplfpjaaGreatDoor
