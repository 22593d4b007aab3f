/-
  The operations of a region in few signs: one that draws its order is taken (tj), the one that is ready is run (ry), two that are ready are run (rz).
-/
import Derived.WalkKit
import Derived.WalkSpells
import Derived.WalkSmall
import Derived.Deep.RegionHeld3
import Init.Omega
import Derived.Test.YtblafbbnplfpjaaGreatDoorRows
import Derived.Test.YtblafbbnplfpjaaGreatDoorShelf
import Derived.Laws.Externs
import Derived.Shelf.Spec.BitsCarry
import Derived.Lib.Strings
namespace Go.Proofs.YtblafbbnplfpjaaGreatDoor
open Go.RowKit
theorem tk {P : Program} {ops : Array Oper} {Q : Exit → Act → World → Prop} {md : Region.Mode} {S : World → Prop} (i : Nat) {oi : Oper} {v : Value} {fuel : Nat} {listed : Array Bool} {a : Act} {w : World}
    (h1 : ops[i]? = some oi) (hH : S w) (k : wpAnyH P md ops Q S fuel (listed.setIfInBounds i true) (a.put oi.dst v) w)
    (h2 : Region.noSelect ops = true := by kernel_rfl) (h3 : Region.free md ops listed i = true := by kernel_rfl) (h4 : (Region.ready md ops listed).contains i = true := by kernel_rfl)
    (h5 : ∀ c a w, Q (Exit.panic c) (a.put oi.dst v) w → Q (Exit.panic c) a w := by exact fun _ _ _ h => h)
    (h6 : YieldsIf P ops S oi v a := by exact Or.inl ⟨by rfl, by (intro W hSw; (try dsimp only at hSw); go_simp; all_goals (with_reducible rfl))⟩) :
    wpAnyH P md ops Q S (fuel + 1) listed a w := wpAnyH_take h1 h2 h3 h4 h5 h6 hH k
theorem tjz {P : Program} {ops : Array Oper} {Q : Exit → Act → World → Prop} {md : Region.Mode} {S : World → Prop} (i : Nat) {oi : Oper} {v : Value} {fuel : Nat} {listed : Array Bool} {a : Act} {w : World} {a' : Act} (hH : S w)
    (k : wpAnyH P md ops Q S fuel (listed.setIfInBounds i true) a' w)
    (h1 : ops[i]? = some oi := by rfl)
    (h2 : Region.noSelect ops = true := by kernel_rfl) (h3 : Region.free md ops listed i = true := by kernel_rfl) (h4 : (Region.ready md ops listed).contains i = true := by kernel_rfl)
    (h5 : ∀ c a w, Q (Exit.panic c) (a.put oi.dst v) w → Q (Exit.panic c) a w := by exact fun _ _ _ h => h)
    (h6 : YieldsIf P ops S oi v a := by exact Or.inl ⟨by rfl, by (intro W hSw; (try dsimp only at hSw); go_simp; all_goals (with_reducible rfl))⟩)
    (h8 : a.put oi.dst v = a' := by (simp only [List.getElem_toArray, List.getElem_cons_zero, List.getElem_cons_succ, Act.put, List.setIfInBounds_toArray, List.set_cons_zero, List.set_cons_succ]; exact rfl)) :
    wpAnyH P md ops Q S (fuel + 1) listed a w := by subst h8; exact wpAnyH_take h1 h2 h3 h4 h5 h6 hH k
theorem ryz {P : Program} {ops : Array Oper} {Q : Exit → Act → World → Prop} {md : Region.Mode} {S : World → Prop} (i : Nat) {o : Oper} {fuel : Nat} {listed : Array Bool} {a : Act} {w : World}
    (h : ∀ K' : Act → World → Prop, Shut (∀ a w, S w → (S w → wpAnyH P md ops Q S fuel (listed.setIfInBounds i true) a w) → K' a w) → if Region.wanted o (yielded ops a.tmps) = true then Oper.wp P o a w K' Q else K' (a.put o.dst undef) w)
    (ho : ops[i]? = some o := by rfl) (hr : Region.ready md ops listed = [i] := by kernel_rfl) :
    wpAnyH P md ops Q S (fuel + 1) listed a w := wpAnyH_ready hr (by simp) (AllReadyH.cons ho h AllReadyH.nil)
theorem tuz {P : Program} {ops : Array Oper} {Q : Exit → Act → World → Prop} {md : Region.Mode} {S : World → Prop} (i : Nat) (v : Value) {oi : Oper} {fuel : Nat} {listed : Array Bool} {a : Act} {w : World}
    (h1 : ops[i]? = some oi) (h6 : YieldsIf P ops S oi v a) (hH : S w) (k : wpAnyH P md ops Q S fuel (listed.setIfInBounds i true) (a.put oi.dst v) w)
    (h2 : Region.noSelect ops = true := by kernel_rfl) (h3 : Region.free md ops listed i = true := by kernel_rfl) (h4 : (Region.ready md ops listed).contains i = true := by kernel_rfl)
    (h5 : ∀ c a w, Q (Exit.panic c) (a.put oi.dst v) w → Q (Exit.panic c) a w := by exact fun _ _ _ h => h) :
    wpAnyH P md ops Q S (fuel + 1) listed a w := wpAnyH_take h1 h2 h3 h4 h5 h6 hH k
theorem apz {p q r : Prop} (f : p → q → r) (x : q) (h : p := by first | omega | assumption | (simp; omega)) : r := f h x
theorem dnz {P : Program} {md : Region.Mode} {ops : Array Oper} {Q : Exit → Act → World → Prop} {S : World → Prop} {listed : Array Bool} {a : Act} {w : World} {fuel : Nat} (h : Q .normal a w) (hr : Region.ready md ops listed = [] := by kernel_rfl) : wpAnyH P md ops (NoPanic Q) S fuel listed a w := wpAnyH_done hr (NoPanic.normal h) fuel
end Go.Proofs.YtblafbbnplfpjaaGreatDoor
namespace Go.Proofs.YtblafbbnplfpjaaGreatDoor
set_option linter.unusedVariables false

structure Nd where
  kd : Int
  ks : Int
  nm : List UInt8
  op : Int
  un : Int
  pl : Int
deriving DecidableEq
def nd0 : Nd := ⟨0, 0, [], 0, 0, 0⟩
def ndN : Nd := ⟨3, 1, [], 0, 0, 0⟩
inductive Fo where
  | nil : Fo
  | cons : Nd → Fo → Fo → Fo
def Fo.flat : Fo → List Nd
  | .nil => []
  | .cons n k r => n :: (k.flat ++ r.flat)
def Fo.len : Fo → Nat
  | .nil => 0
  | .cons _ _ r => r.len + 1
def Fo.app : Fo → Fo → Fo
  | .nil, b => b
  | .cons n k r, b => .cons n k (r.app b)
theorem Fo.app_nil : ∀ a : Fo, a.app .nil = a
  | .nil => rfl
  | .cons n k r => by simp only [Fo.app, Fo.app_nil r]
theorem Fo.flat_app : ∀ a b : Fo, (a.app b).flat = a.flat ++ b.flat
  | .nil, b => rfl
  | .cons n k r, b => by simp only [Fo.app, Fo.flat, Fo.flat_app r b, List.cons_append, List.append_assoc]
theorem Fo.len_app : ∀ a b : Fo, (a.app b).len = a.len + b.len
  | .nil, b => by simp [Fo.app, Fo.len]
  | .cons n k r, b => by simp only [Fo.app, Fo.len, Fo.len_app r b]; omega
theorem Fo.len_flat : ∀ a : Fo, a.len ≤ a.flat.length
  | .nil => by simp [Fo.len, Fo.flat]
  | .cons n k r => by have := Fo.len_flat r; simp only [Fo.len, Fo.flat, List.length_cons, List.length_append]; omega
theorem Fo.nil_of_len {a : Fo} (h : a.len = 0) : a = .nil := by
  cases a with
  | nil => rfl
  | cons n k r => simp [Fo.len] at h
def CanD (U P : Int) : Prop := 0 ≤ P ∧ P ≤ 9 ∧ (0 < P → U.tmod 10 ≠ 0)
def NdOk (W : List UInt8 → Bool) (n : Nd) : Prop :=
  ((n.kd = 1 ∨ n.kd = 2) ∧ 2 ≤ n.ks ∧ n.nm = [] ∧ n.op = 0 ∧ n.un = 0 ∧ n.pl = 0) ∨
  (n.kd = 3 ∧ n.ks = 1 ∧ n.nm = [] ∧ n.op = 0 ∧ n.un = 0 ∧ n.pl = 0) ∨
  ((n.kd = 4 ∨ n.kd = 5) ∧ n.ks = 0 ∧ W n.nm = true ∧ n.op = 0 ∧ n.un = 0 ∧ n.pl = 0) ∨
  ((n.kd = 6 ∨ n.kd = 7) ∧ n.ks = 0 ∧ n.nm = [] ∧ 1 ≤ n.op ∧ n.op ≤ 4 ∧ 0 ≤ n.un ∧ CanD n.un n.pl)
def Fo.Ok (W : List UInt8 → Bool) : Fo → Int → Nat → Prop
  | .nil, _, _ => True
  | .cons n k r, o, d => (NdOk W n ∧ ¬ (n.kd = o ∧ n.kd ≠ 3) ∧ d ≤ 16 ∧ n.ks = (k.len : Int) ∧ k.Ok W n.kd (d + 1)) ∧ r.Ok W o d
def Cond (W : List UInt8 → Bool) (l : List Nd) : Prop := l = [] ∨ (l.length ≤ 64 ∧ ∃ n k, l = (Fo.cons n k .nil).flat ∧ (Fo.cons n k .nil).Ok W 0 1)

variable {W : List UInt8 → Bool}
theorem flat_inj : ∀ (a b : Fo) (o o' : Int) (d d' : Nat) (x y : List Nd), a.Ok W o d → b.Ok W o' d' → a.len = b.len → a.flat ++ x = b.flat ++ y → a = b ∧ x = y
  | .nil, b, _, _, _, _, x, y, _, _, hl, h => by
    have e := Fo.nil_of_len (a := b) (by simpa [Fo.len] using hl.symm)
    subst e; exact ⟨rfl, by simpa [Fo.flat] using h⟩
  | .cons n k r, .nil, _, _, _, _, x, y, _, _, hl, h => by simp [Fo.len] at hl
  | .cons n k r, .cons m j q, o, o', d, d', x, y, ha, hb, hl, h => by
    simp only [Fo.flat, List.cons_append, List.cons.injEq, List.append_assoc] at h
    obtain ⟨rfl, h⟩ := h
    obtain ⟨⟨-, -, -, hk, ok⟩, or⟩ := ha
    obtain ⟨⟨-, -, -, hj, oj⟩, oq⟩ := hb
    obtain ⟨rfl, h2⟩ := flat_inj k j _ _ _ _ _ _ ok oj (by omega) h
    obtain ⟨rfl, h3⟩ := flat_inj r q _ _ _ _ _ _ or oq (by simp [Fo.len] at hl; exact hl) h2
    exact ⟨rfl, h3⟩
theorem Fo.Ok.app : ∀ {a b : Fo} {o : Int} {d : Nat}, a.Ok W o d → b.Ok W o d → (a.app b).Ok W o d
  | .nil, b, o, d, _, hb => hb
  | .cons n k r, b, o, d, ha, hb => ⟨ha.1, Fo.Ok.app ha.2 hb⟩
theorem Fo.Ok.mono : ∀ {a : Fo} {o : Int} {d d' : Nat}, d' ≤ d → a.Ok W o d → a.Ok W o d'
  | .nil, _, _, _, _, _ => trivial
  | .cons n k r, o, d, d', hd, h => ⟨⟨h.1.1, h.1.2.1, by have := h.1.2.2.1; omega, h.1.2.2.2.1, Fo.Ok.mono (by omega) h.1.2.2.2.2⟩, Fo.Ok.mono hd h.2⟩
def Fo.melt (c : Int) : Fo → Fo
  | .nil => .nil
  | .cons n k r => if n.kd = c then k.app (r.melt c) else .cons n k (r.melt c)
theorem kd_ne_zero {n : Nd} (h : NdOk W n) : n.kd ≠ 0 := by
  rcases h with ⟨h | h, _⟩ | ⟨h, _⟩ | ⟨h | h, _⟩ | ⟨h | h, _⟩ <;> omega
def Fo.plain : Fo → Bool → Fo
  | .nil, _ => .nil
  | .cons n k r, neg =>
    (if n.kd = 1 ∨ n.kd = 2 then
      .cons ⟨if neg then 3 - n.kd else n.kd, (((k.plain neg).melt (if neg then 3 - n.kd else n.kd)).len : Nat), [], 0, 0, 0⟩ ((k.plain neg).melt (if neg then 3 - n.kd else n.kd)) .nil
    else if n.kd = 3 then k.plain (!neg)
    else if n.kd = 4 ∨ n.kd = 5 then (if neg then .cons ndN (.cons n .nil .nil) .nil else .cons n .nil .nil)
    else .cons (if neg then { n with op := 5 - n.op } else n) .nil .nil).app (r.plain neg)
def Fo.Pf : Fo → Prop
  | .nil => True
  | .cons n k r => (n.kd = 3 → ∃ m, k = .cons m .nil .nil ∧ (m.kd = 4 ∨ m.kd = 5)) ∧ k.Pf ∧ r.Pf
theorem Fo.Pf.app : ∀ {a b : Fo}, a.Pf → b.Pf → (a.app b).Pf
  | .nil, b, _, hb => hb
  | .cons n k r, b, ha, hb => ⟨ha.1, ha.2.1, Fo.Pf.app ha.2.2 hb⟩
def Fo.ev (v : Nd → Bool) : Fo → List Bool
  | .nil => []
  | .cons n k r => (if n.kd = 1 then (k.ev v).any id else if n.kd = 2 then (k.ev v).all id else if n.kd = 3 then !((k.ev v).headD false) else v n) :: r.ev v
theorem ev_app (v : Nd → Bool) : ∀ a b : Fo, (a.app b).ev v = a.ev v ++ b.ev v
  | .nil, b => rfl
  | .cons n k r, b => by simp only [Fo.app, Fo.ev, ev_app v r b, List.cons_append]
theorem ev_len (v : Nd → Bool) : ∀ a : Fo, (a.ev v).length = a.len
  | .nil => rfl
  | .cons n k r => by simp only [Fo.ev, Fo.len, List.length_cons, ev_len v r]
end Go.Proofs.YtblafbbnplfpjaaGreatDoor
namespace Go.Proofs.YtblafbbnplfpjaaGreatDoor
set_option linter.unusedVariables false
variable {W : List UInt8 → Bool}

theorem Fo.app_assoc : ∀ a b c : Fo, (a.app b).app c = a.app (b.app c)
  | .nil, b, c => rfl
  | .cons n k r, b, c => by simp only [Fo.app, Fo.app_assoc r b c]
theorem Fo.split : ∀ (a : Fo) (j : Nat), j ≤ a.len → ∃ x y : Fo, a = x.app y ∧ x.len = j
  | a, 0, _ => ⟨.nil, a, rfl, rfl⟩
  | .nil, j + 1, h => by simp [Fo.len] at h
  | .cons n k r, j + 1, h => by
    obtain ⟨x, y, rfl, hx⟩ := Fo.split r j (by simp [Fo.len] at h; omega)
    exact ⟨.cons n k x, y, rfl, by simp [Fo.len, hx]⟩
theorem Fo.Ok.left : ∀ {a b : Fo} {o : Int} {d : Nat}, (a.app b).Ok W o d → a.Ok W o d
  | .nil, _, _, _, _ => trivial
  | .cons n k r, b, o, d, h => ⟨h.1, Fo.Ok.left h.2⟩
theorem Fo.Ok.right : ∀ {a b : Fo} {o : Int} {d : Nat}, (a.app b).Ok W o d → b.Ok W o d
  | .nil, _, _, _, h => h
  | .cons n k r, b, o, d, h => Fo.Ok.right h.2
def NoTree (W : List UInt8 → Bool) (l : List Nd) (o : Int) (d : Nat) : Prop := ∀ n k r, l = (Fo.cons n k .nil).flat ++ r → ¬ (Fo.cons n k .nil).Ok W o d
theorem no_end (o : Int) (d : Nat) : NoTree W [] o d := by
  intro n k r h; simp [Fo.flat] at h
theorem no_deep (l : List Nd) (o : Int) (d : Nat) (hd : 16 < d) : NoTree W l o d := by
  intro n k r h ok; have := ok.1.2.2.1; omega
theorem no_node (n : Nd) (l : List Nd) (o : Int) (d : Nat) (hn : ¬ (NdOk W n ∧ ¬ (n.kd = o ∧ n.kd ≠ 3))) : NoTree W (n :: l) o d := by
  intro m k r h ok
  simp only [Fo.flat, List.cons_append, List.cons.injEq] at h
  obtain ⟨rfl, -⟩ := h
  exact hn ⟨ok.1.1, ok.1.2.1⟩
theorem no_kid {n : Nd} {l rest : List Nd} {o : Int} {d : Nat} {kj : Fo} (hk : kj.Ok W n.kd (d + 1)) (hl : l = kj.flat ++ rest) (hj : (kj.len : Int) < n.ks) (hno : NoTree W rest n.kd (d + 1)) : NoTree W (n :: l) o d := by
  intro m k r h ok
  simp only [Fo.flat, List.cons_append, List.cons.injEq, List.append_assoc, List.nil_append] at h
  obtain ⟨rfl, h⟩ := h
  obtain ⟨⟨-, -, -, hks, okk⟩, -⟩ := ok
  obtain ⟨x, y, rfl, hx⟩ := Fo.split k kj.len (by omega)
  rw [hl, Fo.flat_app, List.append_assoc] at h
  obtain ⟨rfl, h2⟩ := flat_inj kj x _ _ _ _ _ _ hk okk.left hx.symm h
  have oky := okk.right
  rw [Fo.len_app] at hks
  cases y with
  | nil => simp [Fo.len] at hks; omega
  | cons a b c => exact hno a b (c.flat ++ r) (by rw [h2]; simp [Fo.flat]) ⟨oky.1, trivial⟩
end Go.Proofs.YtblafbbnplfpjaaGreatDoor
namespace Go.Proofs.YtblafbbnplfpjaaGreatDoor
set_option linter.unusedVariables false

def sm (c : UInt8) : Bool := decide (97 ≤ c.toNat) && decide (c.toNat ≤ 122)
def cp (c : UInt8) : Bool := decide (65 ≤ c.toNat) && decide (c.toNat ≤ 90)
def dg (c : UInt8) : Bool := decide (48 ≤ c.toNat) && decide (c.toNat ≤ 57)
def ip (c : UInt8) : Bool := sm c || dg c || c == 95
def rn (p : UInt8 → Bool) : List UInt8 → Nat
  | [] => 0
  | c :: t => if p c then rn p t + 1 else 0
theorem rn_le (p : UInt8 → Bool) : ∀ s, rn p s ≤ s.length
  | [] => Nat.le_refl _
  | c :: t => by
    have := rn_le p t
    unfold rn
    split <;> simp <;> omega
def pt : List UInt8 → Nat
  | [] => 0
  | c :: t => if sm c then rn ip (c :: t) else 0
theorem pt_cons (c : UInt8) (t : List UInt8) : pt (c :: t) = if sm c then rn ip (c :: t) else 0 := rfl
theorem pt_le (s : List UInt8) : pt s ≤ s.length := by
  cases s with
  | nil => exact Nat.le_refl _
  | cons c t =>
    rw [pt_cons]
    split
    · exact rn_le _ _
    · exact Nat.zero_le _
theorem sm_ip {c : UInt8} (h : sm c = true) : ip c = true := by simp [ip, h]
def wt : Nat → List UInt8 → Nat
  | 0, _ => 0
  | _ + 1, [] => 0
  | f + 1, c :: t => if c = 46 ∧ pt t ≠ 0 then 1 + pt t + wt f (t.drop (pt t)) else 0
def wq (s : List UInt8) : Nat := wt s.length s
def wl (s : List UInt8) : Nat := pt s + wq (s.drop (pt s))
def nl (s : List UInt8) : Nat := match s.drop (rn dg s) with
  | [] => rn dg s
  | c :: t => if c = 46 ∧ rn dg t ≠ 0 then rn dg s + 1 + rn dg t else rn dg s
def dtB : List UInt8 → Bool
  | a :: b :: c :: d :: e :: f :: g :: h :: i :: j :: _ => dg a && dg b && dg c && dg d && (e == 45) && dg f && dg g && (h == 45) && dg i && dg j
  | _ => false
def cdB : List UInt8 → Bool
  | a :: b :: c :: _ => cp a && cp b && cp c
  | _ => false
def mkL : List UInt8 → Nat
  | [] => 0
  | c :: t => if c = 60 ∨ c = 62 then (match t with | [] => 1 | d :: _ => if d = 61 then 2 else 1) else if c = 59 ∨ c = 44 ∨ c = 40 ∨ c = 41 ∨ c = 37 then 1 else 0
def lx : List UInt8 → Nat × Nat
  | [] => (5, 0)
  | c :: t => if sm c then (1, wl (c :: t)) else if cdB (c :: t) then (2, 3) else if dtB (c :: t) then (4, 10) else if dg c then (3, nl (c :: t)) else (5, mkL (c :: t))
def gs : List UInt8 → Bool
  | [] => false
  | c :: _ => cp c || ip c || c == 46
structure Tk where
  kd : Nat
  tx : List UInt8
  ln : Nat
  co : Nat
inductive Cr
  | ok (ts : List Tk)
  | no (l c : Nat)
def Cr.pre (a : List Tk) : Cr → Cr
  | .ok ts => .ok (a ++ ts)
  | .no l c => .no l c
def rm (s : List UInt8) : Nat := rn (fun c => c != 10) s
def bad (s : List UInt8) : Bool := (lx s).2 == 0 || ((lx s).1 != 5 && gs (s.drop (lx s).2))
def ct : Nat → List UInt8 → Nat → Nat → Cr
  | 0, _, l, c => .ok [⟨0, [], l, c⟩]
  | _ + 1, [], l, c => .ok [⟨0, [], l, c⟩]
  | f + 1, b :: t, l, c =>
    if b = 10 then ct f t (l + 1) 1
    else if b = 32 ∨ b = 9 ∨ b = 13 then ct f t l (c + 1)
    else if b = 35 then ct f (t.drop (rm t)) l (c + 1 + rm t)
    else if bad (b :: t) = true then .no l c
    else Cr.pre [⟨(lx (b :: t)).1, (b :: t).take (lx (b :: t)).2, l, c⟩] (ct f ((b :: t).drop (lx (b :: t)).2) l (c + (lx (b :: t)).2))
def cu (s : List UInt8) (l c : Nat) : Cr := ct s.length s l c
end Go.Proofs.YtblafbbnplfpjaaGreatDoor
namespace Go.Proofs.YtblafbbnplfpjaaGreatDoor

def num : List Int → Int
  | [] => 0
  | z :: r => z + 18446744073709551616 * num r

def pw : Nat → Int
  | 0 => 1
  | n + 1 => 18446744073709551616 * pw n

def Limbs (zs : List Int) : Prop := ∀ z ∈ zs, 0 ≤ z ∧ z < 18446744073709551616

def usedN : List Int → Nat
  | [] => 0
  | z :: r => if usedN r = 0 then (if z = 0 then 0 else 1) else usedN r + 1

theorem pw_pos : ∀ n, 0 < pw n
  | 0 => by decide
  | n + 1 => by have := pw_pos n; simp only [pw]; omega
theorem pw_add : ∀ m n, pw (m + n) = pw m * pw n
  | 0, n => by simp [pw]
  | m + 1, n => by rw [Nat.add_right_comm, pw, pw, pw_add m n, Int.mul_assoc]
theorem pw_mono {m n : Nat} (h : m ≤ n) : pw m ≤ pw n := by
  obtain ⟨k, rfl⟩ := Nat.exists_eq_add_of_le h
  rw [pw_add]
  have h1 := pw_pos m; have h2 := pw_pos k
  have : pw m * 1 ≤ pw m * pw k := Int.mul_le_mul_of_nonneg_left (by omega) (by omega)
  omega

theorem Limbs.tail {z : Int} {r : List Int} (h : Limbs (z :: r)) : Limbs r := fun x hx => h x (List.mem_cons_of_mem _ hx)
theorem Limbs.head {z : Int} {r : List Int} (h : Limbs (z :: r)) : 0 ≤ z ∧ z < 18446744073709551616 := h z (List.mem_cons_self ..)
theorem Limbs.getD {zs : List Int} (h : Limbs zs) (i : Nat) : 0 ≤ zs.getD i 0 ∧ zs.getD i 0 < 18446744073709551616 := by
  rw [List.getD_eq_getElem?_getD]
  rcases Nat.lt_or_ge i zs.length with hi | hi
  · rw [List.getElem?_eq_getElem hi]; exact h _ (List.getElem_mem hi)
  · rw [List.getElem?_eq_none hi]; decide
theorem Limbs.take {zs : List Int} (h : Limbs zs) (n : Nat) : Limbs (zs.take n) := fun x hx => h x (List.mem_of_mem_take hx)
theorem Limbs.drop {zs : List Int} (h : Limbs zs) (n : Nat) : Limbs (zs.drop n) := fun x hx => h x (List.mem_of_mem_drop hx)
theorem Limbs.append {a b : List Int} (h : Limbs a) (k : Limbs b) : Limbs (a ++ b) := fun x hx => by
  rcases List.mem_append.1 hx with h' | h'
  · exact h x h'
  · exact k x h'
theorem Limbs.set {zs : List Int} (h : Limbs zs) (i : Nat) {v : Int} (hv : 0 ≤ v ∧ v < 18446744073709551616) : Limbs (zs.set i v) := fun x hx => by
  rcases List.mem_or_eq_of_mem_set hx with h' | h'
  · exact h x h'
  · rw [h']; exact hv
theorem Limbs.zeros (n : Nat) : Limbs (List.replicate n 0) := fun x hx => by
  rw [List.eq_of_mem_replicate hx]; decide
theorem Limbs.nil : Limbs [] := fun _ hx => by cases hx

theorem num_nonneg : ∀ {zs : List Int}, Limbs zs → 0 ≤ num zs
  | [], _ => by decide
  | z :: r, h => by
    have h1 := num_nonneg h.tail; have h2 := h.head
    simp only [num]; omega
theorem num_lt : ∀ {zs : List Int}, Limbs zs → num zs < pw zs.length
  | [], _ => by decide
  | z :: r, h => by
    have h1 := num_lt h.tail; have h2 := h.head
    simp only [num, List.length_cons, pw]; omega

theorem num_append : ∀ (a b : List Int), num (a ++ b) = num a + num b * pw a.length
  | [], b => by simp [num, pw]
  | z :: r, b => by
    simp only [List.cons_append, num, List.length_cons, pw, num_append r b]
    rw [Int.mul_add, Int.mul_left_comm (num b), Int.add_assoc]
theorem num_zeros (n : Nat) : num (List.replicate n 0) = 0 := by
  induction n with
  | zero => rfl
  | succ n ih => simp only [List.replicate_succ, num, ih]; decide
theorem num_snoc (a : List Int) (z : Int) : num (a ++ [z]) = num a + z * pw a.length := by
  rw [num_append]; simp [num]
theorem num_take_succ (zs : List Int) (k : Nat) : num (zs.take (k + 1)) = num (zs.take k) + zs.getD k 0 * pw k := by
  rcases Nat.lt_or_ge k zs.length with h | h
  · rw [List.take_succ_eq_append_getElem h, num_snoc, List.length_take, Nat.min_eq_left (by omega), List.getD_eq_getElem?_getD, List.getElem?_eq_getElem h]; rfl
  · rw [List.take_of_length_le (by omega), List.take_of_length_le h, List.getD_eq_getElem?_getD, List.getElem?_eq_none h]; simp
theorem num_take_drop (zs : List Int) (k : Nat) (h : k ≤ zs.length) : num zs = num (zs.take k) + num (zs.drop k) * pw k := by
  have := num_append (zs.take k) (zs.drop k)
  rw [List.take_append_drop, List.length_take, Nat.min_eq_left h] at this; exact this

theorem usedN_le : ∀ zs : List Int, usedN zs ≤ zs.length
  | [] => Nat.le_refl _
  | z :: r => by have := usedN_le r; simp only [usedN, List.length_cons]; split <;> (try split) <;> omega
theorem usedN_beyond : ∀ (zs : List Int) (i : Nat), usedN zs ≤ i → zs.getD i 0 = 0
  | [], i, _ => by simp
  | z :: r, i, h => by
    have ih := usedN_beyond r
    simp only [usedN] at h
    cases i with
    | zero => split at h <;> (try split at h) <;> simp_all
    | succ i =>
      simp only [List.getD_cons_succ]
      apply ih
      split at h <;> (try split at h) <;> omega
theorem usedN_top : ∀ (zs : List Int), 0 < usedN zs → zs.getD (usedN zs - 1) 0 ≠ 0
  | [], h => by simp [usedN] at h
  | z :: r, h => by
    have ih := usedN_top r
    simp only [usedN] at h ⊢
    by_cases h0 : usedN r = 0
    · by_cases hz : z = 0
      · simp [h0, hz] at h
      · simp [h0, hz]
    · rw [if_neg h0]
      have : usedN r + 1 - 1 = (usedN r - 1) + 1 := by omega
      rw [this, List.getD_cons_succ]
      exact ih (by omega)
theorem usedN_eq {zs : List Int} {u : Nat} (_hu : u ≤ zs.length) (h1 : ∀ i, u ≤ i → i < zs.length → zs.getD i 0 = 0) (h2 : u = 0 ∨ zs.getD (u - 1) 0 ≠ 0) : usedN zs = u := by
  have a := usedN_beyond zs; have b := usedN_top zs; have c := usedN_le zs
  rcases Nat.lt_trichotomy (usedN zs) u with h | h | h
  · rcases h2 with h2 | h2
    · omega
    · exact absurd (a (u - 1) (by omega)) h2
  · exact h
  · exact absurd (h1 (usedN zs - 1) (by omega) (by omega)) (b (by omega))

theorem num_take_of_zeros {zs : List Int} {u : Nat} (h : ∀ i, u ≤ i → zs.getD i 0 = 0) : ∀ k, num (zs.take (u + k)) = num (zs.take u)
  | 0 => rfl
  | k + 1 => by rw [← Nat.add_assoc, num_take_succ, h (u + k) (by omega), num_take_of_zeros h k]; simp
theorem num_take_used (zs : List Int) {n : Nat} (h : usedN zs ≤ n) : num (zs.take n) = num zs := by
  have e := num_take_of_zeros (zs := zs) (u := usedN zs) (usedN_beyond zs)
  have a := e (n - usedN zs); have b := e (zs.length - usedN zs)
  have c := usedN_le zs
  rw [Nat.add_sub_cancel' h] at a
  rw [Nat.add_sub_cancel' c, List.take_of_length_le (Nat.le_refl _)] at b
  rw [a, b]
theorem num_lt_used {zs : List Int} (h : Limbs zs) : num zs < pw (usedN zs) := by
  have := num_lt (h.take (usedN zs))
  rw [num_take_used zs (Nat.le_refl _), List.length_take, Nat.min_eq_left (usedN_le zs)] at this; exact this
theorem num_ge_used {zs : List Int} (h : Limbs zs) (hu : 0 < usedN zs) : pw (usedN zs - 1) ≤ num zs := by
  have e := num_take_succ zs (usedN zs - 1)
  rw [Nat.sub_add_cancel hu, num_take_used zs (Nat.le_refl _)] at e
  have h1 := num_nonneg (h.take (usedN zs - 1))
  have h2 := usedN_top zs hu
  have h3 := h.getD (usedN zs - 1)
  have h4 := pw_pos (usedN zs - 1)
  have : 1 * pw (usedN zs - 1) ≤ zs.getD (usedN zs - 1) 0 * pw (usedN zs - 1) := Int.mul_le_mul_of_nonneg_right (by omega) (by omega)
  omega
theorem num_eq_zero {zs : List Int} (h : Limbs zs) : num zs = 0 ↔ usedN zs = 0 := by
  constructor
  · intro e
    rcases Nat.eq_zero_or_pos (usedN zs) with h0 | h0
    · exact h0
    · have := num_ge_used h h0; have := pw_pos (usedN zs - 1); omega
  · intro e
    rw [← num_take_used zs (Nat.le_refl _), e]; rfl

theorem usedN_take (zs : List Int) {n : Nat} (h : usedN zs ≤ n) : usedN (zs.take n) = usedN zs := by
  have c := usedN_le zs
  refine usedN_eq (by rw [List.length_take]; omega) (fun i h1 h2 => ?_) ?_
  · rw [List.length_take] at h2
    rw [List.getD_eq_getElem?_getD, List.getElem?_take_of_lt (by omega), ← List.getD_eq_getElem?_getD]; exact usedN_beyond zs i h1
  · rcases Nat.eq_zero_or_pos (usedN zs) with h0 | h0
    · exact .inl h0
    · right
      rw [List.getD_eq_getElem?_getD, List.getElem?_take_of_lt (by omega), ← List.getD_eq_getElem?_getD]; exact usedN_top zs h0

theorem num_inj : ∀ {a b : List Int}, Limbs a → Limbs b → a.length = b.length → num a = num b → a = b
  | [], [], _, _, _, _ => rfl
  | [], _ :: _, _, _, h, _ => by simp at h
  | _ :: _, [], _, _, h, _ => by simp at h
  | x :: r, y :: s, ha, hb, h, e => by
    simp only [num] at e
    have h1 := ha.head; have h2 := hb.head
    have : x = y := by omega
    subst this
    rw [num_inj ha.tail hb.tail (by simpa using h) (by omega)]
theorem used_of_num {a b : List Int} (ha : Limbs a) (hb : Limbs b) (e : num a = num b) : usedN a = usedN b := by
  rcases Nat.lt_trichotomy (usedN a) (usedN b) with h | h | h
  · have h1 := num_lt_used ha; have h2 := num_ge_used hb (by omega)
    have := pw_mono (show usedN a ≤ usedN b - 1 by omega); omega
  · exact h
  · have h1 := num_lt_used hb; have h2 := num_ge_used ha (by omega)
    have := pw_mono (show usedN b ≤ usedN a - 1 by omega); omega
theorem trim_eq {a b : List Int} (ha : Limbs a) (hb : Limbs b) (e : num a = num b) : a.take (usedN a) = b.take (usedN b) := by
  have h := used_of_num ha hb e
  refine num_inj (ha.take _) (hb.take _) ?_ ?_
  · have := usedN_le a; have := usedN_le b
    rw [List.length_take, List.length_take]; omega
  · rw [num_take_used a (Nat.le_refl _), num_take_used b (Nat.le_refl _), e]

theorem getD_set_other (zs : List Int) (i j : Nat) (v : Int) (h : i ≠ j) : (zs.set i v).getD j 0 = zs.getD j 0 := by
  rw [List.getD_eq_getElem?_getD, List.getElem?_set_ne h, ← List.getD_eq_getElem?_getD]
theorem num_set_take (zs : List Int) (i : Nat) (v : Int) (h : i < zs.length) : num ((zs.set i v).take (i + 1)) = num (zs.take i) + v * pw i := by
  rw [num_take_succ, List.take_set_of_le (Nat.le_refl _), List.getD_eq_getElem?_getD, List.getElem?_set_self h]; rfl
theorem carry_step {v c' s p : Int} (h : v + 18446744073709551616 * c' = s) : v * p + c' * (18446744073709551616 * p) = s * p := by
  rw [← h, Int.add_mul, Int.mul_comm 18446744073709551616 c', Int.mul_assoc]
end Go.Proofs.YtblafbbnplfpjaaGreatDoor

namespace Go.Proofs.YtblafbbnplfpjaaGreatDoor
theorem getD_used (xs : List Int) (j : Nat) : (xs.take (usedN xs)).getD j 0 = xs.getD j 0 := by
  rcases Nat.lt_or_ge j (usedN xs) with h | h
  · rw [List.getD_eq_getElem?_getD, List.getElem?_take_of_lt h, ← List.getD_eq_getElem?_getD]
  · rw [usedN_beyond xs j h, List.getD_eq_getElem?_getD, List.getElem?_eq_none (by rw [List.length_take]; omega)]; rfl
theorem wide_length (xs : List Int) (n : Nat) (h : usedN xs ≤ n) : (xs.take (usedN xs) ++ List.replicate (n - usedN xs) 0).length = n := by
  have := usedN_le xs
  rw [List.length_append, List.length_take, List.length_replicate]; omega
theorem wide_getD (xs : List Int) (n j : Nat) : (xs.take (usedN xs) ++ List.replicate (n - usedN xs) 0).getD j 0 = xs.getD j 0 := by
  have hu := usedN_le xs
  rw [← getD_used xs, List.getD_eq_getElem?_getD, List.getD_eq_getElem?_getD]
  rcases Nat.lt_or_ge j (xs.take (usedN xs)).length with h | h
  · rw [List.getElem?_append_left h]
  · rw [List.getElem?_append_right h, List.getElem?_eq_none h, List.getElem?_replicate]; split <;> rfl
theorem wide_limbs {xs : List Int} (h : Limbs xs) (n : Nat) : Limbs (xs.take (usedN xs) ++ List.replicate (n - usedN xs) 0) := (h.take _).append (Limbs.zeros _)
theorem getD_take_lt (zs : List Int) (k j : Nat) (h : j < k) : (zs.take k).getD j 0 = zs.getD j 0 := by
  rw [List.getD_eq_getElem?_getD, List.getElem?_take_of_lt h, ← List.getD_eq_getElem?_getD]
theorem num_drop_at (zs : List Int) (t : Nat) (h : t < zs.length) : num (zs.drop t) = zs.getD t 0 + 18446744073709551616 * num (zs.drop (t + 1)) := by
  rw [List.drop_eq_getElem_cons h, num, List.getD_eq_getElem?_getD, List.getElem?_eq_getElem h]; rfl
theorem num_set_drop (zs : List Int) (t : Nat) (v : Int) (h : t < zs.length) : num ((zs.set t v).drop t) = v + 18446744073709551616 * num (zs.drop (t + 1)) := by
  rw [num_drop_at _ _ (by rw [List.length_set]; exact h), List.getD_eq_getElem?_getD, List.getElem?_set_self h, List.drop_set_of_lt (by omega)]; rfl
end Go.Proofs.YtblafbbnplfpjaaGreatDoor

namespace Go.Proofs.YtblafbbnplfpjaaGreatDoor
open Go.RowKit Go.Shelf

def Word (x : Int) : Prop := 0 ≤ x ∧ x < 18446744073709551616
theorem word_mod (x : Int) : Word (x % 18446744073709551616) := ⟨by omega, by omega⟩

theorem add64_0 (x y : Int) (hx : 0 ≤ x) (hy : 0 ≤ y) (w : World) : (callFunc 211 #[.int .u64 x, .int .u64 y, .int .u64 0]).run Tryz.prog w =
    .ok (.value (.tuple #[.int .u64 ((x + y) % 18446744073709551616), .int .u64 ((x + y) / 18446744073709551616)])) w := by
  obtain ⟨x, rfl⟩ := Int.eq_ofNat_of_zero_le hx
  obtain ⟨y, rfl⟩ := Int.eq_ofNat_of_zero_le hy
  rw [run_callFunc_extern Tryz.func211 (by kernel_rfl) (by kernel_rfl) (by kernel_rfl) (e := add64Entry) (by kernel_rfl), run_add64 _ _ _ hx hy (by decide) (by decide)]
  simp only [Result.andThen]
  congr 5 <;> omega

def bor (x y : Int) : Int := if x < y then 1 else 0
theorem bor_01 (x y : Int) : 0 ≤ bor x y ∧ bor x y ≤ 1 := by unfold bor; split <;> omega

theorem sub64_0 (x y : Int) (hx : 0 ≤ x) (hy : 0 ≤ y) (hy' : y < 18446744073709551616) (w : World) : (callFunc 212 #[.int .u64 x, .int .u64 y, .int .u64 0]).run Tryz.prog w =
    .ok (.value (.tuple #[.int .u64 ((x - y) % 18446744073709551616), .int .u64 (bor x y)])) w := by
  obtain ⟨x, rfl⟩ := Int.eq_ofNat_of_zero_le hx
  obtain ⟨y, rfl⟩ := Int.eq_ofNat_of_zero_le hy
  have e1 : (((x + 18446744073709551616 - y - 0) % 18446744073709551616 : Nat) : Int) = ((x : Int) - y) % 18446744073709551616 := by omega
  have e2 : ((if x < y + 0 then 1 else 0 : Nat) : Int) = bor (x : Int) y := by unfold bor; split <;> split <;> omega
  rw [← e1, ← e2]
  rw [run_callFunc_extern Tryz.func212 (by kernel_rfl) (by kernel_rfl) (by kernel_rfl) (e := sub64Entry) (by kernel_rfl)]
  have h := run_sub64 (P := Tryz.prog) x y 0 (by omega) w
  simp only [Int.cast_ofNat_Int] at h
  rw [h]
  rfl

theorem ret_two {k l : IntKind} {a b c d : Int} (h : a = c) (h' : b = d) : Ending.returned (.tuple #[.int k a, .int l b]) = .returned (.tuple #[.int k c, .int l d]) := by rw [h, h']

theorem add_any (a b c : Int) (ha : Word a) (hb : Word b) (hc : Word c) (w : World) :
    Calls Tryz.prog 203 #[.int .u64 a, .int .u64 b, .int .u64 c] w fun e w' =>
      e = .returned (.tuple #[.int .u64 ((a + b + c) % 18446744073709551616), .int .u64 ((a + b + c) / 18446744073709551616)]) ∧ w' = w := by
  obtain ⟨a1, a2⟩ := ha; obtain ⟨b1, b2⟩ := hb; obtain ⟨c1, c2⟩ := hc
  have k0 : 0 ≤ (a + b) % 18446744073709551616 := by omega
  go_enter Tryz.func203, Tryz.ntmps203
  go_wp2_with (first | simp only [add64_0 a b a1 b1] | simp only [add64_0 _ c k0 c1])
  go_ret2
  have e2 : (a + b) / 18446744073709551616 + ((a + b) % 18446744073709551616 + c) / 18446744073709551616 = (a + b + c) / 18446744073709551616 := by omega
  exact ⟨ret_two rfl e2, rfl⟩

theorem sub_any (a b c : Int) (ha : Word a) (hb : Word b) (hc : Word c) (w : World) :
    Calls Tryz.prog 206 #[.int .u64 a, .int .u64 b, .int .u64 c] w fun e w' =>
      e = .returned (.tuple #[.int .u64 ((a - b - c) % 18446744073709551616), .int .u64 (-((a - b - c) / 18446744073709551616))]) ∧ w' = w := by
  obtain ⟨a1, a2⟩ := ha; obtain ⟨b1, b2⟩ := hb; obtain ⟨c1, c2⟩ := hc
  have k0 : 0 ≤ (a - b) % 18446744073709551616 := by omega
  obtain ⟨j0, j1⟩ := bor_01 a b
  obtain ⟨l0, l1⟩ := bor_01 ((a - b) % 18446744073709551616) c
  go_enter Tryz.func206, Tryz.ntmps206
  go_wp2_with (first | simp only [sub64_0 a b a1 b1 b2] | simp only [sub64_0 _ c k0 c1 c2])
  go_ret2
  have e1 : ((a - b) % 18446744073709551616 - c) % 18446744073709551616 = (a - b - c) % 18446744073709551616 := by omega
  have e2 : bor a b + bor ((a - b) % 18446744073709551616) c = -((a - b - c) / 18446744073709551616) := by
    unfold bor; split <;> split <;> omega
  first
    | exact ⟨ret_two rfl e2, rfl⟩
    | exact ⟨ret_two e1 e2, rfl⟩

theorem mul64_any (a b : Int) (ha : Word a) (hb : Word b) (w : World) : Calls Tryz.prog 210 #[.int .u64 a, .int .u64 b] w fun e w' =>
      e = .returned (.tuple #[.int .u64 (a * b / 18446744073709551616), .int .u64 (a * b % 18446744073709551616)]) ∧ w' = w := by
  obtain ⟨a1, a2⟩ := ha; obtain ⟨b1, b2⟩ := hb
  obtain ⟨a, rfl⟩ := Int.eq_ofNat_of_zero_le a1
  obtain ⟨b, rfl⟩ := Int.eq_ofNat_of_zero_le b1
  have h := Tryz.bits_Mul64 a b (by omega) (by omega) w
  simpa using h

theorem mul_any (a b : Int) (ha : Word a) (hb : Word b) (w : World) :
    Calls Tryz.prog 202 #[.int .u64 a, .int .u64 b] w fun e w' =>
      e = .returned (.tuple #[.int .u64 (a * b / 18446744073709551616), .int .u64 (a * b % 18446744073709551616)]) ∧ w' = w := by
  go_enter Tryz.func202, Tryz.ntmps202
  go_wp2_with fail
  refine (mul64_any a b ha hb _).mono ?_
  rintro e w' ⟨rfl, rfl⟩
  go_wp2_with fail
  go_ret2
  exact ⟨rfl, rfl⟩
end Go.Proofs.YtblafbbnplfpjaaGreatDoor
namespace Go.Proofs.YtblafbbnplfpjaaGreatDoor
theorem gA {α : Type} {xs : List α} {i : Nat} (h : i < xs.toArray.size) : xs.toArray[i] = xs[i] := List.getElem_toArray h
theorem gB {α : Type} (a : α) (l : List α) (h : 0 < (a :: l).length) : (a :: l)[0] = a := List.getElem_cons_zero a l h
theorem gC {α : Type} (a : α) (l : List α) (i : Nat) (h : i + 1 < (a :: l).length) : (a :: l)[i + 1] = l[i]'(Nat.lt_of_succ_lt_succ h) := List.getElem_cons_succ a l i h
theorem gD {α : Type} (l : List α) (i : Nat) (a : α) : l.toArray.setIfInBounds i a = (l.set i a).toArray := List.setIfInBounds_toArray l i a
theorem gE {α : Type} {x : α} {xs : List α} {a : α} : (x :: xs).set 0 a = a :: xs := List.set_cons_zero
theorem gF {α : Type} {x : α} {xs : List α} {i : Nat} {a : α} : (x :: xs).set (i + 1) a = x :: xs.set i a := List.set_cons_succ
end Go.Proofs.YtblafbbnplfpjaaGreatDoor
namespace Go.Proofs.YtblafbbnplfpjaaGreatDoor
open Go.RowKit Go.Shelf
set_option linter.unusedVariables false

theorem bsize (l : List UInt8) : (ByteArray.mk l.toArray).size = l.length := by rw [Go.Lib.size_eq]
theorem slice_hi (l : List UInt8) (h : Int) (n : Nat) (e : h = n) (hn : n ≤ l.length) (W : World) : (Instr.sliceAt 9 (.string ⟨l.toArray⟩) none (some (.int .i64 h)) none).run Tryz.prog W = .ok (.string ⟨(l.take n).toArray⟩) W := by
  subst e
  have hb := bsize l
  have h1 : (n : Int) ≤ ((ByteArray.mk l.toArray).size : Int) := by omega
  rw [run_sliceAt_string _ _ _ _ _ _ Tryz.underlying9]
  simp [Instr.slice, run_underlying Tryz.underlying9, Instr.sliceBounds, run_sliceBound, h1, Go.Lib.extract_eq]
theorem slice_lo (l : List UInt8) (h : Int) (n : Nat) (e : h = n) (hn : n ≤ l.length) (W : World) : (Instr.sliceAt 9 (.string ⟨l.toArray⟩) (some (.int .i64 h)) none none).run Tryz.prog W = .ok (.string ⟨(l.drop n).toArray⟩) W := by
  subst e
  have hb := bsize l
  have h1 : (n : Int) ≤ ((ByteArray.mk l.toArray).size : Int) := by omega
  rw [run_sliceAt_string _ _ _ _ _ _ Tryz.underlying9]
  simp [Instr.slice, run_underlying Tryz.underlying9, Instr.sliceBounds, run_sliceBound, h1, Go.Lib.extract_eq]
  rw [hb, List.take_of_length_le (by simp)]
end Go.Proofs.YtblafbbnplfpjaaGreatDoor
