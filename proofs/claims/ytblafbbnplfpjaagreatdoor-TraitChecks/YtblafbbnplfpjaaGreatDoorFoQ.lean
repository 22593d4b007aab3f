/-
  Conditions: how a list of nodes is read as a tree, and what a node comes to of what its kids came to.
-/
import Derived.Test.YtblafbbnplfpjaaGreatDoorFoP
namespace Go.Proofs.YtblafbbnplfpjaaGreatDoor
set_option linter.unusedVariables false
variable {W : List UInt8 → Bool}

theorem Fo.app_assoc : ∀ a b c : Fo, (a.app b).app c = a.app (b.app c)
  | .nil, b, c => rfl
  | .cons n k r, b, c => by simp only [Fo.app, Fo.app_assoc r b c]
theorem Fo.split : ∀ (a : Fo) (j : Nat), j ≤ a.len → ∃ x y : Fo, a = x.app y ∧ x.len = j
  | a, 0, _ => ⟨.nil, a, rfl, rfl⟩
  | .nil, j + 1, h => by simp [Fo.len] at h
  | .cons n k r, j + 1, h => by
    obtain ⟨x, y, rfl, hx⟩ := Fo.split r j (by simp [Fo.len] at h; omega)
    exact ⟨.cons n k x, y, rfl, by simp [Fo.len, hx]⟩
theorem Fo.Ok.left : ∀ {a b : Fo} {o : Int} {d : Nat}, (a.app b).Ok W o d → a.Ok W o d
  | .nil, _, _, _, _ => trivial
  | .cons n k r, b, o, d, h => ⟨h.1, Fo.Ok.left h.2⟩
theorem Fo.Ok.right : ∀ {a b : Fo} {o : Int} {d : Nat}, (a.app b).Ok W o d → b.Ok W o d
  | .nil, _, _, _, h => h
  | .cons n k r, b, o, d, h => Fo.Ok.right h.2
/-- No tree that may be there stands at the head of these nodes. -/
def NoTree (W : List UInt8 → Bool) (l : List Nd) (o : Int) (d : Nat) : Prop := ∀ n k r, l = (Fo.cons n k .nil).flat ++ r → ¬ (Fo.cons n k .nil).Ok W o d
theorem no_end (o : Int) (d : Nat) : NoTree W [] o d := by
  intro n k r h; simp [Fo.flat] at h
theorem no_deep (l : List Nd) (o : Int) (d : Nat) (hd : 16 < d) : NoTree W l o d := by
  intro n k r h ok; have := ok.1.2.2.1; omega
theorem no_node (n : Nd) (l : List Nd) (o : Int) (d : Nat) (hn : ¬ (NdOk W n ∧ ¬ (n.kd = o ∧ n.kd ≠ 3))) : NoTree W (n :: l) o d := by
  intro m k r h ok
  simp only [Fo.flat, List.cons_append, List.cons.injEq] at h
  obtain ⟨rfl, -⟩ := h
  exact hn ⟨ok.1.1, ok.1.2.1⟩
theorem no_kid {n : Nd} {l rest : List Nd} {o : Int} {d : Nat} {kj : Fo} (hk : kj.Ok W n.kd (d + 1)) (hl : l = kj.flat ++ rest) (hj : (kj.len : Int) < n.ks) (hno : NoTree W rest n.kd (d + 1)) : NoTree W (n :: l) o d := by
  intro m k r h ok
  simp only [Fo.flat, List.cons_append, List.cons.injEq, List.append_assoc, List.nil_append] at h
  obtain ⟨rfl, h⟩ := h
  obtain ⟨⟨-, -, -, hks, okk⟩, -⟩ := ok
  obtain ⟨x, y, rfl, hx⟩ := Fo.split k kj.len (by omega)
  rw [hl, Fo.flat_app, List.append_assoc] at h
  obtain ⟨rfl, h2⟩ := flat_inj kj x _ _ _ _ _ _ hk okk.left hx.symm h
  have oky := okk.right
  rw [Fo.len_app] at hks
  cases y with
  | nil => simp [Fo.len] at hks; omega
  | cons a b c => exact hno a b (c.flat ++ r) (by rw [h2]; simp [Fo.flat]) ⟨oky.1, trivial⟩
/-- What comes of the trees one by one: each made plain. -/
def Fo.fl (neg : Bool) : Fo → List (List Nd)
  | .nil => []
  | .cons n k r => ((Fo.cons n k .nil).plain neg).flat :: r.fl neg
theorem fl_len (neg : Bool) : ∀ a : Fo, (a.fl neg).length = a.len
  | .nil => rfl
  | .cons n k r => by simp only [Fo.fl, Fo.len, List.length_cons, fl_len neg r]
theorem plain_cons (n : Nd) (k r : Fo) (neg : Bool) : (Fo.cons n k r).plain neg = ((Fo.cons n k .nil).plain neg).app (r.plain neg) := by
  conv => lhs; unfold Fo.plain
  conv => rhs; lhs; unfold Fo.plain
  show _ = (Fo.app _ .nil).app _
  rw [Fo.app_nil]
/-- A list of trees put together under one node of the kind c: how many kids, which nodes. -/
def gatN (c : Int) : List (List Nd) → Int
  | [] => 0
  | l :: ls => (if (l.headD nd0).kd = c then (l.headD nd0).ks else 1) + gatN c ls
def gatL (c : Int) : List (List Nd) → List Nd
  | [] => []
  | l :: ls => (if (l.headD nd0).kd = c then l.tail else l) ++ gatL c ls
theorem gatN_app (c : Int) : ∀ a b : List (List Nd), gatN c (a ++ b) = gatN c a + gatN c b
  | [], b => by simp [gatN]
  | l :: ls, b => by simp only [List.cons_append, gatN, gatN_app c ls b]; omega
theorem gatL_app (c : Int) : ∀ a b : List (List Nd), gatL c (a ++ b) = gatL c a ++ gatL c b
  | [], b => rfl
  | l :: ls, b => by simp only [List.cons_append, gatL, gatL_app c ls b, List.append_assoc]
theorem gat_plain (c : Int) (neg : Bool) : ∀ (a : Fo) (o : Int) (d : Nat), a.Ok W o (d + neg.toNat) → gatN c (a.fl neg) = (((a.plain neg).melt c).len : Nat) ∧ gatL c (a.fl neg) = ((a.plain neg).melt c).flat
  | .nil, _, _, _ => ⟨rfl, rfl⟩
  | .cons n k r, o, d, h => by
    obtain ⟨i1, i2⟩ := gat_plain c neg r o d h.2
    have h1 : (Fo.cons n k .nil).Ok W o (d + neg.toNat) := ⟨h.1, trivial⟩
    have hl := plain_len _ neg _ _ h1
    have ho := plain_ok _ neg _ _ h1
    rw [plain_cons, Fo.melt_app]
    simp only [Fo.fl, gatN, gatL]
    match e : (Fo.cons n k .nil).plain neg, hl with
    | .cons m j .nil, _ =>
      rw [e] at ho
      have hks := ho.1.2.2.2.1
      rw [i1, i2, Fo.len_app, Fo.flat_app]
      simp only [Fo.flat, List.append_nil, List.headD_cons, List.tail_cons]
      by_cases hm : m.kd = c
      · simp only [hm, if_true, Fo.melt, Fo.app_nil]
        exact ⟨by rw [hks]; omega, trivial⟩
      · simp only [hm, if_false, Fo.melt, Fo.len, Fo.flat, List.append_nil]
        exact ⟨by omega, trivial⟩
/-- The two forms of a node, of the forms of its kids. -/
def frm (n : Nd) (ys ns : List (List Nd)) (neg : Bool) : List Nd :=
  if n.kd = 1 ∨ n.kd = 2 then ⟨if neg then 3 - n.kd else n.kd, gatN (if neg then 3 - n.kd else n.kd) (if neg then ns else ys), [], 0, 0, 0⟩ :: gatL (if neg then 3 - n.kd else n.kd) (if neg then ns else ys)
  else if n.kd = 3 then (if neg then ys else ns).headD []
  else if n.kd = 4 ∨ n.kd = 5 then (if neg then [ndN, n] else [n])
  else [if neg then { n with op := 5 - n.op } else n]
theorem frm_plain (n : Nd) (k : Fo) (neg : Bool) (o : Int) (d : Nat) (h : (Fo.cons n k .nil).Ok W o (d + 1)) : frm n (k.fl false) (k.fl true) neg = ((Fo.cons n k .nil).plain neg).flat := by
  obtain ⟨⟨hn, -, -, hk, ok⟩, -⟩ := h
  unfold frm
  unfold Fo.plain
  rw [show (Fo.nil.plain neg) = .nil from rfl, Fo.app_nil]
  split
  · have hf : (if neg = true then k.fl true else k.fl false) = k.fl neg := by cases neg <;> rfl
    rw [hf]
    obtain ⟨g1, g2⟩ := gat_plain (W := W) (if neg = true then 3 - n.kd else n.kd) neg k n.kd (d + 1) (ok.mono (by cases neg <;> simp))
    rw [g1, g2]; simp [Fo.flat]
  split
  · have h1 : n.ks = 1 := by rcases hn with ⟨h | h, -⟩ | ⟨-, h, -⟩ | ⟨h | h, -⟩ | ⟨h | h, -⟩ <;> omega
    have hf : (if neg = true then k.fl false else k.fl true) = k.fl (!neg) := by cases neg <;> rfl
    rw [hf]
    match k, hk with
    | .cons a b .nil, _ => rfl
    | .nil, hk => simp [Fo.len] at hk; omega
    | .cons a b (.cons _ _ _), hk => simp [Fo.len] at hk; omega
  split
  · cases neg <;> rfl
  · cases neg <;> rfl
theorem melt_size (c : Int) : ∀ a : Fo, (a.melt c).flat.length ≤ a.flat.length
  | .nil => by simp [Fo.melt]
  | .cons n k r => by
    have := melt_size c r
    unfold Fo.melt; split
    · rw [Fo.flat_app]; simp only [Fo.flat, List.length_append, List.length_cons]; omega
    · simp only [Fo.flat, List.length_append, List.length_cons]; omega
theorem plain_size : ∀ (a : Fo) (neg : Bool), (a.plain neg).flat.length ≤ 2 * a.flat.length
  | .nil, _ => by simp [Fo.plain, Fo.flat]
  | .cons n k r, neg => by
    have h1 := plain_size r neg
    have h2 := plain_size k neg
    have h3 := plain_size k (!neg)
    unfold Fo.plain
    rw [Fo.flat_app]
    simp only [Fo.flat, List.length_append, List.length_cons]
    split
    · have h4 := melt_size (if neg = true then 3 - n.kd else n.kd) (k.plain neg)
      simp only [Fo.flat, List.length_cons, List.append_nil]; omega
    split
    · omega
    split
    · split <;> simp [Fo.flat] <;> omega
    · simp [Fo.flat]; omega
theorem fl_ne (neg : Bool) : ∀ (a : Fo) (o : Int) (d : Nat), a.Ok W o d → ∀ l ∈ a.fl neg, l ≠ [] ∧ l.length ≤ 2 * a.flat.length
  | .nil, _, _, _, l, hl => by simp [Fo.fl] at hl
  | .cons n k r, o, d, h, l, hl => by
    simp only [Fo.fl, List.mem_cons] at hl
    rcases hl with rfl | hl
    · have h1 : (Fo.cons n k .nil).Ok W o d := ⟨h.1, trivial⟩
      have h2 := plain_len _ neg _ _ h1
      have h3 := plain_size (Fo.cons n k .nil) neg
      refine ⟨?_, ?_⟩
      · intro e
        have h4 := Fo.len_flat ((Fo.cons n k .nil).plain neg)
        rw [e, h2] at h4; simp [Fo.len] at h4
      · simp only [Fo.flat, List.length_append, List.length_cons, List.append_nil] at h3 ⊢; omega
    · obtain ⟨h1, h2⟩ := fl_ne neg r o d h.2 l hl
      refine ⟨h1, ?_⟩
      simp only [Fo.flat, List.length_append, List.length_cons]; omega
end Go.Proofs.YtblafbbnplfpjaaGreatDoor
