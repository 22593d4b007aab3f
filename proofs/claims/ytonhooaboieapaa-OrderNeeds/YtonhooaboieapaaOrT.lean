/-
  The search for knots: nodes that are open, in segments, each a node on the way down and those that lead back to it. Plain Lean.
-/
import Derived.Test.YtonhooaboieapaaOrP
namespace Go.Proofs.Ytonhooaboieapaa
set_option linter.unusedVariables false
variable {R : Nat → Nat → Prop}
/-- It leads there. -/
def Rt (R : Nat → Nat → Prop) (x y : Nat) : Prop := ∃ j, Wk R j x y
theorem Rt.refl (x : Nat) : Rt R x x := ⟨0, rfl⟩
theorem Rt.trans {x y z : Nat} (h : Rt R x y) (g : Rt R y z) : Rt R x z := by
  obtain ⟨i, h⟩ := h
  obtain ⟨j, g⟩ := g
  exact ⟨i + j, h.add g⟩
theorem Rt.of {x y : Nat} (h : R x y) : Rt R x y := ⟨1, Wk.one h⟩
theorem Rt.ring {x y : Nat} (h : Rt R x y) (g : Rt R y x) (hne : x ≠ y) : RgN R x := by
  obtain ⟨i, h⟩ := h
  obtain ⟨j, g⟩ := g
  cases i with
  | zero => exact absurd h hne
  | succ i => exact ⟨i + j, by have := h.add g; rwa [show i + 1 + j = i + j + 1 by omega] at this⟩
/-- What is closed leads to closed ones alone. -/
theorem Rt.closed {P : Nat → Prop} (hP : ∀ x, P x → ∀ y, R x y → P y) {x y : Nat} (h : Rt R x y) (hx : P x) : P y := by
  obtain ⟨j, h⟩ := h
  induction j generalizing x with
  | zero => cases h; exact hx
  | succ j ih => obtain ⟨z, h1, h2⟩ := h; exact ih (hP x hx z h1) h2
/-- A function put anew at one place. -/
def upf {β : Type} (f : Nat → β) (i : Nat) (v : β) : Nat → β := fun k => if k = i then v else f k
theorem upf_self {β : Type} (f : Nat → β) (i : Nat) (v : β) : upf f i v i = v := if_pos rfl
theorem upf_ne {β : Type} (f : Nat → β) {i k : Nat} (v : β) (h : k ≠ i) : upf f i v k = f k := if_neg h
/-- The least, or none. -/
def LO (P : Nat → Prop) (l : Int) : Prop := (l = -1 ∧ ∀ x, ¬ P x) ∨ (∃ m : Nat, l = m ∧ P m ∧ ∀ x, P x → m ≤ x)
theorem LO.congr {P Q : Nat → Prop} {l : Int} (h : LO P l) (e : ∀ x, Q x ↔ P x) : LO Q l := by
  rcases h with ⟨h1, h2⟩ | ⟨m, h1, h2, h3⟩
  · exact .inl ⟨h1, fun x hx => h2 x ((e x).1 hx)⟩
  · exact .inr ⟨m, h1, (e m).2 h2, fun x hx => h3 x ((e x).1 hx)⟩
theorem LO.or {P Q : Nat → Prop} {l : Int} {m : Nat} (h : LO P l) (hm : Q m) (hq : ∀ x, Q x → m ≤ x) : LO (fun x => P x ∨ Q x) (if l = -1 ∨ (m : Int) < l then (m : Int) else l) := by
  rcases h with ⟨h1, h2⟩ | ⟨k, h1, h2, h3⟩
  · rw [if_pos (.inl h1)]
    refine .inr ⟨m, rfl, .inr hm, fun x hx => ?_⟩
    rcases hx with hx | hx
    · exact absurd hx (h2 x)
    · exact hq x hx
  · by_cases hlt : (m : Int) < l
    · rw [if_pos (.inr hlt)]
      refine .inr ⟨m, rfl, .inr hm, fun x hx => ?_⟩
      rcases hx with hx | hx
      · have := h3 x hx; omega
      · exact hq x hx
    · rw [if_neg (fun e => by rcases e with e | e <;> omega)]
      refine .inr ⟨k, h1, .inl h2, fun x hx => ?_⟩
      rcases hx with hx | hx
      · exact h3 x hx
      · have := hq x hx; omega
/-- All open ones, as they were come to. -/
def opl (segs : List (Nat × List Nat)) : List Nat := segs.flatMap (fun s => s.1 :: s.2)
/-- The way down. -/
def dnl (segs : List (Nat × List Nat)) : List Nat := segs.map (·.1)
theorem opl_snoc (segs : List (Nat × List Nat)) (d : Nat) (q : List Nat) : opl (segs ++ [(d, q)]) = opl segs ++ d :: q := by simp [opl]
theorem dnl_snoc (segs : List (Nat × List Nat)) (d : Nat) (q : List Nat) : dnl (segs ++ [(d, q)]) = dnl segs ++ [d] := by simp [dnl]
theorem opl_two (pre : List (Nat × List Nat)) (e d : Nat) (r q : List Nat) : opl (pre ++ [(e, r)] ++ [(d, q)]) = opl (pre ++ [(e, r ++ d :: q)]) := by simp [opl]
theorem dnl_two (pre : List (Nat × List Nat)) (e d : Nat) (r q : List Nat) : dnl (pre ++ [(e, r)] ++ [(d, q)]) = dnl (pre ++ [(e, r ++ d :: q)]) ++ [d] := by simp [dnl]
theorem opl_head {segs : List (Nat × List Nat)} {s : Nat × List Nat} (h : s ∈ segs) : s.1 ∈ opl segs := List.mem_flatMap.2 ⟨s, h, by simp⟩
theorem opl_rest {segs : List (Nat × List Nat)} {s : Nat × List Nat} (h : s ∈ segs) {x : Nat} (hx : x ∈ s.2) : x ∈ opl segs := List.mem_flatMap.2 ⟨s, h, by simp [hx]⟩
theorem opl_seg {segs : List (Nat × List Nat)} {x : Nat} (h : x ∈ opl segs) : ∃ s ∈ segs, x ∈ s.1 :: s.2 := List.mem_flatMap.1 h
/-- What a node needs: each is a node. -/
abbrev Rn (N : Nat → List Nat) (x y : Nat) : Prop := y ∈ N x
/-- The search on its way. -/
structure Tj (N : Nat → List Nat) (n : Nat) (came early gone : Nat → Nat) (many : Nat) (segs : List (Nat × List Nat)) (least : Int) : Prop where
  inn : ∀ x ∈ opl segs, x < n
  up : (opl segs).Pairwise (fun x y => came x < came y)
  pos : ∀ x ∈ opl segs, came x ≠ 0
  top : ∀ x, came x ≤ many
  hd : segs.Pairwise (fun s t => Rt (Rn N) s.1 t.1)
  bk : ∀ s ∈ segs, ∀ x ∈ s.2, Rt (Rn N) x s.1 ∧ Rt (Rn N) s.1 x
  fin : ∀ s ∈ segs, ∀ x ∈ s.2, gone x = (N x).length
  le : ∀ s ∈ segs, early s.1 ≤ came s.1
  ear : ∀ s ∈ segs, ∃ z ∈ opl segs, came z = early s.1 ∧ Rt (Rn N) s.1 z
  arc : ∀ s ∈ segs, ∀ x ∈ s.1 :: s.2, ∀ y ∈ (N x).take (gone x), came y ≠ 0 ∧ (y ∈ opl segs → early s.1 ≤ came y)
  cl : ∀ x, came x ≠ 0 → x ∉ opl segs → ∀ y ∈ N x, came y ≠ 0 ∧ y ∉ opl segs
  gle : ∀ x, gone x ≤ (N x).length
  g0 : ∀ x, came x = 0 → gone x = 0
  lst : LO (fun x => came x ≠ 0 ∧ x ∉ opl segs ∧ RgN (Rn N) x) least
variable {N : Nat → List Nat} {n : Nat} {came early gone : Nat → Nat} {many : Nat} {segs pre : List (Nat × List Nat)} {least : Int}
theorem Tj.start : Tj N n (fun _ => 0) (fun _ => 0) (fun _ => 0) 0 [] (-1) :=
  ⟨by simp [opl], by simp [opl], by simp [opl], fun _ => Nat.le_refl _, .nil, by simp, by simp, by simp, by simp, by simp, fun x h => absurd rfl h, fun _ => Nat.zero_le _, fun _ _ => rfl, .inl ⟨rfl, fun x h => h.1 rfl⟩⟩
theorem Tj.reach {d : Nat} {q : List Nat} (h : Tj N n came early gone many (pre ++ [(d, q)]) least) {s : Nat × List Nat} (hs : s ∈ pre ++ [(d, q)]) : Rt (Rn N) s.1 d := by
  rcases List.mem_append.1 hs with h1 | h1
  · exact (List.pairwise_append.1 h.hd).2.2 s h1 (d, q) (by simp)
  · simp at h1; subst h1; exact Rt.refl _
/-- A node that was not come to yet is come to. -/
theorem Tj.down {x : Nat} (h : Tj N n came early gone many segs least) (hx : x < n) (hc : came x = 0) (hr : ∀ s ∈ segs, Rt (Rn N) s.1 x) {gone' : Nat → Nat}
    (hg : ∀ z, gone' z ≤ (N z).length) (hg0 : ∀ z, came z = 0 → gone' z = gone z) (hf : ∀ z, gone z = (N z).length → gone' z = gone z) (ha : ∀ z, ∀ y ∈ (N z).take (gone' z), y ∈ (N z).take (gone z) ∨ y = x) :
    Tj N n (upf came x (many + 1)) (upf early x (many + 1)) gone' (many + 1) (segs ++ [(x, [])]) least := by
  have hne : ∀ z ∈ opl segs, z ≠ x := fun z hz e => h.pos z hz (by rw [e]; exact hc)
  have hh : ∀ s ∈ segs, s.1 ≠ x := fun s hs => hne _ (opl_head hs)
  have hop : ∀ z, z ∈ opl (segs ++ [(x, [])]) ↔ z ∈ opl segs ∨ z = x := fun z => by rw [opl_snoc]; simp
  have hst : ∀ s, s ∈ segs ++ [(x, ([] : List Nat))] ↔ s ∈ segs ∨ s = (x, []) := fun s => by simp
  refine ⟨fun z hz => ?_, ?_, fun z hz => ?_, fun z => ?_, ?_, fun s hs y hy => ?_, fun s hs y hy => ?_, fun s hs => ?_, fun s hs => ?_, fun s hs z hz y hy => ?_, fun z hz hno y hy => ?_, hg, fun z hz => ?_, ?_⟩
  · rcases (hop z).1 hz with h1 | h1
    · exact h.inn z h1
    · rw [h1]; exact hx
  · rw [opl_snoc, List.pairwise_append]
    refine ⟨h.up.imp_of_mem (fun {a b} ha hb hab => ?_), by simp, fun a ha b hb => ?_⟩
    · rw [upf_ne _ _ (hne a ha), upf_ne _ _ (hne b hb)]; exact hab
    · simp at hb; subst hb
      rw [upf_self, upf_ne _ _ (hne a (by assumption))]
      have := h.top a; omega
  · rcases (hop z).1 hz with h1 | h1
    · rw [upf_ne _ _ (hne z h1)]; exact h.pos z h1
    · rw [h1, upf_self]; omega
  · by_cases e : z = x
    · rw [e, upf_self]; omega
    · rw [upf_ne _ _ e]; have := h.top z; omega
  · rw [List.pairwise_append]
    refine ⟨h.hd, by simp, fun a ha b hb => ?_⟩
    simp at hb; subst hb
    exact hr a ha
  · rcases (hst s).1 hs with h1 | h1
    · exact h.bk s h1 y hy
    · subst h1; simp at hy
  · rcases (hst s).1 hs with h1 | h1
    · have := h.fin s h1 y hy
      rw [hf y this]; exact this
    · subst h1; simp at hy
  · rcases (hst s).1 hs with h1 | h1
    · rw [upf_ne _ _ (hh s h1), upf_ne _ _ (hh s h1)]; exact h.le s h1
    · subst h1; simp only [upf_self]; exact Nat.le_refl _
  · rcases (hst s).1 hs with h1 | h1
    · obtain ⟨z, hz, h2, h3⟩ := h.ear s h1
      refine ⟨z, (hop z).2 (.inl hz), ?_, h3⟩
      rw [upf_ne _ _ (hne z hz), upf_ne _ _ (hh s h1)]; exact h2
    · subst h1
      exact ⟨x, (hop x).2 (.inr rfl), by simp only [upf_self], Rt.refl _⟩
  · rcases (hst s).1 hs with h1 | h1
    · have hso : came s.1 ≤ many := h.top _
      have hle := h.le s h1
      rw [upf_ne early _ (hh s h1)]
      rcases ha z y hy with h2 | h2
      · obtain ⟨h3, h4⟩ := h.arc s h1 z hz y h2
        have hyx : y ≠ x := fun e => h3 (by rw [e]; exact hc)
        rw [upf_ne _ _ hyx]
        refine ⟨h3, fun h5 => ?_⟩
        rcases (hop y).1 h5 with h6 | h6
        · exact h4 h6
        · exact absurd h6 hyx
      · subst h2
        rw [upf_self]
        exact ⟨by omega, fun _ => by omega⟩
    · subst h1
      simp at hz
      subst hz
      have := hg0 z hc
      rw [this, h.g0 z hc] at hy
      simp at hy
  · have hzx : z ≠ x := fun e => hno ((hop z).2 (.inr e))
    rw [upf_ne _ _ hzx] at hz
    obtain ⟨h1, h2⟩ := h.cl z hz (fun e => hno ((hop z).2 (.inl e))) y hy
    have hyx : y ≠ x := fun e => h1 (by rw [e]; exact hc)
    rw [upf_ne _ _ hyx]
    exact ⟨h1, fun e => by rcases (hop y).1 e with e | e; exact h2 e; exact hyx e⟩
  · have hzx : z ≠ x := fun e => by rw [e, upf_self] at hz; omega
    rw [upf_ne _ _ hzx] at hz
    rw [hg0 z hz]; exact h.g0 z hz
  · refine h.lst.congr (fun z => ?_)
    constructor
    · rintro ⟨h1, h2, h3⟩
      have hzx : z ≠ x := fun e => h2 ((hop z).2 (.inr e))
      rw [upf_ne _ _ hzx] at h1
      exact ⟨h1, fun e => h2 ((hop z).2 (.inl e)), h3⟩
    · rintro ⟨h1, h2, h3⟩
      have hzx : z ≠ x := fun e => h1 (by rw [e]; exact hc)
      rw [upf_ne _ _ hzx]
      exact ⟨h1, fun e => by rcases (hop z).1 e with e | e; exact h2 e; exact hzx e, h3⟩
theorem take_more (l : List Nat) (k : Nat) {y : Nat} (hk : l[k]? = some y) : l.take (k + 1) = l.take k ++ [y] := by
  obtain ⟨h1, h2⟩ := List.getElem?_eq_some_iff.1 hk
  rw [List.take_succ_eq_append_getElem h1, h2]
/-- The search begins. -/
theorem Tj.first {x : Nat} (h : Tj N n came early gone many [] least) (hx : x < n) (hc : came x = 0) : Tj N n (upf came x (many + 1)) (upf early x (many + 1)) gone (many + 1) [(x, [])] least :=
  h.down hx hc (by simp) h.gle (fun _ _ => rfl) (fun _ _ => rfl) (fun _ _ hy => .inl hy)
/-- On down. -/
theorem Tj.goOn {d y : Nat} {q : List Nat} (h : Tj N n came early gone many (pre ++ [(d, q)]) least) (hN : ∀ x y, y ∈ N x → x < n ∧ y < n) (hk : (N d)[gone d]? = some y) (hc : came y = 0) :
    Tj N n (upf came y (many + 1)) (upf early y (many + 1)) (upf gone d (gone d + 1)) (many + 1) (pre ++ [(d, q)] ++ [(y, [])]) least := by
  have hm : y ∈ N d := List.mem_of_getElem? hk
  have hlt := (List.getElem?_eq_some_iff.1 hk).1
  have hd0 : came d ≠ 0 := h.pos d (by rw [opl_snoc]; simp)
  refine h.down (hN d y hm).2 hc (fun s hs => (h.reach hs).trans (Rt.of hm)) (fun z => ?_) (fun z hz => ?_) (fun z hz => ?_) (fun z u hu => ?_)
  · by_cases e : z = d
    · rw [e, upf_self]; omega
    · rw [upf_ne _ _ e]; exact h.gle z
  · exact upf_ne _ _ (fun e => hd0 (by rw [← e]; exact hz))
  · exact upf_ne _ _ (fun e => by rw [e] at hz; omega)
  · by_cases e : z = d
    · subst e
      rw [upf_self, take_more _ _ hk] at hu
      rcases List.mem_append.1 hu with h1 | h1
      · exact .inl h1
      · simp at h1; exact .inr h1
    · rw [upf_ne _ _ e] at hu; exact .inl hu
/-- An arc to one that was come to before. -/
theorem Tj.seen {d y : Nat} {q : List Nat} (h : Tj N n came early gone many (pre ++ [(d, q)]) least) (hk : (N d)[gone d]? = some y) (hc : came y ≠ 0) {e' : Nat} (he1 : e' ≤ early d) (he2 : y ∈ opl (pre ++ [(d, q)]) → e' ≤ came y) (he3 : e' = early d ∨ (y ∈ opl (pre ++ [(d, q)]) ∧ e' = came y)) :
    Tj N n came (upf early d e') (upf gone d (gone d + 1)) many (pre ++ [(d, q)]) least := by
  have hm : y ∈ N d := List.mem_of_getElem? hk
  have hlt := (List.getElem?_eq_some_iff.1 hk).1
  have hd0 : came d ≠ 0 := h.pos d (by rw [opl_snoc]; simp)
  have hle : ∀ z, upf early d e' z ≤ early z := fun z => by
    by_cases e : z = d
    · rw [e, upf_self]; exact he1
    · rw [upf_ne _ _ e]; exact Nat.le_refl _
  have hmem : (d, q) ∈ pre ++ [(d, q)] := by simp
  refine ⟨h.inn, h.up, h.pos, h.top, h.hd, h.bk, fun s hs z hz => ?_, fun s hs => Nat.le_trans (hle _) (h.le s hs), fun s hs => ?_, fun s hs z hz u hu => ?_, h.cl, fun z => ?_, fun z hz => ?_, h.lst⟩
  · rw [upf_ne _ _ (fun e => by have := h.fin s hs z hz; rw [e] at this; omega)]; exact h.fin s hs z hz
  · by_cases e : s.1 = d
    · rw [e, upf_self]
      rcases he3 with h1 | ⟨h1, h2⟩
      · rw [h1]; have h8 := h.ear s hs; rw [e] at h8; exact h8
      · exact ⟨y, h1, h2.symm, Rt.of hm⟩
    · rw [upf_ne _ _ e]; exact h.ear s hs
  · have key : u ∈ (N z).take (gone z) ∨ (z = d ∧ u = y) := by
      by_cases e : z = d
      · subst e
        rw [upf_self, take_more _ _ hk] at hu
        rcases List.mem_append.1 hu with h1 | h1
        · exact .inl h1
        · simp at h1; exact .inr ⟨rfl, h1⟩
      · rw [upf_ne _ _ e] at hu; exact .inl hu
    rcases key with h1 | ⟨rfl, rfl⟩
    · obtain ⟨h2, h3⟩ := h.arc s hs z hz u h1
      exact ⟨h2, fun h4 => Nat.le_trans (hle _) (h3 h4)⟩
    · refine ⟨hc, fun h4 => ?_⟩
      have hsd : s.1 = z := by
        simp only [List.mem_cons] at hz
        rcases hz with hz | hz
        · exact hz.symm
        · have := h.fin s hs z hz; omega
      rw [hsd, upf_self]
      exact he2 h4
  · by_cases e : z = d
    · rw [e, upf_self]; omega
    · rw [upf_ne _ _ e]; exact h.gle z
  · rw [upf_ne _ _ (fun e => hd0 (by rw [← e]; exact hz))]; exact h.g0 z hz
theorem Tj.nodup (h : Tj N n came early gone many segs least) : (opl segs).Nodup := h.up.imp (fun {a b} hab e => by rw [e] at hab; omega)
/-- Those behind a node that is on the way down were come to later. -/
theorem Tj.later {d : Nat} {q : List Nat} (h : Tj N n came early gone many (pre ++ [(d, q)]) least) {z : Nat} (hz : z ∈ opl (pre ++ [(d, q)])) : (z ∈ d :: q ∧ came d ≤ came z) ∨ (z ∈ opl pre ∧ came z < came d) := by
  have hu := h.up
  rw [opl_snoc] at hz hu
  obtain ⟨h1, h2, h3⟩ := List.pairwise_append.1 hu
  rcases List.mem_append.1 hz with hz | hz
  · exact .inr ⟨hz, h3 z hz d (by simp)⟩
  · refine .inl ⟨hz, ?_⟩
    simp only [List.mem_cons] at hz
    rcases hz with rfl | hz
    · exact Nat.le_refl _
    · exact Nat.le_of_lt ((List.pairwise_cons.1 h2).1 z hz)
/-- The first of all leads back to itself at the earliest. -/
theorem Tj.only {d : Nat} {q : List Nat} (h : Tj N n came early gone many [(d, q)] least) : early d = came d := by
  obtain ⟨z, hz, h1, h2⟩ := h.ear (d, q) (by simp)
  rcases Tj.later (pre := []) h hz with ⟨h3, h4⟩ | ⟨h3, h4⟩
  · have := h.le (d, q) (by simp); simp only at h1 this; omega
  · simp [opl] at h3
/-- Back to the one over it, as it leads to an earlier one. -/
theorem Tj.back {d e : Nat} {q r : List Nat} (h : Tj N n came early gone many (pre ++ [(e, r)] ++ [(d, q)]) least) (hf : gone d = (N d).length) (hne : early d ≠ came d) :
    Tj N n came (upf early e (min (early e) (early d))) gone many (pre ++ [(e, r ++ d :: q)]) least := by
  have hop := opl_two pre e d r q
  have hmd : (d, q) ∈ pre ++ [(e, r)] ++ [(d, q)] := by simp
  have hme : (e, r) ∈ pre ++ [(e, r)] ++ [(d, q)] := by simp
  have hled : early d ≤ came d := h.le _ hmd
  obtain ⟨z, hz, h1, h2⟩ := h.ear _ hmd
  simp only at h1 h2
  have hed : Rt (Rn N) e d := h.reach (s := (e, r)) hme
  have hde : Rt (Rn N) d e := by
    rcases h.later hz with ⟨-, h4⟩ | ⟨h3, -⟩
    · omega
    · refine h2.trans ?_
      obtain ⟨s, hs, hzs⟩ := opl_seg h3
      have hse : Rt (Rn N) s.1 e := by
        rcases List.mem_append.1 hs with h5 | h5
        · have h6 := (List.pairwise_append.1 h.hd).1
          exact (List.pairwise_append.1 h6).2.2 s h5 (e, r) (by simp)
        · simp at h5; subst h5; exact Rt.refl _
      have hs2 : s ∈ pre ++ [(e, r)] ++ [(d, q)] := List.mem_append_left _ hs
      simp only [List.mem_cons] at hzs
      rcases hzs with rfl | hzs
      · exact hse
      · exact (h.bk s hs2 z hzs).1.trans hse
  have hst : ∀ s, s ∈ pre ++ [(e, r ++ d :: q)] ↔ s ∈ pre ∨ s = (e, r ++ d :: q) := fun s => by simp
  have hpre : ∀ s, s ∈ pre → s ∈ pre ++ [(e, r)] ++ [(d, q)] := fun s hs => by simp [hs]
  have hle : ∀ z, upf early e (min (early e) (early d)) z ≤ early z := fun z => by
    by_cases e2 : z = e
    · rw [e2, upf_self]; omega
    · rw [upf_ne _ _ e2]; exact Nat.le_refl _
  have hnd := h.nodup
  have hpe : ∀ s, s ∈ pre → s.1 ≠ e := fun s hs e2 => by
    rw [hop, opl_snoc] at hnd
    have := (List.nodup_append.1 hnd).2.2 s.1 (opl_head hs) e (by simp)
    exact this e2
  have hp9 : (pre ++ [(e, r)] ++ [(d, q)]).Pairwise (fun s t => Rt (Rn N) s.1 t.1) := h.hd
  refine ⟨by rw [← hop]; exact h.inn, by rw [← hop]; exact h.up, by rw [← hop]; exact h.pos, h.top, ?_, fun s hs x hx => ?_, fun s hs x hx => ?_, fun s hs => ?_, fun s hs => ?_, fun s hs x hx y hy => ?_, by rw [← hop]; exact h.cl, h.gle, h.g0, by rw [← hop]; exact h.lst⟩
  · have h6 := (List.pairwise_append.1 hp9).1
    obtain ⟨h7, h8, h9⟩ := List.pairwise_append.1 h6
    rw [List.pairwise_append]
    refine ⟨h7, by simp, fun a ha b hb => ?_⟩
    simp at hb; subst hb
    exact h9 a ha (e, r) (by simp)
  · rcases (hst s).1 hs with h5 | h5
    · exact h.bk s (hpre s h5) x hx
    · subst h5
      simp only [List.mem_append, List.mem_cons] at hx
      rcases hx with hx | rfl | hx
      · exact h.bk (e, r) hme x hx
      · exact ⟨hde, hed⟩
      · obtain ⟨h6, h7⟩ := h.bk (d, q) hmd x hx
        exact ⟨h6.trans hde, hed.trans h7⟩
  · rcases (hst s).1 hs with h5 | h5
    · exact h.fin s (hpre s h5) x hx
    · subst h5
      simp only [List.mem_append, List.mem_cons] at hx
      rcases hx with hx | rfl | hx
      · exact h.fin (e, r) hme x hx
      · exact hf
      · exact h.fin (d, q) hmd x hx
  · rcases (hst s).1 hs with h5 | h5
    · exact Nat.le_trans (hle _) (h.le s (hpre s h5))
    · subst h5; exact Nat.le_trans (hle _) (h.le (e, r) hme)
  · rw [← hop]
    rcases (hst s).1 hs with h5 | h5
    · rw [upf_ne _ _ (hpe s h5)]; exact h.ear s (hpre s h5)
    · subst h5
      show ∃ z ∈ _, came z = upf early e _ e ∧ _
      rw [upf_self]
      rcases Nat.le_total (early e) (early d) with h6 | h6
      · rw [Nat.min_eq_left h6]; exact h.ear (e, r) hme
      · rw [Nat.min_eq_right h6]
        exact ⟨z, hz, h1, hed.trans h2⟩
  · rw [← hop]
    rcases (hst s).1 hs with h5 | h5
    · rw [upf_ne _ _ (hpe s h5)]; exact h.arc s (hpre s h5) x hx y hy
    · subst h5
      show came y ≠ 0 ∧ (_ → upf early e _ e ≤ _)
      rw [upf_self]
      simp only [List.mem_cons, List.mem_append] at hx
      have hx' : x ∈ e :: r ∨ x ∈ d :: q := by
        simp only [List.mem_cons]
        rcases hx with hx | hx | hx | hx
        · exact .inl (.inl hx)
        · exact .inl (.inr hx)
        · exact .inr (.inl hx)
        · exact .inr (.inr hx)
      rcases hx' with hx' | hx'
      · obtain ⟨h6, h7⟩ := h.arc (e, r) hme x hx' y hy
        exact ⟨h6, fun h8 => Nat.le_trans (Nat.min_le_left _ _) (h7 h8)⟩
      · obtain ⟨h6, h7⟩ := h.arc (d, q) hmd x hx' y hy
        exact ⟨h6, fun h8 => Nat.le_trans (Nat.min_le_right _ _) (h7 h8)⟩
/-- Of a knot: do its nodes lie on rings? -/
def Kn (N : Nat → List Nat) (d : Nat) (q : List Nat) : Prop := q ≠ [] ∨ d ∈ N d
/-- A knot is closed. -/
theorem Tj.close {d : Nat} {q : List Nat} (h : Tj N n came early gone many (pre ++ [(d, q)]) least) (hf : gone d = (N d).length) (he : early d = came d) {least' : Int}
    (hl : LO (fun x => (came x ≠ 0 ∧ x ∉ opl (pre ++ [(d, q)]) ∧ RgN (Rn N) x) ∨ (x ∈ d :: q ∧ Kn N d q)) least') :
    Tj N n came early gone many pre least' := by
  have hop := opl_snoc pre d q
  have hmd : (d, q) ∈ pre ++ [(d, q)] := by simp
  have hpre : ∀ s, s ∈ pre → s ∈ pre ++ [(d, q)] := fun s hs => by simp [hs]
  have hsub : ∀ z, z ∈ opl pre → z ∈ opl (pre ++ [(d, q)]) := fun z hz => by rw [hop]; exact List.mem_append_left _ hz
  have hcl : ∀ x, came x ≠ 0 → x ∉ opl pre → ∀ y ∈ N x, came y ≠ 0 ∧ y ∉ opl pre := fun x hx hno y hy => by
    by_cases hin : x ∈ opl (pre ++ [(d, q)])
    · rcases h.later hin with ⟨h1, -⟩ | ⟨h1, -⟩
      · have hgx : gone x = (N x).length := by
          simp only [List.mem_cons] at h1
          rcases h1 with rfl | h1
          · exact hf
          · exact h.fin _ hmd x h1
        obtain ⟨h2, h3⟩ := h.arc _ hmd x h1 y (by rw [hgx, List.take_length]; exact hy)
        refine ⟨h2, fun h4 => ?_⟩
        have h5 := h3 (hsub y h4)
        simp only [he] at h5
        have hu := h.up
        rw [hop] at hu
        have := (List.pairwise_append.1 hu).2.2 y h4 d (by simp)
        omega
      · exact absurd h1 hno
    · obtain ⟨h1, h2⟩ := h.cl x hx hin y hy
      exact ⟨h1, fun h3 => h2 (hsub y h3)⟩
  have hmut : ∀ x ∈ d :: q, Rt (Rn N) x d ∧ Rt (Rn N) d x := fun x hx => by
    simp only [List.mem_cons] at hx
    rcases hx with rfl | hx
    · exact ⟨Rt.refl _, Rt.refl _⟩
    · exact h.bk _ hmd x hx
  have hnd := h.nodup
  rw [hop] at hnd
  have hdis : ∀ x ∈ d :: q, x ∉ opl pre := fun x hx h1 => (List.nodup_append.1 hnd).2.2 x h1 x hx rfl
  have hkn : ∀ x ∈ d :: q, (RgN (Rn N) x ↔ Kn N d q) := fun x hx => by
    constructor
    · intro hr
      by_cases hq : q = []
      · right
        subst hq
        simp at hx
        subst hx
        obtain ⟨j, z, h1, h2⟩ := hr
        by_cases hzx : z = x
        · rwa [hzx] at h1
        · exfalso
          have hxo : x ∈ opl (pre ++ [(x, [])]) := by rw [hop]; simp
          obtain ⟨h3, h4⟩ := hcl x (h.pos x hxo) (hdis x (by simp)) z h1
          have hzo : z ∉ opl (pre ++ [(x, [])]) := by
            rw [hop]; intro h5
            rcases List.mem_append.1 h5 with h5 | h5
            · exact h4 h5
            · simp at h5; exact hzx h5
          have := Rt.closed (R := Rn N) (P := fun y => came y ≠ 0 ∧ y ∉ opl (pre ++ [(x, [])])) (fun a ha b hb => h.cl a ha.1 ha.2 b hb) ⟨j, h2⟩ ⟨h3, hzo⟩
          exact this.2 hxo
      · exact .inl hq
    · rintro (hq | hd)
      · obtain ⟨a, q', rfl⟩ : ∃ a q', q = a :: q' := by
          cases q with
          | nil => exact absurd rfl hq
          | cons a q' => exact ⟨a, q', rfl⟩
        have hda : d ≠ a := by
          have := (List.nodup_append.1 hnd).2.1
          intro e
          simp [e] at this
        by_cases hxd : x = d
        · subst hxd
          obtain ⟨h1, h2⟩ := hmut a (by simp)
          exact Rt.ring h2 h1 hda
        · obtain ⟨h1, h2⟩ := hmut x hx
          exact Rt.ring h1 h2 hxd
      · obtain ⟨h1, h2⟩ := hmut x hx
        obtain ⟨i, h1⟩ := h1
        obtain ⟨j, h2⟩ := h2
        have := (h1.snoc hd).add h2
        exact ⟨i + j, by rwa [show i + 1 + j = i + j + 1 by omega] at this⟩
  have hu := h.up
  rw [hop] at hu
  refine ⟨fun x hx => h.inn x (hsub x hx), (List.pairwise_append.1 hu).1, fun x hx => h.pos x (hsub x hx), h.top, (List.pairwise_append.1 h.hd).1, fun s hs => h.bk s (hpre s hs), fun s hs => h.fin s (hpre s hs), fun s hs => h.le s (hpre s hs), fun s hs => ?_, fun s hs x hx y hy => ?_, hcl, h.gle, h.g0, hl.congr (fun x => ?_)⟩
  · obtain ⟨z, hz, h1, h2⟩ := h.ear s (hpre s hs)
    refine ⟨z, ?_, h1, h2⟩
    rcases h.later hz with ⟨h3, h4⟩ | ⟨h3, -⟩
    · exfalso
      have h5 := h.le s (hpre s hs)
      have h6 := (List.pairwise_append.1 hu).2.2 s.1 (opl_head hs) d (by simp)
      omega
    · exact h3
  · obtain ⟨h1, h2⟩ := h.arc s (hpre s hs) x hx y hy
    exact ⟨h1, fun h3 => h2 (hsub y h3)⟩
  · rw [hop]
    constructor
    · rintro ⟨h1, h2, h3⟩
      by_cases hin : x ∈ d :: q
      · exact .inr ⟨hin, (hkn x hin).1 h3⟩
      · exact .inl ⟨h1, fun e => by rcases List.mem_append.1 e with e | e; exact h2 e; exact hin e, h3⟩
    · rintro (⟨h1, h2, h3⟩ | ⟨h1, h2⟩)
      · exact ⟨h1, fun e => h2 (List.mem_append_left _ e), h3⟩
      · refine ⟨h.pos x (by rw [hop]; exact List.mem_append_right _ h1), hdis x h1, (hkn x h1).2 h2⟩
/-- All was come to, and nothing is open. -/
theorem Tj.all (h : Tj N n came early gone many [] least) (hN : ∀ x y, y ∈ N x → x < n ∧ y < n) (ha : ∀ x, x < n → came x ≠ 0) : LO (RgN (Rn N)) least :=
  h.lst.congr (fun x => ⟨fun hr => ⟨ha x (by obtain ⟨j, z, h1, h2⟩ := hr; exact (hN x z h1).1), by simp [opl], hr⟩, fun hr => hr.2.2⟩)
end Go.Proofs.Ytonhooaboieapaa
