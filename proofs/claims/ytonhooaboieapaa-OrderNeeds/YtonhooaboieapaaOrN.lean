/-
  Lists of arcs, as the helpers of the statements lay them out.
-/
import Derived.Test.YtonhooaboieapaaOrF
namespace Go.Proofs.Ytonhooaboieapaa
open Go.RowKit Go.Shelf
set_option linter.unusedVariables false
set_option linter.unusedSimpArgs false

def Ls (w : World) (a : Option Addr) (len : Nat) (ps : List Pr) : Prop :=
  ps.length = len ∧ (0 < len → ∃ b off, a = some ⟨b, off, none⟩ ∧ ∀ i, i < len → w.cell? ⟨b, off + i * 2, none⟩ = some (.int .i64 (ps.getD i (0, 0)).1) ∧ w.cell? ⟨b, off + i * 2 + 1, none⟩ = some (.int .i64 (ps.getD i (0, 0)).2))
theorem Ls.nil (w : World) (a : Option Addr) : Ls w a 0 [] := ⟨rfl, fun h => absurd h (Nat.lt_irrefl _)⟩
theorem Ls.low {w : World} {a : Option Addr} {len : Nat} {ps : List Pr} (h : Ls w a len ps) : lowA w.heap.size a len := by
  intro h0 b off e
  obtain ⟨b', off', e', hc⟩ := h.2 h0
  rw [e] at e'; cases e'
  exact cell_lt (hc 0 h0).1
theorem Ls.below {n₀ : Nat} {w w' : World} {a : Option Addr} {len : Nat} {ps : List Pr} (h : Ls w a len ps) (hb : Below n₀ w w') (hl : lowA n₀ a len) : Ls w' a len ps := by
  refine ⟨h.1, fun h0 => ?_⟩
  obtain ⟨b, off, e, hc⟩ := h.2 h0
  have hlt := hl h0 b off e
  exact ⟨b, off, e, fun i hi => ⟨(hb.cell (p := ⟨b, _, none⟩) hlt).trans (hc i hi).1, (hb.cell (p := ⟨b, _, none⟩) hlt).trans (hc i hi).2⟩⟩
theorem Ls.after {w w' : World} {a : Option Addr} {len : Nat} {ps : List Pr} (hb : Below w.heap.size w w') (h : Ls w a len ps) : Ls w' a len ps := h.below hb h.low

def rowS (ps : List Pr) : List Value := ps.flatMap (fun p => [.int .i64 p.1, .int .i64 p.2])
theorem rowS_length (ps : List Pr) : (rowS ps).length = ps.length * 2 := by
  induction ps with
  | nil => rfl
  | cons p ps ih => simp only [rowS, List.flatMap_cons, List.length_append, List.length_cons, List.length_nil] at *; omega
theorem rowS_append (a b : List Pr) : rowS (a ++ b) = rowS a ++ rowS b := by simp [rowS]
theorem rowS_one (ps : List Pr) : ∀ v ∈ rowS ps, v.oneCell' = true := by
  intro v hv
  simp only [rowS, List.mem_flatMap] at hv
  obtain ⟨x, -, hx⟩ := hv
  simp at hx
  rcases hx with rfl | rfl <;> rfl
theorem rowS_get0 : ∀ (ps : List Pr) (i : Nat), i < ps.length → (rowS ps)[i * 2]? = some (.int .i64 (ps.getD i (0, 0)).1)
  | [], i, h => by simp at h
  | p :: ps, 0, _ => rfl
  | p :: ps, i + 1, h => by
    have := rowS_get0 ps i (by simpa using h)
    rw [show (i + 1) * 2 = i * 2 + 1 + 1 by omega]
    simpa [rowS] using this
theorem rowS_get1 : ∀ (ps : List Pr) (i : Nat), i < ps.length → (rowS ps)[i * 2 + 1]? = some (.int .i64 (ps.getD i (0, 0)).2)
  | [], i, h => by simp at h
  | p :: ps, 0, _ => rfl
  | p :: ps, i + 1, h => by
    have := rowS_get1 ps i (by simpa using h)
    rw [show (i + 1) * 2 + 1 = i * 2 + 1 + 1 + 1 by omega]
    simpa [rowS] using this
def Gs (w : World) (B : Nat) (v : Value) (ps : List Pr) : Prop := w.ownsRow B 38 2 v ps.length (rowS ps)
theorem Gs.block {w : World} {B : Nat} {v : Value} {ps : List Pr} (h : Gs w B v ps) : ∀ k, v.ownBlock = some k → B ≤ k := fun k hk => (World.ownsRow.lt h k hk).1
theorem Gs.lt {w : World} {B : Nat} {v : Value} {ps : List Pr} (h : Gs w B v ps) : ∀ k, v.ownBlock = some k → k < w.heap.size := fun k hk => (World.ownsRow.lt h k hk).2
theorem Gs.kept {w w' : World} {B : Nat} {v : Value} {ps : List Pr} (h : Gs w B v ps) (hk : ∀ k, v.ownBlock = some k → w'.heap[k]? = w.heap[k]?) : Gs w' B v ps := by
  obtain ⟨h1, h2 | ⟨g, cap, cur, e, hB, hh, r⟩⟩ := h
  · exact ⟨h1, .inl h2⟩
  · exact ⟨h1, .inr ⟨g, cap, cur, e, hB, by rw [hk g (by rw [e]; rfl)]; exact hh, r⟩⟩
theorem Gs.after {w w' : World} {B : Nat} {v : Value} {ps : List Pr} (hb : Below w.heap.size w w') (h : Gs w B v ps) : Gs w' B v ps := h.kept (fun k hk => hb.block k (h.lt k hk))
theorem Gs.al {w : World} {B : Nat} {v : Value} {ps : List Pr} (h : Gs w B v ps) (o : Obj) : Gs (w.alloc o) B v ps := h.after ((Below.refl _ _).alloc (Nat.le_refl _) _)
theorem rowS_set1 : ∀ (ps : List Pr) (i : Nat) (u : Int), i < ps.length → (rowS ps).set (i * 2 + 1) (.int .i64 u) = rowS (ps.set i ((ps.getD i (0, 0)).1, u))
  | [], i, u, h => by simp at h
  | p :: ps, 0, u, _ => rfl
  | p :: ps, i + 1, u, h => by
    have := rowS_set1 ps i u (by simpa using h)
    rw [show (i + 1) * 2 + 1 = i * 2 + 1 + 1 + 1 by omega]
    simpa [rowS] using this
theorem infoS : (Try.prog.info? 38).map (fun i => (i.zero, i.size, i.bytes)) = some (some (.agg #[.int .i64 0, .int .i64 0]), 2, 16) := by kernel_rfl
theorem La.ls {w : World} {a : Option Addr} {len : Nat} {ps : List Pr} (h : La w a len ps) : Ls w a len ps := by
  refine ⟨h.1, fun h0 => ?_⟩
  obtain ⟨b, off, e⟩ := Le.ex h h0
  subst e
  refine ⟨b, off, rfl, fun i hi => ?_⟩
  exact ⟨Le.at h i hi 0 _ rfl, by have := Le.at h i hi 1 _ rfl; rw [← Nat.add_assoc] at this; exact this⟩
theorem la_pre {w : World} {g : Nat} {ps qs : List Pr} (h : Va w g 38 (rowS (ps ++ qs)).toArray) : La w (some ⟨g, 0, none⟩) ps.length ps := by
  refine ⟨rfl, fun h0 => ⟨g, 0, rfl, fun i u hu => ?_⟩⟩
  have hi : i < (rowS ps).length := (List.getElem?_eq_some_iff.1 hu).1
  rw [h.cellAt, Nat.zero_add, List.getElem?_toArray, rowS_append, List.getElem?_append_left hi]
  exact hu
end Go.Proofs.Ytonhooaboieapaa
