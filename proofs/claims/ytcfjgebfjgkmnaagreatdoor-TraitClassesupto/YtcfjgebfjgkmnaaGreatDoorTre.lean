/-
  traits: named, Names.
-/
import Derived.Test.YtcfjgebfjgkmnaaGreatDoorTrd
import Derived.Lib.SlicesCompact
namespace Go.Proofs.YtcfjgebfjgkmnaaGreatDoor
open Go.RowKit Go.Shelf Go.Sort
set_option linter.unusedVariables false

/-- Texts rising, each once. -/
def srt (l : List (List UInt8)) : List (List UInt8) := Go.Lib.compact (l.mergeSort fun x y => decide (x ≤ y))
theorem holds_of_ge {w : World} {B g n cap : Nat} {ss : List (List UInt8)} (h : Ge elS w B (.slice (some ⟨g, 0, none⟩) n cap) ss) : Holds encStr w g 0 ss.toArray := by
  intro j hj
  have hj' : j < ss.length := by simpa using hj
  have hn : n = ss.length := by
    obtain ⟨a', cap', e, -, -, -⟩ := h.shape
    simp only [Value.slice.injEq] at e
    exact e.2.1
  have := h.toLe.at j (by omega) 0 (sv (ss.getD j [])) rfl
  refine ⟨?_, h.frozen _⟩
  rw [show 0 + j = 0 + (j * elS.s + 0) by show 0 + j = 0 + (j * 1 + 0); omega, this]
  simp [hj', List.getD_eq_getElem?_getD]
theorem le_of_holds {w : World} {g : Nat} {ts pad : List (List UInt8)} (h : Holds encStr w g 0 (ts ++ pad).toArray) : Le elS w (some ⟨g, 0, none⟩) ts.length ts := by
  refine ⟨rfl, fun h0 => ⟨g, 0, rfl, fun i u hu => ?_⟩⟩
  have hi : i < ts.length := by
    rcases Nat.lt_or_ge i (rowE elS ts).length with h' | h'
    · rw [rowE_length] at h'; have h'' : i < ts.length * 1 := h'; omega
    · rw [List.getElem?_eq_none h'] at hu; cases hu
  have h1 := (h i (by simp; omega)).1
  have h2 := rowE_get elS 0 (by decide) ts i hi
  rw [show i * elS.s + 0 = i by show i * 1 + 0 = i; omega, hu] at h2
  have h3 : u = sv (ts.getD i []) := by simpa [elS] using h2
  rw [h1, h3]
  simp [List.getElem!_eq_getElem?_getD, List.getElem?_append_left hi, List.getD_eq_getElem?_getD, hi]
theorem gr_put {w : World} {g n : Nat} {os : Array Obj} (d : Array (List UInt8)) : w.grownBy (grow (putRow encStr (Sort.ahead w n) g 0 d) os) (some g) := by
  refine ⟨rfl, rfl, rfl, by simp, fun k hk hne => ?_⟩
  rw [heap_grow_old _ _ (by simpa using hk)]
  have : g ≠ k := fun e => hne (by rw [e])
  simp [putRow, mapBlock, Sort.ahead, Array.getElem?_modify, this]
theorem compact_le (l : List (List UInt8)) : (Go.Lib.compact l).length ≤ l.length := by
  unfold Go.Lib.compact Go.Lib.compactUpTo
  rw [List.length_map]
  exact Nat.le_trans (List.length_filter_le _ _) (by simp)
theorem gr_put0 {w : World} {g n : Nat} (d : Array (List UInt8)) : w.grownBy (putRow encStr (Sort.ahead w n) g 0 d) (some g) := by
  have := gr_put (w := w) (g := g) (n := n) (os := #[]) d
  rwa [grow_empty] at this
theorem nms_drop {ns : List Nd} {i : Nat} (h : i < ns.length) (c : Int) : nms c (ns.take (i + 1)) = nms c (ns.take i) ++ (if (ns.getD i nd0).kd = c then [(ns.getD i nd0).nm] else []) := by
  rw [take_one (d := nd0) h, nms_app, nms_cons]; simp [nms]
theorem results_ttt {fn : Func} {i j k : Nat} {tmps : Array Value} {w : World} (h : fn.results = #[.tmp i, .tmp j, .tmp k]) :
    (results fn tmps).run Tryz.prog w = .ok (.tuple #[tmps.getD i undef, tmps.getD j undef, tmps.getD k undef]) w := by
  simp [results, h, go_sem]
end Go.Proofs.YtcfjgebfjgkmnaaGreatDoor
