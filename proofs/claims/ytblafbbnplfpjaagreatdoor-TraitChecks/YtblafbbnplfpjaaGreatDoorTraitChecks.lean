/-
  TraitChecks: what Check and Fit answer is what the document asks, and what was handed in stays as it was.
-/
import Derived.Test.YtblafbbnplfpjaaGreatDoorTr4
import Derived.Test.YtblafbbnplfpjaaGreatDoorTu9
import Derived.Test.YtblafbbnplfpjaaGreatDoorTr8
import Derived.Test.YtblafbbnplfpjaaGreatDoorTr5
import Derived.Test.YtblafbbnplfpjaaGreatDoorTr9
import Derived.Test.YtblafbbnplfpjaaGreatDoorTre
import Derived.Test.YtblafbbnplfpjaaGreatDoorCards
import Derived.ProofKit
import Derived.OpenShut
import Derived.ShutString
import Derived.ChangeOld
import Derived.SizedLaws
import Derived.SliceStrings
import Derived.Deep.Slices
import Derived.Lib.SmallJoins
import Derived.Lib.LaidTab
import Derived.Stop.LaidErr
import Derived.Test.YtblafbbnplfpjaaGreatDoorTie
import Derived.Lay
import Derived.LaidLaws
import Derived.MakeChecks
import Derived.SevenTiedAt
import Derived.WalkKit
namespace Go.Proofs.YtblafbbnplfpjaaGreatDoor
open Go.RowKit Go.Shelf
set_option linter.unusedVariables false
set_option linter.unusedSimpArgs false

/-- A tree's cells: its node, the list of what is below it. -/
structure Tc where
  n : Nd
  a : Option Addr
  len : Nat
  cap : Nat
def encT (x : Tc) : List Value := encN x.n ++ [.slice x.a x.len x.cap]
abbrev cT (n : Nd) (v : Value) : Array Value := #[.int .i64 n.kd, .int .i64 n.ks, sv n.nm, .int .i64 n.op, .int .i64 n.un, .int .i64 n.pl, v]
abbrev zT : Array Value := #[.int .i64 0, .int .i64 0, .string ⟨#[]⟩, .int .i64 0, .int .i64 0, .int .i64 0, .slice none 0 0]
abbrev tvT (x : Tc) : Value := .agg (cT x.n (.slice x.a x.len x.cap))
theorem infoT : (Tryz.prog.info? 56).map (fun i => (i.zero, i.size, i.bytes)) = some (some (.agg zT), 7, 80) := by kernel_rfl
def elT : El Tc where
  enc := encT
  dft := ⟨nd0, none, 0, 0⟩
  te := 56
  tl := 54
  z := .agg zT
  s := 7
  by8 := 80
  len := fun _ => rfl
  one := fun x v hv => by
    simp [encT, encN] at hv
    rcases hv with rfl | rfl | rfl | rfl | rfl | rfl | rfl <;> rfl
  pos := by decide
  und := Tryz.underlying54
  inf := infoT
  zs := rfl
  bt := by decide
/-- Trees in memory, one behind the other; what is below each lies in blocks that P names. -/
def Rtw (w : World) (P : Nat → Prop) : Fo → List Tc → Prop
  | .nil, ts => ts = []
  | .cons n k r, ts => ∃ t ts' kts, ts = t :: ts' ∧ t.n = n ∧ t.len = k.len ∧ Le elT w t.a t.len kts ∧ (0 < t.len → ∀ b off, t.a = some ⟨b, off, none⟩ → P b) ∧ Rtw w P k kts ∧ Rtw w P r ts'
theorem Rtw.len {w : World} {P : Nat → Prop} : ∀ {f : Fo} {ts : List Tc}, Rtw w P f ts → ts.length = f.len
  | .nil, ts, h => by rw [show ts = [] from h]; rfl
  | .cons n k r, ts, h => by
    obtain ⟨t, ts', kts, rfl, -, -, -, -, -, hr⟩ := h
    rw [List.length_cons, Rtw.len hr]; rfl
theorem Rtw.imp {w w' : World} {P P' : Nat → Prop} (hp : ∀ b, b < w.heap.size → P b → P' b ∧ w'.heap[b]? = w.heap[b]?) : ∀ {f : Fo} {ts : List Tc}, Rtw w P f ts → Rtw w' P' f ts
  | .nil, ts, h => h
  | .cons n k r, ts, h => by
    obtain ⟨t, ts', kts, rfl, h1, h2, h3, h4, h5, h6⟩ := h
    refine ⟨t, ts', kts, rfl, h1, h2, h3.kept (fun h0 b off e hlt => (hp b hlt (h4 h0 b off e)).2), fun h0 b off e => ?_, Rtw.imp hp h5, Rtw.imp hp h6⟩
    exact (hp b (by rw [e] at h3; exact h3.lt h0) (h4 h0 b off e)).1
theorem Rtw.app {w : World} {P : Nat → Prop} : ∀ {f g : Fo} {ts us : List Tc}, Rtw w P f ts → Rtw w P g us → Rtw w P (f.app g) (ts ++ us)
  | .nil, g, ts, us, h, k => by rw [show ts = [] from h]; exact k
  | .cons n k r, g, ts, us, h, hk => by
    obtain ⟨t, ts', kts, rfl, h1, h2, h3, h4, h5, h6⟩ := h
    exact ⟨t, ts' ++ us, kts, rfl, h1, h2, h3, h4, h5, Rtw.app h6 hk⟩
theorem Va.set7 {w : World} {b : Nat} {t : TypeId} {x0 x1 x2 x3 x4 x5 x6 : Value} (h : Va w b t #[x0, x1, x2, x3, x4, x5, x6]) (y0 y1 y2 y3 y4 y5 y6 : Value) :
    Va (((((((w.setCell ⟨b, 0, none⟩ y0).setCell ⟨b, 1, none⟩ y1).setCell ⟨b, 2, none⟩ y2).setCell ⟨b, 3, none⟩ y3).setCell ⟨b, 4, none⟩ y4).setCell ⟨b, 5, none⟩ y5).setCell ⟨b, 6, none⟩ y6) b t #[y0, y1, y2, y3, y4, y5, y6] := by
  unfold Va at *
  simp only [World.setCell]
  rw [Array.getElem?_modify, if_pos rfl, Array.getElem?_modify, if_pos rfl, Array.getElem?_modify, if_pos rfl, Array.getElem?_modify, if_pos rfl, Array.getElem?_modify, if_pos rfl, Array.getElem?_modify, if_pos rfl, Array.getElem?_modify, if_pos rfl, h]
  simp
theorem fa7 (w : World) (b : Nat) (y0 y1 y2 y3 y4 y5 y6 : Value) : ∀ c, c ≠ b → (((((((w.setCell ⟨b, 0, none⟩ y0).setCell ⟨b, 1, none⟩ y1).setCell ⟨b, 2, none⟩ y2).setCell ⟨b, 3, none⟩ y3).setCell ⟨b, 4, none⟩ y4).setCell ⟨b, 5, none⟩ y5).setCell ⟨b, 6, none⟩ y6).heap[c]? = w.heap[c]? := fun c hc => ((Below.heap_setCell _ ⟨b, 6, none⟩ _ _ hc).trans ((Below.heap_setCell _ ⟨b, 5, none⟩ _ _ hc).trans ((Below.heap_setCell _ ⟨b, 4, none⟩ _ _ hc).trans ((Below.heap_setCell _ ⟨b, 3, none⟩ _ _ hc).trans ((Below.heap_setCell _ ⟨b, 2, none⟩ _ _ hc).trans ((Below.heap_setCell _ ⟨b, 1, none⟩ _ _ hc).trans (Below.heap_setCell _ ⟨b, 0, none⟩ _ _ hc)))))))
theorem below_7 {B : Nat} {a w : World} (h : Below B a w) {c : Nat} (hc : B ≤ c) (y0 y1 y2 y3 y4 y5 y6 : Value) : Below B a (((((((w.setCell ⟨c, 0, none⟩ y0).setCell ⟨c, 1, none⟩ y1).setCell ⟨c, 2, none⟩ y2).setCell ⟨c, 3, none⟩ y3).setCell ⟨c, 4, none⟩ y4).setCell ⟨c, 5, none⟩ y5).setCell ⟨c, 6, none⟩ y6) := (((((((h.setCell (p := ⟨c, 0, none⟩) hc y0).setCell (p := ⟨c, 1, none⟩) hc y1).setCell (p := ⟨c, 2, none⟩) hc y2).setCell (p := ⟨c, 3, none⟩) hc y3).setCell (p := ⟨c, 4, none⟩) hc y4).setCell (p := ⟨c, 5, none⟩) hc y5).setCell (p := ⟨c, 6, none⟩) hc y6)
/-- A variable that holds a tree is put anew. -/
theorem stoT {w : World} {b : Nat} {t : TypeId} {x0 x1 x2 x3 x4 x5 x6 : Value} (h : Va w b t #[x0, x1, x2, x3, x4, x5, x6]) (y0 y1 y2 y3 y4 y5 y6 : Value) {Q : World → Prop}
    (k : ∀ V, Va V b t #[y0, y1, y2, y3, y4, y5, y6] → w.grownBy V (some b) → V.heap.size = w.heap.size → Q V) : Q (((((((w.setCell ⟨b, 0, none⟩ y0).setCell ⟨b, 1, none⟩ y1).setCell ⟨b, 2, none⟩ y2).setCell ⟨b, 3, none⟩ y3).setCell ⟨b, 4, none⟩ y4).setCell ⟨b, 5, none⟩ y5).setCell ⟨b, 6, none⟩ y6) :=
  k _ (h.set7 y0 y1 y2 y3 y4 y5 y6) (gr_set (gr_set (gr_set (gr_set (gr_set (gr_set (gr_set (gr_refl w b) 0 y0) 1 y1) 2 y2) 3 y3) 4 y4) 5 y5) 6 y6) (by simp [World.setCell])
/-- A new variable that holds a tree. -/
theorem entT (w : World) (t : TypeId) (z0 z1 z2 z3 z4 z5 z6 y0 y1 y2 y3 y4 y5 y6 : Value) {Q : World → Prop}
    (h : ∀ V, Below w.heap.size w V → V.heap.size = w.heap.size + 1 → Va V w.heap.size t #[y0, y1, y2, y3, y4, y5, y6] → Q V) :
    Q ((((((((w.alloc (.cells #[z0, z1, z2, z3, z4, z5, z6] t)).setCell ⟨w.heap.size, 0, none⟩ y0).setCell ⟨w.heap.size, 1, none⟩ y1).setCell ⟨w.heap.size, 2, none⟩ y2).setCell ⟨w.heap.size, 3, none⟩ y3).setCell ⟨w.heap.size, 4, none⟩ y4).setCell ⟨w.heap.size, 5, none⟩ y5).setCell ⟨w.heap.size, 6, none⟩ y6) :=
  h _ (below_7 ((Below.refl _ _).alloc (Nat.le_refl _) _) (Nat.le_refl _) _ _ _ _ _ _ _ ) (by simp [World.setCell]) ((Va.new w t _).set7 _ _ _ _ _ _ _ )
theorem Va.t0 {w : World} {b : Nat} {t : TypeId} {x0 x1 x2 x3 x4 x5 x6 : Value} (h : Va w b t #[x0, x1, x2, x3, x4, x5, x6]) : w.cell? ⟨b, 0, none⟩ = some x0 := by rw [h.cellAt 0]; rfl
theorem Va.t1 {w : World} {b : Nat} {t : TypeId} {x0 x1 x2 x3 x4 x5 x6 : Value} (h : Va w b t #[x0, x1, x2, x3, x4, x5, x6]) : w.cell? ⟨b, 1, none⟩ = some x1 := by rw [h.cellAt 1]; rfl
theorem Va.t2 {w : World} {b : Nat} {t : TypeId} {x0 x1 x2 x3 x4 x5 x6 : Value} (h : Va w b t #[x0, x1, x2, x3, x4, x5, x6]) : w.cell? ⟨b, 2, none⟩ = some x2 := by rw [h.cellAt 2]; rfl
theorem Va.t3 {w : World} {b : Nat} {t : TypeId} {x0 x1 x2 x3 x4 x5 x6 : Value} (h : Va w b t #[x0, x1, x2, x3, x4, x5, x6]) : w.cell? ⟨b, 3, none⟩ = some x3 := by rw [h.cellAt 3]; rfl
theorem Va.t4 {w : World} {b : Nat} {t : TypeId} {x0 x1 x2 x3 x4 x5 x6 : Value} (h : Va w b t #[x0, x1, x2, x3, x4, x5, x6]) : w.cell? ⟨b, 4, none⟩ = some x4 := by rw [h.cellAt 4]; rfl
theorem Va.t5 {w : World} {b : Nat} {t : TypeId} {x0 x1 x2 x3 x4 x5 x6 : Value} (h : Va w b t #[x0, x1, x2, x3, x4, x5, x6]) : w.cell? ⟨b, 5, none⟩ = some x5 := by rw [h.cellAt 5]; rfl
theorem Va.t6 {w : World} {b : Nat} {t : TypeId} {x0 x1 x2 x3 x4 x5 x6 : Value} (h : Va w b t #[x0, x1, x2, x3, x4, x5, x6]) : w.cell? ⟨b, 6, none⟩ = some x6 := by rw [h.cellAt 6]; rfl
theorem stoT6 {w : World} {b : Nat} {t : TypeId} {x0 x1 x2 x3 x4 x5 x6 : Value} (h : Va w b t #[x0, x1, x2, x3, x4, x5, x6]) (y : Value) {Q : World → Prop}
    (k : ∀ V, Va V b t #[x0, x1, x2, x3, x4, x5, y] → w.grownBy V (some b) → V.heap.size = w.heap.size → Q V) : Q (w.setCell ⟨b, 6, none⟩ y) := by
  refine k _ ?_ (gr_set (gr_refl w b) 6 y) (by simp [World.setCell])
  unfold Va at *
  simp only [World.setCell]
  rw [Array.getElem?_modify, if_pos rfl, h]
  simp
theorem results_tn {fn : Func} {j k b : Nat} {x0 x1 x2 x3 x4 x5 x6 u : Value} {tmps : Array Value} {w : World} (h : fn.results = #[.cell j 56, .tmp k]) (hj : tmps.getD j undef = .pointer (some ⟨b, 0, none⟩)) (hk : tmps.getD k undef = u) (hv : Va w b 56 #[x0, x1, x2, x3, x4, x5, x6]) :
    (results fn tmps).run Tryz.prog w = .ok (.tuple #[.agg #[x0, x1, x2, x3, x4, x5, x6], u]) w := by
  have c0 := hv.t0
  have c1 := hv.t1
  have c2 := hv.t2
  have c3 := hv.t3
  have c4 := hv.t4
  have c5 := hv.t5
  have c6 := hv.t6
  rw [Array.getD_eq_getD_getElem?] at hj hk
  simp [results, h, hj, hk, c0, c1, c2, c3, c4, c5, c6, go_sem]
theorem Va.setT6 {w : World} {b : Nat} {t : TypeId} {x0 x1 x2 x3 x4 x5 x6 : Value} (h : Va w b t #[x0, x1, x2, x3, x4, x5, x6]) (y : Value) : Va (w.setCell ⟨b, 6, none⟩ y) b t #[x0, x1, x2, x3, x4, x5, y] := by
  unfold Va at *
  simp only [World.setCell]
  rw [Array.getElem?_modify, if_pos rfl, h]
  simp
theorem Va.keptW {w w' : World} {b : Nat} {t : TypeId} {cs : Array Value} (h : Va w b t cs) (hk : w'.heap[b]? = w.heap[b]?) : Va w' b t cs := by unfold Va at *; rw [hk]; exact h
end Go.Proofs.YtblafbbnplfpjaaGreatDoor
namespace Go.Proofs.YtblafbbnplfpjaaGreatDoor
open Go.RowKit Go.Shelf
set_option linter.unusedVariables false
set_option maxRecDepth 20000

theorem rSmall_any (c : UInt8) (w : World) : Calls Tryz.prog 94 #[.int .u8 c.toNat] w fun e w' => e = .returned (.bool (sm c)) ∧ w' = w := by
  have hs : sm c = (decide ((97 : Int) ≤ c.toNat) && decide ((c.toNat : Int) ≤ 122)) := by
    unfold sm; rw [Bool.eq_iff_iff]; simp; omega
  have HS : Hid (sm c = (decide ((97 : Int) ≤ c.toNat) && decide ((c.toNat : Int) ≤ 122))) := hs
  clear hs
  by_cases h1 : (97 : Int) ≤ c.toNat
  · by_cases h2 : (c.toNat : Int) ≤ 122
    · go_enter Tryz.func94, Tryz.ntmps94
      go_wp2_with fail
      go_ret
      exact ⟨by rw [HS.out]; simp [h1, h2], rfl⟩
    · go_enter Tryz.func94, Tryz.ntmps94
      go_wp2_with fail
      go_ret
      exact ⟨by rw [HS.out]; simp [h1, h2], rfl⟩
  · go_enter Tryz.func94, Tryz.ntmps94
    go_wp2_with fail
    go_ret
    exact ⟨by rw [HS.out]; simp; omega, rfl⟩
theorem rdigit_any (c : UInt8) (w : World) : Calls Tryz.prog 128 #[.int .u8 c.toNat] w fun e w' => e = .returned (.bool (dg c)) ∧ w' = w := by
  have hs : dg c = (decide ((48 : Int) ≤ c.toNat) && decide ((c.toNat : Int) ≤ 57)) := by
    unfold dg; rw [Bool.eq_iff_iff]; simp; omega
  have HS : Hid (dg c = (decide ((48 : Int) ≤ c.toNat) && decide ((c.toNat : Int) ≤ 57))) := hs
  clear hs
  by_cases h1 : (48 : Int) ≤ c.toNat
  · by_cases h2 : (c.toNat : Int) ≤ 57
    · go_enter Tryz.func128, Tryz.ntmps128
      go_wp2_with fail
      go_ret
      exact ⟨by rw [HS.out]; simp [h1, h2], rfl⟩
    · go_enter Tryz.func128, Tryz.ntmps128
      go_wp2_with fail
      go_ret
      exact ⟨by rw [HS.out]; simp [h1, h2], rfl⟩
  · go_enter Tryz.func128, Tryz.ntmps128
    go_wp2_with fail
    go_ret
    exact ⟨by rw [HS.out]; simp; omega, rfl⟩
theorem rwithin_any (c : UInt8) (w : World) : Calls Tryz.prog 95 #[.int .u8 c.toNat] w fun e w' => e = .returned (.bool (ip c)) ∧ w' = w := by
  have c1 := fun W => rSmall_any c W
  have c2 := fun W => rdigit_any c W
  have he := u8_eq c 95 (by omega)
  have HS : Hid (ip c = (sm c || dg c || c == 95)) := rfl
  cases h1 : sm c
  · cases h2 : dg c
    · rw [h1] at c1; rw [h2] at c2
      by_cases h3 : (c.toNat : Int) = 95
      · have HE : Hid (ip c = true) := by
          have : c = 95 := he.1 h3
          show _ = _
          rw [HS.out]; simp [this]
        clear HS h1 h2 he
        have hb : ((c.toNat : Int) == 95) = true := by simpa using h3
        clear h3
        go_enter Tryz.func95, Tryz.ntmps95
        go_wp2_with (first | (go_at_call 94; refine (c1 _).mono ?_; rintro e w' ⟨rfl, rfl⟩) | (go_at_call 128; refine (c2 _).mono ?_; rintro e w' ⟨rfl, rfl⟩))
        go_ret
        exact ⟨by rw [HE.out]; rfl, rfl⟩
      · have HE : Hid (ip c = false) := by
          have : ¬ c = 95 := fun h => h3 (he.2 h)
          show _ = _
          rw [HS.out]; simp [this, h1, h2]
        clear HS h1 h2 he
        have hb : ((c.toNat : Int) == 95) = false := by simpa using h3
        clear h3
        go_enter Tryz.func95, Tryz.ntmps95
        go_wp2_with (first | (go_at_call 94; refine (c1 _).mono ?_; rintro e w' ⟨rfl, rfl⟩) | (go_at_call 128; refine (c2 _).mono ?_; rintro e w' ⟨rfl, rfl⟩))
        go_ret
        exact ⟨by rw [HE.out]; rfl, rfl⟩
    · have HE : Hid (ip c = true) := by show _ = _; rw [HS.out]; simp [h2]
      rw [h1] at c1; rw [h2] at c2
      clear HS h1 h2 he
      go_enter Tryz.func95, Tryz.ntmps95
      go_wp2_with (first | (go_at_call 94; refine (c1 _).mono ?_; rintro e w' ⟨rfl, rfl⟩) | (go_at_call 128; refine (c2 _).mono ?_; rintro e w' ⟨rfl, rfl⟩))
      go_ret
      exact ⟨by rw [HE.out]; rfl, rfl⟩
  · have HE : Hid (ip c = true) := by show _ = _; rw [HS.out]; simp [h1]
    rw [h1] at c1
    clear HS h1 he c2
    go_enter Tryz.func95, Tryz.ntmps95
    go_wp2_with (go_at_call 94; refine (c1 _).mono ?_; rintro e w' ⟨rfl, rfl⟩)
    go_ret
    exact ⟨by rw [HE.out]; rfl, rfl⟩
theorem rpart_any (s : List UInt8) (w : World) (hl : s.length ≤ 140737488355328) :
    Calls Tryz.prog 76 #[sv s] w fun e w' => e = .returned (.int .i64 (pt s)) ∧ w' = w := by
  cases s with
  | nil =>
    go_enter Tryz.func76, Tryz.ntmps76
    go_wp2_with fail
    go_ret
    exact ⟨rfl, rfl⟩
  | cons c t =>
    have c1 := fun W => rSmall_any c W
    have HP : Hid (pt (c :: t) = if sm c then rn ip (c :: t) else 0) := rfl
    have HR : Hid (sm c = true → 1 + rn ip ((c :: t).drop 1) = rn ip (c :: t)) := by
      intro h
      show 1 + rn ip t = rn ip (c :: t)
      rw [rn, if_pos (sm_ip h)]; omega
    have hat := str_at (c :: t) 0 c rfl
    have hi : (0 : Int) < (c :: t).length := by simp
    have hn0 : ¬ ((c :: t).length : Int) = 0 := by simp; omega
    have hn0b : (((c :: t).length : Int) == 0) = false := by simpa using hn0
    have hl1 : 1 ≤ (c :: t).length := by simp
    generalize hs : c :: t = s at *
    clear hs
    cases hp : sm c
    · rw [hp] at c1
      have HE : Hid (pt s = 0) := by show _ = _; rw [HP.out, hp]; rfl
      clear HP hp HR
      go_enter Tryz.func76, Tryz.ntmps76
      go_wp2_with (go_at_call 94; refine (c1 _).mono ?_; rintro e w' ⟨rfl, rfl⟩)
      go_ret
      exact ⟨by rw [HE.out]; rfl, rfl⟩
    · rw [hp] at c1
      have HE : Hid (pt s = rn ip s) := by show _ = _; rw [HP.out, hp]; rfl
      have HR1 : Hid (1 + rn ip (s.drop 1) = rn ip s) := HR.out hp
      clear HP hp HR
      go_enter Tryz.func76, Tryz.ntmps76
      go_wp2_with fail
      refine (c1 _).mono ?_
      rintro e w' ⟨rfl, hw'⟩
      rw [hw']; clear hw' w'
      go_wp2_with fail
      go_loopw [3] (fun i wr => ∃ n : Nat, i = .int .i64 n ∧ n ≤ s.length ∧ Hid (n + rn ip (s.drop n) = rn ip s) ∧ wr = w) (fun i _ => (s.length - (intOf i).toNat : Nat))
      case atStart => exact ⟨1, rfl, hl1, HR1.out, rfl⟩
      case round =>
        clear HR1 hat c1
        obtain ⟨n, rfl, hn, HN, hw⟩ := hrel
        subst hw
        rcases Nat.lt_or_ge n s.length with hlt | hge
        · obtain ⟨x, hc, hcd⟩ := byte_at s n hlt
          have hat := str_at s n x hc
          have hi2 : (n : Int) < s.length := by omega
          have hkc := rwithin_any x
          clear hc
          cases hp : ip x
          · have HE2 : Hid ((n : Int) = rn ip s) := by
              have := HN.out
              rw [hcd, rn, hp] at this
              show _ = _
              simp at this
              omega
            rw [hp] at hkc
            clear hcd hp HN
            go_wp2_with (go_at_call 95; refine (hkc _).mono ?_; rintro e w' ⟨rfl, rfl⟩)
            go_ret
            exact ⟨by rw [HE.out, ← HE2.out]; rfl, rfl⟩
          · have HE2 : Hid ((n + 1) + rn ip (s.drop (n + 1)) = rn ip s) := by
              have := HN.out
              rw [hcd, rn, hp] at this
              show _ = _
              simp at this
              omega
            rw [hp] at hkc
            clear hcd hp HN
            go_wp2_with fail
            refine (hkc _).mono ?_
            rintro e w' ⟨rfl, hw'⟩
            rw [hw']; clear hw' w'
            go_wp2_with fail
            go_roundw
            case rel => exact ⟨n + 1, rfl, by omega, HE2.out, trivial⟩
            case measure => simp [intOf]; omega
        · obtain rfl : n = s.length := by omega
          have HE2 : Hid (rn ip s = s.length) := by
            have := HN.out
            rw [List.drop_length] at this
            show _ = _
            simp [rn] at this
            omega
          clear HN hge
          go_wp2_with fail
          go_ret
          exact ⟨by rw [HE.out, HE2.out]; rfl, rfl⟩
theorem kw_len : kwL.length = 29 := rfl
def kwC : Array Value := (kwL.map (fun l : List UInt8 => sv l)).toArray
theorem kwC_at (k : Nat) (h : k < 29) : kwC[k]? = some (sv (kwL.getD k [])) := by
  have : k < kwL.length := h
  simp [kwC, List.getD_eq_getElem?_getD, List.getElem?_eq_getElem this]
set_option maxRecDepth 10000 in
set_option maxHeartbeats 1000000 in
theorem rkept_any (s : List UInt8) (w : World) : Calls Tryz.prog 77 #[sv s] w fun e w' => e = .returned (.bool (kwL.any (fun x => x == s))) ∧ Below w.heap.size w w' := by
  obtain ⟨R, hR⟩ : ∃ R, (kwL.any (fun x => x == s)) = R := ⟨_, rfl⟩
  rw [hR]
  have HR : Hid ((kwL.drop 0).any (fun x => x == s) = R) := hR
  clear hR
  go_enter Tryz.func77, Tryz.ntmps77
  go_wp2_with fail
  refine ent1 w _ _ (Q := fun W => Code.wp _ _ _ _ W) ?_
  intro W0 hB0 hs0 V0
  have HV : Hid (Va W0 w.heap.size 9 kwC) := V0
  have HB : Hid (Below w.heap.size w W0) := hB0
  clear V0 hB0 hs0
  go_loopw [4] (fun i wr => ∃ k : Nat, i = .int .i64 k ∧ k ≤ 29 ∧ Hid ((kwL.drop k).any (fun x => x == s) = R) ∧ wr = W0) (fun i _ => (29 - (intOf i).toNat : Nat))
  case atStart => exact ⟨0, rfl, Nat.zero_le _, HR.out, rfl⟩
  case round =>
    clear HR
    obtain ⟨k, rfl, hk, HR, hw⟩ := hrel
    subst hw
    rcases Nat.lt_or_ge k 29 with hlt | hge
    · have hki : (k : Int) < 29 := by omega
      have c0 : wr.cell? ⟨w.heap.size, k, none⟩ = some (sv (kwL.getD k [])) := by rw [HV.out.cellAt k, kwC_at k hlt]
      have hdr : kwL.drop k = kwL.getD k [] :: kwL.drop (k + 1) := by
        have h' : k < kwL.length := hlt
        rw [List.drop_eq_getElem_cons h', List.getD_eq_getElem?_getD, List.getElem?_eq_getElem h']; rfl
      have HE : Hid (((kwL.getD k [] == s) || (kwL.drop (k + 1)).any (fun x => x == s)) = R) := by
        have := HR.out
        rw [hdr] at this
        exact this
      clear hdr HR
      generalize kwL.getD k [] = X at *
      cases hx : (X == s) with
      | true =>
        have HE2 : Hid (R = true) := by have := HE.out; rw [hx] at this; exact this.symm
        clear HE
        go_wp2_with fail
        go_ret
        exact ⟨by rw [HE2.out]; rfl, HB.out⟩
      | false =>
        have HE2 : Hid ((kwL.drop (k + 1)).any (fun x => x == s) = R) := by have := HE.out; rw [hx] at this; exact this
        clear HE
        go_wp2_with fail
        go_roundw
        case rel => exact ⟨k + 1, rfl, by omega, HE2.out, trivial⟩
        case measure => simp [intOf]; omega
    · obtain rfl : k = 29 := by omega
      have HE2 : Hid (R = false) := by have := HR.out; exact this.symm
      clear hge HR
      go_wp2_with fail
      go_ret
      exact ⟨by rw [HE2.out]; rfl, HB.out⟩
theorem rWord_any (s : List UInt8) (w : World) : Calls Tryz.prog 53 #[sv s] w fun e w' => e = .returned (.bool (wdB s)) ∧ Below w.heap.size w w' := by
  cases hs0 : s with
  | nil =>
    go_enter Tryz.func53, Tryz.ntmps53
    go_wp2_with fail
    go_ret
    exact ⟨rfl, Below.refl _ _⟩
  | cons c t =>
    rw [← hs0]
    have hne : s ≠ [] := by rw [hs0]; simp
    have hl0 : (0 : Int) < s.length := by rw [hs0]; simp
    clear hs0
    rcases Nat.lt_or_ge 24 s.length with h24 | h24
    · have HE : Hid (wdB s = false) := by show _ = _; unfold wdB; simp; intro h; omega
      have hi : (24 : Int) < s.length := by omega
      clear h24 hne
      go_enter Tryz.func53, Tryz.ntmps53
      go_wp2_with fail
      go_ret
      exact ⟨by rw [HE.out]; rfl, Below.refl _ _⟩
    · have hi : (s.length : Int) ≤ 24 := by omega
      have hp := fun W => rpart_any s W (by omega)
      have hk := rkept_any s
      have HW : Hid (wdB s = (decide (pt s = s.length) && !(kwL.any (fun x => x == s)))) := by show _ = _; unfold wdB; simp [hne, h24]
      generalize pt s = q at *
      by_cases hq : q = s.length
      · subst hq
        have HE : Hid (wdB s = !(kwL.any (fun x => x == s))) := by show _ = _; rw [HW.out]; simp
        clear HW h24 hne
        generalize (kwL.any (fun x => x == s)) = R at *
        go_enter Tryz.func53, Tryz.ntmps53
        go_wp2_with fail
        refine (hp _).mono ?_
        rintro e w' ⟨rfl, hw'⟩
        rw [hw']; clear hw' w' hp
        go_wp2_with fail
        refine (hk _).mono ?_
        rintro e w1 ⟨rfl, hb⟩
        go_wp2_with fail
        go_ret
        exact ⟨by rw [HE.out]; rfl, hb⟩
      · have HE : Hid (wdB s = false) := by show _ = _; rw [HW.out]; simp [hq]
        have hqb : ((q : Int) == s.length) = false := by simp; omega
        clear HW hq h24 hne
        go_enter Tryz.func53, Tryz.ntmps53
        go_wp2_with fail
        refine (hp _).mono ?_
        rintro e w' ⟨rfl, hw'⟩
        rw [hw']; clear hw' w' hp
        go_wp2_with fail
        go_ret
        exact ⟨by rw [HE.out]; rfl, Below.refl _ _⟩
end Go.Proofs.YtblafbbnplfpjaaGreatDoor
namespace Go.Proofs.YtblafbbnplfpjaaGreatDoor
open Go.RowKit Go.Shelf
set_option linter.unusedVariables false
theorem Va.dd0 {w : World} {b : Nat} {t : TypeId} {x y : Value} (h : Va w b t #[x, y]) : w.cell? ⟨b, 0, none⟩ = some x := by rw [h.cellAt 0]; rfl
theorem Va.dd1 {w : World} {b : Nat} {t : TypeId} {x y : Value} (h : Va w b t #[x, y]) : w.cell? ⟨b, 1, none⟩ = some y := by rw [h.cellAt 1]; rfl
theorem two_al (w : World) (x y : Obj) : Below w.heap.size w ((w.alloc x).alloc y) := ((Below.refl _ _).alloc (Nat.le_refl _) _).alloc (by simp) _
theorem rck6_ok (U P : Int) (h : CanI U P) (w : World) : Calls Tryz.prog 93 #[.agg #[.int .i64 U, .int .i64 P]] w fun e w' => e = .returned (.int .i64 0) ∧ Below w.heap.size w w' := by
  obtain ⟨h0, h9, h3⟩ := h
  have g1 : decide (P < 0) = false := decide_eq_false (by omega)
  have g2 : decide (9 < P) = false := decide_eq_false (by omega)
  by_cases hp : 0 < P
  ·
    obtain ⟨m, hm⟩ : ∃ m, U.tmod 10 = m := ⟨_, rfl⟩
    have hm0 : (m == 0) = false := by have := h3 hp; rw [hm] at this; simpa using this
    have g3 : decide (0 < P) = true := decide_eq_true hp
    go_enter Tryz.func93, Tryz.ntmps93
    go_wp2_with fail
    go_ret
    exact ⟨rfl, (Below.refl _ _).alloc (Nat.le_refl _) _⟩
  ·
    have g3 : decide (0 < P) = false := decide_eq_false hp
    go_enter Tryz.func93, Tryz.ntmps93
    go_wp2_with fail
    go_ret
    exact ⟨rfl, (Below.refl _ _).alloc (Nat.le_refl _) _⟩
theorem rck6_no (U P : Int) (h : ¬ CanI U P) (w : World) : Calls Tryz.prog 93 #[.agg #[.int .i64 U, .int .i64 P]] w fun e w' => e = .returned (.int .i64 60) ∧ Below w.heap.size w w' := by
  by_cases a1 : P < 0
  ·
    have g1 : decide (P < 0) = true := decide_eq_true a1
    go_enter Tryz.func93, Tryz.ntmps93
    go_wp2_with fail
    go_ret
    exact ⟨rfl, (Below.refl _ _).alloc (Nat.le_refl _) _⟩
  ·
    have g1 : decide (P < 0) = false := decide_eq_false a1
    by_cases a2 : 9 < P
    ·
      have g2 : decide (9 < P) = true := decide_eq_true a2
      go_enter Tryz.func93, Tryz.ntmps93
      go_wp2_with fail
      go_ret
      exact ⟨rfl, (Below.refl _ _).alloc (Nat.le_refl _) _⟩
    ·
      have g2 : decide (9 < P) = false := decide_eq_false a2
      have hp : 0 < P := by
        rcases Int.lt_or_le 0 P with h' | h'
        · exact h'
        · exact absurd ⟨by omega, by omega, fun hh => by omega⟩ h
      have hm : U.tmod 10 = 0 := by
        rcases Decidable.em (U.tmod 10 = 0) with h' | h'
        · exact h'
        · exact absurd ⟨by omega, by omega, fun _ => h'⟩ h
      have g3 : decide (0 < P) = true := decide_eq_true hp
      go_enter Tryz.func93, Tryz.ntmps93
      go_wp2_with fail
      go_ret
      exact ⟨rfl, (Below.refl _ _).alloc (Nat.le_refl _) _⟩
set_option maxHeartbeats 4000000 in
theorem rsingle_any (n : Nd) (w : World) : Calls Tryz.prog 75 #[nv n] w fun e w' => e = .returned (.bool (mB n)) ∧ Below w.heap.size w w' := by
  obtain ⟨kd, ks, nm, op, un, pl⟩ := n
  dsimp only [nv]
  by_cases k1 : kd = 1
  · subst k1
    go_enter Tryz.func75, Tryz.ntmps75
    go_wp2_with fail
    all_goals (go_ret; refine ⟨?_, two_al _ _ _⟩; first | (simp [mB, NdOk, *]; done) | (simp [mB, NdOk, *]; intro hh; omega))
  by_cases k2 : kd = 2
  · subst k2
    go_enter Tryz.func75, Tryz.ntmps75
    go_wp2_with fail
    all_goals (go_ret; refine ⟨?_, two_al _ _ _⟩; first | (simp [mB, NdOk, *]; done) | (simp [mB, NdOk, *]; intro hh; omega))
  by_cases k3 : kd = 3
  · subst k3
    go_enter Tryz.func75, Tryz.ntmps75
    go_wp2_with fail
    all_goals (go_ret; refine ⟨?_, two_al _ _ _⟩; first | (simp [mB, NdOk, *]; done) | (simp [mB, NdOk, *]; intro hh; omega))
  by_cases k4 : kd = 4
  · subst k4
    go_enter Tryz.func75, Tryz.ntmps75
    go_upto_region 1 with fail
    refine ent1 w _ _ (Q := fun W => Code.wp _ _ _ _ W) ?_
    intro W1 hb1 hs1 V1
    go_upto_region 2 with fail
    refine ent1 W1 _ _ (Q := fun W => Code.wp _ _ _ _ W) ?_
    intro W2 hb2 hs2 V2
    have V3 := V1.after hb2
    have HB2 : Hid (Below w.heap.size w W2) := step hb1 hb2
    rw [hs1] at V2
    have n0 := V3.n0
    have n2 := V3.n2
    clear hb1 hb2 V1
    go_wp2_with (go_at_call 53; refine (rWord_any nm _).mono ?_; rintro e w2 ⟨rfl, hb⟩; have HB : Hid (Below w.heap.size w w2) := step HB2.out hb; have V4 := V3.after hb; have V5 := V2.after hb; have c0 := V4.n0; have c1 := V4.n1; have c3 := V4.n3; have c4 := V4.n4; have c5 := V4.n5; have d0 := V5.dd0; have d1 := V5.dd1; clear hb V4 V5)
    all_goals (go_ret; refine ⟨?_, HB.out⟩; first | (simp [mB, NdOk, *]; done) | (simp [mB, NdOk, *]; intro hh; omega))
  by_cases k5 : kd = 5
  · subst k5
    go_enter Tryz.func75, Tryz.ntmps75
    go_upto_region 1 with fail
    refine ent1 w _ _ (Q := fun W => Code.wp _ _ _ _ W) ?_
    intro W1 hb1 hs1 V1
    go_upto_region 2 with fail
    refine ent1 W1 _ _ (Q := fun W => Code.wp _ _ _ _ W) ?_
    intro W2 hb2 hs2 V2
    have V3 := V1.after hb2
    have HB2 : Hid (Below w.heap.size w W2) := step hb1 hb2
    rw [hs1] at V2
    have n0 := V3.n0
    have n2 := V3.n2
    clear hb1 hb2 V1
    go_wp2_with (go_at_call 53; refine (rWord_any nm _).mono ?_; rintro e w2 ⟨rfl, hb⟩; have HB : Hid (Below w.heap.size w w2) := step HB2.out hb; have V4 := V3.after hb; have V5 := V2.after hb; have c0 := V4.n0; have c1 := V4.n1; have c3 := V4.n3; have c4 := V4.n4; have c5 := V4.n5; have d0 := V5.dd0; have d1 := V5.dd1; clear hb V4 V5)
    all_goals (go_ret; refine ⟨?_, HB.out⟩; first | (simp [mB, NdOk, *]; done) | (simp [mB, NdOk, *]; intro hh; omega))
  by_cases k6 : kd = 6
  · subst k6
    go_enter Tryz.func75, Tryz.ntmps75
    by_cases hc : CanI un pl
    · have HC : Hid (CanI un pl) := hc
      clear hc
      go_wp2_with (go_at_call 93; refine (rck6_ok un pl HC.out _).mono ?_; rintro e w2 ⟨rfl, hb⟩; have HB : Hid (Below w.heap.size w w2) := step (two_al _ _ _) hb; clear hb)
      all_goals (go_ret; refine ⟨?_, by first | exact HB.out | exact two_al _ _ _⟩)
      all_goals have hc := HC.out
      all_goals have hc2 : CanD un pl := hc
      all_goals first | (simp [mB, NdOk, *]; done) | (simp [mB, NdOk, *]; intros; omega) | (simp [mB, NdOk, *]; omega)
    · have HC : Hid (¬ CanI un pl) := hc
      clear hc
      go_wp2_with (go_at_call 93; refine (rck6_no un pl HC.out _).mono ?_; rintro e w2 ⟨rfl, hb⟩; have HB : Hid (Below w.heap.size w w2) := step (two_al _ _ _) hb; clear hb)
      all_goals (go_ret; refine ⟨?_, by first | exact HB.out | exact two_al _ _ _⟩)
      all_goals have hc2 : ¬ CanD un pl := HC.out
      all_goals first | (simp [mB, NdOk, *]; done) | (simp [mB, NdOk, *]; intros; omega)
  by_cases k7 : kd = 7
  · subst k7
    go_enter Tryz.func75, Tryz.ntmps75
    by_cases hc : CanI un pl
    · have HC : Hid (CanI un pl) := hc
      clear hc
      go_wp2_with (go_at_call 93; refine (rck6_ok un pl HC.out _).mono ?_; rintro e w2 ⟨rfl, hb⟩; have HB : Hid (Below w.heap.size w w2) := step (two_al _ _ _) hb; clear hb)
      all_goals (go_ret; refine ⟨?_, by first | exact HB.out | exact two_al _ _ _⟩)
      all_goals have hc := HC.out
      all_goals have hc2 : CanD un pl := hc
      all_goals first | (simp [mB, NdOk, *]; done) | (simp [mB, NdOk, *]; intros; omega) | (simp [mB, NdOk, *]; omega)
    · have HC : Hid (¬ CanI un pl) := hc
      clear hc
      go_wp2_with (go_at_call 93; refine (rck6_no un pl HC.out _).mono ?_; rintro e w2 ⟨rfl, hb⟩; have HB : Hid (Below w.heap.size w w2) := step (two_al _ _ _) hb; clear hb)
      all_goals (go_ret; refine ⟨?_, by first | exact HB.out | exact two_al _ _ _⟩)
      all_goals have hc2 : ¬ CanD un pl := HC.out
      all_goals first | (simp [mB, NdOk, *]; done) | (simp [mB, NdOk, *]; intros; omega)
  go_enter Tryz.func75, Tryz.ntmps75
  go_wp2_with fail
  go_ret
  refine ⟨?_, two_al _ _ _⟩
  have hh : ¬ NdOk wdB ⟨kd, ks, nm, op, un, pl⟩ := by
    rintro (⟨h, -⟩ | ⟨h, -⟩ | ⟨h, -⟩ | ⟨h, -⟩) <;> dsimp only at h <;> omega
  rw [mB_no hh]; rfl
theorem bool_neg (b : Bool) (w : World) : True := trivial
set_option maxHeartbeats 4000000 in
theorem rrising_any (l : List (List UInt8)) (a : Option Addr) (cap : Nat) (w : World) (hL : Le elS w a l.length l) :
    Calls Tryz.prog 29 #[.slice a l.length cap] w fun e w' => e = .returned (.bool (trB l)) ∧ Below w.heap.size w w' := by
  obtain ⟨R, hR⟩ : ∃ R, trB l = R := ⟨_, rfl⟩
  have HR : Hid (trB l = R) := hR
  have HL : Hid (Le elS w a l.length l) := hL
  rw [hR]
  clear hR hL
  rcases Nat.lt_or_ge 16 l.length with h16 | h16
  · have h16' : (16 : Int) < l.length := by omega
    have HR2 : Hid (false = R) := by show _ = _; rw [← HR.out, trB_no (fun h => by have := h.1; omega)]
    go_enter Tryz.func29, Tryz.ntmps29
    go_wp2_with fail
    go_ret
    exact ⟨by rw [← HR2.out]; rfl, Below.refl _ _⟩
  · have h16' : ¬ (16 : Int) < l.length := by omega
    have HW0 : Hid ((l.take 0).all wdB = true) := rfl
    go_enter Tryz.func29, Tryz.ntmps29
    go_wp2_with fail
    go_loopw [3, 4] (fun j _ wr => ∃ i : Nat, j = .int .i64 i ∧ i ≤ l.length ∧ Hid ((l.take i).all wdB = true) ∧ Hid (Ris l i) ∧ Hid (Below w.heap.size w wr)) (fun j _ _ => (l.length - (intOf j).toNat : Nat))
    case atStart => exact ⟨0, rfl, Nat.zero_le _, HW0, (fun j hj => by omega), Below.refl _ _⟩
    case round =>
      clear HW0
      obtain ⟨i, rfl, hi, HW, HI, HB⟩ := hrel
      rcases Nat.lt_or_ge i l.length with hlt | hge
      · have hii : (i : Int) < l.length := by omega
        obtain ⟨b, off, rfl⟩ := HL.out.ex (by omega)
        have hcc : ∀ j, j < l.length → wr.cell? ⟨b, off + j, none⟩ = some (sv (l.getD j [])) := fun j hj => by have := (HL.out.after HB.out).at j hj 0 (sv (l.getD j [])) rfl; simpa [elS] using this
        have HCC : Hid (∀ j, j < l.length → wr.cell? ⟨b, off + j, none⟩ = some (sv (l.getD j []))) := hcc
        have ct := hcc i hlt
        have HX0 : Hid (∀ x, l.getD i [] = x → l.getD i [] = x) := fun x h => h
        obtain ⟨z, hz⟩ : ∃ z, l.getD i [] = z := ⟨_, rfl⟩
        have HZ : Hid (l.getD i [] = z) := hz
        rw [hz] at ct
        clear hcc hz
        have C9 := rWord_any z wr
        have hmem : z ∈ l := by rw [← HZ.out, List.getD_eq_getElem?_getD, List.getElem?_eq_getElem hlt]; exact List.getElem_mem _
        cases hx : wdB z with
        | false =>
          rw [hx] at C9
          have HR2 : Hid (false = R) := by show _ = _; rw [← HR.out, trB_no (fun h => by have h2 := List.all_eq_true.1 h.2.1 z hmem; rw [hx] at h2; cases h2)]
          clear hx hmem
          go_wp2_with fail
          refine C9.mono ?_
          rintro e w2 ⟨rfl, hb⟩
          have HB2 : Hid (Below w.heap.size w w2) := step HB.out hb
          clear hb C9 HB ct
          go_wp2_with fail
          go_quiet (fail)
          refine nameR w2 _ (Q := fun W => Exit.then _ _ _ _ W) (fun wq hcell hBw hsq => ?_)
          have HBq : Hid (Below w.heap.size w wq) := step HB2.out hBw
          clear hcell hBw hsq HB2
          go_wp2_with fail
          go_ret
          exact ⟨by rw [← HR2.out]; rfl, HBq.out⟩
        | true =>
          rw [hx] at C9
          have HW2 : Hid ((l.take (i + 1)).all wdB = true) := by
            show _ = _
            rw [List.take_succ_eq_append_getElem hlt, List.all_append, HW.out]
            have : l[i] = z := by rw [← HZ.out, List.getD_eq_getElem?_getD, List.getElem?_eq_getElem hlt]; rfl
            simp [this, hx]
          clear hx hmem HW
          go_wp2_with fail
          refine C9.mono ?_
          rintro e w2 ⟨rfl, hb⟩
          have HB2 : Hid (Below w.heap.size w w2) := step HB.out hb
          have HC2 : Hid (∀ j, j < l.length → w2.cell? ⟨b, off + j, none⟩ = some (sv (l.getD j []))) := fun j hj => by
            have := HCC.out j hj
            exact (hb.cell (p := ⟨b, off + j, none⟩) (cell_lt this)).trans this
          clear hb C9 HB ct HCC
          rcases Nat.eq_zero_or_pos i with h0 | h0
          · subst h0
            go_wp2_with fail
            go_quiet (fail)
            refine nameR w2 _ (Q := fun W => Exit.then _ _ _ _ W) (fun wq hcell hBw hsq => ?_)
            have HBq : Hid (Below w.heap.size w wq) := step HB2.out hBw
            clear hcell hBw hsq HB2 HC2
            go_wp2_with fail
            go_roundw
            case rel => exact ⟨1, rfl, by omega, HW2.out, (fun j hj => by omega), HBq.out⟩
            case measure => simp [intOf]; omega
          · obtain ⟨j, rfl⟩ : ∃ j, i = j + 1 := ⟨i - 1, by omega⟩
            have c0 := HC2.out j (by omega)
            have c1 := HC2.out (j + 1) hlt
            have sg := string_geq
            have x1 : IntKind.i64.wrap (j : Int) = j := by rw [IntKind.wrap_i64]; omega
            have hj0 : (0 : Int) ≤ j := by omega
            have hjl : (j : Int) < l.length := by omega
            have hp : (0 : Int) < (j : Int) + 1 := by omega
            obtain ⟨x, hx⟩ : ∃ x, l.getD j [] = x := ⟨_, rfl⟩
            obtain ⟨y, hy⟩ : ∃ y, l.getD (j + 1) [] = y := ⟨_, rfl⟩
            have HX : Hid (l.getD j [] = x ∧ l.getD (j + 1) [] = y) := ⟨hx, hy⟩
            rw [hx] at c0
            rw [hy] at c1
            clear hx hy HC2
            cases hL2 : Op.bytesLess x y with
            | true =>
              go_wp2_with fail
              go_quiet (fail)
              refine nameR w2 _ (Q := fun W => Exit.then _ _ _ _ W) (fun wq hcell hBw hsq => ?_)
              have HBq : Hid (Below w.heap.size w wq) := step HB2.out hBw
              have HI2 : Hid (Ris l (j + 1 + 1)) := fun q hq => by
                rcases Nat.lt_or_ge (q + 1) (j + 1) with h | h
                · exact HI.out q h
                · obtain rfl : q = j := by omega
                  rw [HX.out.1, HX.out.2]; exact hL2
              clear hcell hBw hsq HB2 hL2
              go_wp2_with fail
              go_roundw
              case rel => exact ⟨j + 1 + 1, rfl, by omega, HW2.out, HI2.out, HBq.out⟩
              case measure => simp [intOf]; omega
            | false =>
              go_wp2_with fail
              go_quiet (fail)
              refine nameR w2 _ (Q := fun W => Exit.then _ _ _ _ W) (fun wq hcell hBw hsq => ?_)
              have HBq : Hid (Below w.heap.size w wq) := step HB2.out hBw
              have HR2 : Hid (false = R) := by
                show _ = _
                rw [← HR.out, trB_no]
                intro h
                have := h.2.2 j hlt
                rw [HX.out.1, HX.out.2, hL2] at this
                cases this
              clear hcell hBw hsq HB2 hL2
              go_wp2_with fail
              go_ret
              exact ⟨by rw [← HR2.out]; rfl, HBq.out⟩
      · obtain rfl : i = l.length := by omega
        have HR2 : Hid (true = R) := by show _ = _; rw [← HR.out, trB_yes ⟨h16, by have := HW.out; rwa [List.take_length] at this, HI.out⟩]
        clear hge HR HI
        go_wp2_with fail
        go_ret
        exact ⟨by rw [← HR2.out]; rfl, HB.out⟩
set_option maxHeartbeats 4000000 in
theorem rfit_any (by1 ln1 : List (List UInt8)) (a1 : Option Addr) (c1 : Nat) (a2 : Option Addr) (c2 : Nat) (am dg qt : Int) (w : World) (h1 : Le elS w a1 by1.length by1) (h2 : Le elS w a2 ln1.length ln1) :
    Calls Tryz.prog 11 #[.agg #[.slice a1 by1.length c1, .slice a2 ln1.length c2, .int .i64 am, .int .i64 dg, .int .i64 qt]] w fun e w' => e = .returned (.int .i64 (ftE by1 ln1 am dg qt)) ∧ Below w.heap.size w w' := by
  obtain ⟨R, hR⟩ : ∃ R, ftE by1 ln1 am dg qt = R := ⟨_, rfl⟩
  have HR : Hid (ftE by1 ln1 am dg qt = R) := hR
  rw [hR]
  have H1 : Hid (Le elS w a1 by1.length by1) := h1
  have H2 : Hid (Le elS w a2 ln1.length ln1) := h2
  clear hR h1 h2
  have C1 := fun W h => rrising_any by1 a1 c1 W h
  have C2 := fun W h => rrising_any ln1 a2 c2 W h
  cases hb : trB by1 with
  | false =>
    have HE : Hid (R = 141) := by show _ = _; rw [← HR.out, ftE_no (fun h => by rw [trB_yes h.1] at hb; cases hb)]
    rw [hb] at C1
    go_enter Tryz.func11, Tryz.ntmps11
    go_upto_region 1 with fail
    refine ent1 w _ _ (Q := fun W => Code.wp _ _ _ _ W) ?_
    intro W1 hb1 hs1 V1
    have v0 := V1.f0
    have D1 := C1 W1 (H1.out.after hb1)
    go_wp2_with fail
    refine D1.mono ?_
    rintro e W2 ⟨rfl, hb2⟩
    go_wp2_with fail
    go_ret
    exact ⟨by rw [HE.out]; rfl, step hb1 hb2⟩
  | true =>
    have HT1 : Hid (Trs by1) := trB_iff.1 hb
    rw [hb] at C1
    clear hb
    cases hb : trB ln1 with
    | false =>
      have HE : Hid (R = 141) := by show _ = _; rw [← HR.out, ftE_no (fun h => by rw [trB_yes h.2.1] at hb; cases hb)]
      rw [hb] at C2
      go_enter Tryz.func11, Tryz.ntmps11
      go_upto_region 1 with fail
      refine ent1 w _ _ (Q := fun W => Code.wp _ _ _ _ W) ?_
      intro W1 hb1 hs1 V1
      have v0 := V1.f0
      have D1 := C1 W1 (H1.out.after hb1)
      go_wp2_with fail
      refine D1.mono ?_
      rintro e W2 ⟨rfl, hb2⟩
      have v1 := (V1.after hb2).f1
      have D2 := C2 W2 (H2.out.after (step hb1 hb2))
      clear D1 v0
      go_wp2_with fail
      refine D2.mono ?_
      rintro e W3 ⟨rfl, hb3⟩
      go_wp2_with fail
      go_ret
      exact ⟨by rw [HE.out]; rfl, step (step hb1 hb2) hb3⟩
    | true =>
      have HT2 : Hid (Trs ln1) := trB_iff.1 hb
      rw [hb] at C2
      clear hb
      go_enter Tryz.func11, Tryz.ntmps11
      go_upto_region 1 with fail
      refine ent1 w _ _ (Q := fun W => Code.wp _ _ _ _ W) ?_
      intro W1 hb1 hs1 V1
      have v0 := V1.f0
      have D1 := C1 W1 (H1.out.after hb1)
      go_wp2_with fail
      refine D1.mono ?_
      rintro e W2 ⟨rfl, hb2⟩
      have v1 := (V1.after hb2).f1
      have D2 := C2 W2 (H2.out.after (step hb1 hb2))
      clear D1 v0
      go_wp2_with fail
      refine D2.mono ?_
      rintro e W3 ⟨rfl, hb3⟩
      have V3 := (V1.after hb2).after hb3
      have HB3 : Hid (Below w.heap.size w W3) := step (step hb1 hb2) hb3
      have u2 := V3.f2
      have u3 := V3.f3
      have u4 := V3.f4
      clear D2 v1 hb1 hb2 hb3 V1 V3
      have HE1 : Hid (0 ≤ dg → dg ≤ 4 → 0 ≤ am → 0 ≤ qt → R = 0) := fun i1 i2 i3 i4 => by rw [← HR.out, ftE_ok ⟨HT1.out, HT2.out, i1, i2, i3, i4⟩]
      have HE2 : Hid (¬ (0 ≤ dg ∧ dg ≤ 4 ∧ 0 ≤ am ∧ 0 ≤ qt) → R = 141) := fun i => by rw [← HR.out, ftE_no (fun h => i h.2.2)]
      clear HR
      by_cases i1 : dg < 0
      · have ji1 : decide (dg < 0) = true := decide_eq_true i1
        have HE : Hid (R = 141) := HE2.out (fun h => by omega)
        go_wp2_with fail
        go_ret
        exact ⟨by rw [HE.out]; rfl, HB3.out⟩
      · have ji1 : decide (dg < 0) = false := decide_eq_false i1
        by_cases i2 : 4 < dg
        · have ji2 : decide (4 < dg) = true := decide_eq_true i2
          have HE : Hid (R = 141) := HE2.out (fun h => by omega)
          go_wp2_with fail
          go_ret
          exact ⟨by rw [HE.out]; rfl, HB3.out⟩
        · have ji2 : decide (4 < dg) = false := decide_eq_false i2
          by_cases i3 : am < 0
          · have ji3 : decide (am < 0) = true := decide_eq_true i3
            have HE : Hid (R = 141) := HE2.out (fun h => by omega)
            go_wp2_with fail
            go_ret
            exact ⟨by rw [HE.out]; rfl, HB3.out⟩
          · have ji3 : decide (am < 0) = false := decide_eq_false i3
            by_cases i4 : qt < 0
            · have ji4 : decide (qt < 0) = true := decide_eq_true i4
              have HE : Hid (R = 141) := HE2.out (fun h => by omega)
              go_wp2_with fail
              go_ret
              exact ⟨by rw [HE.out]; rfl, HB3.out⟩
            · have ji4 : decide (qt < 0) = false := decide_eq_false i4
              have HE : Hid (R = 0) := HE1.out (by omega) (by omega) (by omega) (by omega)
              go_wp2_with fail
              go_ret
              exact ⟨by rw [HE.out]; rfl, HB3.out⟩
end Go.Proofs.YtblafbbnplfpjaaGreatDoor
namespace Go.Proofs.YtblafbbnplfpjaaGreatDoor
open Go.RowKit Go.Shelf
set_option linter.unusedVariables false
set_option linter.unusedSimpArgs false

theorem ok_zero {n : Nd} {k : Fo} {o : Int} {d : Nat} (h : (Fo.cons n k .nil).Ok wdB o d) : (Fo.cons n k .nil).Ok wdB 0 d := by
  obtain ⟨⟨h1, h2, h3, h4, h5⟩, h6⟩ := h
  exact ⟨⟨h1, fun e => kd_ne_zero h1 e.1, h3, h4, h5⟩, trivial⟩
theorem no_zero {l : List Nd} {d : Nat} (h : NoTree wdB l 0 d) (o : Int) : NoTree wdB l o d :=
  fun n k r e ok => h n k r e (ok_zero ok)
/-- A tree that begins there is the only one. -/
theorem one_tree {n m : Nd} {k j : Fo} {x y : List Nd} {o o' : Int} {d : Nat} (h1 : (Fo.cons n k .nil).Ok wdB o d) (h2 : (Fo.cons m j .nil).Ok wdB o' d) (e : (Fo.cons n k .nil).flat ++ x = (Fo.cons m j .nil).flat ++ y) : n = m ∧ k = j ∧ x = y := by
  obtain ⟨ha, hb⟩ := flat_inj _ _ _ _ _ _ _ _ h1 h2 rfl e
  cases ha
  exact ⟨rfl, rfl, hb⟩
theorem no_same {n m : Nd} {k : Fo} {x : List Nd} {d : Nat} (h : (Fo.cons m k .nil).Ok wdB 0 d) (e : m.kd = n.kd) (h3 : n.kd ≠ 3) : NoTree wdB ((Fo.cons m k .nil).flat ++ x) n.kd d := by
  intro a b r e' ok
  obtain ⟨rfl, rfl, -⟩ := one_tree h ok e'
  exact ok.1.2.1 ⟨e, by rw [e]; exact h3⟩
theorem ok_kid {n m : Nd} {k : Fo} {d : Nat} (h : (Fo.cons m k .nil).Ok wdB 0 d) (e : m.kd ≠ n.kd ∨ n.kd = 3) : (Fo.cons m k .nil).Ok wdB n.kd d := by
  obtain ⟨⟨h1, h2, h3, h4, h5⟩, h6⟩ := h
  exact ⟨⟨h1, fun x => by rcases e with e | e
                          · exact e x.1
                          · exact x.2 (x.1.trans e), h3, h4, h5⟩, trivial⟩
/-- A tree was found: its node, what is below, where it ends, how it lies. -/
structure Tgr (ns : List Nd) (p d B : Nat) (W : World) (n : Nd) (k : Fo) (t : Tc) (q : Nat) : Prop where
  e : ns.drop p = (Fo.cons n k .nil).flat ++ ns.drop q
  le : q ≤ ns.length
  ok : (Fo.cons n k .nil).Ok wdB 0 d
  t : Rtw W (fun b => B ≤ b) (.cons n k .nil) [t]
def TgE (ns : List Nd) (p d : Nat) (w : World) (e : Ending) (w' : World) : Prop :=
  Below w.heap.size w w' ∧ ((e = .returned (.tuple #[.agg zT, .int .i64 (-1)]) ∧ NoTree wdB (ns.drop p) 0 d) ∨ ∃ n k t q, e = .returned (.tuple #[tvT t, .int .i64 (q : Nat)]) ∧ Tgr ns p d w.heap.size w' n k t q)
/-- The kids so far. -/
structure Ks (ns : List Nd) (p d B bt : Nat) (n : Nd) (W : World) (i q : Nat) (kj : Fo) (ts : List Tc) (v : Value) : Prop where
  len : kj.len = i
  ok : kj.Ok wdB n.kd (d + 1)
  e : ns.drop (p + 1) = kj.flat ++ ns.drop q
  le : q ≤ ns.length
  g : Ge elT W (bt + 1) v ts
  r : Rtw W (fun b => bt < b ∧ v.ownBlock ≠ some b) kj ts
theorem Ks.start {ns : List Nd} {p d B bt : Nat} {n : Nd} {W : World} (h : p + 1 ≤ ns.length) : Ks ns p d B bt n W 0 (p + 1) .nil [] (.slice none 0 0) :=
  ⟨rfl, trivial, rfl, h, Ge.nil _ _, rfl⟩
theorem Ks.lenT {ns : List Nd} {p d B bt : Nat} {n : Nd} {W : World} {i q : Nat} {kj : Fo} {ts : List Tc} {v : Value} (h : Ks ns p d B bt n W i q kj ts v) : ts.length = i := by
  rw [h.r.len, h.len]
theorem Ks.i64 {ns : List Nd} {p d B bt : Nat} {n : Nd} {W : World} {i q : Nat} {kj : Fo} {ts : List Tc} {v : Value} (h : Ks ns p d B bt n W i q kj ts v) : i ≤ ns.length := by
  have h4 := Fo.len_flat kj
  have h5 := congrArg List.length h.e
  simp only [List.length_drop, List.length_append] at h5
  have := h.len
  omega
/-- One kid more. -/
theorem Ks.more {ns : List Nd} {p d B bt : Nat} {n : Nd} {wr w5 W7 : World} {i q q' : Nat} {kj : Fo} {ts : List Tc} {v v' : Value} {m : Nd} {k : Fo} {t : Tc}
    (h : Ks ns p d B bt n wr i q kj ts v) (hg : Tgr ns q (d + 1) wr.heap.size w5 m k t q') (hk : m.kd ≠ n.kd ∨ n.kd = 3) (hb : bt < wr.heap.size)
    (hge : Ge elT W7 (bt + 1) v' (ts ++ [t])) (hv : v'.ownBlock = v.ownBlock ∨ ∃ c, v'.ownBlock = some c ∧ w5.heap.size ≤ c) (h5 : Below wr.heap.size wr w5)
    (h7 : ∀ b, b < w5.heap.size → b ≠ bt → v.ownBlock ≠ some b → W7.heap[b]? = w5.heap[b]?) : Ks ns p d B bt n W7 (i + 1) q' (kj.app (.cons m k .nil)) (ts ++ [t]) v' := by
  have hs := h5.size
  refine ⟨by rw [Fo.len_app, h.len]; rfl, h.ok.app (ok_kid hg.ok hk), by rw [h.e, hg.e, Fo.flat_app, List.append_assoc], hg.le, hge, Rtw.app (Rtw.imp (fun b hb' hp => ?_) h.r) (Rtw.imp (fun b hb' hp => ?_) hg.t)⟩
  · refine ⟨⟨hp.1, ?_⟩, ?_⟩
    · rcases hv with e | ⟨c, e, hc⟩
      · rw [e]; exact hp.2
      · rw [e]; intro x; cases x; omega
    · rw [h7 b (by omega) (by omega) hp.2, h5.block b hb']
  · have hvb : v.ownBlock ≠ some b := fun e => by have := h.g.lt b e; omega
    refine ⟨⟨by omega, ?_⟩, h7 b hb' (by omega) hvb⟩
    rcases hv with e | ⟨c, e, hc⟩
    · rw [e]; exact hvb
    · rw [e]; intro x; cases x; omega
theorem Ks.next {ns : List Nd} {p d B bt : Nat} {n : Nd} {wr w5 W6 W8 : World} {i q q' : Nat} {kj : Fo} {ts : List Tc} {v v' : Value} {m : Nd} {k : Fo} {t : Tc}
    (h : Ks ns p d B bt n wr i q kj ts v) (hg : Tgr ns q (d + 1) wr.heap.size w5 m k t q') (hk : m.kd ≠ n.kd ∨ n.kd = 3) (hb : bt < wr.heap.size)
    (h5 : Below wr.heap.size wr w5) (h6 : Below w5.heap.size w5 W6) (hge : Ge elT W8 (bt + 1) v' (ts ++ [t])) (hv : v'.ownBlock = v.ownBlock ∨ ∃ c, v'.ownBlock = some c ∧ W6.heap.size ≤ c)
    (hbl : ∀ c, c < W6.heap.size → v.ownBlock ≠ some c → W8.heap[c]? = W6.heap[c]?) (u : Value) : Ks ns p d B bt n (W8.setCell ⟨bt, 6, none⟩ u) (i + 1) q' (kj.app (.cons m k .nil)) (ts ++ [t]) v' := by
  have hs := h6.size
  refine h.more hg hk hb (hge.far (p := ⟨bt, 6, none⟩) (fun e => by have := hge.block bt e; omega) u) ?_ h5 (fun b hlt hne hno => ?_)
  · exact hv.imp id (fun ⟨c, e, hc⟩ => ⟨c, e, by omega⟩)
  · exact (heap_setCell_other W8 ⟨bt, 6, none⟩ b u hne).trans ((hbl b (by omega) hno).trans (h6.block b hlt))
/-- All kids are there. -/
theorem Ks.whole {ns : List Nd} {p d B bt : Nat} {n : Nd} {wr W7 : World} {i q : Nat} {kj : Fo} {ts : List Tc} {a : Option Addr} {l c : Nat}
    (h : Ks ns p d B bt n wr i q kj ts (.slice a l c)) (hd : ns.drop p = n :: ns.drop (p + 1)) (hn : NdOk wdB n) (hi : (i : Int) = n.ks) (hd16 : d ≤ 16) (hB : B ≤ bt)
    (h7 : ∀ b, bt < b → W7.heap[b]? = wr.heap[b]?) : Tgr ns p d B W7 n kj ⟨n, a, l, c⟩ q := by
  refine ⟨by rw [hd, h.e]; simp [Fo.flat], h.le, ⟨⟨hn, fun e => kd_ne_zero hn e.1, hd16, by rw [h.len, hi], h.ok⟩, trivial⟩, ?_⟩
  obtain ⟨a', c', e, -, -, -⟩ := h.g.shape
  cases e
  refine ⟨_, [], ts, rfl, rfl, h.r.len, ?_, ?_, Rtw.imp (fun b hb hp => ⟨by omega, h7 b hp.1⟩) h.r, rfl⟩
  · refine h.g.toLe.kept (fun h0 b off e hlt => h7 b ?_)
    have := h.g.block b (by rw [e]; rfl)
    omega
  · intro h0 b off e
    have := h.g.block b (by
      obtain ⟨a', c', e', -, -, h' | ⟨g, e3⟩⟩ := h.g.shape
      · cases e'; rw [h'.2.1] at h0; exact absurd h0 (Nat.lt_irrefl _)
      · cases e'; cases e; cases e3; rfl)
    omega
theorem Ks.after {ns : List Nd} {p d B bt : Nat} {n : Nd} {wr W : World} {i q : Nat} {kj : Fo} {ts : List Tc} {v : Value}
    (h : Ks ns p d B bt n wr i q kj ts v) (hb : Below wr.heap.size wr W) : Ks ns p d B bt n W i q kj ts v :=
  ⟨h.len, h.ok, h.e, h.le, h.g.after hb, Rtw.imp (fun b hlt hp => ⟨hp, hb.block b hlt⟩) h.r⟩
end Go.Proofs.YtblafbbnplfpjaaGreatDoor
namespace Go.Proofs.YtblafbbnplfpjaaGreatDoor
open Go.RowKit Go.Shelf
set_option linter.unusedVariables false
set_option linter.unusedSimpArgs false

set_option maxRecDepth 20000 in
set_option maxHeartbeats 16000000 in
theorem grown_any (ns : List Nd) (a : Option Addr) (cap : Nat) (h64 : ∀ n ∈ ns, N64 n) (hl : ns.length ≤ 64) : ∀ (f d : Nat), d + f = 17 → ∀ (p : Nat) (w : World), p ≤ ns.length → Le elN w a ns.length ns →
    Calls Tryz.prog 52 #[.slice a ns.length cap, .int .i64 p, .int .i64 d] w (TgE ns p d w) := by
  intro f
  induction f with
  | zero =>
    intro d hd p w hp hL
    have hd' : (16 : Int) < d := by omega
    have HR : Hid (NoTree wdB (ns.drop p) 0 d) := no_deep _ _ _ (by omega)
    clear hL
    by_cases hpl : p < ns.length
    · have hpi : ¬ (ns.length : Int) ≤ p := by omega
      clear hpl
      go_enter Tryz.func52, Tryz.ntmps52
      go_upto_region 1 with fail
      refine ent1 w _ _ (Q := fun W => Code.wp _ _ _ _ W) ?_
      intro W1 hb1 hs1 V1
      have HV1 : Hid (Va W1 w.heap.size 56 zT) := V1
      have HB1 : Hid (Below w.heap.size w W1) := hb1
      have f0 := V1.frozen 0
      have zf0 := V1.t0
      have f1 := V1.frozen 1
      have zf1 := V1.t1
      have f2 := V1.frozen 2
      have zf2 := V1.t2
      have f3 := V1.frozen 3
      have zf3 := V1.t3
      have f4 := V1.frozen 4
      have zf4 := V1.t4
      have f5 := V1.frozen 5
      have zf5 := V1.t5
      have f6 := V1.frozen 6
      have zf6 := V1.t6
      clear V1 hb1 hs1
      go_wp2_with fail
      refine bodyPost_ret (results_tn rfl rfl rfl (HV1.out.set7 _ _ _ _ _ _ _ )) rfl ?_
      exact ⟨below_7 HB1.out (Nat.le_refl _) _ _ _ _ _ _ _ , .inl ⟨rfl, HR.out⟩⟩
    · have hpi : (ns.length : Int) ≤ p := by omega
      clear hpl
      go_enter Tryz.func52, Tryz.ntmps52
      go_upto_region 1 with fail
      refine ent1 w _ _ (Q := fun W => Code.wp _ _ _ _ W) ?_
      intro W1 hb1 hs1 V1
      have HV1 : Hid (Va W1 w.heap.size 56 zT) := V1
      have HB1 : Hid (Below w.heap.size w W1) := hb1
      have f0 := V1.frozen 0
      have zf0 := V1.t0
      have f1 := V1.frozen 1
      have zf1 := V1.t1
      have f2 := V1.frozen 2
      have zf2 := V1.t2
      have f3 := V1.frozen 3
      have zf3 := V1.t3
      have f4 := V1.frozen 4
      have zf4 := V1.t4
      have f5 := V1.frozen 5
      have zf5 := V1.t5
      have f6 := V1.frozen 6
      have zf6 := V1.t6
      clear V1 hb1 hs1
      go_wp2_with fail
      refine bodyPost_ret (results_tn rfl rfl rfl (HV1.out.set7 _ _ _ _ _ _ _ )) rfl ?_
      exact ⟨below_7 HB1.out (Nat.le_refl _) _ _ _ _ _ _ _ , .inl ⟨rfl, HR.out⟩⟩
  | succ f ih =>
    intro d hd p w hp hL
    have hd' : ¬ (16 : Int) < d := by omega
    have HL : Hid (Le elN w a ns.length ns) := hL
    rcases Nat.eq_or_lt_of_le hp with hpe | hpl
    · have HR : Hid (NoTree wdB (ns.drop p) 0 d) := by show NoTree _ _ _ _; rw [hpe, List.drop_length]; exact no_end _ _
      have hpi : (ns.length : Int) ≤ p := by omega
      clear hpe hL
      go_enter Tryz.func52, Tryz.ntmps52
      go_upto_region 1 with fail
      refine ent1 w _ _ (Q := fun W => Code.wp _ _ _ _ W) ?_
      intro W1 hb1 hs1 V1
      have HV1 : Hid (Va W1 w.heap.size 56 zT) := V1
      have HB1 : Hid (Below w.heap.size w W1) := hb1
      have f0 := V1.frozen 0
      have zf0 := V1.t0
      have f1 := V1.frozen 1
      have zf1 := V1.t1
      have f2 := V1.frozen 2
      have zf2 := V1.t2
      have f3 := V1.frozen 3
      have zf3 := V1.t3
      have f4 := V1.frozen 4
      have zf4 := V1.t4
      have f5 := V1.frozen 5
      have zf5 := V1.t5
      have f6 := V1.frozen 6
      have zf6 := V1.t6
      clear V1 hb1 hs1
      go_wp2_with fail
      refine bodyPost_ret (results_tn rfl rfl rfl (HV1.out.set7 _ _ _ _ _ _ _ )) rfl ?_
      exact ⟨below_7 HB1.out (Nat.le_refl _) _ _ _ _ _ _ _ , .inl ⟨rfl, HR.out⟩⟩
    · have hpi : ¬ (ns.length : Int) ≤ p := by omega
      obtain ⟨b, off, rfl⟩ := hL.ex (by omega)
      obtain ⟨n, hn⟩ : ∃ n, ns.getD p nd0 = n := ⟨_, rfl⟩
      have hmem : n ∈ ns := by rw [← hn, List.getD_eq_getElem?_getD, List.getElem?_eq_getElem hpl]; exact List.getElem_mem hpl
      have hdrop : ns.drop p = n :: ns.drop (p + 1) := by
        rw [List.drop_eq_getElem_cons hpl, ← hn, List.getD_eq_getElem?_getD, List.getElem?_eq_getElem hpl]; rfl
      have HD : Hid (ns.drop p = n :: ns.drop (p + 1)) := hdrop
      have HN64 : Hid (N64 n) := h64 n hmem
      have HNG : Hid (ns.getD p nd0 = n) := hn
      have HIH : Hid (∀ d : Nat, d + f = 17 → ∀ (p : Nat) (w : World), p ≤ ns.length → Le elN w (some ⟨b, off, none⟩) ns.length ns →
          Calls Tryz.prog 52 #[.slice (some ⟨b, off, none⟩) ns.length cap, .int .i64 p, .int .i64 d] w (TgE ns p d w)) := ih
      clear hn hmem hdrop ih hL
      go_enter Tryz.func52, Tryz.ntmps52
      go_upto_region 1 with fail
      refine ent1 w _ _ (Q := fun W => Code.wp _ _ _ _ W) ?_
      intro W1 hb1 hs1 V1
      have L1 := HL.out.after hb1
      have k0 : W1.cell? ⟨b, off + p * 6, none⟩ = some (.int .i64 n.kd) := L1.at p hpl 0 _ (by rw [← HNG.out]; rfl)
      have k1 : W1.cell? ⟨b, off + p * 6 + 1, none⟩ = some (.int .i64 n.ks) := by rw [Nat.add_assoc]; exact L1.at p hpl 1 _ (by rw [← HNG.out]; rfl)
      have k2 : W1.cell? ⟨b, off + p * 6 + 2, none⟩ = some (sv n.nm) := by rw [Nat.add_assoc]; exact L1.at p hpl 2 _ (by rw [← HNG.out]; rfl)
      have k3 : W1.cell? ⟨b, off + p * 6 + 3, none⟩ = some (.int .i64 n.op) := by rw [Nat.add_assoc]; exact L1.at p hpl 3 _ (by rw [← HNG.out]; rfl)
      have k4 : W1.cell? ⟨b, off + p * 6 + 4, none⟩ = some (.int .i64 n.un) := by rw [Nat.add_assoc]; exact L1.at p hpl 4 _ (by rw [← HNG.out]; rfl)
      have k5 : W1.cell? ⟨b, off + p * 6 + 5, none⟩ = some (.int .i64 n.pl) := by rw [Nat.add_assoc]; exact L1.at p hpl 5 _ (by rw [← HNG.out]; rfl)
      have HV1 : Hid (Va W1 w.heap.size 56 zT) := V1
      have HB1 : Hid (Below w.heap.size w W1) := hb1
      have hw1 : w.heap.size < W1.heap.size := by omega
      clear V1 hb1 hs1 L1
      go_upto_region 4 with fail
      refine ent1 W1 _ _ (Q := fun W => Code.wp _ _ _ _ W) ?_
      intro W2 hb2 hs2 V2
      clear k0 k1 k2 k3 k4 k5
      obtain ⟨bn, hbn⟩ : ∃ bn, W1.heap.size = bn := ⟨_, rfl⟩
      have HB2 : Hid (Below w.heap.size w W2) := step HB1.out hb2
      have HV2 : Hid (Va W2 w.heap.size 56 zT) := HV1.out.after hb2
      rw [hbn] at V2 hs2 hw1
      rw [hbn]
      have HN2 : Hid (Va W2 bn 48 (cn n)) := V2
      have m0 := V2.n0
      have m1 := V2.n1
      have m2 := V2.n2
      have m3 := V2.n3
      have m4 := V2.n4
      have m5 := V2.n5
      clear V2 hb2 HB1 HV1 hbn
      go_wp2_with fail
      refine (rsingle_any n W2).mono ?_
      rintro e W3 ⟨rfl, hb3⟩
      have HB3 : Hid (Below w.heap.size w W3) := step HB2.out hb3
      have HV3 : Hid (Va W3 w.heap.size 56 zT) := HV2.out.after hb3
      have HN3 : Hid (Va W3 bn 48 (cn n)) := HN2.out.after hb3
      have hs3 : bn < W3.heap.size := by have := hb3.size; omega
      clear hb3 HB2 HV2 HN2 m0 m1 m2 m3 m4 m5 hs2
      cases hm : mB n with
      | false =>
        have HX : Hid (¬ NdOk wdB n) := fun h => (by rw [mB_yes h] at hm; cases hm)
        clear hm
        have f0 := HV3.out.frozen 0
        have zf0 := HV3.out.t0
        have f1 := HV3.out.frozen 1
        have zf1 := HV3.out.t1
        have f2 := HV3.out.frozen 2
        have zf2 := HV3.out.t2
        have f3 := HV3.out.frozen 3
        have zf3 := HV3.out.t3
        have f4 := HV3.out.frozen 4
        have zf4 := HV3.out.t4
        have f5 := HV3.out.frozen 5
        have zf5 := HV3.out.t5
        have f6 := HV3.out.frozen 6
        have zf6 := HV3.out.t6
        go_wp2_with fail
        refine bodyPost_ret (results_tn rfl rfl rfl (HV3.out.set7 _ _ _ _ _ _ _ )) rfl ?_
        exact ⟨below_7 HB3.out (Nat.le_refl _) _ _ _ _ _ _ _ , .inl ⟨rfl, by rw [HD.out]; exact no_node _ _ _ _ (fun h => HX.out h.1)⟩⟩
      | true =>
        have HN : Hid (NdOk wdB n) := (mB_iff n).1 hm
        have hks0 : (0 : Int) ≤ n.ks := by
          rcases HN.out with ⟨-, h, -⟩ | ⟨-, h, -⟩ | ⟨-, h, -⟩ | ⟨-, h, -⟩ <;> omega
        clear hm
        have m0 := HN3.out.n0
        have m1 := HN3.out.n1
        have m2 := HN3.out.n2
        have m3 := HN3.out.n3
        have m4 := HN3.out.n4
        have m5 := HN3.out.n5
        go_upto_region 8 with fail
        refine ent1 W3 _ _ (Q := fun W => Code.wp _ _ _ _ W) ?_
        intro W4 hb4 hs4 V4
        clear m0 m1 m2 m3 m4 m5
        obtain ⟨bt, hbt⟩ : ∃ bt, W3.heap.size = bt := ⟨_, rfl⟩
        have HB4 : Hid (Below w.heap.size w W4) := step HB3.out hb4
        have HV4 : Hid (Va W4 w.heap.size 56 zT) := HV3.out.after hb4
        have HN4 : Hid (Va W4 bn 48 (cn n)) := HN3.out.after hb4
        rw [hbt] at V4 hs3
        rw [hbt]
        have HT4 : Hid (Va W4 bt 56 (cT n (.slice none 0 0))) := V4
        have xp : IntKind.i64.wrap ((p : Int) + 1) = (p : Int) + 1 := by rw [IntKind.wrap_i64]; omega
        have HK4 : Hid (Ks ns p d w.heap.size bt n W4 0 (p + 1) .nil [] (.slice none 0 0)) := Ks.start hpl
        clear V4 hb4 hs4 hbt HB3 HV3 HN3
        go_wp2_with fail
        go_loopw [1, 11, 12, 13] (fun v1 v11 v12 v13 wr => ∃ (i q : Nat) (kj : Fo) (ts : List Tc) (v : Value), v1 = .int .i64 q ∧ v11 = .int .i64 i ∧ (i : Int) ≤ n.ks ∧ i ≤ 64 ∧ Hid (Ks ns p d w.heap.size bt n wr i q kj ts v) ∧ Hid (Va wr w.heap.size 56 zT) ∧ Hid (Va wr bn 48 (cn n)) ∧ Hid (Va wr bt 56 (cT n v)) ∧ Hid (Below w.heap.size w wr)) (fun _ v11 _ _ _ => (n.ks - intOf v11).toNat)
        case atStart => exact ⟨0, p + 1, .nil, [], .slice none 0 0, by go_num, rfl, hks0, Nat.zero_le _, HK4.out, HV4.out, HN4.out, HT4.out, HB4.out⟩
        case round =>
          clear HK4 HV4 HN4 HT4 HB4 hks0 xp
          obtain ⟨i, q, kj, ts, v, rfl, rfl, hik, hi64, HK, HV, HNd, HT, HB⟩ := hrel
          have q0 := HNd.out.n0
          have q1 := HNd.out.n1
          rcases Int.lt_or_le (i : Int) n.ks with hlt | hge
          · have C9 : Calls Tryz.prog 52 #[.slice (some ⟨b, off, none⟩) ns.length cap, .int .i64 q, .int .i64 ((d : Int) + 1)] wr (TgE ns q (d + 1) wr) := HIH.out (d + 1) (by omega) q wr HK.out.le (HL.out.after HB.out)
            have xd : IntKind.i64.wrap ((d : Int) + 1) = (d : Int) + 1 := by rw [IntKind.wrap_i64]; omega
            have xi : IntKind.i64.wrap ((i : Int) + 1) = (i : Int) + 1 := by rw [IntKind.wrap_i64]; omega
            go_wp2_with fail
            refine C9.mono ?_
            rintro e w5 ⟨hb5, ⟨rfl, hno⟩ | ⟨m, k, ⟨tn, ta, tl, tc⟩, q', rfl, hg⟩⟩
            · have HNO : Hid (NoTree wdB (ns.drop p) 0 d) := by
                show NoTree _ _ _ _
                rw [HD.out]; exact no_kid HK.out.ok HK.out.e (by rw [HK.out.len]; exact hlt) (no_zero hno _)
              clear hno q0 q1 C9
              go_upto_region 13 with fail
              refine ent1 w5 _ _ (Q := fun W => Code.wp _ _ _ _ W) ?_
              intro W6 hb6 hs6 V6
              have h56 := step hb5 hb6
              have HB6 : Hid (Below w.heap.size w W6) := step HB.out h56
              have HV6 : Hid (Va W6 w.heap.size 56 zT) := HV.out.after h56
              have HN6 : Hid (Va W6 bn 48 (cn n)) := HNd.out.after h56
              have HT6 : Hid (Va W6 bt 56 (cT n v)) := HT.out.after h56
              have q0 := HN6.out.n0
              have q1 := HN6.out.n1
              have f0 := HV6.out.frozen 0
              have zf0 := HV6.out.t0
              have f1 := HV6.out.frozen 1
              have zf1 := HV6.out.t1
              have f2 := HV6.out.frozen 2
              have zf2 := HV6.out.t2
              have f3 := HV6.out.frozen 3
              have zf3 := HV6.out.t3
              have f4 := HV6.out.frozen 4
              have zf4 := HV6.out.t4
              have f5 := HV6.out.frozen 5
              have zf5 := HV6.out.t5
              have f6 := HV6.out.frozen 6
              have zf6 := HV6.out.t6
              clear V6 hs6 hb6 hb5 h56
              go_wp2_with fail
              refine bodyPost_ret (results_tn rfl rfl rfl (HV6.out.set7 _ _ _ _ _ _ _ )) rfl ?_
              exact ⟨below_7 HB6.out (Nat.le_refl _) _ _ _ _ _ _ _ , .inl ⟨rfl, HNO.out⟩⟩
            · have htn : tn = m := by
                obtain ⟨t0, ts0, kts0, e0, h0, -⟩ := hg.t
                cases e0; exact h0
              subst htn
              have HG : Hid (Tgr ns q (d + 1) wr.heap.size w5 tn k ⟨tn, ta, tl, tc⟩ q') := hg
              have hq0 : ¬ ((q' : Nat) : Int) < 0 := by omega
              clear q0 q1 C9 hg
              go_upto_region 13 with fail
              refine ent1 w5 _ _ (Q := fun W => Code.wp _ _ _ _ W) ?_
              intro W6 hb6 hs6 V6
              have h56 := step hb5 hb6
              have HB6 : Hid (Below w.heap.size w W6) := step HB.out h56
              have HV6 : Hid (Va W6 w.heap.size 56 zT) := HV.out.after h56
              have HN6 : Hid (Va W6 bn 48 (cn n)) := HNd.out.after h56
              have HT6 : Hid (Va W6 bt 56 (cT n v)) := HT.out.after h56
              have q0 := HN6.out.n0
              have q1 := HN6.out.n1
              obtain ⟨bk, hbk⟩ : ∃ bk, w5.heap.size = bk := ⟨_, rfl⟩
              rw [hbk] at V6
              rw [hbk]
              have HK6 : Hid (Va W6 bk 56 (cT tn (.slice ta tl tc))) := V6
              have hbw : bt < wr.heap.size := HT.out.lt
              have h5w := hb5.size
              have g0 := HK6.out.t0
              have HB5 : Hid (Below wr.heap.size wr w5) := hb5
              have HB56 : Hid (Below wr.heap.size wr W6) := h56
              have HB66 : Hid (Below w5.heap.size w5 W6) := hb6
              clear V6 hb6 hb5 h56 hs6 hbk
              by_cases hc : (n.kd = 1 ∨ n.kd = 2) ∧ tn.kd = n.kd
              · have HNO : Hid (NoTree wdB (ns.drop p) 0 d) := by
                  show NoTree _ _ _ _
                  rw [HD.out]; exact no_kid HK.out.ok HK.out.e (by rw [HK.out.len]; exact hlt) (by rw [HG.out.e]; exact no_same HG.out.ok hc.2 (by rcases hc.1 with h | h <;> omega))
                have b3 : (tn.kd == n.kd) = true := by simpa using hc.2
                rcases hc.1 with h1 | h1
                · have b1 : (n.kd == 1) = true := by simp [h1]
                  have b2 : (n.kd == 2) = false := by simp [h1]
                  clear hc h1
                  have f0 := HV6.out.frozen 0
                  have zf0 := HV6.out.t0
                  have f1 := HV6.out.frozen 1
                  have zf1 := HV6.out.t1
                  have f2 := HV6.out.frozen 2
                  have zf2 := HV6.out.t2
                  have f3 := HV6.out.frozen 3
                  have zf3 := HV6.out.t3
                  have f4 := HV6.out.frozen 4
                  have zf4 := HV6.out.t4
                  have f5 := HV6.out.frozen 5
                  have zf5 := HV6.out.t5
                  have f6 := HV6.out.frozen 6
                  have zf6 := HV6.out.t6
                  go_wp2_with fail
                  refine bodyPost_ret (results_tn rfl rfl rfl (HV6.out.set7 _ _ _ _ _ _ _ )) rfl ?_
                  exact ⟨below_7 HB6.out (Nat.le_refl _) _ _ _ _ _ _ _ , .inl ⟨rfl, HNO.out⟩⟩
                · have b1 : (n.kd == 1) = false := by simp [h1]
                  have b2 : (n.kd == 2) = true := by simp [h1]
                  clear hc h1
                  have f0 := HV6.out.frozen 0
                  have zf0 := HV6.out.t0
                  have f1 := HV6.out.frozen 1
                  have zf1 := HV6.out.t1
                  have f2 := HV6.out.frozen 2
                  have zf2 := HV6.out.t2
                  have f3 := HV6.out.frozen 3
                  have zf3 := HV6.out.t3
                  have f4 := HV6.out.frozen 4
                  have zf4 := HV6.out.t4
                  have f5 := HV6.out.frozen 5
                  have zf5 := HV6.out.t5
                  have f6 := HV6.out.frozen 6
                  have zf6 := HV6.out.t6
                  go_wp2_with fail
                  refine bodyPost_ret (results_tn rfl rfl rfl (HV6.out.set7 _ _ _ _ _ _ _ )) rfl ?_
                  exact ⟨below_7 HB6.out (Nat.le_refl _) _ _ _ _ _ _ _ , .inl ⟨rfl, HNO.out⟩⟩
              · have HC : Hid (tn.kd ≠ n.kd ∨ n.kd = 3) := by
                  show _ ∨ _
                  rcases HN.out with ⟨h, -⟩ | ⟨h, -⟩ | ⟨-, h, -⟩ | ⟨-, h, -⟩
                  · exact .inl (fun e => hc ⟨h, e⟩)
                  · exact .inr h
                  · omega
                  · omega
                have hk3 : n.kd = 1 ∨ n.kd = 2 ∨ n.kd = 3 := by
                  rcases HN.out with ⟨h | h, -⟩ | ⟨h, -⟩ | ⟨-, h, -⟩ | ⟨-, h, -⟩ <;> omega
                rcases hk3 with h1 | h1 | h1
                · have b3 : (tn.kd == n.kd) = false := by simpa using (fun e => hc ⟨.inl h1, e⟩)
                  have b1 : (n.kd == 1) = true := by simp [h1]
                  have b2 : (n.kd == 2) = false := by simp [h1]
                  clear hc h1
                  have g1 := HK6.out.t1
                  have g2 := HK6.out.t2
                  have g3 := HK6.out.t3
                  have g4 := HK6.out.t4
                  have g5 := HK6.out.t5
                  have g6 := HK6.out.t6
                  have r6 := HT6.out.t6
                  have HGE : Hid (Ge elT W6 (bt + 1) v ts) := HK.out.g.after HB56.out
                  have HON : Hid (Le elT (W6.alloc (.cells (cT tn (.slice ta tl tc)) 56)) (some ⟨W6.heap.size, 0, none⟩) 1 [⟨tn, ta, tl, tc⟩]) := Le.one (Va.new W6 _ _) rfl
                  have hsz6 := HB56.out.size
                  have hszw := HB6.out.size
                  have htl := HK.out.lenT
                  go_wp2_with (at_builtin; refine wpList_appE rfl _ _ _ rfl elT rfl (bt + 1) _ ts rfl (HGE.out.al _) W6.heap.size 0 1 1 [⟨tn, ta, tl, tc⟩] rfl HON.out (by omega) (by simp; omega) ?_; intro v8 W8 hg8 hgr8 hob8; have hnb : v.ownBlock ≠ some bt := (fun e => by have := HGE.out.block bt e; omega); have hblk : ∀ c, c < W6.heap.size → v.ownBlock ≠ some c → W8.heap[c]? = W6.heap[c]? := (fun c hc hne => (hgr8.block c (by simp; omega) (fun e => hne e.symm)).trans (((Below.refl W6.heap.size W6).alloc (Nat.le_refl _) _).block c hc)); have HVT8 : Hid (Va W8 bt 56 (cT n v)) := HT6.out.keptW (hblk bt (by omega) hnb); have hfr6 := HVT8.out.frozen 6; have hce6 := HVT8.out.t6; have HB8 : Hid (Below w.heap.size w W8) := (HB6.out.alloc HB6.out.size _).grown hgr8 (by simp; omega) (fun c hc => by have := HGE.out.block c hc; omega); have HV8 : Hid (Va W8 w.heap.size 56 zT) := HV6.out.keptW (hblk _ (by omega) (fun e => by have := HGE.out.block _ e; omega)); have HN8 : Hid (Va W8 bn 48 (cn n)) := HN6.out.keptW (hblk _ (by omega) (fun e => by have := HGE.out.block _ e; omega)); have HBL : Hid (∀ c, c < W6.heap.size → v.ownBlock ≠ some c → W8.heap[c]? = W6.heap[c]?) := hblk; have HG8 : Hid (Ge elT W8 (bt + 1) v8 (ts ++ [⟨tn, ta, tl, tc⟩])) := hg8; have HO8 : Hid (v8.ownBlock = v.ownBlock ∨ ∃ c, v8.ownBlock = some c ∧ W6.heap.size ≤ c) := (hob8.imp id (fun h => ⟨_, h, by simp⟩)); obtain ⟨a8, c8, e8, -, -, -⟩ := hg8.shape; subst e8; clear hg8 hgr8 hob8 hblk hnb)
                  go_roundw
                  case rel =>
                    have h8 : i + 1 = (ts ++ [(⟨tn, ta, tl, tc⟩ : Tc)]).length := by rw [List.length_append, htl]; rfl
                    have HKN := Ks.next HK.out HG.out HC.out hbw HB5.out HB66.out HG8.out HO8.out HBL.out (.slice a8 (i + 1) c8)
                    rw [← h8] at HKN
                    exact ⟨i + 1, q', _, _, .slice a8 (i + 1) c8, by go_num, by go_num, by omega, Nat.le_trans HKN.i64 hl, HKN, HV8.out.keptW (heap_setCell_other _ _ _ _ (by show w.heap.size ≠ bt; omega)), HN8.out.keptW (heap_setCell_other _ _ _ _ (by show bn ≠ bt; omega)), HVT8.out.setT6 _, HB8.out.setCell (p := ⟨bt, 6, none⟩) (by show w.heap.size ≤ bt; omega) _⟩
                  case measure => simp [intOf]; omega
                · have b3 : (tn.kd == n.kd) = false := by simpa using (fun e => hc ⟨.inr h1, e⟩)
                  have b1 : (n.kd == 1) = false := by simp [h1]
                  have b2 : (n.kd == 2) = true := by simp [h1]
                  clear hc h1
                  have g1 := HK6.out.t1
                  have g2 := HK6.out.t2
                  have g3 := HK6.out.t3
                  have g4 := HK6.out.t4
                  have g5 := HK6.out.t5
                  have g6 := HK6.out.t6
                  have r6 := HT6.out.t6
                  have HGE : Hid (Ge elT W6 (bt + 1) v ts) := HK.out.g.after HB56.out
                  have HON : Hid (Le elT (W6.alloc (.cells (cT tn (.slice ta tl tc)) 56)) (some ⟨W6.heap.size, 0, none⟩) 1 [⟨tn, ta, tl, tc⟩]) := Le.one (Va.new W6 _ _) rfl
                  have hsz6 := HB56.out.size
                  have hszw := HB6.out.size
                  have htl := HK.out.lenT
                  go_wp2_with (at_builtin; refine wpList_appE rfl _ _ _ rfl elT rfl (bt + 1) _ ts rfl (HGE.out.al _) W6.heap.size 0 1 1 [⟨tn, ta, tl, tc⟩] rfl HON.out (by omega) (by simp; omega) ?_; intro v8 W8 hg8 hgr8 hob8; have hnb : v.ownBlock ≠ some bt := (fun e => by have := HGE.out.block bt e; omega); have hblk : ∀ c, c < W6.heap.size → v.ownBlock ≠ some c → W8.heap[c]? = W6.heap[c]? := (fun c hc hne => (hgr8.block c (by simp; omega) (fun e => hne e.symm)).trans (((Below.refl W6.heap.size W6).alloc (Nat.le_refl _) _).block c hc)); have HVT8 : Hid (Va W8 bt 56 (cT n v)) := HT6.out.keptW (hblk bt (by omega) hnb); have hfr6 := HVT8.out.frozen 6; have hce6 := HVT8.out.t6; have HB8 : Hid (Below w.heap.size w W8) := (HB6.out.alloc HB6.out.size _).grown hgr8 (by simp; omega) (fun c hc => by have := HGE.out.block c hc; omega); have HV8 : Hid (Va W8 w.heap.size 56 zT) := HV6.out.keptW (hblk _ (by omega) (fun e => by have := HGE.out.block _ e; omega)); have HN8 : Hid (Va W8 bn 48 (cn n)) := HN6.out.keptW (hblk _ (by omega) (fun e => by have := HGE.out.block _ e; omega)); have HBL : Hid (∀ c, c < W6.heap.size → v.ownBlock ≠ some c → W8.heap[c]? = W6.heap[c]?) := hblk; have HG8 : Hid (Ge elT W8 (bt + 1) v8 (ts ++ [⟨tn, ta, tl, tc⟩])) := hg8; have HO8 : Hid (v8.ownBlock = v.ownBlock ∨ ∃ c, v8.ownBlock = some c ∧ W6.heap.size ≤ c) := (hob8.imp id (fun h => ⟨_, h, by simp⟩)); obtain ⟨a8, c8, e8, -, -, -⟩ := hg8.shape; subst e8; clear hg8 hgr8 hob8 hblk hnb)
                  go_roundw
                  case rel =>
                    have h8 : i + 1 = (ts ++ [(⟨tn, ta, tl, tc⟩ : Tc)]).length := by rw [List.length_append, htl]; rfl
                    have HKN := Ks.next HK.out HG.out HC.out hbw HB5.out HB66.out HG8.out HO8.out HBL.out (.slice a8 (i + 1) c8)
                    rw [← h8] at HKN
                    exact ⟨i + 1, q', _, _, .slice a8 (i + 1) c8, by go_num, by go_num, by omega, Nat.le_trans HKN.i64 hl, HKN, HV8.out.keptW (heap_setCell_other _ _ _ _ (by show w.heap.size ≠ bt; omega)), HN8.out.keptW (heap_setCell_other _ _ _ _ (by show bn ≠ bt; omega)), HVT8.out.setT6 _, HB8.out.setCell (p := ⟨bt, 6, none⟩) (by show w.heap.size ≤ bt; omega) _⟩
                  case measure => simp [intOf]; omega
                · have b1 : (n.kd == 1) = false := by simp [h1]
                  have b2 : (n.kd == 2) = false := by simp [h1]
                  clear hc h1
                  have g1 := HK6.out.t1
                  have g2 := HK6.out.t2
                  have g3 := HK6.out.t3
                  have g4 := HK6.out.t4
                  have g5 := HK6.out.t5
                  have g6 := HK6.out.t6
                  have r6 := HT6.out.t6
                  have HGE : Hid (Ge elT W6 (bt + 1) v ts) := HK.out.g.after HB56.out
                  have HON : Hid (Le elT (W6.alloc (.cells (cT tn (.slice ta tl tc)) 56)) (some ⟨W6.heap.size, 0, none⟩) 1 [⟨tn, ta, tl, tc⟩]) := Le.one (Va.new W6 _ _) rfl
                  have hsz6 := HB56.out.size
                  have hszw := HB6.out.size
                  have htl := HK.out.lenT
                  go_wp2_with (at_builtin; refine wpList_appE rfl _ _ _ rfl elT rfl (bt + 1) _ ts rfl (HGE.out.al _) W6.heap.size 0 1 1 [⟨tn, ta, tl, tc⟩] rfl HON.out (by omega) (by simp; omega) ?_; intro v8 W8 hg8 hgr8 hob8; have hnb : v.ownBlock ≠ some bt := (fun e => by have := HGE.out.block bt e; omega); have hblk : ∀ c, c < W6.heap.size → v.ownBlock ≠ some c → W8.heap[c]? = W6.heap[c]? := (fun c hc hne => (hgr8.block c (by simp; omega) (fun e => hne e.symm)).trans (((Below.refl W6.heap.size W6).alloc (Nat.le_refl _) _).block c hc)); have HVT8 : Hid (Va W8 bt 56 (cT n v)) := HT6.out.keptW (hblk bt (by omega) hnb); have hfr6 := HVT8.out.frozen 6; have hce6 := HVT8.out.t6; have HB8 : Hid (Below w.heap.size w W8) := (HB6.out.alloc HB6.out.size _).grown hgr8 (by simp; omega) (fun c hc => by have := HGE.out.block c hc; omega); have HV8 : Hid (Va W8 w.heap.size 56 zT) := HV6.out.keptW (hblk _ (by omega) (fun e => by have := HGE.out.block _ e; omega)); have HN8 : Hid (Va W8 bn 48 (cn n)) := HN6.out.keptW (hblk _ (by omega) (fun e => by have := HGE.out.block _ e; omega)); have HBL : Hid (∀ c, c < W6.heap.size → v.ownBlock ≠ some c → W8.heap[c]? = W6.heap[c]?) := hblk; have HG8 : Hid (Ge elT W8 (bt + 1) v8 (ts ++ [⟨tn, ta, tl, tc⟩])) := hg8; have HO8 : Hid (v8.ownBlock = v.ownBlock ∨ ∃ c, v8.ownBlock = some c ∧ W6.heap.size ≤ c) := (hob8.imp id (fun h => ⟨_, h, by simp⟩)); obtain ⟨a8, c8, e8, -, -, -⟩ := hg8.shape; subst e8; clear hg8 hgr8 hob8 hblk hnb)
                  go_roundw
                  case rel =>
                    have h8 : i + 1 = (ts ++ [(⟨tn, ta, tl, tc⟩ : Tc)]).length := by rw [List.length_append, htl]; rfl
                    have HKN := Ks.next HK.out HG.out HC.out hbw HB5.out HB66.out HG8.out HO8.out HBL.out (.slice a8 (i + 1) c8)
                    rw [← h8] at HKN
                    exact ⟨i + 1, q', _, _, .slice a8 (i + 1) c8, by go_num, by go_num, by omega, Nat.le_trans HKN.i64 hl, HKN, HV8.out.keptW (heap_setCell_other _ _ _ _ (by show w.heap.size ≠ bt; omega)), HN8.out.keptW (heap_setCell_other _ _ _ _ (by show bn ≠ bt; omega)), HVT8.out.setT6 _, HB8.out.setCell (p := ⟨bt, 6, none⟩) (by show w.heap.size ≤ bt; omega) _⟩
                  case measure => simp [intOf]; omega
          · obtain ⟨av, cv, rfl, -, -, -⟩ := HK.out.g.shape
            have r0 := HT.out.t0
            have r1 := HT.out.t1
            have r2 := HT.out.t2
            have r3 := HT.out.t3
            have r4 := HT.out.t4
            have r5 := HT.out.t5
            have r6 := HT.out.t6
            have f0 := HV.out.frozen 0
            have zf0 := HV.out.t0
            have f1 := HV.out.frozen 1
            have zf1 := HV.out.t1
            have f2 := HV.out.frozen 2
            have zf2 := HV.out.t2
            have f3 := HV.out.frozen 3
            have zf3 := HV.out.t3
            have f4 := HV.out.frozen 4
            have zf4 := HV.out.t4
            have f5 := HV.out.frozen 5
            have zf5 := HV.out.t5
            have f6 := HV.out.frozen 6
            have zf6 := HV.out.t6
            go_wp2_with fail
            refine bodyPost_ret (results_tn rfl rfl rfl (HV.out.set7 _ _ _ _ _ _ _ )) rfl ?_
            exact ⟨below_7 HB.out (Nat.le_refl _) _ _ _ _ _ _ _ , .inr ⟨n, kj, ⟨n, av, ts.length, cv⟩, q, rfl, Ks.whole HK.out HD.out HN.out (by omega) (by omega) (by omega) (fun c hc => fa7 _ _ _ _ _ _ _ _ _ c (by omega))⟩⟩
end Go.Proofs.YtblafbbnplfpjaaGreatDoor
namespace Go.Proofs.YtblafbbnplfpjaaGreatDoor
open Go.RowKit Go.Shelf
set_option linter.unusedVariables false
set_option linter.unusedSimpArgs false

theorem drop_len {l m : List Nd} {q : Nat} (e : l = m ++ l.drop q) (hq : q ≤ l.length) (h : l = m) : q = l.length := by
  have h1 := congrArg List.length e
  rw [List.length_append, List.length_drop, ← h] at h1
  omega
/-- How Of ends. -/
def OfE (ns : List Nd) (w : World) (e : Ending) (w' : World) : Prop :=
  Below w.heap.size w w' ∧ ((∃ t : Tc, e = .returned (.tuple #[tvT t, .bool false]) ∧ (ns = [] ∨ ¬ Cond wdB ns)) ∨ ∃ n k t, e = .returned (.tuple #[tvT t, .bool true]) ∧ ns = (Fo.cons n k .nil).flat ∧ (Fo.cons n k .nil).Ok wdB 0 1 ∧ ns.length ≤ 64 ∧ Rtw w' (fun b => w.heap.size ≤ b) (.cons n k .nil) [t])
theorem cond_not {ns : List Nd} (h : NoTree wdB (ns.drop 0) 0 1) : ns = [] ∨ ¬ Cond wdB ns := by
  rcases Classical.em (ns = []) with e | e
  · exact .inl e
  · refine .inr (fun hc => ?_)
    obtain ⟨-, n, k, e1, ok⟩ := cond_tree e hc
    exact h n k [] (by rw [List.drop_zero, List.append_nil]; exact e1) ok
theorem cond_far {ns : List Nd} {n : Nd} {k : Fo} {q : Nat} (e : ns.drop 0 = (Fo.cons n k .nil).flat ++ ns.drop q) (ok : (Fo.cons n k .nil).Ok wdB 0 1) (hq : q ≤ ns.length) (hne : q ≠ ns.length) : ¬ Cond wdB ns := by
  rw [List.drop_zero] at e
  intro hc
  rcases Classical.em (ns = []) with e0 | e0
  · rw [e0] at e; simp [Fo.flat] at e
  · obtain ⟨-, m, j, e1, ok1⟩ := cond_tree e0 hc
    obtain ⟨-, -, h⟩ := one_tree (x := ns.drop q) (y := []) ok ok1 (by rw [← e, List.append_nil]; exact e1)
    have := congrArg List.length h
    rw [List.length_drop] at this
    simp at this
    omega
theorem cond_long {ns : List Nd} (h : 64 < ns.length) : ¬ Cond wdB ns := by
  intro hc
  obtain ⟨h1, -⟩ := cond_tree (fun e => by rw [e] at h; simp at h) hc
  omega
theorem cond_short {ns : List Nd} {n : Nd} {k : Fo} (h : ns.length ≤ 64) (e : ns = (Fo.cons n k .nil).flat) (ok : (Fo.cons n k .nil).Ok wdB 0 1) : Cond wdB ns := .inr ⟨h, n, k, e, ok⟩
theorem flat_ne {n : Nd} {k : Fo} : (Fo.cons n k .nil).flat ≠ [] := by simp [Fo.flat]
set_option maxRecDepth 20000 in
set_option maxHeartbeats 8000000 in
theorem of13_any (ns : List Nd) (a : Option Addr) (cap : Nat) (w : World) (h64 : ∀ n ∈ ns, N64 n) (hL : Le elN w a ns.length ns) :
    Calls Tryz.prog 28 #[.slice a ns.length cap] w (OfE ns w) := by
  have HL : Hid (Le elN w a ns.length ns) := hL
  have HG : Hid (ns.length ≤ 64 → ∀ W, Below w.heap.size w W → Calls Tryz.prog 52 #[.slice a ns.length cap, .int .i64 (0 : Nat), .int .i64 (1 : Nat)] W (TgE ns 0 1 W)) := fun hl W hb => grown_any ns a cap h64 hl 16 1 rfl 0 W (Nat.zero_le _) (HL.out.after hb)
  clear hL
  go_enter Tryz.func28, Tryz.ntmps28
  go_upto_region 1 with fail
  refine ent1 w _ _ (Q := fun W => Code.wp _ _ _ _ W) ?_
  intro W1 hb1 hs1 V1
  have HV1 : Hid (Va W1 w.heap.size 56 zT) := V1
  have HB1 : Hid (Below w.heap.size w W1) := hb1
  clear V1 hb1
  rcases Nat.lt_or_ge 64 ns.length with h65 | h65
  · have h65' : (64 : Int) < ns.length := by omega
    have f0 := HV1.out.frozen 0
    have zf0 := HV1.out.t0
    have f1 := HV1.out.frozen 1
    have zf1 := HV1.out.t1
    have f2 := HV1.out.frozen 2
    have zf2 := HV1.out.t2
    have f3 := HV1.out.frozen 3
    have zf3 := HV1.out.t3
    have f4 := HV1.out.frozen 4
    have zf4 := HV1.out.t4
    have f5 := HV1.out.frozen 5
    have zf5 := HV1.out.t5
    have f6 := HV1.out.frozen 6
    have zf6 := HV1.out.t6
    go_wp2_with fail
    refine bodyPost_ret (results_tn rfl rfl rfl (HV1.out.set7 _ _ _ _ _ _ _ )) rfl ?_
    exact ⟨below_7 HB1.out (Nat.le_refl _) _ _ _ _ _ _ _ , .inl ⟨⟨⟨0, 0, [], 0, 0, 0⟩, none, 0, 0⟩, rfl, .inr (cond_long h65)⟩⟩
  · have h65' : ¬ (64 : Int) < ns.length := by omega
    have D := HG.out h65 W1 HB1.out
    go_wp2_with fail
    refine D.mono ?_
    rintro e W2 ⟨hb2, ⟨rfl, hno⟩ | ⟨n, k, t, q, rfl, hg⟩⟩
    · have HB2 : Hid (Below w.heap.size w W2) := step HB1.out hb2
      have HV2 : Hid (Va W2 w.heap.size 56 zT) := HV1.out.after hb2
      have hs2 := hb2.size
      have HNO : Hid (ns = [] ∨ ¬ Cond wdB ns) := cond_not hno
      clear D hb2 hno
      go_upto_region 4 with fail
      refine ent1 W2 _ _ (Q := fun W => Code.wp _ _ _ _ W) ?_
      intro W3 hb3 hs3 V3
      have HB3 : Hid (Below w.heap.size w W3) := step HB2.out hb3
      have HV3 : Hid (Va W3 w.heap.size 56 zT) := HV2.out.after hb3
      have HB23 : Hid (Below W2.heap.size W2 W3) := hb3
      have g0 := V3.t0
      have g1 := V3.t1
      have g2 := V3.t2
      have g3 := V3.t3
      have g4 := V3.t4
      have g5 := V3.t5
      have g6 := V3.t6
      have f0 := HV3.out.frozen 0
      have zf0 := HV3.out.t0
      have f1 := HV3.out.frozen 1
      have zf1 := HV3.out.t1
      have f2 := HV3.out.frozen 2
      have zf2 := HV3.out.t2
      have f3 := HV3.out.frozen 3
      have zf3 := HV3.out.t3
      have f4 := HV3.out.frozen 4
      have zf4 := HV3.out.t4
      have f5 := HV3.out.frozen 5
      have zf5 := HV3.out.t5
      have f6 := HV3.out.frozen 6
      have zf6 := HV3.out.t6
      clear V3 hb3
      have hq : ((-1 : Int) == (ns.length : Int)) = false := by first | (simp; done) | (simp; omega)
      go_wp2_with fail
      refine bodyPost_ret (results_tn rfl rfl rfl (HV3.out.set7 _ _ _ _ _ _ _ )) rfl ?_
      exact ⟨below_7 HB3.out (Nat.le_refl _) _ _ _ _ _ _ _ , .inl ⟨⟨⟨0, 0, [], 0, 0, 0⟩, none, 0, 0⟩, rfl, HNO.out⟩⟩
    · by_cases hqe : q = ns.length
      · have HB2 : Hid (Below w.heap.size w W2) := step HB1.out hb2
        have HV2 : Hid (Va W2 w.heap.size 56 zT) := HV1.out.after hb2
        have hs2 := hb2.size
        have HGR : Hid (Tgr ns 0 1 W1.heap.size W2 n k t q) := hg
        have hqe' := hqe
        clear D hb2 hg hqe
        go_upto_region 4 with fail
        refine ent1 W2 _ _ (Q := fun W => Code.wp _ _ _ _ W) ?_
        intro W3 hb3 hs3 V3
        have HB3 : Hid (Below w.heap.size w W3) := step HB2.out hb3
        have HV3 : Hid (Va W3 w.heap.size 56 zT) := HV2.out.after hb3
        have HB23 : Hid (Below W2.heap.size W2 W3) := hb3
        have g0 := V3.t0
        have g1 := V3.t1
        have g2 := V3.t2
        have g3 := V3.t3
        have g4 := V3.t4
        have g5 := V3.t5
        have g6 := V3.t6
        have f0 := HV3.out.frozen 0
        have zf0 := HV3.out.t0
        have f1 := HV3.out.frozen 1
        have zf1 := HV3.out.t1
        have f2 := HV3.out.frozen 2
        have zf2 := HV3.out.t2
        have f3 := HV3.out.frozen 3
        have zf3 := HV3.out.t3
        have f4 := HV3.out.frozen 4
        have zf4 := HV3.out.t4
        have f5 := HV3.out.frozen 5
        have zf5 := HV3.out.t5
        have f6 := HV3.out.frozen 6
        have zf6 := HV3.out.t6
        clear V3 hb3
        have hq : ((q : Int) == (ns.length : Int)) = true := by first | (simp; done) | (simp; omega)
        go_wp2_with fail
        refine bodyPost_ret (results_tn rfl rfl rfl (HV3.out.set7 _ _ _ _ _ _ _ )) rfl ?_
        exact ⟨below_7 HB3.out (Nat.le_refl _) _ _ _ _ _ _ _ , .inr ⟨n, k, t, rfl, by have := HGR.out.e; rw [hqe', List.drop_length, List.append_nil, List.drop_zero] at this; exact this, HGR.out.ok, h65, Rtw.imp (fun b hb hp => ⟨by omega, (fa7 _ _ _ _ _ _ _ _ _ b (by omega)).trans (HB23.out.block b hb)⟩) HGR.out.t⟩⟩
      · have HB2 : Hid (Below w.heap.size w W2) := step HB1.out hb2
        have HV2 : Hid (Va W2 w.heap.size 56 zT) := HV1.out.after hb2
        have hs2 := hb2.size
        have HNO : Hid (¬ Cond wdB ns) := cond_far hg.e hg.ok hg.le hqe
        clear D hb2 hg
        go_upto_region 4 with fail
        refine ent1 W2 _ _ (Q := fun W => Code.wp _ _ _ _ W) ?_
        intro W3 hb3 hs3 V3
        have HB3 : Hid (Below w.heap.size w W3) := step HB2.out hb3
        have HV3 : Hid (Va W3 w.heap.size 56 zT) := HV2.out.after hb3
        have HB23 : Hid (Below W2.heap.size W2 W3) := hb3
        have g0 := V3.t0
        have g1 := V3.t1
        have g2 := V3.t2
        have g3 := V3.t3
        have g4 := V3.t4
        have g5 := V3.t5
        have g6 := V3.t6
        have f0 := HV3.out.frozen 0
        have zf0 := HV3.out.t0
        have f1 := HV3.out.frozen 1
        have zf1 := HV3.out.t1
        have f2 := HV3.out.frozen 2
        have zf2 := HV3.out.t2
        have f3 := HV3.out.frozen 3
        have zf3 := HV3.out.t3
        have f4 := HV3.out.frozen 4
        have zf4 := HV3.out.t4
        have f5 := HV3.out.frozen 5
        have zf5 := HV3.out.t5
        have f6 := HV3.out.frozen 6
        have zf6 := HV3.out.t6
        clear V3 hb3
        have hq : ((q : Int) == (ns.length : Int)) = false := by first | (simp; done) | (simp; omega)
        go_wp2_with fail
        refine bodyPost_ret (results_tn rfl rfl rfl (HV3.out.set7 _ _ _ _ _ _ _ )) rfl ?_
        exact ⟨below_7 HB3.out (Nat.le_refl _) _ _ _ _ _ _ _ , .inl ⟨t, rfl, .inr HNO.out⟩⟩
set_option maxHeartbeats 4000000 in
theorem rchk13_any (ns : List Nd) (a : Option Addr) (cap : Nat) (w : World) (h64 : ∀ n ∈ ns, N64 n) (hL : Le elN w a ns.length ns) :
    Calls Tryz.prog 10 #[.slice a ns.length cap] w fun e w' => e = .returned (.int .i64 (ckE ns)) ∧ Below w.heap.size w w' := by
  have D := of13_any ns a cap w h64 hL
  clear hL
  rcases Classical.em (ns = []) with e0 | e0
  · subst e0
    have hR : ckE [] = 0 := ckE_ok (.inl rfl)
    rw [hR]
    clear D hR
    go_enter Tryz.func10, Tryz.ntmps10
    go_wp2_with fail
    go_ret
    exact ⟨rfl, Below.refl _ _⟩
  · have hl0 : ns.length ≠ 0 := fun h => e0 (List.length_eq_zero_iff.1 h)
    have hl1 : ((ns.length : Int) == 0) = false := by simp; omega
    obtain ⟨R, hR⟩ : ∃ R, ckE ns = R := ⟨_, rfl⟩
    have HR : Hid (ckE ns = R) := hR
    rw [hR]
    clear hR
    go_enter Tryz.func10, Tryz.ntmps10
    go_wp2_with fail
    refine D.mono ?_
    rintro e W2 ⟨hb2, ⟨t, rfl, hno⟩ | ⟨n, k, t, rfl, he, ok, h64', hr⟩⟩
    · have HE : Hid (R = 131) := by show _ = _; rw [← HR.out]; exact ckE_no (hno.resolve_left e0)
      have HB : Hid (Below w.heap.size w W2) := hb2
      clear D hno hb2
      go_upto_region 4 with fail
      refine ent1 W2 _ _ (Q := fun W => Code.wp _ _ _ _ W) ?_
      intro W3 hb3 hs3 V3
      go_wp2_with fail
      go_ret
      exact ⟨by rw [HE.out]; rfl, step HB.out hb3⟩
    · have HE : Hid (R = 0) := by show _ = _; rw [← HR.out]; exact ckE_ok (cond_short h64' he ok)
      have HB : Hid (Below w.heap.size w W2) := hb2
      clear D he ok hr hb2
      go_upto_region 4 with fail
      refine ent1 W2 _ _ (Q := fun W => Code.wp _ _ _ _ W) ?_
      intro W3 hb3 hs3 V3
      go_wp2_with fail
      go_ret
      exact ⟨by rw [HE.out]; rfl, step HB.out hb3⟩
end Go.Proofs.YtblafbbnplfpjaaGreatDoor
namespace Go.Proofs.YtblafbbnplfpjaaGreatDoor
open Go.RowKit Go.Shelf
set_option linter.unusedVariables false
set_option linter.unusedSimpArgs false

/-- The marks. -/
def mkE {α : Type} (f : Nat → α) : Nat → List α
  | 0 => []
  | k + 1 => mkE f k ++ [f k]
theorem mkE_length {α : Type} (f : Nat → α) : ∀ k, (mkE f k).length = k
  | 0 => rfl
  | k + 1 => by simp [mkE, mkE_length f k]
theorem mkE_getD {α : Type} (f : Nat → α) (x : α) : ∀ (n k : Nat), k < n → (mkE f n).getD k x = f k
  | 0, k, h => absurd h (by omega)
  | n + 1, k, h => by
    rw [mkE, List.getD_eq_getElem?_getD]
    by_cases hk : k < n
    · rw [List.getElem?_append_left (by rw [mkE_length]; exact hk), ← List.getD_eq_getElem?_getD]; exact mkE_getD f x n k hk
    · obtain rfl : k = n := by omega
      rw [List.getElem?_append_right (by rw [mkE_length]; exact Nat.le_refl _), mkE_length, Nat.sub_self]; rfl
variable {α : Type} {E : El α}
/-- A list's cells, one behind the other. -/
theorem le_row {w : World} {a : Option Addr} {len : Nat} {ps : List α} (h : Le E w a len ps) : ∀ ad, a = some ad → ∀ (j : Nat) (u : Value), (rowE E ps)[j]? = some u → w.cell? (ad.add j) = some u := by
  intro ad had j u hj
  subst had
  have h0 : 0 < len := by
    rw [← h.1]
    rcases ps with _ | ⟨y, ys⟩
    · simp [rowE] at hj
    · simp
  obtain ⟨b, off, e⟩ := h.ex h0
  cases e
  exact h.news j u hj
/-- A row, full. -/
theorem full_rowE {w : World} {B g cap : Nat} {qs : List α} (h : w.ownsRow B E.te E.s (.slice (some ⟨g, 0, none⟩) cap cap) cap (rowE E qs)) : Va w g E.te (rowE E qs).toArray := by
  obtain ⟨h1, h2 | ⟨g', cap', cur, e, hB, hh, hc, hm, hs, ht⟩⟩ := h
  · cases h2.1
  · cases e
    rw [List.take_of_length_le (by rw [Array.length_toList]; omega)] at ht
    unfold Va
    rw [hh, ← ht]
theorem le_preE {w : World} {g : Nat} {ps qs : List α} (h : Va w g E.te (rowE E (ps ++ qs)).toArray) : Le E w (some ⟨g, 0, none⟩) ps.length ps := by
  refine ⟨rfl, fun h0 => ⟨g, 0, rfl, fun i u hu => ?_⟩⟩
  have hi : i < (rowE E ps).length := (List.getElem?_eq_some_iff.1 hu).1
  rw [h.cellAt, Nat.zero_add, List.getElem?_toArray, rowE_append, List.getElem?_append_left hi]
  exact hu
theorem le_allE {w : World} {g : Nat} {qs : List α} (h : Va w g E.te (rowE E qs).toArray) : Le E w (some ⟨g, 0, none⟩) qs.length qs :=
  le_preE (qs := []) (by rw [List.append_nil]; exact h)
theorem below_drw (X : World) : Below X.heap.size X X.drew := ⟨rfl, rfl, rfl, Nat.le_refl _, fun _ _ => rfl⟩
theorem ge_of_own {w : World} {B n : Nat} {v : Value} {qs : List α} (h : w.ownsRow B E.te E.s v n (rowE E qs)) (hn : qs.length = n) : Ge E w B v qs := by
  unfold Ge; rw [hn]; exact h
theorem own_of_ge {w : World} {B n : Nat} {v : Value} {qs : List α} (h : Ge E w B v qs) (hn : qs.length = n) : w.ownsRow B E.te E.s v n (rowE E qs) := by
  unfold Ge at h; rw [hn] at h; exact h
end Go.Proofs.YtblafbbnplfpjaaGreatDoor
namespace Go.Proofs.YtblafbbnplfpjaaGreatDoor
open Go.RowKit Go.Shelf
set_option linter.unusedVariables false
set_option linter.unusedSimpArgs false

def mkN (k : Nat) : Nd := ⟨0, 8000024 + (k : Int), [], 0, 0, 0⟩
theorem mark13_any (i : Nat) (h1 : i < 12) (w : World) : Calls Tryz.prog 46 #[.int .i64 1, .int .i64 i] w fun e w' => e = .returned (.int .i64 (8000024 + i)) ∧ w' = w := by
  go_enter Tryz.func46, Tryz.ntmps46
  go_wp2_with fail
  go_ret
  exact ⟨rfl, rfl⟩
theorem results_nd {fn : Func} {j b : Nat} {x0 x1 x2 x3 x4 x5 : Value} {tmps : Array Value} {w : World} (h : fn.results = #[.cell j 48]) (hj : tmps.getD j undef = .pointer (some ⟨b, 0, none⟩)) (hv : Va w b 48 #[x0, x1, x2, x3, x4, x5]) :
    (results fn tmps).run Tryz.prog w = .ok (.agg #[x0, x1, x2, x3, x4, x5]) w := by
  have c0 := hv.n0
  have c1 := hv.n1
  have c2 := hv.n2
  have c3 := hv.n3
  have c4 := hv.n4
  have c5 := hv.n5
  rw [Array.getD_eq_getD_getElem?] at hj
  simp [results, h, hj, c0, c1, c2, c3, c4, c5, go_sem]
theorem markN_any (i : Nat) (h1 : i < 12) (w : World) : Calls Tryz.prog 23 #[.int .i64 1, .int .i64 i] w fun e w' => e = .returned (nv (mkN i)) ∧ Below w.heap.size w w' := by
  have hm := fun W => mark13_any i h1 W
  go_enter Tryz.func23, Tryz.ntmps23
  go_wp2_with fail
  refine ent1 w _ _ (Q := fun W => Calls _ _ _ W _) ?_
  intro W0 hB0 hs0 V0
  have c0 := V0.n0
  have c1 := V0.n1
  have c2 := V0.n2
  have c3 := V0.n3
  have c4 := V0.n4
  have c5 := V0.n5
  have HV0 : Hid (Va W0 w.heap.size 48 #[.int .i64 0, .int .i64 0, .string ⟨#[]⟩, .int .i64 0, .int .i64 0, .int .i64 0]) := V0
  have HB0 : Hid (Below w.heap.size w W0) := hB0
  clear V0 hB0 hs0
  refine (hm W0).mono ?_
  rintro e w' ⟨rfl, hw'⟩
  rw [hw']; clear hw' w'
  have f0 := HV0.out.frozen 0
  have f1 := HV0.out.frozen 1
  have f2 := HV0.out.frozen 2
  have f3 := HV0.out.frozen 3
  have f4 := HV0.out.frozen 4
  have f5 := HV0.out.frozen 5
  go_wp2_with fail
  refine bodyPost_ret (results_nd rfl rfl (HV0.out.set6 _ _ _ _ _ _)) rfl ?_
  exact ⟨rfl, below_6 HB0.out (Nat.le_refl _) _ _ _ _ _ _⟩
set_option maxHeartbeats 4000000 in
theorem lentN_any (a : Option Addr) (la ca : Nat) (ps : List Nd) (w : World) (h : Le elN w a la ps) (hn : a = none → la = 0 ∧ ca = 0) (hl : la ≤ 5000000000000) :
    Calls Tryz.prog 6 #[.slice a la ca] w fun e w' => e = .returned (.slice (some ⟨w.heap.size, 0, none⟩) la (la + 12)) ∧ Va w' w.heap.size 48 (rowE elN (ps ++ mkE mkN 12)).toArray ∧ Below w.heap.size w w' := by
  have hz := h.1
  obtain ⟨i0, hi, hz0, hz1, hz2⟩ := info_parts elN.inf
  have HB8 : Hid (i0.bytes * (la + 12) ≤ 281474976710656) := by show _ ≤ _; rw [hz2]; show 56 * _ ≤ _; omega
  have HNN : Hid (a = none → la = 0 ∧ ca = 0) := hn
  have HSL : Hid (Le elN w a la ps) := h
  have HLZ : Hid ((rowE elN ps).length = la * 6) := by show _ = _; rw [rowE_length, hz]; rfl
  clear hn h
  go_enter Tryz.func6, Tryz.ntmps6
  go_wp2_with (at_make; refine wpList_make_own w rfl _ _ 22 rfl w.heap.size 48 i0 (.agg #[.int .i64 0, .int .i64 0, .string ⟨#[]⟩, .int .i64 0, .int .i64 0, .int .i64 0]) 6 Tryz.underlying22 hi hz0 hz1 .i64 .i64 _ (la + 12) rfl rfl ?c1 HB8.out ?c2 (Nat.le_refl _) ?_)
  case c1 => omega
  case c2 => unfold maxLen; omega
  intro w1 ho1 hg1
  have hb1 : Below w.heap.size w w1 := (Below.refl _ _).grown hg1 (Nat.le_refl _) (fun k hk => by cases hk)
  have HR1 : Hid (∀ ad, a = some ad → ∀ (j : Nat) (u : Value), (rowE elN ps)[j]? = some u → w1.cell? (ad.add j) = some u) := le_row (HSL.out.after hb1)
  have HO1 : Hid (w1.ownsRow w.heap.size 48 6 (.slice (some ⟨w.heap.size, 0, none⟩) 0 (la + 12)) 0 []) := ho1
  have HB1 : Hid (Below w.heap.size w w1) := hb1
  have HZ : Hid (∀ u ∈ rowE elN ps, u.oneCell' = true) := rowE_one _ ps
  clear ho1 hg1 hb1
  go_wp2_with (at_builtin; refine wpList_append_fits_any w1 rfl _ _ 22 rfl w.heap.size 48 i0 6 Tryz.underlying22 hi hz1 w.heap.size 0 (la + 12) [] rfl HO1.out a la ca (rowE elN ps) rfl HLZ.out HNN.out HR1.out HZ.out (by omega) ?_; intro w2 ho2 hg2; simp only [Nat.zero_add, List.nil_append] at ho2 ⊢)
  have hb2 : Below w.heap.size w w2 := HB1.out.grown hg2 HB1.out.size (fun k hk => by cases hk; exact Nat.le_refl _)
  have HO2 : Hid (w2.ownsRow w.heap.size 48 6 (.slice (some ⟨w.heap.size, 0, none⟩) la (la + 12)) la (rowE elN ps)) := ho2
  have HB2 : Hid (Below w.heap.size w w2) := hb2
  clear ho2 hg2 hb2 HR1 HO1 HB1
  go_loopw [3, 4] (fun v ii wr => ∃ k : Nat, k ≤ 12 ∧ ii = .int .i64 k ∧ v = .slice (some ⟨w.heap.size, 0, none⟩) (la + k) (la + 12) ∧ Hid (wr.ownsRow w.heap.size 48 6 (.slice (some ⟨w.heap.size, 0, none⟩) (la + k) (la + 12)) (la + k) (rowE elN (ps ++ mkE mkN k))) ∧ Hid (Below w.heap.size w wr)) (fun _ ii _ => 12 - (intOf ii).toNat)
  case atStart => exact ⟨0, by omega, rfl, rfl, by rw [mkE, List.append_nil]; exact HO2, HB2.out⟩
  case round =>
    clear HO2 HB2
    obtain ⟨k, hk, rfl, rfl, HO, HB⟩ := hrel
    by_cases hlt : k < 12
    · have hki : (k : Int) < 12 := by omega
      have mk := markN_any k (by omega) wr
      go_wp2_with fail
      refine mk.mono ?_
      rintro e w3 ⟨rfl, hb3⟩
      have HB3 : Hid (Below w.heap.size w w3) := step HB.out hb3
      have HLK : Hid ((ps ++ mkE mkN k).length = la + k) := by show _ = _; rw [List.length_append, mkE_length]; omega
      have HO3 : Hid ((w3.alloc (.cells #[.int .i64 0, .int .i64 (8000024 + (k : Int)), .string ⟨#[]⟩, .int .i64 0, .int .i64 0, .int .i64 0] 48)).ownsRow w.heap.size 48 6 (.slice (some ⟨w.heap.size, 0, none⟩) (la + k) (la + 12)) (la + k) (rowE elN (ps ++ mkE mkN k))) :=
        own_of_ge (E := elN) (((ge_of_own (E := elN) HO.out HLK.out).after hb3).al _) HLK.out
      have HC : Hid (∀ (j : Nat) (u : Value), (rowE elN [mkN k])[j]? = some u → (w3.alloc (.cells #[.int .i64 0, .int .i64 (8000024 + (k : Int)), .string ⟨#[]⟩, .int .i64 0, .int .i64 0, .int .i64 0] 48)).cell? ((⟨w3.heap.size, 0, none⟩ : Addr).add j) = some u) :=
        Le.news (Le.one (E := elN) (Va.new w3 48 #[.int .i64 0, .int .i64 (8000024 + (k : Int)), .string ⟨#[]⟩, .int .i64 0, .int .i64 0, .int .i64 0]) rfl)
      have HZ1 : Hid (∀ u ∈ rowE elN [mkN k], u.oneCell' = true) := rowE_one _ _
      have hs3 := HB3.out.size
      clear hb3 HO HB mk
      go_wp2_with (at_builtin; refine wpList_append_fits _ rfl _ _ 22 rfl w.heap.size 48 i0 6 Tryz.underlying22 hi hz1 w.heap.size (la + k) (la + 12) (rowE elN (ps ++ mkE mkN k)) rfl HO3.out ⟨w3.heap.size, 0, none⟩ 1 1 (rowE elN [mkN k]) rfl rfl HC.out HZ1.out (by omega) ?_; intro w4 ho4 hg4)
      have hb4 : Below w.heap.size w w4 := (HB3.out.alloc hs3 _).grown hg4 (by simp; omega) (fun k hk => by cases hk; exact Nat.le_refl _)
      have HO5 : Hid (w4.ownsRow w.heap.size 48 6 (.slice (some ⟨w.heap.size, 0, none⟩) (la + (k + 1)) (la + 12)) (la + (k + 1)) (rowE elN (ps ++ mkE mkN (k + 1)))) := by
        have := ho4
        rw [← rowE_append, List.append_assoc] at this
        exact this
      clear ho4 hg4 HO3 HC HZ1 HB3
      go_wp2_with fail
      go_roundw
      case rel => exact ⟨k + 1, by omega, by go_num, rfl, HO5, hb4⟩
      case measure => simp [intOf]; omega
    · obtain rfl : k = 12 := by omega
      have HV : Hid (Va wr w.heap.size 48 (rowE elN (ps ++ mkE mkN 12)).toArray) := full_rowE (E := elN) HO.out
      clear HO
      go_wp2_with fail
      go_ret
      exact ⟨rfl, HV.out, HB.out⟩
set_option maxRecDepth 20000 in
set_option maxHeartbeats 8000000 in
theorem keptN_any (a : Option Addr) (la ca g : Nat) (ps : List Nd) (w : World) (h : Le elN w a la ps) (ho : Va w g 48 (rowE elN (ps ++ mkE mkN 12)).toArray) (hl : la ≤ 5000000000000) :
    Calls Tryz.prog 12 #[.slice (some ⟨g, 0, none⟩) la (la + 12), .slice a la ca] w fun e w' => e = .returned (.bool true) ∧ Below w.heap.size w w' := by
  have hz := h.1
  have g1 : ((la : Int) != la) = false := by simp
  have HLEN : Hid ((ps ++ mkE mkN 12).length = la + 12) := by show _ = _; rw [List.length_append, mkE_length]; omega
  have HO : Hid (Le elN w (some ⟨g, 0, none⟩) (la + 12) (ps ++ mkE mkN 12)) := by
    have := le_allE (E := elN) ho
    rwa [HLEN.out] at this
  have HSL : Hid (Le elN w a la ps) := h
  clear ho h
  go_enter Tryz.func12, Tryz.ntmps12
  go_wp2_with fail
  go_loopw [6] (fun ii wr => ∃ k : Nat, k ≤ la + 12 ∧ ii = .int .i64 k ∧ Hid (Below w.heap.size w wr)) (fun ii _ => la + 12 - (intOf ii).toNat)
  case atStart => exact ⟨0, by omega, rfl, Below.refl _ _⟩
  case round =>
    obtain ⟨k, hk, rfl, HB⟩ := hrel
    by_cases hlt : k < la + 12
    · have hsz := HB.out.size
      obtain ⟨y, hy⟩ : ∃ y, (ps ++ mkE mkN 12).getD k nd0 = y := ⟨_, rfl⟩
      have d0 : wr.cell? ⟨g, k * 6, none⟩ = some (.int .i64 y.kd) := by have := (HO.out.after HB.out).at k hlt 0 (.int .i64 y.kd) (by rw [show elN.dft = nd0 from rfl, hy]; rfl); simpa [elN] using this
      have d1 : wr.cell? ⟨g, k * 6 + 1, none⟩ = some (.int .i64 y.ks) := by have := (HO.out.after HB.out).at k hlt 1 (.int .i64 y.ks) (by rw [show elN.dft = nd0 from rfl, hy]; rfl); simpa [elN] using this
      have d2 : wr.cell? ⟨g, k * 6 + 2, none⟩ = some (sv y.nm) := by have := (HO.out.after HB.out).at k hlt 2 (sv y.nm) (by rw [show elN.dft = nd0 from rfl, hy]; rfl); simpa [elN] using this
      have d3 : wr.cell? ⟨g, k * 6 + 3, none⟩ = some (.int .i64 y.op) := by have := (HO.out.after HB.out).at k hlt 3 (.int .i64 y.op) (by rw [show elN.dft = nd0 from rfl, hy]; rfl); simpa [elN] using this
      have d4 : wr.cell? ⟨g, k * 6 + 4, none⟩ = some (.int .i64 y.un) := by have := (HO.out.after HB.out).at k hlt 4 (.int .i64 y.un) (by rw [show elN.dft = nd0 from rfl, hy]; rfl); simpa [elN] using this
      have d5 : wr.cell? ⟨g, k * 6 + 5, none⟩ = some (.int .i64 y.pl) := by have := (HO.out.after HB.out).at k hlt 5 (.int .i64 y.pl) (by rw [show elN.dft = nd0 from rfl, hy]; rfl); simpa [elN] using this
      by_cases hkl : k < la
      · obtain ⟨b, o, rfl⟩ := HSL.out.ex (by omega)
        have ez : ps.getD k nd0 = y := by rw [← hy, List.getD_eq_getElem?_getD, List.getD_eq_getElem?_getD, List.getElem?_append_left (by omega)]
        have e0 : wr.cell? ⟨b, o + (k * 6), none⟩ = some (.int .i64 y.kd) := by have := (HSL.out.after HB.out).at k hkl 0 (.int .i64 y.kd) (by rw [show elN.dft = nd0 from rfl, ez]; rfl); simpa [elN, Nat.add_assoc] using this
        have e1 : wr.cell? ⟨b, o + k * 6 + 1, none⟩ = some (.int .i64 y.ks) := by have := (HSL.out.after HB.out).at k hkl 1 (.int .i64 y.ks) (by rw [show elN.dft = nd0 from rfl, ez]; rfl); simpa [elN, Nat.add_assoc] using this
        have e2 : wr.cell? ⟨b, o + k * 6 + 2, none⟩ = some (sv y.nm) := by have := (HSL.out.after HB.out).at k hkl 2 (sv y.nm) (by rw [show elN.dft = nd0 from rfl, ez]; rfl); simpa [elN, Nat.add_assoc] using this
        have e3 : wr.cell? ⟨b, o + k * 6 + 3, none⟩ = some (.int .i64 y.op) := by have := (HSL.out.after HB.out).at k hkl 3 (.int .i64 y.op) (by rw [show elN.dft = nd0 from rfl, ez]; rfl); simpa [elN, Nat.add_assoc] using this
        have e4 : wr.cell? ⟨b, o + k * 6 + 4, none⟩ = some (.int .i64 y.un) := by have := (HSL.out.after HB.out).at k hkl 4 (.int .i64 y.un) (by rw [show elN.dft = nd0 from rfl, ez]; rfl); simpa [elN, Nat.add_assoc] using this
        have e5 : wr.cell? ⟨b, o + k * 6 + 5, none⟩ = some (.int .i64 y.pl) := by have := (HSL.out.after HB.out).at k hkl 5 (.int .i64 y.pl) (by rw [show elN.dft = nd0 from rfl, ez]; rfl); simpa [elN, Nat.add_assoc] using this
        have q1 : decide (k < la) = true := by simp; omega
        have q2 : decide (la ≤ k) = false := by simp; omega
        clear ez hy
        obtain ⟨y0, y1, y2, y3, y4, y5⟩ := y
        dsimp only at d0 d1 d2 d3 d4 d5 e0 e1 e2 e3 e4 e5
        go_wp2_with fail
        go_quiet (fail)
        go_wp2_with fail
        go_roundw
        case rel => exact ⟨k + 1, by omega, by go_num, below_drewN HB.out _⟩
        case measure => simp [intOf]; omega
      · have ez : y = mkN (k - la) := by
          rw [← hy, List.getD_eq_getElem?_getD, List.getElem?_append_right (by omega), ← List.getD_eq_getElem?_getD, hz, mkE_getD _ _ 12 (k - la) (by omega)]
        clear hy
        subst ez
        have q1 : decide (k < la) = false := by simp; omega
        have q2 : decide (la ≤ k) = true := by simp; omega
        have q1i : ¬ (k : Int) < la := by omega
        have q2i : (la : Int) ≤ k := by omega
        have hm1 : k - la < 12 := by omega
        have ew : IntKind.i64.wrap ((k : Int) - la) = k - la := by rw [IntKind.wrap_i64]; omega
        have hki : (k : Int) < (la : Int) + 12 := by omega
        have hki0 : ¬ (k : Int) < 0 := by omega
        obtain ⟨m, hm⟩ : ∃ m : Nat, k - la = m := ⟨_, rfl⟩
        have hmi : (k : Int) - la = (m : Int) := by omega
        have HM : Hid ((k : Int) - la = (m : Int)) := hmi
        have HMN : Hid (k - la = m) := hm
        rw [hm] at d0 d1 d2 d3 d4 d5 hm1
        rw [hmi] at ew
        have ewm : IntKind.i64.wrap (m : Int) = (m : Int) := by rw [IntKind.wrap_i64]; omega
        have HMK : Hid (∀ X : World, Calls Tryz.prog 23 #[.int .i64 1, .int .i64 (IntKind.i64.wrap ((k : Int) - (la : Int)))] X fun e w' => e = .returned (.agg #[.int .i64 0, .int .i64 (8000024 + (m : Int)), .string ⟨#[]⟩, .int .i64 0, .int .i64 0, .int .i64 0]) ∧ Below X.heap.size X w') := fun X => by rw [hmi, ewm]; exact markN_any m hm1 X
        clear hmi
        have q3 : ((8000024 + (m : Int) : Int) == 8000024 + m) = true := by simp
        have hS0 : wr.drew.cell? ⟨g, k * 6, none⟩ = some (.int .i64 0) ∧ wr.drew.cell? ⟨g, k * 6 + 1, none⟩ = some (.int .i64 (8000024 + (m : Int))) ∧ wr.drew.cell? ⟨g, k * 6 + 2, none⟩ = some (.string ⟨#[]⟩) ∧ wr.drew.cell? ⟨g, k * 6 + 3, none⟩ = some (.int .i64 0) ∧ wr.drew.cell? ⟨g, k * 6 + 4, none⟩ = some (.int .i64 0) ∧ wr.drew.cell? ⟨g, k * 6 + 5, none⟩ = some (.int .i64 0) ∧ Hid (Below wr.heap.size wr wr.drew) := ⟨d0, d1, d2, d3, d4, d5, below_drw wr⟩
        go_wp2_with fail
        refine wp_region_noPanic ?_
        refine wp_region_held_drew (S := (fun X : World => X.cell? ⟨g, k * 6, none⟩ = some (.int .i64 0) ∧ X.cell? ⟨g, k * 6 + 1, none⟩ = some (.int .i64 (8000024 + (m : Int))) ∧ X.cell? ⟨g, k * 6 + 2, none⟩ = some (.string ⟨#[]⟩) ∧ X.cell? ⟨g, k * 6 + 3, none⟩ = some (.int .i64 0) ∧ X.cell? ⟨g, k * 6 + 4, none⟩ = some (.int .i64 0) ∧ X.cell? ⟨g, k * 6 + 5, none⟩ = some (.int .i64 0) ∧ Hid (Below wr.heap.size wr X))) (by kernel_rfl) hS0 (fun hHeld => ?_)
        refine wpAnyH_take (i := 0) (v := ?_) rfl (by kernel_rfl) (by kernel_rfl) (by kernel_rfl) (fun _ _ _ h => h) (Or.inl ⟨by rfl, ?_⟩) hHeld ?_
        rotate_left
        · (intro W hSw; (try dsimp only at hSw); go_simp; all_goals (with_reducible rfl))
        simp only [List.getElem_toArray, List.getElem_cons_zero, List.getElem_cons_succ, Act.put, List.setIfInBounds_toArray, List.set_cons_zero, List.set_cons_succ]
        refine wpAnyH_take (i := 1) (v := ?_) rfl (by kernel_rfl) (by kernel_rfl) (by kernel_rfl) (fun _ _ _ h => h) (Or.inl ⟨by rfl, ?_⟩) hHeld ?_
        rotate_left
        · (intro W hSw; (try dsimp only at hSw); go_simp; all_goals (with_reducible rfl))
        simp only [List.getElem_toArray, List.getElem_cons_zero, List.getElem_cons_succ, Act.put, List.setIfInBounds_toArray, List.set_cons_zero, List.set_cons_succ]
        refine wpAnyH_take (i := 2) (v := ?_) rfl (by kernel_rfl) (by kernel_rfl) (by kernel_rfl) (fun _ _ _ h => h) (Or.inl ⟨by rfl, ?_⟩) hHeld ?_
        rotate_left
        · (intro W hSw; (try dsimp only at hSw); go_simp; all_goals (with_reducible rfl))
        simp only [List.getElem_toArray, List.getElem_cons_zero, List.getElem_cons_succ, Act.put, List.setIfInBounds_toArray, List.set_cons_zero, List.set_cons_succ]
        refine wpAnyH_take (i := 3) (v := ?_) rfl (by kernel_rfl) (by kernel_rfl) (by kernel_rfl) (fun _ _ _ h => h) (Or.inl ⟨by rfl, ?_⟩) hHeld ?_
        rotate_left
        · (intro W hSw; (try dsimp only at hSw); go_simp; all_goals (with_reducible rfl))
        simp only [List.getElem_toArray, List.getElem_cons_zero, List.getElem_cons_succ, Act.put, List.setIfInBounds_toArray, List.set_cons_zero, List.set_cons_succ]
        refine wpAnyH_take (i := 4) (v := ?_) rfl (by kernel_rfl) (by kernel_rfl) (by kernel_rfl) (fun _ _ _ h => h) (Or.inl ⟨by rfl, ?_⟩) hHeld ?_
        rotate_left
        · (intro W hSw; (try dsimp only at hSw); go_simp; all_goals (with_reducible rfl))
        simp only [List.getElem_toArray, List.getElem_cons_zero, List.getElem_cons_succ, Act.put, List.setIfInBounds_toArray, List.set_cons_zero, List.set_cons_succ]
        refine wpAnyH_take (i := 5) (v := undef) rfl (by kernel_rfl) (by kernel_rfl) (by kernel_rfl) (fun _ _ _ h => h) (Or.inr ⟨by rfl, rfl⟩) hHeld ?_
        simp only [List.getElem_toArray, List.getElem_cons_zero, List.getElem_cons_succ, Act.put, List.setIfInBounds_toArray, List.set_cons_zero, List.set_cons_succ]
        refine wpAnyH_take (i := 6) (v := undef) rfl (by kernel_rfl) (by kernel_rfl) (by kernel_rfl) (fun _ _ _ h => h) (Or.inr ⟨by rfl, rfl⟩) hHeld ?_
        simp only [List.getElem_toArray, List.getElem_cons_zero, List.getElem_cons_succ, Act.put, List.setIfInBounds_toArray, List.set_cons_zero, List.set_cons_succ]
        refine wpAnyH_take (i := 7) (v := undef) rfl (by kernel_rfl) (by kernel_rfl) (by kernel_rfl) (fun _ _ _ h => h) (Or.inr ⟨by rfl, rfl⟩) hHeld ?_
        simp only [List.getElem_toArray, List.getElem_cons_zero, List.getElem_cons_succ, Act.put, List.setIfInBounds_toArray, List.set_cons_zero, List.set_cons_succ]
        refine wpAnyH_take (i := 8) (v := undef) rfl (by kernel_rfl) (by kernel_rfl) (by kernel_rfl) (fun _ _ _ h => h) (Or.inr ⟨by rfl, rfl⟩) hHeld ?_
        simp only [List.getElem_toArray, List.getElem_cons_zero, List.getElem_cons_succ, Act.put, List.setIfInBounds_toArray, List.set_cons_zero, List.set_cons_succ]
        refine wpAnyH_take (i := 9) (v := undef) rfl (by kernel_rfl) (by kernel_rfl) (by kernel_rfl) (fun _ _ _ h => h) (Or.inr ⟨by rfl, rfl⟩) hHeld ?_
        simp only [List.getElem_toArray, List.getElem_cons_zero, List.getElem_cons_succ, Act.put, List.setIfInBounds_toArray, List.set_cons_zero, List.set_cons_succ]
        refine wpAnyH_take (i := 10) (v := undef) rfl (by kernel_rfl) (by kernel_rfl) (by kernel_rfl) (fun _ _ _ h => h) (Or.inr ⟨by rfl, rfl⟩) hHeld ?_
        simp only [List.getElem_toArray, List.getElem_cons_zero, List.getElem_cons_succ, Act.put, List.setIfInBounds_toArray, List.set_cons_zero, List.set_cons_succ]
        refine wpAnyH_take (i := 11) (v := undef) rfl (by kernel_rfl) (by kernel_rfl) (by kernel_rfl) (fun _ _ _ h => h) (Or.inr ⟨by rfl, rfl⟩) hHeld ?_
        simp only [List.getElem_toArray, List.getElem_cons_zero, List.getElem_cons_succ, Act.put, List.setIfInBounds_toArray, List.set_cons_zero, List.set_cons_succ]
        refine wpAnyH_take (i := 12) (v := undef) rfl (by kernel_rfl) (by kernel_rfl) (by kernel_rfl) (fun _ _ _ h => h) (Or.inr ⟨by rfl, rfl⟩) hHeld ?_
        simp only [List.getElem_toArray, List.getElem_cons_zero, List.getElem_cons_succ, Act.put, List.setIfInBounds_toArray, List.set_cons_zero, List.set_cons_succ]
        refine wpAnyH_take (i := 13) (v := undef) rfl (by kernel_rfl) (by kernel_rfl) (by kernel_rfl) (fun _ _ _ h => h) (Or.inr ⟨by rfl, rfl⟩) hHeld ?_
        simp only [List.getElem_toArray, List.getElem_cons_zero, List.getElem_cons_succ, Act.put, List.setIfInBounds_toArray, List.set_cons_zero, List.set_cons_succ]
        refine wpAnyH_take (i := 14) (v := undef) rfl (by kernel_rfl) (by kernel_rfl) (by kernel_rfl) (fun _ _ _ h => h) (Or.inr ⟨by rfl, rfl⟩) hHeld ?_
        simp only [List.getElem_toArray, List.getElem_cons_zero, List.getElem_cons_succ, Act.put, List.setIfInBounds_toArray, List.set_cons_zero, List.set_cons_succ]
        refine wpAnyH_take (i := 15) (v := ?_) rfl (by kernel_rfl) (by kernel_rfl) (by kernel_rfl) (fun _ _ _ h => h) (Or.inl ⟨by rfl, ?_⟩) hHeld ?_
        rotate_left
        · (intro W hSw; (try dsimp only at hSw); go_simp; all_goals (with_reducible rfl))
        simp only [List.getElem_toArray, List.getElem_cons_zero, List.getElem_cons_succ, Act.put, List.setIfInBounds_toArray, List.set_cons_zero, List.set_cons_succ]
        refine wpAnyH_take (i := 16) (v := ?_) rfl (by kernel_rfl) (by kernel_rfl) (by kernel_rfl) (fun _ _ _ h => h) (Or.inl ⟨by rfl, ?_⟩) hHeld ?_
        rotate_left
        · (intro W hSw; (try dsimp only at hSw); go_simp; all_goals (with_reducible rfl))
        simp only [List.getElem_toArray, List.getElem_cons_zero, List.getElem_cons_succ, Act.put, List.setIfInBounds_toArray, List.set_cons_zero, List.set_cons_succ]
        refine wpAnyH_take (i := 17) (v := ?_) rfl (by kernel_rfl) (by kernel_rfl) (by kernel_rfl) (fun _ _ _ h => h) (Or.inl ⟨by rfl, ?_⟩) hHeld ?_
        rotate_left
        · (intro W hSw; (try dsimp only at hSw); go_simp; all_goals (with_reducible rfl))
        simp only [List.getElem_toArray, List.getElem_cons_zero, List.getElem_cons_succ, Act.put, List.setIfInBounds_toArray, List.set_cons_zero, List.set_cons_succ]
        refine wpAnyH_take (i := 18) (v := ?_) rfl (by kernel_rfl) (by kernel_rfl) (by kernel_rfl) (fun _ _ _ h => h) (Or.inl ⟨by rfl, ?_⟩) hHeld ?_
        rotate_left
        · (intro W hSw; (try dsimp only at hSw); go_simp; all_goals (with_reducible rfl))
        simp only [List.getElem_toArray, List.getElem_cons_zero, List.getElem_cons_succ, Act.put, List.setIfInBounds_toArray, List.set_cons_zero, List.set_cons_succ]
        refine wpAnyH_take (i := 19) (v := ?_) rfl (by kernel_rfl) (by kernel_rfl) (by kernel_rfl) (fun _ _ _ h => h) (Or.inl ⟨by rfl, ?_⟩) hHeld ?_
        rotate_left
        · (intro W hSw; (try dsimp only at hSw); go_simp; all_goals (with_reducible rfl))
        simp only [List.getElem_toArray, List.getElem_cons_zero, List.getElem_cons_succ, Act.put, List.setIfInBounds_toArray, List.set_cons_zero, List.set_cons_succ]
        refine wpAnyH_take (i := 20) (v := ?_) rfl (by kernel_rfl) (by kernel_rfl) (by kernel_rfl) (fun _ _ _ h => h) (Or.inl ⟨by rfl, ?_⟩) hHeld ?_
        rotate_left
        · (intro W hSw; (try dsimp only at hSw); go_simp; all_goals (with_reducible rfl))
        simp only [List.getElem_toArray, List.getElem_cons_zero, List.getElem_cons_succ, Act.put, List.setIfInBounds_toArray, List.set_cons_zero, List.set_cons_succ]
        refine wpAnyH_take (i := 21) (v := ?_) rfl (by kernel_rfl) (by kernel_rfl) (by kernel_rfl) (fun _ _ _ h => h) (Or.inl ⟨by rfl, ?_⟩) hHeld ?_
        rotate_left
        · (intro W hSw; (try dsimp only at hSw); go_simp; all_goals (with_reducible rfl))
        simp only [List.getElem_toArray, List.getElem_cons_zero, List.getElem_cons_succ, Act.put, List.setIfInBounds_toArray, List.set_cons_zero, List.set_cons_succ]
        refine wpAnyH_take (i := 22) (v := ?_) rfl (by kernel_rfl) (by kernel_rfl) (by kernel_rfl) (fun _ _ _ h => h) (Or.inl ⟨by rfl, ?_⟩) hHeld ?_
        rotate_left
        · (intro W hSw; (try dsimp only at hSw); go_simp; all_goals (with_reducible rfl))
        simp only [List.getElem_toArray, List.getElem_cons_zero, List.getElem_cons_succ, Act.put, List.setIfInBounds_toArray, List.set_cons_zero, List.set_cons_succ]
        refine wpAnyH_take (i := 23) (v := ?_) rfl (by kernel_rfl) (by kernel_rfl) (by kernel_rfl) (fun _ _ _ h => h) (Or.inl ⟨by rfl, ?_⟩) hHeld ?_
        rotate_left
        · (intro W hSw; (try dsimp only at hSw); go_simp; all_goals (with_reducible rfl))
        simp only [List.getElem_toArray, List.getElem_cons_zero, List.getElem_cons_succ, Act.put, List.setIfInBounds_toArray, List.set_cons_zero, List.set_cons_succ]
        refine wpAnyH_take (i := 24) (v := ?_) rfl (by kernel_rfl) (by kernel_rfl) (by kernel_rfl) (fun _ _ _ h => h) (Or.inl ⟨by rfl, ?_⟩) hHeld ?_
        rotate_left
        · (intro W hSw; (try dsimp only at hSw); go_simp; all_goals (with_reducible rfl))
        simp only [List.getElem_toArray, List.getElem_cons_zero, List.getElem_cons_succ, Act.put, List.setIfInBounds_toArray, List.set_cons_zero, List.set_cons_succ]
        refine wpAnyH_take (i := 25) (v := ?_) rfl (by kernel_rfl) (by kernel_rfl) (by kernel_rfl) (fun _ _ _ h => h) (Or.inl ⟨by rfl, ?_⟩) hHeld ?_
        rotate_left
        · (intro W hSw; (try dsimp only at hSw); go_simp; all_goals (with_reducible rfl))
        simp only [List.getElem_toArray, List.getElem_cons_zero, List.getElem_cons_succ, Act.put, List.setIfInBounds_toArray, List.set_cons_zero, List.set_cons_succ]
        refine wpAnyH_take (i := 26) (v := ?_) rfl (by kernel_rfl) (by kernel_rfl) (by kernel_rfl) (fun _ _ _ h => h) (Or.inl ⟨by rfl, ?_⟩) hHeld ?_
        rotate_left
        · (intro W hSw; (try dsimp only at hSw); go_simp; all_goals (with_reducible rfl))
        simp only [List.getElem_toArray, List.getElem_cons_zero, List.getElem_cons_succ, Act.put, List.setIfInBounds_toArray, List.set_cons_zero, List.set_cons_succ]
        refine wpAnyH_take (i := 27) (v := ?_) rfl (by kernel_rfl) (by kernel_rfl) (by kernel_rfl) (fun _ _ _ h => h) (Or.inl ⟨by rfl, ?_⟩) hHeld ?_
        rotate_left
        · (intro W hSw; (try dsimp only at hSw); go_simp; all_goals (with_reducible rfl))
        simp only [List.getElem_toArray, List.getElem_cons_zero, List.getElem_cons_succ, Act.put, List.setIfInBounds_toArray, List.set_cons_zero, List.set_cons_succ]
        refine wpAnyH_take (i := 28) (v := ?_) rfl (by kernel_rfl) (by kernel_rfl) (by kernel_rfl) (fun _ _ _ h => h) (Or.inl ⟨by rfl, ?_⟩) hHeld ?_
        rotate_left
        · (intro W hSw; (try dsimp only at hSw); go_simp; all_goals (with_reducible rfl))
        simp only [List.getElem_toArray, List.getElem_cons_zero, List.getElem_cons_succ, Act.put, List.setIfInBounds_toArray, List.set_cons_zero, List.set_cons_succ]
        refine wpAnyH_take (i := 29) (v := ?_) rfl (by kernel_rfl) (by kernel_rfl) (by kernel_rfl) (fun _ _ _ h => h) (Or.inl ⟨by rfl, ?_⟩) hHeld ?_
        rotate_left
        · (intro W hSw; (try dsimp only at hSw); go_simp; all_goals (with_reducible rfl))
        simp only [List.getElem_toArray, List.getElem_cons_zero, List.getElem_cons_succ, Act.put, List.setIfInBounds_toArray, List.set_cons_zero, List.set_cons_succ]
        refine wpAnyH_ready (rs := [30]) (by kernel_rfl) (by simp) ?_
        refine AllReadyH.cons rfl (fun K hK => ?_) AllReadyH.nil
        simp only [List.getElem_toArray, List.getElem_cons_zero, List.getElem_cons_succ]
        go_simp
        refine (HMK.out _).mono ?_
        rintro e y ⟨rfl, hby⟩
        have hSy : y.cell? ⟨g, k * 6, none⟩ = some (.int .i64 0) ∧ y.cell? ⟨g, k * 6 + 1, none⟩ = some (.int .i64 (8000024 + (m : Int))) ∧ y.cell? ⟨g, k * 6 + 2, none⟩ = some (.string ⟨#[]⟩) ∧ y.cell? ⟨g, k * 6 + 3, none⟩ = some (.int .i64 0) ∧ y.cell? ⟨g, k * 6 + 4, none⟩ = some (.int .i64 0) ∧ y.cell? ⟨g, k * 6 + 5, none⟩ = some (.int .i64 0) ∧ Hid (Below wr.heap.size wr y) := ⟨(hby.cell (p := ⟨g, k * 6, none⟩) (cell_lt hHeld.1)).trans hHeld.1, (hby.cell (p := ⟨g, k * 6 + 1, none⟩) (cell_lt hHeld.2.1)).trans hHeld.2.1, (hby.cell (p := ⟨g, k * 6 + 2, none⟩) (cell_lt hHeld.2.2.1)).trans hHeld.2.2.1, (hby.cell (p := ⟨g, k * 6 + 3, none⟩) (cell_lt hHeld.2.2.2.1)).trans hHeld.2.2.2.1, (hby.cell (p := ⟨g, k * 6 + 4, none⟩) (cell_lt hHeld.2.2.2.2.1)).trans hHeld.2.2.2.2.1, (hby.cell (p := ⟨g, k * 6 + 5, none⟩) (cell_lt hHeld.2.2.2.2.2.1)).trans hHeld.2.2.2.2.2.1, step hHeld.2.2.2.2.2.2.out hby⟩
        try go_wp2_with fail
        refine hK.out _ _ hSy (fun hHeld => ?_)
        clear hK K
        refine wpAnyH_take (i := 31) (v := ?_) rfl (by kernel_rfl) (by kernel_rfl) (by kernel_rfl) (fun _ _ _ h => h) (Or.inl ⟨by rfl, ?_⟩) hHeld ?_
        rotate_left
        · (intro W hSw; (try dsimp only at hSw); go_simp; all_goals (with_reducible rfl))
        simp only [List.getElem_toArray, List.getElem_cons_zero, List.getElem_cons_succ, Act.put, List.setIfInBounds_toArray, List.set_cons_zero, List.set_cons_succ]
        refine wpAnyH_take (i := 32) (v := ?_) rfl (by kernel_rfl) (by kernel_rfl) (by kernel_rfl) (fun _ _ _ h => h) (Or.inl ⟨by rfl, ?_⟩) hHeld ?_
        rotate_left
        · (intro W hSw; (try dsimp only at hSw); go_simp; all_goals (with_reducible rfl))
        simp only [List.getElem_toArray, List.getElem_cons_zero, List.getElem_cons_succ, Act.put, List.setIfInBounds_toArray, List.set_cons_zero, List.set_cons_succ]
        refine wpAnyH_take (i := 33) (v := ?_) rfl (by kernel_rfl) (by kernel_rfl) (by kernel_rfl) (fun _ _ _ h => h) (Or.inl ⟨by rfl, ?_⟩) hHeld ?_
        rotate_left
        · (intro W hSw; (try dsimp only at hSw); go_simp; all_goals (with_reducible rfl))
        simp only [List.getElem_toArray, List.getElem_cons_zero, List.getElem_cons_succ, Act.put, List.setIfInBounds_toArray, List.set_cons_zero, List.set_cons_succ]
        refine wpAnyH_take (i := 34) (v := ?_) rfl (by kernel_rfl) (by kernel_rfl) (by kernel_rfl) (fun _ _ _ h => h) (Or.inl ⟨by rfl, ?_⟩) hHeld ?_
        rotate_left
        · (intro W hSw; (try dsimp only at hSw); go_simp; all_goals (with_reducible rfl))
        simp only [List.getElem_toArray, List.getElem_cons_zero, List.getElem_cons_succ, Act.put, List.setIfInBounds_toArray, List.set_cons_zero, List.set_cons_succ]
        refine wpAnyH_done (by kernel_rfl) ?_ _
        refine NoPanic.normal ?_
        have HBy : Hid (Below w.heap.size w y) := step HB.out hSy.2.2.2.2.2.2.out
        clear hSy hS0
        go_wp2_with fail
        go_roundw
        case rel => exact ⟨k + 1, by omega, by go_num, HBy.out⟩
        case measure => simp [intOf]; omega
    · go_wp2_with fail
      go_ret
      exact ⟨rfl, HB.out⟩
end Go.Proofs.YtblafbbnplfpjaaGreatDoor
namespace Go.Proofs.YtblafbbnplfpjaaGreatDoor
open Go.RowKit Go.Shelf
set_option linter.unusedVariables false
set_option linter.unusedSimpArgs false

def mkT (k : Nat) : List UInt8 := [35, 1, 0, 0, 47, UInt8.ofNat k, 0, 0]
theorem convT (w : World) (l : List UInt8) : (convert 108 9 (.slice (some ⟨w.heap.size, 0, none⟩) l.length l.length)).run Tryz.prog (w.alloc (.cells (l.map (fun c => Value.int .u8 (c.toNat : Int))).toArray 5)) = .ok (sv l) (w.alloc (.cells (l.map (fun c => Value.int .u8 (c.toNat : Int))).toArray 5)) := by
  have V := Va.new w 5 (l.map (fun c => Value.int .u8 (c.toNat : Int))).toArray
  refine run_convert_bytes_back (P := Tryz.prog) _ 108 9 5 ⟨w.heap.size, 0, none⟩ l.length l Tryz.underlying108 Tryz.underlying5 Tryz.underlying9 (fun j hj => ?_)
  rw [Go.Lib.add_plain, V.cellAt]
  simp [hj]
set_option maxRecDepth 20000 in
set_option maxHeartbeats 4000000 in
theorem markT_any (i : Nat) (h1 : i < 12) (w : World) : Calls Tryz.prog 47 #[.int .i64 1, .int .i64 i] w fun e w' => e = .returned (sv (mkT i)) ∧ Below w.heap.size w w' := by
  match i, h1 with
  | 0, _ =>
    have hcv : (convert 108 9 (.slice (some ⟨w.heap.size, 0, none⟩) 8 8)).run Tryz.prog (w.alloc (.cells #[.int .u8 35, .int .u8 1, .int .u8 0, .int .u8 0, .int .u8 47, .int .u8 0, .int .u8 0, .int .u8 0] 5)) = .ok (.string ⟨#[35, 1, 0, 0, 47, 0, 0, 0]⟩) (w.alloc (.cells #[.int .u8 35, .int .u8 1, .int .u8 0, .int .u8 0, .int .u8 47, .int .u8 0, .int .u8 0, .int .u8 0] 5)) := convT w (mkT 0)
    go_enter Tryz.func47, Tryz.ntmps47
    go_wp2_with fail
    go_ret
    exact ⟨rfl, (Below.refl _ _).alloc (Nat.le_refl _) _⟩
  | 1, _ =>
    have hcv : (convert 108 9 (.slice (some ⟨w.heap.size, 0, none⟩) 8 8)).run Tryz.prog (w.alloc (.cells #[.int .u8 35, .int .u8 1, .int .u8 0, .int .u8 0, .int .u8 47, .int .u8 1, .int .u8 0, .int .u8 0] 5)) = .ok (.string ⟨#[35, 1, 0, 0, 47, 1, 0, 0]⟩) (w.alloc (.cells #[.int .u8 35, .int .u8 1, .int .u8 0, .int .u8 0, .int .u8 47, .int .u8 1, .int .u8 0, .int .u8 0] 5)) := convT w (mkT 1)
    go_enter Tryz.func47, Tryz.ntmps47
    go_wp2_with fail
    go_ret
    exact ⟨rfl, (Below.refl _ _).alloc (Nat.le_refl _) _⟩
  | 2, _ =>
    have hcv : (convert 108 9 (.slice (some ⟨w.heap.size, 0, none⟩) 8 8)).run Tryz.prog (w.alloc (.cells #[.int .u8 35, .int .u8 1, .int .u8 0, .int .u8 0, .int .u8 47, .int .u8 2, .int .u8 0, .int .u8 0] 5)) = .ok (.string ⟨#[35, 1, 0, 0, 47, 2, 0, 0]⟩) (w.alloc (.cells #[.int .u8 35, .int .u8 1, .int .u8 0, .int .u8 0, .int .u8 47, .int .u8 2, .int .u8 0, .int .u8 0] 5)) := convT w (mkT 2)
    go_enter Tryz.func47, Tryz.ntmps47
    go_wp2_with fail
    go_ret
    exact ⟨rfl, (Below.refl _ _).alloc (Nat.le_refl _) _⟩
  | 3, _ =>
    have hcv : (convert 108 9 (.slice (some ⟨w.heap.size, 0, none⟩) 8 8)).run Tryz.prog (w.alloc (.cells #[.int .u8 35, .int .u8 1, .int .u8 0, .int .u8 0, .int .u8 47, .int .u8 3, .int .u8 0, .int .u8 0] 5)) = .ok (.string ⟨#[35, 1, 0, 0, 47, 3, 0, 0]⟩) (w.alloc (.cells #[.int .u8 35, .int .u8 1, .int .u8 0, .int .u8 0, .int .u8 47, .int .u8 3, .int .u8 0, .int .u8 0] 5)) := convT w (mkT 3)
    go_enter Tryz.func47, Tryz.ntmps47
    go_wp2_with fail
    go_ret
    exact ⟨rfl, (Below.refl _ _).alloc (Nat.le_refl _) _⟩
  | 4, _ =>
    have hcv : (convert 108 9 (.slice (some ⟨w.heap.size, 0, none⟩) 8 8)).run Tryz.prog (w.alloc (.cells #[.int .u8 35, .int .u8 1, .int .u8 0, .int .u8 0, .int .u8 47, .int .u8 4, .int .u8 0, .int .u8 0] 5)) = .ok (.string ⟨#[35, 1, 0, 0, 47, 4, 0, 0]⟩) (w.alloc (.cells #[.int .u8 35, .int .u8 1, .int .u8 0, .int .u8 0, .int .u8 47, .int .u8 4, .int .u8 0, .int .u8 0] 5)) := convT w (mkT 4)
    go_enter Tryz.func47, Tryz.ntmps47
    go_wp2_with fail
    go_ret
    exact ⟨rfl, (Below.refl _ _).alloc (Nat.le_refl _) _⟩
  | 5, _ =>
    have hcv : (convert 108 9 (.slice (some ⟨w.heap.size, 0, none⟩) 8 8)).run Tryz.prog (w.alloc (.cells #[.int .u8 35, .int .u8 1, .int .u8 0, .int .u8 0, .int .u8 47, .int .u8 5, .int .u8 0, .int .u8 0] 5)) = .ok (.string ⟨#[35, 1, 0, 0, 47, 5, 0, 0]⟩) (w.alloc (.cells #[.int .u8 35, .int .u8 1, .int .u8 0, .int .u8 0, .int .u8 47, .int .u8 5, .int .u8 0, .int .u8 0] 5)) := convT w (mkT 5)
    go_enter Tryz.func47, Tryz.ntmps47
    go_wp2_with fail
    go_ret
    exact ⟨rfl, (Below.refl _ _).alloc (Nat.le_refl _) _⟩
  | 6, _ =>
    have hcv : (convert 108 9 (.slice (some ⟨w.heap.size, 0, none⟩) 8 8)).run Tryz.prog (w.alloc (.cells #[.int .u8 35, .int .u8 1, .int .u8 0, .int .u8 0, .int .u8 47, .int .u8 6, .int .u8 0, .int .u8 0] 5)) = .ok (.string ⟨#[35, 1, 0, 0, 47, 6, 0, 0]⟩) (w.alloc (.cells #[.int .u8 35, .int .u8 1, .int .u8 0, .int .u8 0, .int .u8 47, .int .u8 6, .int .u8 0, .int .u8 0] 5)) := convT w (mkT 6)
    go_enter Tryz.func47, Tryz.ntmps47
    go_wp2_with fail
    go_ret
    exact ⟨rfl, (Below.refl _ _).alloc (Nat.le_refl _) _⟩
  | 7, _ =>
    have hcv : (convert 108 9 (.slice (some ⟨w.heap.size, 0, none⟩) 8 8)).run Tryz.prog (w.alloc (.cells #[.int .u8 35, .int .u8 1, .int .u8 0, .int .u8 0, .int .u8 47, .int .u8 7, .int .u8 0, .int .u8 0] 5)) = .ok (.string ⟨#[35, 1, 0, 0, 47, 7, 0, 0]⟩) (w.alloc (.cells #[.int .u8 35, .int .u8 1, .int .u8 0, .int .u8 0, .int .u8 47, .int .u8 7, .int .u8 0, .int .u8 0] 5)) := convT w (mkT 7)
    go_enter Tryz.func47, Tryz.ntmps47
    go_wp2_with fail
    go_ret
    exact ⟨rfl, (Below.refl _ _).alloc (Nat.le_refl _) _⟩
  | 8, _ =>
    have hcv : (convert 108 9 (.slice (some ⟨w.heap.size, 0, none⟩) 8 8)).run Tryz.prog (w.alloc (.cells #[.int .u8 35, .int .u8 1, .int .u8 0, .int .u8 0, .int .u8 47, .int .u8 8, .int .u8 0, .int .u8 0] 5)) = .ok (.string ⟨#[35, 1, 0, 0, 47, 8, 0, 0]⟩) (w.alloc (.cells #[.int .u8 35, .int .u8 1, .int .u8 0, .int .u8 0, .int .u8 47, .int .u8 8, .int .u8 0, .int .u8 0] 5)) := convT w (mkT 8)
    go_enter Tryz.func47, Tryz.ntmps47
    go_wp2_with fail
    go_ret
    exact ⟨rfl, (Below.refl _ _).alloc (Nat.le_refl _) _⟩
  | 9, _ =>
    have hcv : (convert 108 9 (.slice (some ⟨w.heap.size, 0, none⟩) 8 8)).run Tryz.prog (w.alloc (.cells #[.int .u8 35, .int .u8 1, .int .u8 0, .int .u8 0, .int .u8 47, .int .u8 9, .int .u8 0, .int .u8 0] 5)) = .ok (.string ⟨#[35, 1, 0, 0, 47, 9, 0, 0]⟩) (w.alloc (.cells #[.int .u8 35, .int .u8 1, .int .u8 0, .int .u8 0, .int .u8 47, .int .u8 9, .int .u8 0, .int .u8 0] 5)) := convT w (mkT 9)
    go_enter Tryz.func47, Tryz.ntmps47
    go_wp2_with fail
    go_ret
    exact ⟨rfl, (Below.refl _ _).alloc (Nat.le_refl _) _⟩
  | 10, _ =>
    have hcv : (convert 108 9 (.slice (some ⟨w.heap.size, 0, none⟩) 8 8)).run Tryz.prog (w.alloc (.cells #[.int .u8 35, .int .u8 1, .int .u8 0, .int .u8 0, .int .u8 47, .int .u8 10, .int .u8 0, .int .u8 0] 5)) = .ok (.string ⟨#[35, 1, 0, 0, 47, 10, 0, 0]⟩) (w.alloc (.cells #[.int .u8 35, .int .u8 1, .int .u8 0, .int .u8 0, .int .u8 47, .int .u8 10, .int .u8 0, .int .u8 0] 5)) := convT w (mkT 10)
    go_enter Tryz.func47, Tryz.ntmps47
    go_wp2_with fail
    go_ret
    exact ⟨rfl, (Below.refl _ _).alloc (Nat.le_refl _) _⟩
  | 11, _ =>
    have hcv : (convert 108 9 (.slice (some ⟨w.heap.size, 0, none⟩) 8 8)).run Tryz.prog (w.alloc (.cells #[.int .u8 35, .int .u8 1, .int .u8 0, .int .u8 0, .int .u8 47, .int .u8 11, .int .u8 0, .int .u8 0] 5)) = .ok (.string ⟨#[35, 1, 0, 0, 47, 11, 0, 0]⟩) (w.alloc (.cells #[.int .u8 35, .int .u8 1, .int .u8 0, .int .u8 0, .int .u8 47, .int .u8 11, .int .u8 0, .int .u8 0] 5)) := convT w (mkT 11)
    go_enter Tryz.func47, Tryz.ntmps47
    go_wp2_with fail
    go_ret
    exact ⟨rfl, (Below.refl _ _).alloc (Nat.le_refl _) _⟩
  | n + 12, h => exact absurd h (by omega)
set_option maxHeartbeats 4000000 in
theorem lentT_any (a : Option Addr) (la ca : Nat) (ps : List (List UInt8)) (w : World) (h : Le elS w a la ps) (hn : a = none → la = 0 ∧ ca = 0) (hl : la ≤ 9000000000000) :
    Calls Tryz.prog 24 #[.slice a la ca] w fun e w' => e = .returned (.slice (some ⟨w.heap.size, 0, none⟩) la (la + 12)) ∧ Va w' w.heap.size 9 (rowE elS (ps ++ mkE mkT 12)).toArray ∧ Below w.heap.size w w' := by
  have hz := h.1
  obtain ⟨i0, hi, hz0, hz1, hz2⟩ := info_parts elS.inf
  have HB8 : Hid (i0.bytes * (la + 12) ≤ 281474976710656) := by show _ ≤ _; rw [hz2]; show 16 * _ ≤ _; omega
  have HNN : Hid (a = none → la = 0 ∧ ca = 0) := hn
  have HSL : Hid (Le elS w a la ps) := h
  have HLZ : Hid ((rowE elS ps).length = la * 1) := by show _ = _; rw [rowE_length, hz]; rfl
  clear hn h
  go_enter Tryz.func24, Tryz.ntmps24
  go_wp2_with (at_make; refine wpList_make_own w rfl _ _ 23 rfl w.heap.size 9 i0 (.string ⟨#[]⟩) 1 Tryz.underlying23 hi hz0 hz1 .i64 .i64 _ (la + 12) rfl rfl ?c1 HB8.out ?c2 (Nat.le_refl _) ?_)
  case c1 => omega
  case c2 => unfold maxLen; omega
  intro w1 ho1 hg1
  have hb1 : Below w.heap.size w w1 := (Below.refl _ _).grown hg1 (Nat.le_refl _) (fun k hk => by cases hk)
  have HR1 : Hid (∀ ad, a = some ad → ∀ (j : Nat) (u : Value), (rowE elS ps)[j]? = some u → w1.cell? (ad.add j) = some u) := le_row (HSL.out.after hb1)
  have HO1 : Hid (w1.ownsRow w.heap.size 9 1 (.slice (some ⟨w.heap.size, 0, none⟩) 0 (la + 12)) 0 []) := ho1
  have HB1 : Hid (Below w.heap.size w w1) := hb1
  have HZ : Hid (∀ u ∈ rowE elS ps, u.oneCell' = true) := rowE_one _ ps
  clear ho1 hg1 hb1
  go_wp2_with (at_builtin; refine wpList_append_fits_any w1 rfl _ _ 23 rfl w.heap.size 9 i0 1 Tryz.underlying23 hi hz1 w.heap.size 0 (la + 12) [] rfl HO1.out a la ca (rowE elS ps) rfl HLZ.out HNN.out HR1.out HZ.out (by omega) ?_; intro w2 ho2 hg2; simp only [Nat.zero_add, List.nil_append] at ho2 ⊢)
  have hb2 : Below w.heap.size w w2 := HB1.out.grown hg2 HB1.out.size (fun k hk => by cases hk; exact Nat.le_refl _)
  have HO2 : Hid (w2.ownsRow w.heap.size 9 1 (.slice (some ⟨w.heap.size, 0, none⟩) la (la + 12)) la (rowE elS ps)) := ho2
  have HB2 : Hid (Below w.heap.size w w2) := hb2
  clear ho2 hg2 hb2 HR1 HO1 HB1
  go_loopw [3, 4] (fun v ii wr => ∃ k : Nat, k ≤ 12 ∧ ii = .int .i64 k ∧ v = .slice (some ⟨w.heap.size, 0, none⟩) (la + k) (la + 12) ∧ Hid (wr.ownsRow w.heap.size 9 1 (.slice (some ⟨w.heap.size, 0, none⟩) (la + k) (la + 12)) (la + k) (rowE elS (ps ++ mkE mkT k))) ∧ Hid (Below w.heap.size w wr)) (fun _ ii _ => 12 - (intOf ii).toNat)
  case atStart => exact ⟨0, by omega, rfl, rfl, by rw [mkE, List.append_nil]; exact HO2, HB2.out⟩
  case round =>
    clear HO2 HB2
    obtain ⟨k, hk, rfl, rfl, HO, HB⟩ := hrel
    by_cases hlt : k < 12
    · have hki : (k : Int) < 12 := by omega
      have mk := markT_any k (by omega) wr
      go_wp2_with fail
      refine mk.mono ?_
      rintro e w3 ⟨rfl, hb3⟩
      have HB3 : Hid (Below w.heap.size w w3) := step HB.out hb3
      have HLK : Hid ((ps ++ mkE mkT k).length = la + k) := by show _ = _; rw [List.length_append, mkE_length]; omega
      have HO3 : Hid ((w3.alloc (.cells #[sv (mkT k)] 9)).ownsRow w.heap.size 9 1 (.slice (some ⟨w.heap.size, 0, none⟩) (la + k) (la + 12)) (la + k) (rowE elS (ps ++ mkE mkT k))) :=
        own_of_ge (E := elS) (((ge_of_own (E := elS) HO.out HLK.out).after hb3).al _) HLK.out
      have HC : Hid (∀ (j : Nat) (u : Value), (rowE elS [mkT k])[j]? = some u → (w3.alloc (.cells #[sv (mkT k)] 9)).cell? ((⟨w3.heap.size, 0, none⟩ : Addr).add j) = some u) :=
        Le.news (Le.one (E := elS) (Va.new w3 9 #[sv (mkT k)]) rfl)
      have HZ1 : Hid (∀ u ∈ rowE elS [mkT k], u.oneCell' = true) := rowE_one _ _
      have hs3 := HB3.out.size
      clear hb3 HO HB mk
      go_wp2_with (at_builtin; refine wpList_append_fits _ rfl _ _ 23 rfl w.heap.size 9 i0 1 Tryz.underlying23 hi hz1 w.heap.size (la + k) (la + 12) (rowE elS (ps ++ mkE mkT k)) rfl HO3.out ⟨w3.heap.size, 0, none⟩ 1 1 (rowE elS [mkT k]) rfl rfl HC.out HZ1.out (by omega) ?_; intro w4 ho4 hg4)
      have hb4 : Below w.heap.size w w4 := (HB3.out.alloc hs3 _).grown hg4 (by simp; omega) (fun k hk => by cases hk; exact Nat.le_refl _)
      have HO5 : Hid (w4.ownsRow w.heap.size 9 1 (.slice (some ⟨w.heap.size, 0, none⟩) (la + (k + 1)) (la + 12)) (la + (k + 1)) (rowE elS (ps ++ mkE mkT (k + 1)))) := by
        have := ho4
        rw [← rowE_append, List.append_assoc] at this
        exact this
      clear ho4 hg4 HO3 HC HZ1 HB3
      go_wp2_with fail
      go_roundw
      case rel => exact ⟨k + 1, by omega, by go_num, rfl, HO5, hb4⟩
      case measure => simp [intOf]; omega
    · obtain rfl : k = 12 := by omega
      have HV : Hid (Va wr w.heap.size 9 (rowE elS (ps ++ mkE mkT 12)).toArray) := full_rowE (E := elS) HO.out
      clear HO
      go_wp2_with fail
      go_ret
      exact ⟨rfl, HV.out, HB.out⟩
set_option maxRecDepth 20000 in
set_option maxHeartbeats 8000000 in
theorem keptT_any (a : Option Addr) (la ca g : Nat) (ps : List (List UInt8)) (w : World) (h : Le elS w a la ps) (ho : Va w g 9 (rowE elS (ps ++ mkE mkT 12)).toArray) (hl : la ≤ 9000000000000) :
    Calls Tryz.prog 31 #[.slice (some ⟨g, 0, none⟩) la (la + 12), .slice a la ca] w fun e w' => e = .returned (.bool true) ∧ Below w.heap.size w w' := by
  have hz := h.1
  have g1 : ((la : Int) != la) = false := by simp
  have HLEN : Hid ((ps ++ mkE mkT 12).length = la + 12) := by show _ = _; rw [List.length_append, mkE_length]; omega
  have HO : Hid (Le elS w (some ⟨g, 0, none⟩) (la + 12) (ps ++ mkE mkT 12)) := by
    have := le_allE (E := elS) ho
    rwa [HLEN.out] at this
  have HSL : Hid (Le elS w a la ps) := h
  clear ho h
  go_enter Tryz.func31, Tryz.ntmps31
  go_wp2_with fail
  go_loopw [6] (fun ii wr => ∃ k : Nat, k ≤ la + 12 ∧ ii = .int .i64 k ∧ Hid (Below w.heap.size w wr)) (fun ii _ => la + 12 - (intOf ii).toNat)
  case atStart => exact ⟨0, by omega, rfl, Below.refl _ _⟩
  case round =>
    obtain ⟨k, hk, rfl, HB⟩ := hrel
    by_cases hlt : k < la + 12
    · have hsz := HB.out.size
      obtain ⟨y, hy⟩ : ∃ y, (ps ++ mkE mkT 12).getD k [] = y := ⟨_, rfl⟩
      have d0 : wr.cell? ⟨g, k, none⟩ = some (sv y) := by have := (HO.out.after HB.out).at k hlt 0 (sv y) (by rw [show elS.dft = [] from rfl, hy]; rfl); simpa [elS] using this
      by_cases hkl : k < la
      · obtain ⟨b, o, rfl⟩ := HSL.out.ex (by omega)
        have ez : ps.getD k [] = y := by rw [← hy, List.getD_eq_getElem?_getD, List.getD_eq_getElem?_getD, List.getElem?_append_left (by omega)]
        have e0 : wr.cell? ⟨b, o + k, none⟩ = some (sv y) := by have := (HSL.out.after HB.out).at k hkl 0 (sv y) (by rw [show elS.dft = [] from rfl, ez]; rfl); simpa [elS, Nat.add_assoc] using this
        have q1 : decide (k < la) = true := by simp; omega
        have q2 : decide (la ≤ k) = false := by simp; omega
        clear ez hy
        go_wp2_with fail
        go_quiet (fail)
        go_wp2_with fail
        go_roundw
        case rel => exact ⟨k + 1, by omega, by go_num, below_drewN HB.out _⟩
        case measure => simp [intOf]; omega
      · have ez : y = mkT (k - la) := by
          rw [← hy, List.getD_eq_getElem?_getD, List.getElem?_append_right (by omega), ← List.getD_eq_getElem?_getD, hz, mkE_getD _ _ 12 (k - la) (by omega)]
        clear hy
        subst ez
        have q1 : decide (k < la) = false := by simp; omega
        have q2 : decide (la ≤ k) = true := by simp; omega
        have q1i : ¬ (k : Int) < la := by omega
        have q2i : (la : Int) ≤ k := by omega
        have hm1 : k - la < 12 := by omega
        have ew : IntKind.i64.wrap ((k : Int) - la) = k - la := by rw [IntKind.wrap_i64]; omega
        have hki : (k : Int) < (la : Int) + 12 := by omega
        have hki0 : ¬ (k : Int) < 0 := by omega
        obtain ⟨m, hm⟩ : ∃ m : Nat, k - la = m := ⟨_, rfl⟩
        have hmi : (k : Int) - la = (m : Int) := by omega
        have HM : Hid ((k : Int) - la = (m : Int)) := hmi
        have HMN : Hid (k - la = m) := hm
        rw [hm] at d0 hm1
        rw [hmi] at ew
        have ewm : IntKind.i64.wrap (m : Int) = (m : Int) := by rw [IntKind.wrap_i64]; omega
        have HMK : Hid (∀ X : World, Calls Tryz.prog 47 #[.int .i64 1, .int .i64 (IntKind.i64.wrap ((k : Int) - (la : Int)))] X fun e w' => e = .returned (sv (mkT m)) ∧ Below X.heap.size X w') := fun X => by rw [hmi, ewm]; exact markT_any m hm1 X
        clear hmi
        have hS0 : wr.drew.cell? ⟨g, k, none⟩ = some (sv (mkT m)) ∧ Hid (Below wr.heap.size wr wr.drew) := ⟨d0, below_drw wr⟩
        go_wp2_with fail
        refine wp_region_noPanic ?_
        refine wp_region_held_drew (S := (fun X : World => X.cell? ⟨g, k, none⟩ = some (sv (mkT m)) ∧ Hid (Below wr.heap.size wr X))) (by kernel_rfl) hS0 (fun hHeld => ?_)
        refine wpAnyH_take (i := 0) (v := ?_) rfl (by kernel_rfl) (by kernel_rfl) (by kernel_rfl) (fun _ _ _ h => h) (Or.inl ⟨by rfl, ?_⟩) hHeld ?_
        rotate_left
        · (intro W hSw; (try dsimp only at hSw); go_simp; all_goals (with_reducible rfl))
        simp only [List.getElem_toArray, List.getElem_cons_zero, List.getElem_cons_succ, Act.put, List.setIfInBounds_toArray, List.set_cons_zero, List.set_cons_succ]
        refine wpAnyH_take (i := 1) (v := ?_) rfl (by kernel_rfl) (by kernel_rfl) (by kernel_rfl) (fun _ _ _ h => h) (Or.inl ⟨by rfl, ?_⟩) hHeld ?_
        rotate_left
        · (intro W hSw; (try dsimp only at hSw); go_simp; all_goals (with_reducible rfl))
        simp only [List.getElem_toArray, List.getElem_cons_zero, List.getElem_cons_succ, Act.put, List.setIfInBounds_toArray, List.set_cons_zero, List.set_cons_succ]
        refine wpAnyH_take (i := 2) (v := ?_) rfl (by kernel_rfl) (by kernel_rfl) (by kernel_rfl) (fun _ _ _ h => h) (Or.inl ⟨by rfl, ?_⟩) hHeld ?_
        rotate_left
        · (intro W hSw; (try dsimp only at hSw); go_simp; all_goals (with_reducible rfl))
        simp only [List.getElem_toArray, List.getElem_cons_zero, List.getElem_cons_succ, Act.put, List.setIfInBounds_toArray, List.set_cons_zero, List.set_cons_succ]
        refine wpAnyH_take (i := 3) (v := ?_) rfl (by kernel_rfl) (by kernel_rfl) (by kernel_rfl) (fun _ _ _ h => h) (Or.inl ⟨by rfl, ?_⟩) hHeld ?_
        rotate_left
        · (intro W hSw; (try dsimp only at hSw); go_simp; all_goals (with_reducible rfl))
        simp only [List.getElem_toArray, List.getElem_cons_zero, List.getElem_cons_succ, Act.put, List.setIfInBounds_toArray, List.set_cons_zero, List.set_cons_succ]
        refine wpAnyH_take (i := 4) (v := ?_) rfl (by kernel_rfl) (by kernel_rfl) (by kernel_rfl) (fun _ _ _ h => h) (Or.inl ⟨by rfl, ?_⟩) hHeld ?_
        rotate_left
        · (intro W hSw; (try dsimp only at hSw); go_simp; all_goals (with_reducible rfl))
        simp only [List.getElem_toArray, List.getElem_cons_zero, List.getElem_cons_succ, Act.put, List.setIfInBounds_toArray, List.set_cons_zero, List.set_cons_succ]
        refine wpAnyH_take (i := 5) (v := undef) rfl (by kernel_rfl) (by kernel_rfl) (by kernel_rfl) (fun _ _ _ h => h) (Or.inr ⟨by rfl, rfl⟩) hHeld ?_
        simp only [List.getElem_toArray, List.getElem_cons_zero, List.getElem_cons_succ, Act.put, List.setIfInBounds_toArray, List.set_cons_zero, List.set_cons_succ]
        refine wpAnyH_take (i := 6) (v := undef) rfl (by kernel_rfl) (by kernel_rfl) (by kernel_rfl) (fun _ _ _ h => h) (Or.inr ⟨by rfl, rfl⟩) hHeld ?_
        simp only [List.getElem_toArray, List.getElem_cons_zero, List.getElem_cons_succ, Act.put, List.setIfInBounds_toArray, List.set_cons_zero, List.set_cons_succ]
        refine wpAnyH_take (i := 7) (v := undef) rfl (by kernel_rfl) (by kernel_rfl) (by kernel_rfl) (fun _ _ _ h => h) (Or.inr ⟨by rfl, rfl⟩) hHeld ?_
        simp only [List.getElem_toArray, List.getElem_cons_zero, List.getElem_cons_succ, Act.put, List.setIfInBounds_toArray, List.set_cons_zero, List.set_cons_succ]
        refine wpAnyH_take (i := 8) (v := undef) rfl (by kernel_rfl) (by kernel_rfl) (by kernel_rfl) (fun _ _ _ h => h) (Or.inr ⟨by rfl, rfl⟩) hHeld ?_
        simp only [List.getElem_toArray, List.getElem_cons_zero, List.getElem_cons_succ, Act.put, List.setIfInBounds_toArray, List.set_cons_zero, List.set_cons_succ]
        refine wpAnyH_take (i := 9) (v := undef) rfl (by kernel_rfl) (by kernel_rfl) (by kernel_rfl) (fun _ _ _ h => h) (Or.inr ⟨by rfl, rfl⟩) hHeld ?_
        simp only [List.getElem_toArray, List.getElem_cons_zero, List.getElem_cons_succ, Act.put, List.setIfInBounds_toArray, List.set_cons_zero, List.set_cons_succ]
        refine wpAnyH_take (i := 10) (v := undef) rfl (by kernel_rfl) (by kernel_rfl) (by kernel_rfl) (fun _ _ _ h => h) (Or.inr ⟨by rfl, rfl⟩) hHeld ?_
        simp only [List.getElem_toArray, List.getElem_cons_zero, List.getElem_cons_succ, Act.put, List.setIfInBounds_toArray, List.set_cons_zero, List.set_cons_succ]
        refine wpAnyH_take (i := 11) (v := undef) rfl (by kernel_rfl) (by kernel_rfl) (by kernel_rfl) (fun _ _ _ h => h) (Or.inr ⟨by rfl, rfl⟩) hHeld ?_
        simp only [List.getElem_toArray, List.getElem_cons_zero, List.getElem_cons_succ, Act.put, List.setIfInBounds_toArray, List.set_cons_zero, List.set_cons_succ]
        refine wpAnyH_take (i := 12) (v := undef) rfl (by kernel_rfl) (by kernel_rfl) (by kernel_rfl) (fun _ _ _ h => h) (Or.inr ⟨by rfl, rfl⟩) hHeld ?_
        simp only [List.getElem_toArray, List.getElem_cons_zero, List.getElem_cons_succ, Act.put, List.setIfInBounds_toArray, List.set_cons_zero, List.set_cons_succ]
        refine wpAnyH_take (i := 13) (v := undef) rfl (by kernel_rfl) (by kernel_rfl) (by kernel_rfl) (fun _ _ _ h => h) (Or.inr ⟨by rfl, rfl⟩) hHeld ?_
        simp only [List.getElem_toArray, List.getElem_cons_zero, List.getElem_cons_succ, Act.put, List.setIfInBounds_toArray, List.set_cons_zero, List.set_cons_succ]
        refine wpAnyH_take (i := 14) (v := undef) rfl (by kernel_rfl) (by kernel_rfl) (by kernel_rfl) (fun _ _ _ h => h) (Or.inr ⟨by rfl, rfl⟩) hHeld ?_
        simp only [List.getElem_toArray, List.getElem_cons_zero, List.getElem_cons_succ, Act.put, List.setIfInBounds_toArray, List.set_cons_zero, List.set_cons_succ]
        refine wpAnyH_take (i := 15) (v := ?_) rfl (by kernel_rfl) (by kernel_rfl) (by kernel_rfl) (fun _ _ _ h => h) (Or.inl ⟨by rfl, ?_⟩) hHeld ?_
        rotate_left
        · (intro W hSw; (try dsimp only at hSw); go_simp; all_goals (with_reducible rfl))
        simp only [List.getElem_toArray, List.getElem_cons_zero, List.getElem_cons_succ, Act.put, List.setIfInBounds_toArray, List.set_cons_zero, List.set_cons_succ]
        refine wpAnyH_take (i := 16) (v := ?_) rfl (by kernel_rfl) (by kernel_rfl) (by kernel_rfl) (fun _ _ _ h => h) (Or.inl ⟨by rfl, ?_⟩) hHeld ?_
        rotate_left
        · (intro W hSw; (try dsimp only at hSw); go_simp; all_goals (with_reducible rfl))
        simp only [List.getElem_toArray, List.getElem_cons_zero, List.getElem_cons_succ, Act.put, List.setIfInBounds_toArray, List.set_cons_zero, List.set_cons_succ]
        refine wpAnyH_take (i := 17) (v := ?_) rfl (by kernel_rfl) (by kernel_rfl) (by kernel_rfl) (fun _ _ _ h => h) (Or.inl ⟨by rfl, ?_⟩) hHeld ?_
        rotate_left
        · (intro W hSw; (try dsimp only at hSw); go_simp; all_goals (with_reducible rfl))
        simp only [List.getElem_toArray, List.getElem_cons_zero, List.getElem_cons_succ, Act.put, List.setIfInBounds_toArray, List.set_cons_zero, List.set_cons_succ]
        refine wpAnyH_take (i := 18) (v := ?_) rfl (by kernel_rfl) (by kernel_rfl) (by kernel_rfl) (fun _ _ _ h => h) (Or.inl ⟨by rfl, ?_⟩) hHeld ?_
        rotate_left
        · (intro W hSw; (try dsimp only at hSw); go_simp; all_goals (with_reducible rfl))
        simp only [List.getElem_toArray, List.getElem_cons_zero, List.getElem_cons_succ, Act.put, List.setIfInBounds_toArray, List.set_cons_zero, List.set_cons_succ]
        refine wpAnyH_take (i := 19) (v := ?_) rfl (by kernel_rfl) (by kernel_rfl) (by kernel_rfl) (fun _ _ _ h => h) (Or.inl ⟨by rfl, ?_⟩) hHeld ?_
        rotate_left
        · (intro W hSw; (try dsimp only at hSw); go_simp; all_goals (with_reducible rfl))
        simp only [List.getElem_toArray, List.getElem_cons_zero, List.getElem_cons_succ, Act.put, List.setIfInBounds_toArray, List.set_cons_zero, List.set_cons_succ]
        refine wpAnyH_take (i := 20) (v := ?_) rfl (by kernel_rfl) (by kernel_rfl) (by kernel_rfl) (fun _ _ _ h => h) (Or.inl ⟨by rfl, ?_⟩) hHeld ?_
        rotate_left
        · (intro W hSw; (try dsimp only at hSw); go_simp; all_goals (with_reducible rfl))
        simp only [List.getElem_toArray, List.getElem_cons_zero, List.getElem_cons_succ, Act.put, List.setIfInBounds_toArray, List.set_cons_zero, List.set_cons_succ]
        refine wpAnyH_take (i := 21) (v := ?_) rfl (by kernel_rfl) (by kernel_rfl) (by kernel_rfl) (fun _ _ _ h => h) (Or.inl ⟨by rfl, ?_⟩) hHeld ?_
        rotate_left
        · (intro W hSw; (try dsimp only at hSw); go_simp; all_goals (with_reducible rfl))
        simp only [List.getElem_toArray, List.getElem_cons_zero, List.getElem_cons_succ, Act.put, List.setIfInBounds_toArray, List.set_cons_zero, List.set_cons_succ]
        refine wpAnyH_take (i := 22) (v := ?_) rfl (by kernel_rfl) (by kernel_rfl) (by kernel_rfl) (fun _ _ _ h => h) (Or.inl ⟨by rfl, ?_⟩) hHeld ?_
        rotate_left
        · (intro W hSw; (try dsimp only at hSw); go_simp; all_goals (with_reducible rfl))
        simp only [List.getElem_toArray, List.getElem_cons_zero, List.getElem_cons_succ, Act.put, List.setIfInBounds_toArray, List.set_cons_zero, List.set_cons_succ]
        refine wpAnyH_take (i := 23) (v := ?_) rfl (by kernel_rfl) (by kernel_rfl) (by kernel_rfl) (fun _ _ _ h => h) (Or.inl ⟨by rfl, ?_⟩) hHeld ?_
        rotate_left
        · (intro W hSw; (try dsimp only at hSw); go_simp; all_goals (with_reducible rfl))
        simp only [List.getElem_toArray, List.getElem_cons_zero, List.getElem_cons_succ, Act.put, List.setIfInBounds_toArray, List.set_cons_zero, List.set_cons_succ]
        refine wpAnyH_take (i := 24) (v := ?_) rfl (by kernel_rfl) (by kernel_rfl) (by kernel_rfl) (fun _ _ _ h => h) (Or.inl ⟨by rfl, ?_⟩) hHeld ?_
        rotate_left
        · (intro W hSw; (try dsimp only at hSw); go_simp; all_goals (with_reducible rfl))
        simp only [List.getElem_toArray, List.getElem_cons_zero, List.getElem_cons_succ, Act.put, List.setIfInBounds_toArray, List.set_cons_zero, List.set_cons_succ]
        refine wpAnyH_take (i := 25) (v := ?_) rfl (by kernel_rfl) (by kernel_rfl) (by kernel_rfl) (fun _ _ _ h => h) (Or.inl ⟨by rfl, ?_⟩) hHeld ?_
        rotate_left
        · (intro W hSw; (try dsimp only at hSw); go_simp; all_goals (with_reducible rfl))
        simp only [List.getElem_toArray, List.getElem_cons_zero, List.getElem_cons_succ, Act.put, List.setIfInBounds_toArray, List.set_cons_zero, List.set_cons_succ]
        refine wpAnyH_take (i := 26) (v := ?_) rfl (by kernel_rfl) (by kernel_rfl) (by kernel_rfl) (fun _ _ _ h => h) (Or.inl ⟨by rfl, ?_⟩) hHeld ?_
        rotate_left
        · (intro W hSw; (try dsimp only at hSw); go_simp; all_goals (with_reducible rfl))
        simp only [List.getElem_toArray, List.getElem_cons_zero, List.getElem_cons_succ, Act.put, List.setIfInBounds_toArray, List.set_cons_zero, List.set_cons_succ]
        refine wpAnyH_take (i := 27) (v := ?_) rfl (by kernel_rfl) (by kernel_rfl) (by kernel_rfl) (fun _ _ _ h => h) (Or.inl ⟨by rfl, ?_⟩) hHeld ?_
        rotate_left
        · (intro W hSw; (try dsimp only at hSw); go_simp; all_goals (with_reducible rfl))
        simp only [List.getElem_toArray, List.getElem_cons_zero, List.getElem_cons_succ, Act.put, List.setIfInBounds_toArray, List.set_cons_zero, List.set_cons_succ]
        refine wpAnyH_take (i := 28) (v := ?_) rfl (by kernel_rfl) (by kernel_rfl) (by kernel_rfl) (fun _ _ _ h => h) (Or.inl ⟨by rfl, ?_⟩) hHeld ?_
        rotate_left
        · (intro W hSw; (try dsimp only at hSw); go_simp; all_goals (with_reducible rfl))
        simp only [List.getElem_toArray, List.getElem_cons_zero, List.getElem_cons_succ, Act.put, List.setIfInBounds_toArray, List.set_cons_zero, List.set_cons_succ]
        refine wpAnyH_take (i := 29) (v := ?_) rfl (by kernel_rfl) (by kernel_rfl) (by kernel_rfl) (fun _ _ _ h => h) (Or.inl ⟨by rfl, ?_⟩) hHeld ?_
        rotate_left
        · (intro W hSw; (try dsimp only at hSw); go_simp; all_goals (with_reducible rfl))
        simp only [List.getElem_toArray, List.getElem_cons_zero, List.getElem_cons_succ, Act.put, List.setIfInBounds_toArray, List.set_cons_zero, List.set_cons_succ]
        refine wpAnyH_ready (rs := [30]) (by kernel_rfl) (by simp) ?_
        refine AllReadyH.cons rfl (fun K hK => ?_) AllReadyH.nil
        simp only [List.getElem_toArray, List.getElem_cons_zero, List.getElem_cons_succ]
        go_simp
        refine (HMK.out _).mono ?_
        rintro e y ⟨rfl, hby⟩
        have hSy : y.cell? ⟨g, k, none⟩ = some (sv (mkT m)) ∧ Hid (Below wr.heap.size wr y) := ⟨(hby.cell (p := ⟨g, k, none⟩) (cell_lt hHeld.1)).trans hHeld.1, step hHeld.2.out hby⟩
        try go_wp2_with fail
        refine hK.out _ _ hSy (fun hHeld => ?_)
        clear hK K
        refine wpAnyH_take (i := 31) (v := ?_) rfl (by kernel_rfl) (by kernel_rfl) (by kernel_rfl) (fun _ _ _ h => h) (Or.inl ⟨by rfl, ?_⟩) hHeld ?_
        rotate_left
        · (intro W hSw; (try dsimp only at hSw); go_simp; all_goals (with_reducible rfl))
        simp only [List.getElem_toArray, List.getElem_cons_zero, List.getElem_cons_succ, Act.put, List.setIfInBounds_toArray, List.set_cons_zero, List.set_cons_succ]
        refine wpAnyH_take (i := 32) (v := ?_) rfl (by kernel_rfl) (by kernel_rfl) (by kernel_rfl) (fun _ _ _ h => h) (Or.inl ⟨by rfl, ?_⟩) hHeld ?_
        rotate_left
        · (intro W hSw; (try dsimp only at hSw); go_simp; all_goals (with_reducible rfl))
        simp only [List.getElem_toArray, List.getElem_cons_zero, List.getElem_cons_succ, Act.put, List.setIfInBounds_toArray, List.set_cons_zero, List.set_cons_succ]
        refine wpAnyH_take (i := 33) (v := ?_) rfl (by kernel_rfl) (by kernel_rfl) (by kernel_rfl) (fun _ _ _ h => h) (Or.inl ⟨by rfl, ?_⟩) hHeld ?_
        rotate_left
        · (intro W hSw; (try dsimp only at hSw); go_simp; all_goals (with_reducible rfl))
        simp only [List.getElem_toArray, List.getElem_cons_zero, List.getElem_cons_succ, Act.put, List.setIfInBounds_toArray, List.set_cons_zero, List.set_cons_succ]
        refine wpAnyH_take (i := 34) (v := ?_) rfl (by kernel_rfl) (by kernel_rfl) (by kernel_rfl) (fun _ _ _ h => h) (Or.inl ⟨by rfl, ?_⟩) hHeld ?_
        rotate_left
        · (intro W hSw; (try dsimp only at hSw); go_simp; all_goals (with_reducible rfl))
        simp only [List.getElem_toArray, List.getElem_cons_zero, List.getElem_cons_succ, Act.put, List.setIfInBounds_toArray, List.set_cons_zero, List.set_cons_succ]
        refine wpAnyH_done (by kernel_rfl) ?_ _
        refine NoPanic.normal ?_
        have HBy : Hid (Below w.heap.size w y) := step HB.out hSy.2.out
        clear hSy hS0
        go_wp2_with fail
        go_roundw
        case rel => exact ⟨k + 1, by omega, by go_num, HBy.out⟩
        case measure => simp [intOf]; omega
    · go_wp2_with fail
      go_ret
      exact ⟨rfl, HB.out⟩
end Go.Proofs.YtblafbbnplfpjaaGreatDoor
namespace Go.Proofs.YtblafbbnplfpjaaGreatDoor
open Go.RowKit Go.Shelf
set_option linter.unusedVariables false
set_option linter.unusedSimpArgs false

set_option maxHeartbeats 4000000 in
theorem sameTextsL (l : List (List UInt8)) (a1 : Option Addr) (c1 : Nat) (a2 : Option Addr) (c2 : Nat) (w : World) (h1 : Le elS w a1 l.length l) (h2 : Le elS w a2 l.length l) (hl : l.length ≤ 9000000000000) :
    Calls Tryz.prog 22 #[.slice a1 l.length c1, .slice a2 l.length c2] w fun e w' => e = .returned (.bool true) ∧ Below w.heap.size w w' := by
  have H1 : Hid (Le elS w a1 l.length l) := h1
  have H2 : Hid (Le elS w a2 l.length l) := h2
  clear h1 h2
  go_enter Tryz.func22, Tryz.ntmps22
  go_wp2_with fail
  go_loopw [5] (fun j wr => ∃ i : Nat, j = .int .i64 i ∧ i ≤ l.length ∧ Hid (Below w.heap.size w wr)) (fun j _ => (l.length - (intOf j).toNat : Nat))
  case atStart => exact ⟨0, rfl, Nat.zero_le _, Below.refl _ _⟩
  case round =>
    obtain ⟨i, rfl, hi, HB⟩ := hrel
    rcases Nat.lt_or_ge i l.length with hlt | hge
    · have hii : (i : Int) < l.length := by omega
      obtain ⟨b1, o1, rfl⟩ := H1.out.ex (by omega)
      obtain ⟨b2, o2, rfl⟩ := H2.out.ex (by omega)
      have k1 : wr.cell? ⟨b1, o1 + i, none⟩ = some (sv (l.getD i [])) := by have := (H1.out.after HB.out).at i hlt 0 (sv (l.getD i [])) rfl; simpa [elS] using this
      have k2 : wr.cell? ⟨b2, o2 + i, none⟩ = some (sv (l.getD i [])) := by have := (H2.out.after HB.out).at i hlt 0 (sv (l.getD i [])) rfl; simpa [elS] using this
      generalize l.getD i [] = x at *
      go_wp2_with fail
      go_quiet (fail)
      refine nameR wr _ (Q := fun W => Exit.then _ _ _ _ W) (fun wq hcell hBw hsq => ?_)
      have HBq : Hid (Below w.heap.size w wq) := step HB.out hBw
      clear hcell hBw hsq HB k1 k2
      go_wp2_with fail
      go_roundw
      case rel => exact ⟨i + 1, rfl, by omega, HBq.out⟩
      case measure => simp [intOf]; omega
    · obtain rfl : i = l.length := by omega
      clear hge hi
      go_wp2_with fail
      go_ret
      exact ⟨rfl, HB.out⟩
theorem Va.setF {w : World} {b : Nat} {t : TypeId} {x0 x1 x2 x3 x4 : Value} (h : Va w b t #[x0, x1, x2, x3, x4]) (y0 y1 y2 y3 y4 : Value) :
    Va (((((w.setCell ⟨b, 0, none⟩ y0).setCell ⟨b, 1, none⟩ y1).setCell ⟨b, 2, none⟩ y2).setCell ⟨b, 3, none⟩ y3).setCell ⟨b, 4, none⟩ y4) b t #[y0, y1, y2, y3, y4] := by
  unfold Va at *
  simp [World.setCell, Array.getElem?_modify, h]
theorem faF (w : World) (b : Nat) (y0 y1 y2 y3 y4 : Value) : ∀ c, c ≠ b → (((((w.setCell ⟨b, 0, none⟩ y0).setCell ⟨b, 1, none⟩ y1).setCell ⟨b, 2, none⟩ y2).setCell ⟨b, 3, none⟩ y3).setCell ⟨b, 4, none⟩ y4).heap[c]? = w.heap[c]? := fun c hc => by
  rw [heap_setCell_other _ _ _ _ (by exact hc), heap_setCell_other _ _ _ _ (by exact hc), heap_setCell_other _ _ _ _ (by exact hc), heap_setCell_other _ _ _ _ (by exact hc), heap_setCell_other _ _ _ _ (by exact hc)]
theorem beloF {B : Nat} {a w : World} (h : Below B a w) {b : Nat} (hc : B ≤ b) (y0 y1 y2 y3 y4 : Value) : Below B a (((((w.setCell ⟨b, 0, none⟩ y0).setCell ⟨b, 1, none⟩ y1).setCell ⟨b, 2, none⟩ y2).setCell ⟨b, 3, none⟩ y3).setCell ⟨b, 4, none⟩ y4) :=
  ((((h.setCell (p := ⟨b, 0, none⟩) hc y0).setCell (p := ⟨b, 1, none⟩) hc y1).setCell (p := ⟨b, 2, none⟩) hc y2).setCell (p := ⟨b, 3, none⟩) hc y3).setCell (p := ⟨b, 4, none⟩) hc y4
theorem stoF0 {W : World} {b : Nat} {t : TypeId} {x0 x1 x2 x3 x4 : Value} (h : Va W b t #[x0, x1, x2, x3, x4]) (y : Value) {Q : World → Prop}
    (k : ∀ V, Va V b t #[y, x1, x2, x3, x4] → W.grownBy V (some b) → V.heap.size = W.heap.size → Q V) : Q (W.setCell ⟨b, 0, none⟩ y) := by
  refine k _ ?_ (gr_set (gr_refl W b) 0 y) (by simp [World.setCell])
  unfold Va at *
  simp [World.setCell, Array.getElem?_modify, h]
theorem stoF1 {W : World} {b : Nat} {t : TypeId} {x0 x1 x2 x3 x4 : Value} (h : Va W b t #[x0, x1, x2, x3, x4]) (y : Value) {Q : World → Prop}
    (k : ∀ V, Va V b t #[x0, y, x2, x3, x4] → W.grownBy V (some b) → V.heap.size = W.heap.size → Q V) : Q (W.setCell ⟨b, 1, none⟩ y) := by
  refine k _ ?_ (gr_set (gr_refl W b) 1 y) (by simp [World.setCell])
  unfold Va at *
  simp [World.setCell, Array.getElem?_modify, h]
theorem results_fx {fn : Func} {j b : Nat} {x0 x1 x2 x3 x4 : Value} {tmps : Array Value} {w : World} (h : fn.results = #[.cell j 25]) (hj : tmps.getD j undef = .pointer (some ⟨b, 0, none⟩)) (hv : Va w b 25 #[x0, x1, x2, x3, x4]) :
    (results fn tmps).run Tryz.prog w = .ok (.agg #[x0, x1, x2, x3, x4]) w := by
  have c0 := hv.f0
  have c1 := hv.f1
  have c2 := hv.f2
  have c3 := hv.f3
  have c4 := hv.f4
  rw [Array.getD_eq_getD_getElem?] at hj
  simp [results, h, hj, c0, c1, c2, c3, c4, go_sem]
set_option maxHeartbeats 8000000 in
theorem lentF_any (a1 : Option Addr) (c1 : Nat) (a2 : Option Addr) (c2 : Nat) (f : Fx) (w : World) (hf : Lf w a1 c1 a2 c2 f) (hn1 : a1 = none → f.byr.length = 0 ∧ c1 = 0) (hn2 : a2 = none → f.lin.length = 0 ∧ c2 = 0) (hl1 : f.byr.length ≤ 9000000000000) (hl2 : f.lin.length ≤ 9000000000000) :
    Calls Tryz.prog 7 #[fxv a1 c1 a2 c2 f] w fun e w' => ∃ g1 g2, e = .returned (fxv (some ⟨g1, 0, none⟩) (f.byr.length + 12) (some ⟨g2, 0, none⟩) (f.lin.length + 12) f) ∧ Va w' g1 9 (rowE elS (f.byr ++ mkE mkT 12)).toArray ∧ Va w' g2 9 (rowE elS (f.lin ++ mkE mkT 12)).toArray ∧ Below w.heap.size w w' := by
  have H1 : Hid (Le elS w a1 f.byr.length f.byr) := hf.l1
  have H2 : Hid (Le elS w a2 f.lin.length f.lin) := hf.l2
  have N1 : Hid (a1 = none → f.byr.length = 0 ∧ c1 = 0) := hn1
  have N2 : Hid (a2 = none → f.lin.length = 0 ∧ c2 = 0) := hn2
  clear hf hn1 hn2
  obtain ⟨byr, lin, am, dg, qt⟩ := f
  dsimp only at *
  go_enter Tryz.func7, Tryz.ntmps7
  go_upto_region 1 with fail
  refine ent2 w _ _ _ _ (Q := fun W => Code.wp _ _ _ _ W) ?_
  intro W1 hb1 hs1 V0 V1
  have f0 := V0.f0
  have r0 := V0.frozen 0
  have HB1 : Hid (Below w.heap.size w W1) := hb1
  have HV0 : Hid (Va W1 w.heap.size 25 #[.slice a1 byr.length c1, .slice a2 lin.length c2, .int .i64 am, .int .i64 dg, .int .i64 qt]) := V0
  have HV1 : Hid (Va W1 (w.heap.size + 1) 25 #[.slice none 0 0, .slice none 0 0, .int .i64 0, .int .i64 0, .int .i64 0]) := V1
  clear hb1 V0 V1
  have D1 := lentT_any a1 byr.length c1 byr W1 (H1.out.after HB1.out) N1.out hl1
  go_wp2_with fail
  refine D1.mono ?_
  rintro e W2 ⟨rfl, G1, hb2⟩
  rw [hs1] at G1
  have V0 := HV0.out.after hb2
  have r0 := V0.frozen 0
  have q0 := V0.f0
  have HV1' : Hid (Va W2 (w.heap.size + 1) 25 #[.slice none 0 0, .slice none 0 0, .int .i64 0, .int .i64 0, .int .i64 0]) := HV1.out.after hb2
  have HB2 : Hid (Below w.heap.size w W2) := step HB1.out hb2
  have hs2 := hb2.size
  clear D1 f0 HV0 HV1 HB1 hb2
  go_upto_region 2 with fail
  refine stoF0 V0 _ (Q := fun W => Code.wp _ _ _ _ W) ?_
  intro W3 V3 hg3 hs3
  have HB3 : Hid (Below w.heap.size w W3) := HB2.out.trans (gr_to hg3 (Nat.le_refl _) (by omega))
  have HV1 : Hid (Va W3 (w.heap.size + 1) 25 #[.slice none 0 0, .slice none 0 0, .int .i64 0, .int .i64 0, .int .i64 0]) := HV1'.out.gr hg3 (by omega)
  have HG1 : Hid (Va W3 (w.heap.size + 2) 9 (rowE elS (byr ++ mkE mkT 12)).toArray) := G1.gr hg3 (by omega)
  have f1 := V3.f1
  have HV3 : Hid (Va W3 w.heap.size 25 #[.slice (some ⟨w.heap.size + 2, 0, none⟩) byr.length (byr.length + 12), .slice a2 lin.length c2, .int .i64 am, .int .i64 dg, .int .i64 qt]) := V3
  have D2 := lentT_any a2 lin.length c2 lin W3 (H2.out.after HB3.out) N2.out hl2
  clear r0 V0 V3 hg3 G1 HV1' HB2
  go_wp2_with fail
  refine D2.mono ?_
  rintro e W4 ⟨rfl, G2, hb4⟩
  have V4 := HV3.out.after hb4
  have r1 := V4.frozen 1
  have q1 := V4.f1
  have HV1' : Hid (Va W4 (w.heap.size + 1) 25 #[.slice none 0 0, .slice none 0 0, .int .i64 0, .int .i64 0, .int .i64 0]) := HV1.out.after hb4
  have HG1' : Hid (Va W4 (w.heap.size + 2) 9 (rowE elS (byr ++ mkE mkT 12)).toArray) := HG1.out.after hb4
  have HB4 : Hid (Below w.heap.size w W4) := step HB3.out hb4
  have hs4 := hb4.size
  have hg1 := HG1.out.lt
  clear D2 f1 HV3 HV1 HB3 HG1 hb4
  go_upto_region 3 with fail
  refine stoF1 V4 _ (Q := fun W => Code.wp _ _ _ _ W) ?_
  intro W5 V5 hg5 hs5
  have HB5 : Hid (Below w.heap.size w W5) := HB4.out.trans (gr_to hg5 (Nat.le_refl _) (by omega))
  have HV1 : Hid (Va W5 (w.heap.size + 1) 25 #[.slice none 0 0, .slice none 0 0, .int .i64 0, .int .i64 0, .int .i64 0]) := HV1'.out.gr hg5 (by omega)
  have HG1 : Hid (Va W5 (w.heap.size + 2) 9 (rowE elS (byr ++ mkE mkT 12)).toArray) := HG1'.out.gr hg5 (by omega)
  have HG2 : Hid (Va W5 W2.heap.size 9 (rowE elS (lin ++ mkE mkT 12)).toArray) := by rw [hs3] at G2; exact G2.gr hg5 (by omega)
  have f0 := V5.f0
  have f1 := V5.f1
  have f2 := V5.f2
  have f3 := V5.f3
  have f4 := V5.f4
  have r0 := HV1.out.frozen 0
  have r1 := HV1.out.frozen 1
  have r2 := HV1.out.frozen 2
  have r3 := HV1.out.frozen 3
  have r4 := HV1.out.frozen 4
  have z0 := HV1.out.f0
  have z1 := HV1.out.f1
  have z2 := HV1.out.f2
  have z3 := HV1.out.f3
  have z4 := HV1.out.f4
  clear V4 V5 hg5 G2 HV1' HG1' HB4
  go_wp2_with fail
  refine bodyPost_ret (results_fx rfl rfl (HV1.out.setF _ _ _ _ _)) rfl ?_
  exact ⟨w.heap.size + 2, W2.heap.size, rfl, HG1.out.keptW (faF _ _ _ _ _ _ _ _ (by omega)), HG2.out.keptW (faF _ _ _ _ _ _ _ _ (by omega)), beloF HB5.out (by omega) _ _ _ _ _⟩
set_option maxHeartbeats 8000000 in
theorem sameF_any (f : Fx) (a1 : Option Addr) (c1 : Nat) (a2 : Option Addr) (c2 : Nat) (b1 : Option Addr) (d1 : Nat) (b2 : Option Addr) (d2 : Nat) (w : World) (h1 : Le elS w a1 f.byr.length f.byr) (h2 : Le elS w a2 f.lin.length f.lin) (k1 : Le elS w b1 f.byr.length f.byr) (k2 : Le elS w b2 f.lin.length f.lin) (hl1 : f.byr.length ≤ 9000000000000) (hl2 : f.lin.length ≤ 9000000000000) :
    Calls Tryz.prog 30 #[fxv a1 c1 a2 c2 f, fxv b1 d1 b2 d2 f] w fun e w' => e = .returned (.bool true) ∧ Below w.heap.size w w' := by
  have H1 : Hid (Le elS w a1 f.byr.length f.byr) := h1
  have H2 : Hid (Le elS w a2 f.lin.length f.lin) := h2
  have K1 : Hid (Le elS w b1 f.byr.length f.byr) := k1
  have K2 : Hid (Le elS w b2 f.lin.length f.lin) := k2
  clear h1 h2 k1 k2
  obtain ⟨byr, lin, am, dg, qt⟩ := f
  dsimp only at *
  go_enter Tryz.func30, Tryz.ntmps30
  go_upto_region 1 with fail
  refine ent2 w _ _ _ _ (Q := fun W => Code.wp _ _ _ _ W) ?_
  intro W1 hb1 hs1 V0 V1
  have f0 := V0.f0
  have g0 := V1.f0
  have D1 := sameTextsL byr a1 c1 b1 d1 W1 (H1.out.after hb1) (K1.out.after hb1) hl1
  go_wp2_with fail
  refine D1.mono ?_
  rintro e W2 ⟨rfl, hb2⟩
  have V0 := V0.after hb2
  have V1 := V1.after hb2
  have hb := step hb1 hb2
  have f1 := V0.f1
  have g1 := V1.f1
  have D2 := sameTextsL lin a2 c2 b2 d2 W2 (H2.out.after hb) (K2.out.after hb) hl2
  clear D1 f0 g0
  go_wp2_with fail
  refine D2.mono ?_
  rintro e W3 ⟨rfl, hb3⟩
  have V0 := V0.after hb3
  have V1 := V1.after hb3
  have HB3 : Hid (Below w.heap.size w W3) := step hb hb3
  have f2 := V0.f2
  have f3 := V0.f3
  have f4 := V0.f4
  have g2 := V1.f2
  have g3 := V1.f3
  have g4 := V1.f4
  clear D2 f1 g1
  go_wp2_with fail
  go_ret
  exact ⟨rfl, HB3.out⟩
set_option maxHeartbeats 8000000 in
theorem keptF_any (f : Fx) (g1 g2 : Nat) (a1 : Option Addr) (c1 : Nat) (a2 : Option Addr) (c2 : Nat) (w : World) (hf : Lf w a1 c1 a2 c2 f) (o1 : Va w g1 9 (rowE elS (f.byr ++ mkE mkT 12)).toArray) (o2 : Va w g2 9 (rowE elS (f.lin ++ mkE mkT 12)).toArray) (hl1 : f.byr.length ≤ 9000000000000) (hl2 : f.lin.length ≤ 9000000000000) :
    Calls Tryz.prog 13 #[fxv (some ⟨g1, 0, none⟩) (f.byr.length + 12) (some ⟨g2, 0, none⟩) (f.lin.length + 12) f, fxv a1 c1 a2 c2 f] w fun e w' => e = .returned (.bool true) ∧ Below w.heap.size w w' := by
  have H1 : Hid (Le elS w a1 f.byr.length f.byr) := hf.l1
  have H2 : Hid (Le elS w a2 f.lin.length f.lin) := hf.l2
  have O1 : Hid (Va w g1 9 (rowE elS (f.byr ++ mkE mkT 12)).toArray) := o1
  have O2 : Hid (Va w g2 9 (rowE elS (f.lin ++ mkE mkT 12)).toArray) := o2
  have HS : Hid (∀ W, Below w.heap.size w W → Calls Tryz.prog 30 #[fxv (some ⟨g1, 0, none⟩) (f.byr.length + 12) (some ⟨g2, 0, none⟩) (f.lin.length + 12) f, fxv a1 c1 a2 c2 f] W fun e w' => e = .returned (.bool true) ∧ Below W.heap.size W w') := fun W hb =>
    sameF_any f _ _ _ _ _ _ _ _ W (le_preE (E := elS) (o1.after hb)) (le_preE (E := elS) (o2.after hb)) (hf.l1.after hb) (hf.l2.after hb) hl1 hl2
  clear hf o1 o2
  obtain ⟨byr, lin, am, dg, qt⟩ := f
  dsimp only at *
  go_enter Tryz.func13, Tryz.ntmps13
  go_upto_region 1 with fail
  refine ent2 w _ _ _ _ (Q := fun W => Code.wp _ _ _ _ W) ?_
  intro W1 hb1 hs1 V0 V1
  have f0 := V0.f0
  have f1 := V0.f1
  have f2 := V0.f2
  have f3 := V0.f3
  have f4 := V0.f4
  have e0 := V1.f0
  have e1 := V1.f1
  have e2 := V1.f2
  have e3 := V1.f3
  have e4 := V1.f4
  have D0 := HS.out W1 hb1
  go_wp2_with fail
  refine D0.mono ?_
  rintro e W2 ⟨rfl, hb2⟩
  have V0 := V0.after hb2
  have V1 := V1.after hb2
  have hb := step hb1 hb2
  clear f0 f1 f2 f3 f4 e0 e1 e2 e3 e4 D0
  have f0 := V0.f0
  have e0 := V1.f0
  have D1 := keptT_any a1 byr.length c1 g1 byr W2 (H1.out.after hb) (O1.out.after hb) hl1
  go_wp2_with fail
  refine D1.mono ?_
  rintro e W3 ⟨rfl, hb3⟩
  have V0 := V0.after hb3
  have V1 := V1.after hb3
  have hb := step hb hb3
  clear f0 e0 D1
  have f1 := V0.f1
  have e1 := V1.f1
  have D2 := keptT_any a2 lin.length c2 g2 lin W3 (H2.out.after hb) (O2.out.after hb) hl2
  go_wp2_with fail
  refine D2.mono ?_
  rintro e W4 ⟨rfl, hb4⟩
  have HB4 : Hid (Below w.heap.size w W4) := step hb hb4
  clear f1 e1 D2
  go_wp2_with fail
  go_ret
  exact ⟨rfl, HB4.out⟩
end Go.Proofs.YtblafbbnplfpjaaGreatDoor
namespace Go.Proofs.YtblafbbnplfpjaaGreatDoor
open Go.RowKit Go.Shelf
set_option linter.unusedVariables false

set_option maxHeartbeats 4000000 in
theorem sameTexts_eq (l : List (List UInt8)) (a1 : Option Addr) (c1 : Nat) (a2 : Option Addr) (c2 : Nat) (w : World) (h1 : Le elS w a1 l.length l) (h2 : Le elS w a2 l.length l) (hl : l.length ≤ 100000) :
    Calls Tryz.prog 22 #[.slice a1 l.length c1, .slice a2 l.length c2] w fun e w' => e = .returned (.bool true) ∧ Below w.heap.size w w' := by
  have H1 : Hid (Le elS w a1 l.length l) := h1
  have H2 : Hid (Le elS w a2 l.length l) := h2
  clear h1 h2
  go_enter Tryz.func22, Tryz.ntmps22
  go_wp2_with fail
  go_loopw [5] (fun j wr => ∃ i : Nat, j = .int .i64 i ∧ i ≤ l.length ∧ Hid (Below w.heap.size w wr)) (fun j _ => (l.length - (intOf j).toNat : Nat))
  case atStart => exact ⟨0, rfl, Nat.zero_le _, Below.refl _ _⟩
  case round =>
    obtain ⟨i, rfl, hi, HB⟩ := hrel
    rcases Nat.lt_or_ge i l.length with hlt | hge
    · have hii : (i : Int) < l.length := by omega
      obtain ⟨b1, o1, rfl⟩ := H1.out.ex (by omega)
      obtain ⟨b2, o2, rfl⟩ := H2.out.ex (by omega)
      have k1 : wr.cell? ⟨b1, o1 + i, none⟩ = some (sv (l.getD i [])) := by have := (H1.out.after HB.out).at i hlt 0 (sv (l.getD i [])) rfl; simpa [elS] using this
      have k2 : wr.cell? ⟨b2, o2 + i, none⟩ = some (sv (l.getD i [])) := by have := (H2.out.after HB.out).at i hlt 0 (sv (l.getD i [])) rfl; simpa [elS] using this
      generalize l.getD i [] = x at *
      go_wp2_with fail
      go_quiet (fail)
      refine nameR wr _ (Q := fun W => Exit.then _ _ _ _ W) (fun wq hcell hBw hsq => ?_)
      have HBq : Hid (Below w.heap.size w wq) := step HB.out hBw
      clear hcell hBw hsq HB k1 k2
      go_wp2_with fail
      go_roundw
      case rel => exact ⟨i + 1, rfl, by omega, HBq.out⟩
      case measure => simp [intOf]; omega
    · obtain rfl : i = l.length := by omega
      clear hge hi
      go_wp2_with fail
      go_ret
      exact ⟨rfl, HB.out⟩
set_option maxHeartbeats 4000000 in
theorem sameNodes_eq (l : List Nd) (a1 : Option Addr) (c1 : Nat) (a2 : Option Addr) (c2 : Nat) (w : World) (h1 : Le elN w a1 l.length l) (h2 : Le elN w a2 l.length l) (hl : l.length ≤ 100000) :
    Calls Tryz.prog 21 #[.slice a1 l.length c1, .slice a2 l.length c2] w fun e w' => e = .returned (.bool true) ∧ Below w.heap.size w w' := by
  have H1 : Hid (Le elN w a1 l.length l) := h1
  have H2 : Hid (Le elN w a2 l.length l) := h2
  clear h1 h2
  go_enter Tryz.func21, Tryz.ntmps21
  go_wp2_with fail
  go_loopw [5] (fun j wr => ∃ i : Nat, j = .int .i64 i ∧ i ≤ l.length ∧ Hid (Below w.heap.size w wr)) (fun j _ => (l.length - (intOf j).toNat : Nat))
  case atStart => exact ⟨0, rfl, Nat.zero_le _, Below.refl _ _⟩
  case round =>
    obtain ⟨i, rfl, hi, HB⟩ := hrel
    rcases Nat.lt_or_ge i l.length with hlt | hge
    · have hii : (i : Int) < l.length := by omega
      obtain ⟨b1, o1, rfl⟩ := H1.out.ex (by omega)
      obtain ⟨b2, o2, rfl⟩ := H2.out.ex (by omega)
      have L1 := H1.out.after HB.out
      have L2 := H2.out.after HB.out
      obtain ⟨n, hn⟩ : ∃ n, l.getD i nd0 = n := ⟨_, rfl⟩
      have k0 : wr.cell? ⟨b1, o1 + i * 6, none⟩ = some (.int .i64 n.kd) := L1.at i hlt 0 _ (by rw [← hn]; rfl)
      have k1 : wr.cell? ⟨b1, o1 + i * 6 + 1, none⟩ = some (.int .i64 n.ks) := by rw [Nat.add_assoc]; exact L1.at i hlt 1 _ (by rw [← hn]; rfl)
      have k2 : wr.cell? ⟨b1, o1 + i * 6 + 2, none⟩ = some (sv n.nm) := by rw [Nat.add_assoc]; exact L1.at i hlt 2 _ (by rw [← hn]; rfl)
      have k3 : wr.cell? ⟨b1, o1 + i * 6 + 3, none⟩ = some (.int .i64 n.op) := by rw [Nat.add_assoc]; exact L1.at i hlt 3 _ (by rw [← hn]; rfl)
      have k4 : wr.cell? ⟨b1, o1 + i * 6 + 4, none⟩ = some (.int .i64 n.un) := by rw [Nat.add_assoc]; exact L1.at i hlt 4 _ (by rw [← hn]; rfl)
      have k5 : wr.cell? ⟨b1, o1 + i * 6 + 5, none⟩ = some (.int .i64 n.pl) := by rw [Nat.add_assoc]; exact L1.at i hlt 5 _ (by rw [← hn]; rfl)
      have j0 : wr.cell? ⟨b2, o2 + i * 6, none⟩ = some (.int .i64 n.kd) := L2.at i hlt 0 _ (by rw [← hn]; rfl)
      have j1 : wr.cell? ⟨b2, o2 + i * 6 + 1, none⟩ = some (.int .i64 n.ks) := by rw [Nat.add_assoc]; exact L2.at i hlt 1 _ (by rw [← hn]; rfl)
      have j2 : wr.cell? ⟨b2, o2 + i * 6 + 2, none⟩ = some (sv n.nm) := by rw [Nat.add_assoc]; exact L2.at i hlt 2 _ (by rw [← hn]; rfl)
      have j3 : wr.cell? ⟨b2, o2 + i * 6 + 3, none⟩ = some (.int .i64 n.op) := by rw [Nat.add_assoc]; exact L2.at i hlt 3 _ (by rw [← hn]; rfl)
      have j4 : wr.cell? ⟨b2, o2 + i * 6 + 4, none⟩ = some (.int .i64 n.un) := by rw [Nat.add_assoc]; exact L2.at i hlt 4 _ (by rw [← hn]; rfl)
      have j5 : wr.cell? ⟨b2, o2 + i * 6 + 5, none⟩ = some (.int .i64 n.pl) := by rw [Nat.add_assoc]; exact L2.at i hlt 5 _ (by rw [← hn]; rfl)
      clear hn L1 L2
      go_wp2_with fail
      go_quiet (fail)
      refine nameR wr _ (Q := fun W => Exit.then _ _ _ _ W) (fun wq hcell hBw hsq => ?_)
      have HBq : Hid (Below w.heap.size w wq) := step HB.out hBw
      clear hcell hBw hsq HB k0 k1 k2 k3 k4 k5 j0 j1 j2 j3 j4 j5
      go_wp2_with fail
      go_roundw
      case rel => exact ⟨i + 1, rfl, by omega, HBq.out⟩
      case measure => simp [intOf]; omega
    · obtain rfl : i = l.length := by omega
      clear hge hi
      go_wp2_with fail
      go_ret
      exact ⟨rfl, HB.out⟩
theorem drop_n {l : List Nd} {j : Nat} (h : j < l.length) : l.drop j = l.getD j nd0 :: l.drop (j + 1) := by
  rw [List.drop_eq_getElem_cons h, List.getD_eq_getElem?_getD, List.getElem?_eq_getElem h]; rfl
end Go.Proofs.YtblafbbnplfpjaaGreatDoor
namespace Go.Proofs.YtblafbbnplfpjaaGreatDoor
open Go.RowKit Go.Shelf
set_option linter.unusedVariables false

/-- Where the first point stands. -/
def ix (s : List UInt8) : Int := Go.Lib.indexByte s 46
theorem ix_range : ∀ s : List UInt8, ix s = -1 ∨ (0 ≤ ix s ∧ ix s < s.length)
  | [] => .inl rfl
  | b :: l => by
    unfold ix Go.Lib.indexByte
    have ih := ix_range l
    unfold ix at ih
    split
    · right; first | (simp; done) | (simp; omega)
    split
    · left; rfl
    · rename_i h1 h2
      have h2' : ¬ Go.Lib.indexByte l 46 = -1 := by simpa using h2
      right; simp; omega
/-- A text between its points, the last piece behind the k-th one whole. -/
def spl : Nat → List UInt8 → List (List UInt8)
  | 0, s => [s]
  | k + 1, s => if ix s < 0 then [s] else s.take (ix s).toNat :: spl k (s.drop ((ix s).toNat + 1))
theorem spl_succ (k : Nat) (s : List UInt8) : spl (k + 1) s = if ix s < 0 then [s] else s.take (ix s).toNat :: spl k (s.drop ((ix s).toNat + 1)) := rfl
theorem spl_more : ∀ (k : Nat) (s : List UInt8), s.length ≤ k → spl k s = spl s.length s
  | 0, s, h => by have : s = [] := List.length_eq_zero_iff.1 (by omega); subst this; rfl
  | k + 1, s, h => by
    cases hs : s.length with
    | zero =>
      have : s = [] := List.length_eq_zero_iff.1 hs
      subst this
      simp [spl, ix, Go.Lib.indexByte]
    | succ n =>
      unfold spl
      rcases ix_range s with h1 | h1
      · rw [h1]; rfl
      · rw [if_neg (by omega), if_neg (by omega)]
        congr 1
        have h2 : (s.drop ((ix s).toNat + 1)).length ≤ n := by rw [List.length_drop]; omega
        rw [spl_more k _ (by omega), spl_more n _ h2]
termination_by k s => k
theorem le_left {α : Type} {E : El α} {w : World} {b off n : Nat} {xs ys : List α} (h : Le E w (some ⟨b, off, none⟩) n (xs ++ ys)) (hm : xs.length ≤ n) : Le E w (some ⟨b, off, none⟩) xs.length xs := by
  refine ⟨rfl, fun h0 => ⟨b, off, rfl, fun i u hu => ?_⟩⟩
  obtain ⟨b', off', e, hc⟩ := h.2 (by omega)
  cases e
  refine hc i u ?_
  have hi : i < (rowE E xs).length := by
    rcases Nat.lt_or_ge i (rowE E xs).length with h' | h'
    · exact h'
    · rw [List.getElem?_eq_none h'] at hu; cases hu
  rw [rowE_append, List.getElem?_append_left hi]; exact hu
theorem made_s (n : Nat) : (madeCells (Value.string ⟨#[]⟩).cells (n * 1)).toList = rowE elS (List.replicate n []) := by
  have : rowE elS (List.replicate n []) = List.replicate n (sv []) := by
    induction n with
    | zero => rfl
    | succ n ih => rw [List.replicate_succ, rowE_cons, ih]; rfl
  rw [this]
  simp only [madeCells, Value.cells]
  have h2 : (fun x : Nat => ([Value.string ⟨#[]⟩] : List Value)[x % 1]?.getD default) = fun _ => sv [] := by funext x; rw [Nat.mod_one]; rfl
  simp [h2]
  rw [show (fun _ : Nat => sv []) = Function.const Nat (sv []) from rfl, List.map_const]; simp
theorem bytesStr (i : TypeInfo) (h : Tryz.prog.info? 9 = some i) : i.bytes = 16 := by
  have := infoStr
  rw [h] at this
  simp at this
  exact this.2.2
set_option maxHeartbeats 8000000 in
theorem genSplit_any (s : List UInt8) (w : World) (hl : s.length ≤ 140737488355328) :
    Calls Tryz.prog 96 #[sv s, .string ⟨#[46]⟩, .int .i64 0, .int .i64 9] w fun e w' => ∃ a' c', e = .returned (.slice a' (spl 8 s).length c') ∧ Le elS w' a' (spl 8 s).length (spl 8 s) ∧ (spl 8 s).length ≤ c' ∧ Below w.heap.size w w' := by
  obtain ⟨N, hN⟩ : ∃ N : Nat, N = min 9 (s.length + 1) := ⟨_, rfl⟩
  obtain ⟨K, hK⟩ : ∃ K : Nat, N = K + 1 := ⟨N - 1, by omega⟩
  have HSP : Hid (spl 8 s = spl K s) := by
    show _ = _
    by_cases h : s.length ≤ 8
    · have : K = s.length := by omega
      rw [this, spl_more 8 s h]
    · have : K = 8 := by omega
      rw [this]
  have hmin : min 9 ((s.length : Int) + 1) = (N : Int) := by omega
  have hN9 : N ≤ 9 := by omega
  have xl : IntKind.i64.wrap ((s.length : Int) + 1) = (s.length : Int) + 1 := by rw [IntKind.wrap_i64]; omega
  have xN : IntKind.i64.wrap ((N : Int) - 1) = (K : Int) := by rw [IntKind.wrap_i64]; omega
  obtain ⟨SL, hSL⟩ : ∃ SL, spl 8 s = SL := ⟨_, rfl⟩
  rw [hSL] at HSP ⊢
  replace HSP : Hid (SL = spl K s) := HSP
  clear hN hSL
  obtain ⟨i0, hi0, hz0, hz1, hz2⟩ := info_parts infoStr
  have HB8 : Hid (i0.bytes * N ≤ 281474976710656) := by show _ ≤ _; rw [hz2]; omega
  have HN8 : Hid (N ≤ maxLen) := by show _ ≤ maxLen; unfold maxLen; omega
  have HNK : Hid (N = K + 1) := hK
  clear hK
  go_enter Tryz.func96, Tryz.ntmps96
  go_wp2_with (at_make; go_loud (refine wpList_make_full w rfl _ _ 23 rfl w.heap.size 9 i0 (.string ⟨#[]⟩) 1 Tryz.underlying23 hi0 hz0 hz1 .i64 .i64 _ _ N rfl rfl rfl rfl HB8.out HN8.out (Nat.le_refl _) ?_; intro W1 hr1 hg1))
  have HG1 : Hid (Ge elS W1 w.heap.size (.slice (some ⟨w.heap.size, 0, none⟩) N N) (List.replicate N [])) := by
    show World.ownsRow _ _ _ _ _ _ _
    rw [List.length_replicate]
    have := hr1
    rw [made_s] at this
    exact this
  have HB1 : Hid (Below w.heap.size w W1) := (Below.refl _ _).grown hg1 (Nat.le_refl _) (fun k h => by cases h)
  have hsz1 := (World.ownsRow.lt hr1 w.heap.size rfl).2
  clear hr1 hg1 hi0 hz0 hz1 hz2 HB8 HN8
  go_wp2_with fail
  go_loopw [0, 10, 11] (fun ts j _ wr => ∃ (i : Nat) (t : List UInt8) (pre : List (List UInt8)), ts = sv t ∧ j = .int .i64 i ∧ i ≤ K ∧ t.length ≤ s.length ∧ pre.length = i ∧ Hid (spl K s = pre ++ spl (K - i) t) ∧ Hid (Ge elS wr w.heap.size (.slice (some ⟨w.heap.size, 0, none⟩) N N) (pre ++ List.replicate (N - i) [])) ∧ Hid (Below w.heap.size w wr)) (fun _ j _ _ => (K - (intOf j).toNat : Nat))
  case atStart => exact ⟨0, s, [], rfl, rfl, Nat.zero_le _, Nat.le_refl _, rfl, rfl, HG1.out, HB1.out⟩
  case round =>
    clear HG1 HB1 hsz1
    obtain ⟨i, t, pre, rfl, rfl, hiK, htl, hpl, HI, HG, HB⟩ := hrel
    have hNK := HNK.out
    rcases Nat.lt_or_ge i K with hlt | hge
    · have hlt' : (i : Int) < K := by omega
      have C9 := Tryz.strings_Index_one ⟨t.toArray⟩ 46 wr
      have hix : Go.Lib.indexByte (⟨t.toArray⟩ : ByteArray).data.toList 46 = ix t := by simp [ix]
      rw [hix] at C9
      obtain ⟨kk, hkk⟩ : ∃ kk, K - i = kk + 1 := ⟨K - i - 1, by omega⟩
      rcases ix_range t with h1 | h1
      · have HEND : spl K s = pre ++ [t] := by
          have := HI.out
          rw [hkk, spl_succ, if_pos (by omega)] at this
          exact this
        rw [h1] at C9
        clear hix hkk hNK
        go_wp2_with fail
        refine C9.mono ?_
        rintro e w2 ⟨rfl, hw2⟩
        rw [hw2]; clear hw2 w2 C9
        have hNK := HNK.out
        obtain ⟨R, hR⟩ : ∃ R, N = i + 1 + R := ⟨N - i - 1, by omega⟩
        have HG7 : Hid (Ge elS (wr.setCell ⟨w.heap.size, i, none⟩ (sv t)) w.heap.size (.slice (some ⟨w.heap.size, 0, none⟩) N N) (pre ++ t :: List.replicate R [])) := by
          have h1 : (pre ++ List.replicate (N - i) ([] : List UInt8)).set i t = pre ++ t :: List.replicate R [] := by
            have e : N - i = R + 1 := by omega
            rw [e, List.replicate_succ, ← hpl, List.set_append_right _ _ (Nat.le_refl _), Nat.sub_self, List.set_cons_zero]
          have := HG.out.put i (by simp; omega) 0 (by decide) (sv t) t rfl
          rw [h1] at this
          rw [show i * elS.s + 0 = i by show i * 1 + 0 = i; omega] at this
          exact this
        have HB7 : Hid (Below w.heap.size w (wr.setCell ⟨w.heap.size, i, none⟩ (sv t))) := HB.out.setCell (p := ⟨w.heap.size, i, none⟩) (Nat.le_refl _) _
        have f9 := HG.out.frozen i
        have c9 : wr.cell? ⟨w.heap.size, i, none⟩ = some (sv []) := by
          have h2 : (pre ++ List.replicate (N - i) ([] : List UInt8)).getD i [] = [] := by
            rw [List.getD_eq_getElem?_getD, List.getElem?_append_right (by omega), hpl, Nat.sub_self, List.getElem?_replicate]
            split <;> rfl
          have h3 := HG.out.toLe.at i (by omega) 0 (sv []) (by rw [show elS.dft = [] from rfl, h2]; rfl)
          have e : 0 + (i * elS.s + 0) = i := by show 0 + (i * 1 + 0) = i; omega
          rw [e] at h3
          exact h3
        have hiN : (i : Int) < N := by omega
        have hiN2 : (i : Int) + 1 ≤ N := by omega
        have xi : IntKind.i64.wrap ((i : Int) + 1) = (i : Int) + 1 := by rw [IntKind.wrap_i64]; omega
        have HF : Hid (spl K s = pre ++ [t]) := HEND
        have HPL : Hid (pre.length = i) := hpl
        have HRR : Hid (N = i + 1 + R) := hR
        clear hpl HI hR hNK
        go_upto_region 18 with fail
        obtain ⟨W7, hW7⟩ : ∃ W7, W7 = wr.setCell ⟨w.heap.size, i, none⟩ (sv t) := ⟨_, rfl⟩
        first | rw [← hW7] at HG7 HB7 ⊢ | (rw [show (sv t : Value) = .string ⟨t.toArray⟩ from rfl] at hW7; rw [← hW7] at HG7 HB7 ⊢)
        clear hW7 f9 c9 HG HB
        go_wp2_with fail
        go_ret
        refine ⟨some ⟨w.heap.size, 0, none⟩, N, ?_, ?_, ?_, HB7.out⟩
        · have h5 : (spl K s).length = i + 1 := by rw [HF.out, List.length_append, HPL.out]; rfl
          rw [HSP.out, h5]; first | rfl | (simp; done) | (simp; omega)
        · rw [HSP.out, HF.out]
          have h6 := HG7.out.toLe
          rw [show pre ++ t :: List.replicate R [] = (pre ++ [t]) ++ List.replicate R [] by simp] at h6
          exact le_left h6 (by simp; have := HRR.out; have := HPL.out; omega)
        · rw [HSP.out, HF.out, List.length_append, HPL.out]; have := HRR.out; simp; omega
      · obtain ⟨m, hm⟩ : ∃ m : Nat, ix t = m := ⟨(ix t).toNat, by omega⟩
        rw [hm] at C9 h1
        have hml : m < t.length := by omega
        have HI2 : Hid (spl K s = (pre ++ [t.take m]) ++ spl (K - (i + 1)) (t.drop (m + 1))) := by
          have := HI.out
          rw [hkk, spl_succ, if_neg (by omega), hm] at this
          show _ = _
          rw [show K - (i + 1) = kk by omega]
          simpa using this
        have sh := slice_hi t
        have sl := slice_lo t
        have e1 := slice_hi t (m : Int) m rfl (by omega)
        have e2 := slice_lo t ((m : Int) + 1) (m + 1) rfl (by omega)
        have x1 : IntKind.i64.wrap ((m : Int) + 1) = (m : Int) + 1 := by rw [IntKind.wrap_i64]; omega
        have x0 : IntKind.i64.wrap (m : Int) = m := by rw [IntKind.wrap_i64]; omega
        have xi : IntKind.i64.wrap ((i : Int) + 1) = (i : Int) + 1 := by rw [IntKind.wrap_i64]; omega
        have hm0 : ¬ (m : Int) < 0 := by omega
        have hiN : (i : Int) < N := by omega
        have HGx : Hid (∀ v, Ge elS (wr.setCell ⟨w.heap.size, i, none⟩ (sv v)) w.heap.size (.slice (some ⟨w.heap.size, 0, none⟩) N N) ((pre ++ [v]) ++ List.replicate (N - (i + 1)) [])) := fun v => by
          have h1 : (pre ++ List.replicate (N - i) ([] : List UInt8)).set i v = (pre ++ [v]) ++ List.replicate (N - (i + 1)) [] := by
            have e : N - i = (N - (i + 1)) + 1 := by omega
            rw [e, List.replicate_succ, ← hpl, List.set_append_right _ _ (Nat.le_refl _), Nat.sub_self, List.set_cons_zero]
            simp
          have := HG.out.put i (by simp; omega) 0 (by decide) (sv v) v rfl
          rw [h1, show i * elS.s + 0 = i by show i * 1 + 0 = i; omega] at this
          exact this
        have f9 := HG.out.frozen i
        have c9 : wr.cell? ⟨w.heap.size, i, none⟩ = some (sv []) := by
          have h2 : (pre ++ List.replicate (N - i) ([] : List UInt8)).getD i [] = [] := by
            rw [List.getD_eq_getElem?_getD, List.getElem?_append_right (by omega), hpl, Nat.sub_self, List.getElem?_replicate]
            split <;> rfl
          have h3 := HG.out.toLe.at i (by omega) 0 (sv []) (by rw [show elS.dft = [] from rfl, h2]; rfl)
          have e : 0 + (i * elS.s + 0) = i := by show 0 + (i * 1 + 0) = i; omega
          rw [e] at h3
          exact h3
        have HPL : Hid (pre.length = i) := hpl
        clear hix hkk hm h1 HI sh sl hpl hNK
        go_wp2_with fail
        refine C9.mono ?_
        rintro e w2 ⟨rfl, hw2⟩
        rw [hw2]; clear hw2 w2 C9
        go_wp2_with fail
        go_roundw
        case rel => exact ⟨i + 1, t.drop (m + 1), pre ++ [t.take m], rfl, rfl, by omega, by rw [List.length_drop]; omega, by rw [List.length_append, HPL.out]; rfl, HI2.out, HGx.out _, HB.out.setCell (p := ⟨w.heap.size, i, none⟩) (Nat.le_refl _) _⟩
        case measure => simp [intOf]; omega
    · obtain rfl : i = K := by omega
      have HEND : spl i s = pre ++ [t] := by
        have := HI.out
        rw [Nat.sub_self] at this
        exact this
      obtain ⟨R, hR⟩ : ∃ R, N = i + 1 + R := ⟨N - i - 1, by omega⟩
      have HG7 : Hid (Ge elS (wr.setCell ⟨w.heap.size, i, none⟩ (sv t)) w.heap.size (.slice (some ⟨w.heap.size, 0, none⟩) N N) (pre ++ t :: List.replicate R [])) := by
        have h1 : (pre ++ List.replicate (N - i) ([] : List UInt8)).set i t = pre ++ t :: List.replicate R [] := by
          have e : N - i = R + 1 := by omega
          rw [e, List.replicate_succ, ← hpl, List.set_append_right _ _ (Nat.le_refl _), Nat.sub_self, List.set_cons_zero]
        have := HG.out.put i (by simp; omega) 0 (by decide) (sv t) t rfl
        rw [h1] at this
        rw [show i * elS.s + 0 = i by show i * 1 + 0 = i; omega] at this
        exact this
      have HB7 : Hid (Below w.heap.size w (wr.setCell ⟨w.heap.size, i, none⟩ (sv t))) := HB.out.setCell (p := ⟨w.heap.size, i, none⟩) (Nat.le_refl _) _
      have f9 := HG.out.frozen i
      have c9 : wr.cell? ⟨w.heap.size, i, none⟩ = some (sv []) := by
        have h2 : (pre ++ List.replicate (N - i) ([] : List UInt8)).getD i [] = [] := by
          rw [List.getD_eq_getElem?_getD, List.getElem?_append_right (by omega), hpl, Nat.sub_self, List.getElem?_replicate]
          split <;> rfl
        have h3 := HG.out.toLe.at i (by omega) 0 (sv []) (by rw [show elS.dft = [] from rfl, h2]; rfl)
        have e : 0 + (i * elS.s + 0) = i := by show 0 + (i * 1 + 0) = i; omega
        rw [e] at h3
        exact h3
      have hiN : (i : Int) < N := by omega
      have hiN2 : (i : Int) + 1 ≤ N := by omega
      have xi : IntKind.i64.wrap ((i : Int) + 1) = (i : Int) + 1 := by rw [IntKind.wrap_i64]; omega
      have HF : Hid (spl i s = pre ++ [t]) := HEND
      have HPL : Hid (pre.length = i) := hpl
      have HRR : Hid (N = i + 1 + R) := hR
      clear hpl HI hR hNK
      go_upto_region 18 with fail
      obtain ⟨W7, hW7⟩ : ∃ W7, W7 = wr.setCell ⟨w.heap.size, i, none⟩ (sv t) := ⟨_, rfl⟩
      first | rw [← hW7] at HG7 HB7 ⊢ | (rw [show (sv t : Value) = .string ⟨t.toArray⟩ from rfl] at hW7; rw [← hW7] at HG7 HB7 ⊢)
      clear hW7 f9 c9 HG HB
      go_wp2_with fail
      go_ret
      refine ⟨some ⟨w.heap.size, 0, none⟩, N, ?_, ?_, ?_, HB7.out⟩
      · have h5 : (spl i s).length = i + 1 := by rw [HF.out, List.length_append, HPL.out]; rfl
        rw [HSP.out, h5]; first | rfl | (simp; done) | (simp; omega)
      · rw [HSP.out, HF.out]
        have h6 := HG7.out.toLe
        rw [show pre ++ t :: List.replicate R [] = (pre ++ [t]) ++ List.replicate R [] by simp] at h6
        exact le_left h6 (by simp; have := HRR.out; have := HPL.out; omega)
      · rw [HSP.out, HF.out, List.length_append, HPL.out]; have := HRR.out; simp; omega
end Go.Proofs.YtblafbbnplfpjaaGreatDoor
namespace Go.Proofs.YtblafbbnplfpjaaGreatDoor
open Go.RowKit Go.Shelf
set_option linter.unusedVariables false

theorem splitN_any (s : List UInt8) (w : World) (hl : s.length ≤ 140737488355328) :
    Calls Tryz.prog 78 #[sv s, .string ⟨#[46]⟩, .int .i64 9] w fun e w' => ∃ a' c', e = .returned (.slice a' (spl 8 s).length c') ∧ Le elS w' a' (spl 8 s).length (spl 8 s) ∧ (spl 8 s).length ≤ c' ∧ Below w.heap.size w w' := by
  have C9 := genSplit_any s w hl
  generalize spl 8 s = P at *
  clear hl
  go_enter Tryz.func78, Tryz.ntmps78
  go_wp2_with fail
  refine C9.mono ?_
  rintro e W ⟨a', c', rfl, h1, h2, hb⟩
  clear C9
  go_wp2_with fail
  go_ret
  exact ⟨a', c', rfl, h1, h2, hb⟩
/-- Is a text a class? -/
def clB (s : List UInt8) : Bool := decide ((spl 8 s).length ≤ 8) && (spl 8 s).all wdB
/-- How Class ends. -/
def ClE (s : List UInt8) (w : World) (e : Ending) (w' : World) : Prop := (clB s = false ∧ e = .returned (.tuple #[.slice none 0 0, .int .i64 140]) ∧ Below w.heap.size w w') ∨
  (clB s = true ∧ ∃ a' c', e = .returned (.tuple #[.slice a' (spl 8 s).length c', .int .i64 0]) ∧ Le elS w' a' (spl 8 s).length (spl 8 s) ∧ (spl 8 s).length ≤ c' ∧ (spl 8 s).length ≤ 8 ∧ Below w.heap.size w w')
theorem spl_len : ∀ (k : Nat) (s : List UInt8), (spl k s).length ≤ k + 1
  | 0, s => by simp [spl]
  | k + 1, s => by
    rw [spl_succ]
    split
    · simp
    · have := spl_len k (s.drop ((ix s).toNat + 1)); simp only [List.length_cons]; omega
theorem spl_ne : ∀ (k : Nat) (s : List UInt8), 0 < (spl k s).length
  | 0, s => by simp [spl]
  | k + 1, s => by rw [spl_succ]; split <;> simp
set_option maxHeartbeats 2000000 in
theorem class_any (s : List UInt8) (w : World) (hl : s.length ≤ 140737488355328) : Calls Tryz.prog 54 #[sv s] w (ClE s w) := by
  have C9 := splitN_any s w hl
  have h9 := spl_len 8 s
  have hcl : clB s = (decide ((spl 8 s).length ≤ 8) && (spl 8 s).all wdB) := rfl
  have HE : Hid (∀ e w', ((clB s = false ∧ e = .returned (.tuple #[.slice none 0 0, .int .i64 140]) ∧ Below w.heap.size w w') ∨ (clB s = true ∧ ∃ a' c', e = .returned (.tuple #[.slice a' (spl 8 s).length c', .int .i64 0]) ∧ Le elS w' a' (spl 8 s).length (spl 8 s) ∧ (spl 8 s).length ≤ c' ∧ (spl 8 s).length ≤ 8 ∧ Below w.heap.size w w')) → ClE s w e w') := fun e w' h => h
  generalize clB s = B at *
  generalize spl 8 s = P at *
  clear hl
  have HCL : Hid (B = (decide (P.length ≤ 8) && P.all wdB)) := hcl
  clear hcl
  go_enter Tryz.func54, Tryz.ntmps54
  go_wp2_with fail
  refine C9.mono ?_
  rintro e W ⟨a', c', rfl, h1, h2, hb⟩
  have HL : Hid (Le elS W a' P.length P) := h1
  have HCP : Hid (P.length ≤ c') := h2
  have HB : Hid (Below w.heap.size w W) := hb
  clear C9 h1 h2 hb
  rcases Nat.lt_or_ge 8 P.length with h8 | h8
  · have h8' : (8 : Int) < P.length := by omega
    have HF : Hid (B = false) := by show _ = _; rw [HCL.out]; simp; intro h; omega
    go_wp2_with fail
    go_ret2
    exact HE.out _ _ (.inl ⟨HF.out, rfl, HB.out⟩)
  · have h8' : ¬ (8 : Int) < P.length := by omega
    have C2 := areWords_any P a' c' W HL.out (by omega)
    cases hw : P.all wdB with
    | false =>
      rw [hw] at C2
      have HF : Hid (B = false) := by show _ = _; rw [HCL.out, hw]; simp
      clear hw
      go_wp2_with fail
      refine C2.mono ?_
      rintro e W2 ⟨rfl, hb2⟩
      have B2 := step HB.out hb2
      clear C2 hb2
      go_wp2_with fail
      go_ret2
      exact HE.out _ _ (.inl ⟨HF.out, rfl, B2⟩)
    | true =>
      rw [hw] at C2
      have HF : Hid (B = true) := by show _ = _; rw [HCL.out, hw]; simp [h8]
      clear hw
      go_wp2_with fail
      refine C2.mono ?_
      rintro e W2 ⟨rfl, hb2⟩
      have B2 := step HB.out hb2
      have HL2 : Hid (Le elS W2 a' P.length P) := HL.out.after hb2
      clear C2 hb2
      go_wp2_with fail
      go_ret2
      exact HE.out _ _ (.inr ⟨HF.out, a', c', rfl, HL2.out, HCP.out, h8, B2⟩)
/-- What Covers answers. -/
def cvB (o s : List UInt8) : Bool := clB s && (decide (o = []) || (clB o && decide ((spl 8 o).length ≤ (spl 8 s).length) && decide (spl 8 o = (spl 8 s).take (spl 8 o).length)))
theorem map_ba_inj {l m : List (List UInt8)} : l.map (fun s => (⟨s.toArray⟩ : ByteArray)) = m.map (fun s => (⟨s.toArray⟩ : ByteArray)) ↔ l = m := by
  constructor
  · intro h
    have := congrArg (List.map (fun b : ByteArray => b.data.toList)) h
    simpa [List.map_map, Function.comp_def] using this
  · intro h; rw [h]
theorem equal_s (xs ys : List (List UInt8)) (b1 o1 c b2 o2 d : Nat) (w : World) (h1 : Le elS w (some ⟨b1, o1, none⟩) xs.length xs) (h2 : Le elS w (some ⟨b2, o2, none⟩) ys.length ys) (hx : xs.length ≤ 100) (hy : ys.length ≤ 100) :
    Calls Tryz.prog 55 #[.slice (some ⟨b1, o1, none⟩) xs.length c, .slice (some ⟨b2, o2, none⟩) ys.length d] w fun e w' => e = .returned (.bool (decide (xs = ys))) ∧ Below w.heap.size w w' := by
  have cells : ∀ (l : List (List UInt8)) (b o : Nat), Le elS w (some ⟨b, o, none⟩) l.length l → ∀ j, j < (l.map (fun s => (⟨s.toArray⟩ : ByteArray))).length → w.cell? ⟨b, o + j, none⟩ = some (.string ((l.map (fun s => (⟨s.toArray⟩ : ByteArray))).getD j ByteArray.empty)) := by
    intro l b o h j hj
    have hj' : j < l.length := by simpa using hj
    have e1 := h.at j hj' 0 (sv (l.getD j [])) rfl
    have e2 : (l.map (fun s => (⟨s.toArray⟩ : ByteArray))).getD j ByteArray.empty = ⟨(l.getD j []).toArray⟩ := by
      rw [List.getD_eq_getElem?_getD, List.getElem?_map, List.getD_eq_getElem?_getD, List.getElem?_eq_getElem hj']; rfl
    rw [e2]
    simpa [elS] using e1
  have := Tryz.slices_Equal_string b1 o1 xs.length c b2 o2 ys.length d (xs.map (fun s => (⟨s.toArray⟩ : ByteArray))) (ys.map (fun s => (⟨s.toArray⟩ : ByteArray))) w (by simp) (by simp) (by omega) (by omega) (cells xs b1 o1 h1) (cells ys b2 o2 h2)
  refine this.mono ?_
  rintro e w' ⟨rfl, q, rfl⟩
  refine ⟨?_, below_drewN (Below.refl _ _) q⟩
  congr 2
  rw [List.take_of_length_le (by simp), List.take_of_length_le (by simp), decide_eq_decide, map_ba_inj]
set_option maxHeartbeats 4000000 in
theorem covers_any (o s : List UInt8) (w : World) (ho : o.length ≤ 140737488355328) (hs : s.length ≤ 140737488355328) : Calls Tryz.prog 32 #[sv o, sv s] w fun e w' => e = .returned (.bool (cvB o s)) ∧ Below w.heap.size w w' := by
  have C1 := class_any s w hs
  have C2 := fun W => class_any o W ho
  obtain ⟨R, hR⟩ : ∃ R, cvB o s = R := ⟨_, rfl⟩
  have HR : Hid (cvB o s = R) := hR
  rw [hR]
  have hpo := spl_ne 8 o
  clear hR
  go_enter Tryz.func32, Tryz.ntmps32
  go_wp2_with fail
  refine C1.mono ?_
  rintro e W1 (⟨hc, rfl, hb⟩ | ⟨hc, a1, c1, rfl, hl1, hcp1, h81, hb⟩)
  · have HF : Hid (R = false) := by show _ = _; rw [← HR.out]; simp [cvB, hc]
    clear hc C1 C2
    go_wp2_with fail
    go_ret
    exact ⟨by rw [HF.out]; rfl, hb⟩
  · have HB1 : Hid (Below w.heap.size w W1) := hb
    have HL1 : Hid (Le elS W1 a1 (spl 8 s).length (spl 8 s)) := hl1
    have D2 := C2 W1
    have HC : Hid (clB s = true) := hc
    clear hc C1 C2 hb hl1
    cases ho0 : o with
    | nil =>
      have HF : Hid (R = true) := by show _ = _; rw [← HR.out, ho0]; simp [cvB, HC.out]
      clear D2
      go_wp2_with fail
      go_ret
      exact ⟨by rw [HF.out]; rfl, HB1.out⟩
    | cons x l =>
      have hne : o ≠ [] := by rw [ho0]; simp
      rw [← ho0]
      have n1 : (o == []) = false := by simpa using hne
      have n2 : ([] == o) = false := by simpa using hne
      have HNE : Hid (o ≠ []) := hne
      clear ho0 hne
      go_wp2_with fail
      refine D2.mono ?_
      rintro e W2 (⟨hc2, rfl, hb2⟩ | ⟨hc2, a2, c2, rfl, hl2, hcp2, h82, hb2⟩)
      · have HF : Hid (R = false) := by show _ = _; rw [← HR.out]; simp [cvB, hc2, HNE.out]
        have B2 := step HB1.out hb2
        clear hc2 D2 hb2
        go_wp2_with fail
        go_ret
        exact ⟨by rw [HF.out]; rfl, B2⟩
      · have B2 := step HB1.out hb2
        have L1 := HL1.out.after hb2
        have HRV : Hid (R = (decide ((spl 8 o).length ≤ (spl 8 s).length) && decide (spl 8 o = (spl 8 s).take (spl 8 o).length))) := by show _ = _; rw [← HR.out]; simp [cvB, HC.out, hc2, HNE.out]
        generalize spl 8 o = P at *
        generalize spl 8 s = S at *
        clear hc2 D2 hb2 HL1 HR HC HNE
        rcases Nat.lt_or_ge S.length P.length with hlt | hge
        · have hlt' : ¬ (P.length : Int) ≤ S.length := by omega
          have HF : Hid (R = false) := by show _ = _; rw [HRV.out]; simp; intro h; omega
          go_wp2_with fail
          go_ret
          exact ⟨by rw [HF.out]; rfl, B2⟩
        · have hge' : (P.length : Int) ≤ S.length := by omega
          obtain ⟨b2, o2, rfl⟩ := hl2.ex hpo
          obtain ⟨b1, o1, rfl⟩ := L1.ex (by omega)
          have hcc : (P.length : Int) ≤ c1 := by omega
          have htl : (S.take P.length).length = P.length := by rw [List.length_take]; omega
          have LT : Le elS W2 (some ⟨b1, o1, none⟩) (S.take P.length).length (S.take P.length) := by
            have h6 := L1
            rw [← List.take_append_drop P.length S] at h6
            have h7 := le_left (xs := S.take P.length) (ys := S.drop P.length) (n := S.length) (by simpa using h6) (by omega)
            exact h7
          have C9 := equal_s P (S.take P.length) b2 o2 c2 b1 o1 c1 W2 hl2 LT (by omega) (by omega)
          rw [htl] at C9
          have HRV2 : Hid (R = decide (P = S.take P.length)) := by show _ = _; rw [HRV.out]; simp [hge]
          generalize decide (P = S.take P.length) = X at *
          clear LT htl L1 hl2 HRV
          go_wp2_with fail
          refine C9.mono ?_
          rintro e W3 ⟨rfl, hb3⟩
          have B3 := step B2 hb3
          clear C9 hb3
          go_wp2_with fail
          go_ret
          exact ⟨by rw [HRV2.out]; rfl, B3⟩
end Go.Proofs.YtblafbbnplfpjaaGreatDoor
namespace Go.Proofs.YtblafbbnplfpjaaGreatDoor
open Go.RowKit Go.Shelf
set_option linter.unusedVariables false

def eu9 : List UInt8 := [101, 117]
def food9 : List UInt8 := [102, 111, 111, 100]
def awK : Fo := .cons ⟨4, 0, eu9, 0, 0, 0⟩ .nil (.cons ndN (.cons ⟨5, 0, food9, 0, 0, 0⟩ .nil .nil) .nil)
def awN : List Nd := (Fo.cons ⟨2, 2, [], 0, 0, 0⟩ awK .nil).flat
theorem wd_eu : wdB eu9 = true := by decide +kernel
theorem wd_food : wdB food9 = true := by decide +kernel
theorem aw_ok : (Fo.cons ⟨2, 2, [], 0, 0, 0⟩ awK .nil).Ok wdB 0 1 := by
  refine ⟨⟨.inl ⟨.inr rfl, by decide, rfl, rfl, rfl, rfl⟩, by decide, by decide, rfl, ?_⟩, trivial⟩
  refine ⟨⟨.inr (.inr (.inl ⟨.inl rfl, rfl, wd_eu, rfl, rfl, rfl⟩)), by decide, by decide, rfl, trivial⟩, ?_⟩
  refine ⟨⟨.inr (.inl ⟨rfl, rfl, rfl, rfl, rfl, rfl⟩), by decide, by decide, rfl, ?_⟩, trivial⟩
  exact ⟨⟨.inr (.inr (.inl ⟨.inr rfl, rfl, wd_food, rfl, rfl, rfl⟩)), by decide, by decide, rfl, trivial⟩, trivial⟩
theorem aw_cond : Cond wdB awN := .inr ⟨by decide, _, _, rfl, aw_ok⟩
theorem aw_64 : ∀ n ∈ awN, N64 n := by
  intro n hn
  have : n ∈ [(⟨2, 2, [], 0, 0, 0⟩ : Nd), ⟨4, 0, eu9, 0, 0, 0⟩, ndN, ⟨5, 0, food9, 0, 0, 0⟩] := hn
  simp at this
  rcases this with rfl | rfl | rfl | rfl <;> (intro x hx; simp [ndN] at hx; omega)
theorem tr_one {s : List UInt8} (h : wdB s = true) : Trs [s] := ⟨by simp, by simp [h], fun j hj => by simp at hj⟩
theorem tr_nil : Trs [] := ⟨by simp, rfl, fun j hj => by simp at hj⟩
theorem aw_one : hoB awN ⟨[eu9], [], 0, 0, 1⟩ = true ∧ hoE awN ⟨[eu9], [], 0, 0, 1⟩ = 0 := by
  have hf : FtOk [eu9] [] 0 0 1 := ⟨tr_one wd_eu, tr_nil, by decide, by decide, by decide, by decide⟩
  have hf' : Fx.Ok ⟨[eu9], [], 0, 0, 1⟩ := hf
  refine ⟨?_, ?_⟩
  · unfold hoB
    rw [if_pos ⟨aw_cond, hf'⟩, hoV_eq (ns := awN) rfl aw_ok]
    simp [val, awK, Fo.ev, Fx.vf, vfa, ndN]
  · unfold hoE
    rw [if_pos aw_cond]; exact ftE_ok hf
theorem aw_two : hoB awN ⟨[eu9], [food9], 0, 0, 1⟩ = false ∧ hoE awN ⟨[eu9], [food9], 0, 0, 1⟩ = 0 := by
  have hf : FtOk [eu9] [food9] 0 0 1 := ⟨tr_one wd_eu, tr_one wd_food, by decide, by decide, by decide, by decide⟩
  have hf' : Fx.Ok ⟨[eu9], [food9], 0, 0, 1⟩ := hf
  refine ⟨?_, ?_⟩
  · unfold hoB
    rw [if_pos ⟨aw_cond, hf'⟩, hoV_eq (ns := awN) rfl aw_ok]
    simp [val, awK, Fo.ev, Fx.vf, vfa, ndN]
  · unfold hoE
    rw [if_pos aw_cond]; exact ftE_ok hf
def bread9 : List UInt8 := [102, 111, 111, 100, 46, 98, 114, 101, 97, 100]
theorem aw_cv : cvB food9 bread9 = true := by decide +kernel
set_option maxHeartbeats 4000000 in
theorem awake13 (w : World) (hT : Tn w) : Calls Tryz.prog 14 #[] w fun e w' => e = .returned (.bool true) ∧ Below w.heap.size w w' := by
  have HT : Hid (Tn w) := hT
  clear hT
  go_enter Tryz.func14, Tryz.ntmps14
  go_upto_region 2 with fail
  refine ent1 w _ _ (Q := fun W => Code.wp _ _ _ _ W) ?_
  intro W1 hb1 hs1 V1
  have HL1 : Hid (Le elN W1 (some ⟨w.heap.size, 0, none⟩) awN.length awN) := (Ge.of (E := elN) (xs := awN) (B := 0) V1 (Nat.zero_le _) rfl rfl (by decide)).toLe
  have HB1 : Hid (Below w.heap.size w W1) := hb1
  clear V1 hb1 hs1
  go_wp2_with fail
  refine ent1 W1 _ _ (Q := fun W => Calls Tryz.prog _ _ W _) ?_
  intro W2 hb2 hs2 V2
  have B2 := step HB1.out hb2
  have HL2 : Hid (Le elN W2 (some ⟨w.heap.size, 0, none⟩) awN.length awN) := HL1.out.after hb2
  have LF : Lf W2 (some ⟨W1.heap.size, 0, none⟩) 1 none 0 ⟨[eu9], [], 0, 0, 1⟩ := ⟨(Ge.of (E := elS) (xs := [eu9]) (B := 0) V2 (Nat.zero_le _) rfl rfl (by decide)).toLe, Le.nil _ _, by constructor <;> decide, by constructor <;> decide, by constructor <;> decide⟩
  have D1 := holds_any awN (some ⟨w.heap.size, 0, none⟩) 4 (some ⟨W1.heap.size, 0, none⟩) 1 none 0 ⟨[eu9], [], 0, 0, 1⟩ W2 HL2.out aw_64 LF (HT.out.to B2)
  rw [aw_one.1, aw_one.2] at D1
  clear LF V2 hs2 hb2
  refine Calls.mono D1 ?_
  rintro e W3 ⟨rfl, hb3⟩
  have B3 := step B2 hb3
  have HL3 : Hid (Le elN W3 (some ⟨w.heap.size, 0, none⟩) awN.length awN) := HL2.out.after hb3
  clear D1 hb3 B2 HL2 HL1 HB1
  go_wp2_with fail
  refine ent2 W3 _ _ _ _ (Q := fun W => Calls Tryz.prog _ _ W _) ?_
  intro W4 hb4 hs4 V4 V5
  have B4 := step B3 hb4
  have HL4 : Hid (Le elN W4 (some ⟨w.heap.size, 0, none⟩) awN.length awN) := HL3.out.after hb4
  have LF : Lf W4 (some ⟨W3.heap.size, 0, none⟩) 1 (some ⟨W3.heap.size + 1, 0, none⟩) 1 ⟨[eu9], [food9], 0, 0, 1⟩ := ⟨(Ge.of (E := elS) (xs := [eu9]) (B := 0) V4 (Nat.zero_le _) rfl rfl (by decide)).toLe, (Ge.of (E := elS) (xs := [food9]) (B := 0) V5 (Nat.zero_le _) rfl rfl (by decide)).toLe, by constructor <;> decide, by constructor <;> decide, by constructor <;> decide⟩
  have D2 := holds_any awN (some ⟨w.heap.size, 0, none⟩) 4 (some ⟨W3.heap.size, 0, none⟩) 1 (some ⟨W3.heap.size + 1, 0, none⟩) 1 ⟨[eu9], [food9], 0, 0, 1⟩ W4 HL4.out aw_64 LF (HT.out.to B4)
  rw [aw_two.1, aw_two.2] at D2
  clear LF V4 V5 hs4 hb4
  refine Calls.mono D2 ?_
  rintro e W5 ⟨rfl, hb5⟩
  have B5 := step B4 hb5
  have D3 := covers_any food9 bread9 W5 (by decide) (by decide)
  rw [aw_cv] at D3
  clear D2 hb5 B4 B3 HL3 HL4
  go_wp2_with fail
  refine Calls.mono D3 ?_
  rintro e W6 ⟨rfl, hb6⟩
  have B6 := step B5 hb6
  clear D3 hb6 B5
  go_wp2_with fail
  go_ret
  exact ⟨rfl, B6⟩
end Go.Proofs.YtblafbbnplfpjaaGreatDoor
namespace Go.Proofs.YtblafbbnplfpjaaGreatDoor
open Go.RowKit Go.Shelf
set_option linter.unusedVariables false

/-- Nodes, texts that the law holds in a row of its own, marks behind them. -/
def Om (w : World) (g : Nat) (ps : List Nd) : Prop := Va w g 48 (rowE elN (ps ++ mkE mkN 12)).toArray
def Ot (w : World) (g : Nat) (ps : List (List UInt8)) : Prop := Va w g 9 (rowE elS (ps ++ mkE mkT 12)).toArray
theorem Om.after {w w' : World} (hb : Below w.heap.size w w') {g : Nat} {ps : List Nd} (h : Om w g ps) : Om w' g ps := Va.after hb h
theorem Ot.after {w w' : World} (hb : Below w.heap.size w w') {g : Nat} {ps : List (List UInt8)} (h : Ot w g ps) : Ot w' g ps := Va.after hb h
theorem Om.drw {w : World} {g : Nat} {ps : List Nd} (h : Om w g ps) : Om w.drew g ps := h
theorem Ot.drw {w : World} {g : Nat} {ps : List (List UInt8)} (h : Ot w g ps) : Ot w.drew g ps := h
theorem Om.farS {w w' : World} {g b : Nat} {ps : List Nd} {cs : Array Value} (h : Om w g ps) (V : Va w b 25 cs) (k : ∀ c, c ≠ b → w'.heap[c]? = w.heap[c]?) : Om w' g ps := Va.keptW h (k g (fun e => by
  subst e
  have h2 := Eq.symm h |>.trans V
  simp at h2))
theorem Ot.farS {w w' : World} {g b : Nat} {ps : List (List UInt8)} {cs : Array Value} (h : Ot w g ps) (V : Va w b 25 cs) (k : ∀ c, c ≠ b → w'.heap[c]? = w.heap[c]?) : Ot w' g ps := Va.keptW h (k g (fun e => by
  subst e
  have h2 := Eq.symm h |>.trans V
  simp at h2))
theorem stoF5 {W : World} {b : Nat} {t : TypeId} {x0 x1 x2 x3 x4 : Value} (h : Va W b t #[x0, x1, x2, x3, x4]) (y0 y1 y2 y3 y4 : Value) {Q : World → Prop}
    (k : ∀ V, Va V b t #[y0, y1, y2, y3, y4] → (∀ c t cs, c ≠ b → Va W c t cs → Va V c t cs) → ((∀ c, c ≠ b → V.heap[c]? = W.heap[c]?) ∧ (∀ B v, B ≤ b → Below B v W → Below B v V)) → Q V) : Q (((((W.setCell ⟨b, 0, none⟩ y0).setCell ⟨b, 1, none⟩ y1).setCell ⟨b, 2, none⟩ y2).setCell ⟨b, 3, none⟩ y3).setCell ⟨b, 4, none⟩ y4) :=
  k _ (h.setF y0 y1 y2 y3 y4) (fun c t cs hc hv => hv.keptW (faF W b y0 y1 y2 y3 y4 c hc)) ⟨faF W b y0 y1 y2 y3 y4, fun B v hB hb => beloF hb hB y0 y1 y2 y3 y4⟩
theorem lentN_ex (a : Option Addr) (ca : Nat) (ps : List Nd) (w : World) (h : Le elN w a ps.length ps) (hn : a = none → ps.length = 0 ∧ ca = 0) (hl : ps.length ≤ 5000000000000) :
    Calls Tryz.prog 6 #[.slice a ps.length ca] w fun e w' => ∃ g, e = .returned (.slice (some ⟨g, 0, none⟩) ps.length (ps.length + 12)) ∧ Om w' g ps ∧ Below w.heap.size w w' :=
  (lentN_any a ps.length ca ps w h hn hl).mono fun e w' ⟨h1, h2, h3⟩ => ⟨_, h1, h2, h3⟩
theorem lentF_ex (a1 : Option Addr) (c1 : Nat) (a2 : Option Addr) (c2 : Nat) (f : Fx) (w : World) (hf : Lf w a1 c1 a2 c2 f) (hn1 : a1 = none → f.byr.length = 0 ∧ c1 = 0) (hn2 : a2 = none → f.lin.length = 0 ∧ c2 = 0) (hl1 : f.byr.length ≤ 9000000000000) (hl2 : f.lin.length ≤ 9000000000000) :
    Calls Tryz.prog 7 #[fxv a1 c1 a2 c2 f] w fun e w' => ∃ g1 g2, e = .returned (fxv (some ⟨g1, 0, none⟩) (f.byr.length + 12) (some ⟨g2, 0, none⟩) (f.lin.length + 12) f) ∧ Ot w' g1 f.byr ∧ Ot w' g2 f.lin ∧ Below w.heap.size w w' :=
  (lentF_any a1 c1 a2 c2 f w hf hn1 hn2 hl1 hl2).mono fun e w' ⟨g1, g2, h1, h2, h3, h4⟩ => ⟨g1, g2, h1, h2, h3, h4⟩
set_option maxRecDepth 20000 in
set_option maxHeartbeats 16000000 in
theorem traitChecks_walk (ns : List Nd) (xa : Option Addr) (ca : Nat) (a1 : Option Addr) (c1 : Nat) (a2 : Option Addr) (c2 : Nat) (f : Fx) (w : World) (hA : Le elN w xa ns.length ns) (h6 : ∀ n ∈ ns, N64 n) (hn : xa = none → ns.length = 0 ∧ ca = 0) (hl : ns.length ≤ 5000000000000)
    (hf : Lf w a1 c1 a2 c2 f) (hn1 : a1 = none → f.byr.length = 0 ∧ c1 = 0) (hn2 : a2 = none → f.lin.length = 0 ∧ c2 = 0) (hl1 : f.byr.length ≤ 9000000000000) (hl2 : f.lin.length ≤ 9000000000000) (hT : Tn w) :
    Calls Tryz.prog 3 #[.slice xa ns.length ca, fxv a1 c1 a2 c2 f] w fun e w' => e = .returned (.bool true) ∧ Below w.heap.size w w' := by
  have HA : Hid (Le elN w xa ns.length ns) := hA
  have H6 : Hid (∀ n ∈ ns, N64 n) := h6
  have HF : Hid (Lf w a1 c1 a2 c2 f) := hf
  have HT : Hid (Tn w) := hT
  have HN : Hid ((xa = none → ns.length = 0 ∧ ca = 0) ∧ ns.length ≤ 5000000000000) := ⟨hn, hl⟩
  have HN1 : Hid ((a1 = none → f.byr.length = 0 ∧ c1 = 0) ∧ (a2 = none → f.lin.length = 0 ∧ c2 = 0)) := ⟨hn1, hn2⟩
  have HN2 : Hid (f.byr.length ≤ 9000000000000 ∧ f.lin.length ≤ 9000000000000) := ⟨hl1, hl2⟩
  clear hA h6 hn hl hf hn1 hn2 hl1 hl2 hT
  dsimp only [fxv]
  go_enter Tryz.func3, Tryz.ntmps3
  go_upto_region 1 with fail
  refine ent1 w _ _ (Q := fun W => Code.wp _ _ _ _ W) ?_
  intro W1 hb1 hs1 V3
  have B0 : Below w.heap.size w W1 := hb1
  clear hb1 hs1
  go_wp2_with fail
  go_cut [5, 6] (fun s5 s6 wx => ∃ (b6 : Nat) (gn g1 g2 : Nat), s6 = .pointer (some ⟨b6, 0, none⟩) ∧ s5 = .slice (some ⟨gn, 0, none⟩) ns.length (ns.length + 12) ∧ Hid (Va wx b6 25 #[.slice (some ⟨g1, 0, none⟩) f.byr.length (f.byr.length + 12), .slice (some ⟨g2, 0, none⟩) f.lin.length (f.lin.length + 12), .int .i64 f.amt, .int .i64 f.dig, .int .i64 f.qty]) ∧ Hid (Va wx (w.heap.size) 25 #[.slice a1 f.byr.length c1, .slice a2 f.lin.length c2, .int .i64 f.amt, .int .i64 f.dig, .int .i64 f.qty]) ∧ Hid (Om wx gn ns) ∧ Hid (Ot wx g1 f.byr) ∧ Hid (Ot wx g2 f.lin) ∧ Hid (Below w.heap.size w wx) ∧ Hid (w.heap.size ≤ b6))
  case first =>
    refine wp_region_noPanic ?_
    replace V3 : Va W1.drew _ _ _ := V3
    replace B0 := Below.drew B0
    refine wp_region_held_drew (S := (fun W => W.cell? ⟨w.heap.size, 0, none⟩ = some (.slice a1 f.byr.length c1) ∧ W.cell? ⟨w.heap.size, 1, none⟩ = some (.slice a2 f.lin.length c2) ∧ W.cell? ⟨w.heap.size, 2, none⟩ = some (.int .i64 f.amt) ∧ W.cell? ⟨w.heap.size, 3, none⟩ = some (.int .i64 f.dig) ∧ W.cell? ⟨w.heap.size, 4, none⟩ = some (.int .i64 f.qty))) (by kernel_rfl) ⟨V3.f0, V3.f1, V3.f2, V3.f3, V3.f4⟩ (fun hHeld => ?_)
    obtain ⟨x11, hxd⟩ : ∃ xd, xd = W1.drew := ⟨_, rfl⟩
    rw [← hxd] at V3 B0 hHeld ⊢
    clear hxd
    refine wpAnyH_take (i := 0) (v := ?_) rfl (by kernel_rfl) (by kernel_rfl) (by kernel_rfl) (fun _ _ _ h => h) (Or.inl ⟨by rfl, ?_⟩) hHeld ?_
    rotate_left
    · (intro W hSw; (try dsimp only at hSw); go_simp; all_goals (with_reducible rfl))
    simp only [List.getElem_toArray, List.getElem_cons_zero, Act.put, List.setIfInBounds_toArray, List.set_cons_zero, List.set_cons_succ]
    refine wpAnyH_take (i := 2) (v := ?_) rfl (by kernel_rfl) (by kernel_rfl) (by kernel_rfl) (fun _ _ _ h => h) (Or.inl ⟨by rfl, ?_⟩) hHeld ?_
    rotate_left
    · (intro W hSw; (try dsimp only at hSw); go_simp; all_goals (with_reducible rfl))
    simp only [List.getElem_toArray, List.getElem_cons_zero, List.getElem_cons_succ, Act.put, List.setIfInBounds_toArray, List.set_cons_zero, List.set_cons_succ]
    refine wpAnyH_ready (rs := [1, 4]) (by kernel_rfl) (by simp) ?_
    refine AllReadyH.cons rfl (fun K hK => ?_) (AllReadyH.cons rfl (fun K hK => ?_) AllReadyH.nil)
    ·
      simp only [List.getElem_toArray, List.getElem_cons_zero, List.getElem_cons_succ]
      go_simp
      refine (lentN_ex xa ca ns _ (HA.out.after B0) HN.out.1 HN.out.2).mono ?_
      rintro e x12 ⟨gn, rfl, on, hb⟩
      replace V3 := Va.after hb V3
      replace B0 := step B0 hb
      clear hb
      try go_wp2_with fail
      refine hK.out _ _ ⟨V3.f0, V3.f1, V3.f2, V3.f3, V3.f4⟩ (fun hHeld => ?_)
      clear hK K
      refine wpAnyH_ready (rs := [3, 4]) (by kernel_rfl) (by simp) ?_
      refine AllReadyH.cons rfl (fun K hK => ?_) (AllReadyH.cons rfl (fun K hK => ?_) AllReadyH.nil)
      ·
        simp only [List.getElem_toArray, List.getElem_cons_zero, List.getElem_cons_succ]
        go_simp
        refine (lentF_ex a1 c1 a2 c2 f _ (HF.out.after B0) HN1.out.1 HN1.out.2 HN2.out.1 HN2.out.2).mono ?_
        rintro e x13 ⟨g1, g2, rfl, o1, o2, hb⟩
        replace V3 := Va.after hb V3
        replace on := Om.after hb on
        replace B0 := step B0 hb
        clear hb
        try go_wp2_with fail
        refine hK.out _ _ ⟨V3.f0, V3.f1, V3.f2, V3.f3, V3.f4⟩ (fun hHeld => ?_)
        clear hK K
        refine wpAnyH_ready (rs := [4]) (by kernel_rfl) (by simp) ?_
        refine AllReadyH.cons rfl (fun K hK => ?_) AllReadyH.nil
        ·
          simp only [List.getElem_toArray, List.getElem_cons_zero, List.getElem_cons_succ]
          go_simp
          have lt_V6_V3 := V3.lt
          have sz_V6 := B0.size
          refine ent1 _ _ _ (Q := fun V => K _ V) ?_
          intro x14 hb hs_ V6
          replace V3 := Va.after hb V3
          replace on := Om.after hb on
          replace o1 := Ot.after hb o1
          replace o2 := Ot.after hb o2
          replace B0 := step B0 hb
          clear hb hs_
          refine hK.out _ _ ⟨V3.f0, V3.f1, V3.f2, V3.f3, V3.f4⟩ (fun hHeld => ?_)
          clear hK K
          refine wpAnyH_take (i := 5) (v := ?_) rfl (by kernel_rfl) (by kernel_rfl) (by kernel_rfl) (fun _ _ _ h => h) (Or.inl ⟨by rfl, ?_⟩) hHeld ?_
          rotate_left
          · (intro W hSw; (try dsimp only at hSw); go_simp; all_goals (with_reducible rfl))
          simp only [List.getElem_toArray, List.getElem_cons_zero, List.getElem_cons_succ, Act.put, List.setIfInBounds_toArray, List.set_cons_zero, List.set_cons_succ]
          have c_V6 := V6.f0
          have f0_V6 := V6.frozen 0
          have d_V6 := V6.f1
          have f1_V6 := V6.frozen 1
          have e_V6 := V6.f2
          have f2_V6 := V6.frozen 2
          have j_V6 := V6.f3
          have f3_V6 := V6.frozen 3
          have k_V6 := V6.f4
          have f4_V6 := V6.frozen 4
          have l_V6 := V6.lt
          have m_V6 := Nat.le_of_lt l_V6
          refine wpAnyH_ready (rs := [6]) (by kernel_rfl) (by simp) ?_
          refine AllReadyH.cons rfl (fun K hK => ?_) AllReadyH.nil
          simp only [List.getElem_toArray, List.getElem_cons_zero, List.getElem_cons_succ]
          go_simp
          clear c_V6 f0_V6 d_V6 f1_V6 e_V6 f2_V6 j_V6 f3_V6 k_V6 f4_V6 l_V6 m_V6
          refine stoF5 V6 (.slice (some ⟨g1, 0, none⟩) f.byr.length (f.byr.length + 12)) (.slice (some ⟨g2, 0, none⟩) f.lin.length (f.lin.length + 12)) (.int .i64 f.amt) (.int .i64 f.dig) (.int .i64 f.qty) (Q := fun W => K _ W) ?_
          intro x15 V' oth far
          replace V3 := oth _ _ _ (by first | omega | assumption | (simp; omega)) V3
          replace on := Om.farS on V6 far.1
          replace o1 := Ot.farS o1 V6 far.1
          replace o2 := Ot.farS o2 V6 far.1
          replace B0 := far.2 _ _ (by first | omega | (simp; omega)) B0
          replace V6 := V'
          clear oth far
          refine hK.out _ _ ⟨V3.f0, V3.f1, V3.f2, V3.f3, V3.f4⟩ (fun hHeld => ?_)
          clear hK K
          refine wpAnyH_done (by kernel_rfl) ?_ _
          refine NoPanic.normal ?_
          clear hHeld
          go_wp2_with fail
          go_meet
          exact ⟨_, gn, g1, g2, rfl, rfl, V6, V3, on, o1, o2, B0, by show _ ≤ _; omega⟩
      ·
        simp only [List.getElem_toArray, List.getElem_cons_zero, List.getElem_cons_succ]
        go_simp
        have lt_V6_V3 := V3.lt
        have sz_V6 := B0.size
        refine ent1 _ _ _ (Q := fun V => K _ V) ?_
        intro x13 hb hs_ V6
        replace V3 := Va.after hb V3
        replace on := Om.after hb on
        replace B0 := step B0 hb
        clear hb hs_
        refine hK.out _ _ ⟨V3.f0, V3.f1, V3.f2, V3.f3, V3.f4⟩ (fun hHeld => ?_)
        clear hK K
        refine wpAnyH_ready (rs := [3]) (by kernel_rfl) (by simp) ?_
        refine AllReadyH.cons rfl (fun K hK => ?_) AllReadyH.nil
        ·
          simp only [List.getElem_toArray, List.getElem_cons_zero, List.getElem_cons_succ]
          go_simp
          refine (lentF_ex a1 c1 a2 c2 f _ (HF.out.after B0) HN1.out.1 HN1.out.2 HN2.out.1 HN2.out.2).mono ?_
          rintro e x14 ⟨g1, g2, rfl, o1, o2, hb⟩
          replace V3 := Va.after hb V3
          replace V6 := Va.after hb V6
          replace on := Om.after hb on
          replace B0 := step B0 hb
          clear hb
          try go_wp2_with fail
          refine hK.out _ _ ⟨V3.f0, V3.f1, V3.f2, V3.f3, V3.f4⟩ (fun hHeld => ?_)
          clear hK K
          refine wpAnyH_take (i := 5) (v := ?_) rfl (by kernel_rfl) (by kernel_rfl) (by kernel_rfl) (fun _ _ _ h => h) (Or.inl ⟨by rfl, ?_⟩) hHeld ?_
          rotate_left
          · (intro W hSw; (try dsimp only at hSw); go_simp; all_goals (with_reducible rfl))
          simp only [List.getElem_toArray, List.getElem_cons_zero, List.getElem_cons_succ, Act.put, List.setIfInBounds_toArray, List.set_cons_zero, List.set_cons_succ]
          have c_V6 := V6.f0
          have f0_V6 := V6.frozen 0
          have d_V6 := V6.f1
          have f1_V6 := V6.frozen 1
          have e_V6 := V6.f2
          have f2_V6 := V6.frozen 2
          have j_V6 := V6.f3
          have f3_V6 := V6.frozen 3
          have k_V6 := V6.f4
          have f4_V6 := V6.frozen 4
          have l_V6 := V6.lt
          have m_V6 := Nat.le_of_lt l_V6
          refine wpAnyH_ready (rs := [6]) (by kernel_rfl) (by simp) ?_
          refine AllReadyH.cons rfl (fun K hK => ?_) AllReadyH.nil
          simp only [List.getElem_toArray, List.getElem_cons_zero, List.getElem_cons_succ]
          go_simp
          clear c_V6 f0_V6 d_V6 f1_V6 e_V6 f2_V6 j_V6 f3_V6 k_V6 f4_V6 l_V6 m_V6
          refine stoF5 V6 (.slice (some ⟨g1, 0, none⟩) f.byr.length (f.byr.length + 12)) (.slice (some ⟨g2, 0, none⟩) f.lin.length (f.lin.length + 12)) (.int .i64 f.amt) (.int .i64 f.dig) (.int .i64 f.qty) (Q := fun W => K _ W) ?_
          intro x15 V' oth far
          replace V3 := oth _ _ _ (by first | omega | assumption | (simp; omega)) V3
          replace on := Om.farS on V6 far.1
          replace o1 := Ot.farS o1 V6 far.1
          replace o2 := Ot.farS o2 V6 far.1
          replace B0 := far.2 _ _ (by first | omega | (simp; omega)) B0
          replace V6 := V'
          clear oth far
          refine hK.out _ _ ⟨V3.f0, V3.f1, V3.f2, V3.f3, V3.f4⟩ (fun hHeld => ?_)
          clear hK K
          refine wpAnyH_done (by kernel_rfl) ?_ _
          refine NoPanic.normal ?_
          clear hHeld
          go_wp2_with fail
          go_meet
          exact ⟨_, gn, g1, g2, rfl, rfl, V6, V3, on, o1, o2, B0, by show _ ≤ _; omega⟩
    ·
      simp only [List.getElem_toArray, List.getElem_cons_zero, List.getElem_cons_succ]
      go_simp
      have lt_V6_V3 := V3.lt
      have sz_V6 := B0.size
      refine ent1 _ _ _ (Q := fun V => K _ V) ?_
      intro x12 hb hs_ V6
      replace V3 := Va.after hb V3
      replace B0 := step B0 hb
      clear hb hs_
      refine hK.out _ _ ⟨V3.f0, V3.f1, V3.f2, V3.f3, V3.f4⟩ (fun hHeld => ?_)
      clear hK K
      refine wpAnyH_ready (rs := [1]) (by kernel_rfl) (by simp) ?_
      refine AllReadyH.cons rfl (fun K hK => ?_) AllReadyH.nil
      ·
        simp only [List.getElem_toArray, List.getElem_cons_zero, List.getElem_cons_succ]
        go_simp
        refine (lentN_ex xa ca ns _ (HA.out.after B0) HN.out.1 HN.out.2).mono ?_
        rintro e x13 ⟨gn, rfl, on, hb⟩
        replace V3 := Va.after hb V3
        replace V6 := Va.after hb V6
        replace B0 := step B0 hb
        clear hb
        try go_wp2_with fail
        refine hK.out _ _ ⟨V3.f0, V3.f1, V3.f2, V3.f3, V3.f4⟩ (fun hHeld => ?_)
        clear hK K
        refine wpAnyH_ready (rs := [3]) (by kernel_rfl) (by simp) ?_
        refine AllReadyH.cons rfl (fun K hK => ?_) AllReadyH.nil
        ·
          simp only [List.getElem_toArray, List.getElem_cons_zero, List.getElem_cons_succ]
          go_simp
          refine (lentF_ex a1 c1 a2 c2 f _ (HF.out.after B0) HN1.out.1 HN1.out.2 HN2.out.1 HN2.out.2).mono ?_
          rintro e x14 ⟨g1, g2, rfl, o1, o2, hb⟩
          replace V3 := Va.after hb V3
          replace V6 := Va.after hb V6
          replace on := Om.after hb on
          replace B0 := step B0 hb
          clear hb
          try go_wp2_with fail
          refine hK.out _ _ ⟨V3.f0, V3.f1, V3.f2, V3.f3, V3.f4⟩ (fun hHeld => ?_)
          clear hK K
          refine wpAnyH_take (i := 5) (v := ?_) rfl (by kernel_rfl) (by kernel_rfl) (by kernel_rfl) (fun _ _ _ h => h) (Or.inl ⟨by rfl, ?_⟩) hHeld ?_
          rotate_left
          · (intro W hSw; (try dsimp only at hSw); go_simp; all_goals (with_reducible rfl))
          simp only [List.getElem_toArray, List.getElem_cons_zero, List.getElem_cons_succ, Act.put, List.setIfInBounds_toArray, List.set_cons_zero, List.set_cons_succ]
          have c_V6 := V6.f0
          have f0_V6 := V6.frozen 0
          have d_V6 := V6.f1
          have f1_V6 := V6.frozen 1
          have e_V6 := V6.f2
          have f2_V6 := V6.frozen 2
          have j_V6 := V6.f3
          have f3_V6 := V6.frozen 3
          have k_V6 := V6.f4
          have f4_V6 := V6.frozen 4
          have l_V6 := V6.lt
          have m_V6 := Nat.le_of_lt l_V6
          refine wpAnyH_ready (rs := [6]) (by kernel_rfl) (by simp) ?_
          refine AllReadyH.cons rfl (fun K hK => ?_) AllReadyH.nil
          simp only [List.getElem_toArray, List.getElem_cons_zero, List.getElem_cons_succ]
          go_simp
          clear c_V6 f0_V6 d_V6 f1_V6 e_V6 f2_V6 j_V6 f3_V6 k_V6 f4_V6 l_V6 m_V6
          refine stoF5 V6 (.slice (some ⟨g1, 0, none⟩) f.byr.length (f.byr.length + 12)) (.slice (some ⟨g2, 0, none⟩) f.lin.length (f.lin.length + 12)) (.int .i64 f.amt) (.int .i64 f.dig) (.int .i64 f.qty) (Q := fun W => K _ W) ?_
          intro x15 V' oth far
          replace V3 := oth _ _ _ (by first | omega | assumption | (simp; omega)) V3
          replace on := Om.farS on V6 far.1
          replace o1 := Ot.farS o1 V6 far.1
          replace o2 := Ot.farS o2 V6 far.1
          replace B0 := far.2 _ _ (by first | omega | (simp; omega)) B0
          replace V6 := V'
          clear oth far
          refine hK.out _ _ ⟨V3.f0, V3.f1, V3.f2, V3.f3, V3.f4⟩ (fun hHeld => ?_)
          clear hK K
          refine wpAnyH_done (by kernel_rfl) ?_ _
          refine NoPanic.normal ?_
          clear hHeld
          go_wp2_with fail
          go_meet
          exact ⟨_, gn, g1, g2, rfl, rfl, V6, V3, on, o1, o2, B0, by show _ ≤ _; omega⟩
  case rest =>
    clear V3 B0
    obtain ⟨b6, gn, g1, g2, rfl, rfl, V6', V3', on', o1', o2', B0', hineq'⟩ := hcut
    have V6 := V6'.out
    have V3 := V3'.out
    have on := on'.out
    have o1 := o1'.out
    have o2 := o2'.out
    have B0 := B0'.out
    have hineq := hineq'.out
    clear V6' V3' on' o1' o2' B0' hineq'
    have iq0 := hineq
    clear hineq
    go_wp2_with fail
    refine wp_region_noPanic ?_
    replace V3 : Va wc.drew _ _ _ := V3
    replace V6 : Va wc.drew _ _ _ := V6
    replace on := on.drw
    replace o1 := o1.drw
    replace o2 := o2.drw
    replace B0 := Below.drew B0
    refine wp_region_held_drew (S := (fun W => W.cell? ⟨b6, 0, none⟩ = some (.slice (some ⟨g1, 0, none⟩) f.byr.length (f.byr.length + 12)) ∧ W.cell? ⟨b6, 1, none⟩ = some (.slice (some ⟨g2, 0, none⟩) f.lin.length (f.lin.length + 12)) ∧ W.cell? ⟨b6, 2, none⟩ = some (.int .i64 f.amt) ∧ W.cell? ⟨b6, 3, none⟩ = some (.int .i64 f.dig) ∧ W.cell? ⟨b6, 4, none⟩ = some (.int .i64 f.qty))) (by kernel_rfl) ⟨V6.f0, V6.f1, V6.f2, V6.f3, V6.f4⟩ (fun hHeld => ?_)
    obtain ⟨x11, hxd⟩ : ∃ xd, xd = wc.drew := ⟨_, rfl⟩
    rw [← hxd] at V3 V6 on o1 o2 B0 hHeld ⊢
    clear hxd
    refine wpAnyH_take (i := 0) (v := ?_) rfl (by kernel_rfl) (by kernel_rfl) (by kernel_rfl) (fun _ _ _ h => h) (Or.inl ⟨by rfl, ?_⟩) hHeld ?_
    rotate_left
    · (intro W hSw; (try dsimp only at hSw); go_simp; all_goals (with_reducible rfl))
    simp only [List.getElem_toArray, List.getElem_cons_zero, Act.put, List.setIfInBounds_toArray, List.set_cons_zero, List.set_cons_succ]
    refine wpAnyH_take (i := 2) (v := ?_) rfl (by kernel_rfl) (by kernel_rfl) (by kernel_rfl) (fun _ _ _ h => h) (Or.inl ⟨by rfl, ?_⟩) hHeld ?_
    rotate_left
    · (intro W hSw; (try dsimp only at hSw); go_simp; all_goals (with_reducible rfl))
    simp only [List.getElem_toArray, List.getElem_cons_zero, List.getElem_cons_succ, Act.put, List.setIfInBounds_toArray, List.set_cons_zero, List.set_cons_succ]
    refine wpAnyH_ready (rs := [1]) (by kernel_rfl) (by simp) ?_
    refine AllReadyH.cons rfl (fun K hK => ?_) AllReadyH.nil
    simp only [List.getElem_toArray, List.getElem_cons_zero, List.getElem_cons_succ]
    go_simp
    refine (check13 ns _ _ _ (le_preE (E := elN) on) H6.out).mono ?_
    rintro e x12 ⟨rfl, hb⟩
    replace V3 := Va.after hb V3
    replace V6 := Va.after hb V6
    replace on := Om.after hb on
    replace o1 := Ot.after hb o1
    replace o2 := Ot.after hb o2
    replace B0 := step B0 hb
    clear hb
    try go_wp2_with fail
    refine hK.out _ _ ⟨V6.f0, V6.f1, V6.f2, V6.f3, V6.f4⟩ (fun hHeld => ?_)
    clear hK K
    refine wpAnyH_ready (rs := [3]) (by kernel_rfl) (by simp) ?_
    refine AllReadyH.cons rfl (fun K hK => ?_) AllReadyH.nil
    simp only [List.getElem_toArray, List.getElem_cons_zero, List.getElem_cons_succ]
    go_simp
    refine (fit_any f.byr f.lin _ _ _ _ f.amt f.dig f.qty _ (le_preE (E := elS) o1) (le_preE (E := elS) o2)).mono ?_
    rintro e x13 ⟨rfl, hb⟩
    replace V3 := Va.after hb V3
    replace V6 := Va.after hb V6
    replace on := Om.after hb on
    replace o1 := Ot.after hb o1
    replace o2 := Ot.after hb o2
    replace B0 := step B0 hb
    clear hb
    try go_wp2_with fail
    refine hK.out _ _ ⟨V6.f0, V6.f1, V6.f2, V6.f3, V6.f4⟩ (fun hHeld => ?_)
    clear hK K
    refine wpAnyH_take (i := 4) (v := ?_) rfl (by kernel_rfl) (by kernel_rfl) (by kernel_rfl) (fun _ _ _ h => h) (Or.inl ⟨by rfl, ?_⟩) hHeld ?_
    rotate_left
    · (intro W hSw; (try dsimp only at hSw); go_simp; all_goals (with_reducible rfl))
    simp only [List.getElem_toArray, List.getElem_cons_zero, List.getElem_cons_succ, Act.put, List.setIfInBounds_toArray, List.set_cons_zero, List.set_cons_succ]
    refine wpAnyH_take (i := 5) (v := ?_) rfl (by kernel_rfl) (by kernel_rfl) (by kernel_rfl) (fun _ _ _ h => h) (Or.inl ⟨by rfl, ?_⟩) hHeld ?_
    rotate_left
    · (intro W hSw; (try dsimp only at hSw); go_simp; all_goals (with_reducible rfl))
    simp only [List.getElem_toArray, List.getElem_cons_zero, List.getElem_cons_succ, Act.put, List.setIfInBounds_toArray, List.set_cons_zero, List.set_cons_succ]
    refine wpAnyH_done (by kernel_rfl) ?_ _
    refine NoPanic.normal ?_
    clear hHeld
    obtain ⟨E1, hE1⟩ : ∃ x, ckE ns = x := ⟨_, rfl⟩
    obtain ⟨E2, hE2⟩ : ∃ x, ftE f.byr f.lin f.amt f.dig f.qty = x := ⟨_, rfl⟩
    rw [hE1, hE2]
    have HE : Hid (ckE ns = E1 ∧ ftE f.byr f.lin f.amt f.dig f.qty = E2) := ⟨hE1, hE2⟩
    clear hE1 hE2
    have D1 := rchk13_any ns xa ca x13 H6.out (HA.out.after B0)
    rw [HE.out.1] at D1
    go_wp2_with fail
    refine (D1).mono ?_
    rintro e x14 ⟨rfl, hb⟩
    replace V3 := Va.after hb V3
    replace V6 := Va.after hb V6
    replace on := Om.after hb on
    replace o1 := Ot.after hb o1
    replace o2 := Ot.after hb o2
    replace B0 := step B0 hb
    clear hb
    clear D1
    have D2 := rfit_any f.byr f.lin a1 c1 a2 c2 f.amt f.dig f.qty x14 (HF.out.after B0).l1 (HF.out.after B0).l2
    rw [HE.out.2] at D2
    have c_V3 := V3.f0
    have f0_V3 := V3.frozen 0
    have d_V3 := V3.f1
    have f1_V3 := V3.frozen 1
    have e_V3 := V3.f2
    have f2_V3 := V3.frozen 2
    have j_V3 := V3.f3
    have f3_V3 := V3.frozen 3
    have k_V3 := V3.f4
    have f4_V3 := V3.frozen 4
    have l_V3 := V3.lt
    have m_V3 := Nat.le_of_lt l_V3
    go_wp2_with fail
    clear c_V3 f0_V3 d_V3 f1_V3 e_V3 f2_V3 j_V3 f3_V3 k_V3 f4_V3 l_V3 m_V3
    refine (D2).mono ?_
    rintro e x15 ⟨rfl, hb⟩
    replace V3 := Va.after hb V3
    replace V6 := Va.after hb V6
    replace on := Om.after hb on
    replace o1 := Ot.after hb o1
    replace o2 := Ot.after hb o2
    replace B0 := step B0 hb
    clear hb
    clear D2
    have D3 := keptN_any xa ns.length ca gn ns x15 (HA.out.after B0) on HN.out.2
    go_wp2_with fail
    refine (D3).mono ?_
    rintro e x16 ⟨rfl, hb⟩
    replace V3 := Va.after hb V3
    replace V6 := Va.after hb V6
    replace on := Om.after hb on
    replace o1 := Ot.after hb o1
    replace o2 := Ot.after hb o2
    replace B0 := step B0 hb
    clear hb
    clear D3
    have D4 := keptF_any f g1 g2 a1 c1 a2 c2 x16 (HF.out.after B0) o1 o2 HN2.out.1 HN2.out.2
    dsimp only [fxv] at D4
    have c_V3 := V3.f0
    have f0_V3 := V3.frozen 0
    have d_V3 := V3.f1
    have f1_V3 := V3.frozen 1
    have e_V3 := V3.f2
    have f2_V3 := V3.frozen 2
    have j_V3 := V3.f3
    have f3_V3 := V3.frozen 3
    have k_V3 := V3.f4
    have f4_V3 := V3.frozen 4
    have l_V3 := V3.lt
    have m_V3 := Nat.le_of_lt l_V3
    have c_V6 := V6.f0
    have f0_V6 := V6.frozen 0
    have d_V6 := V6.f1
    have f1_V6 := V6.frozen 1
    have e_V6 := V6.f2
    have f2_V6 := V6.frozen 2
    have j_V6 := V6.f3
    have f3_V6 := V6.frozen 3
    have k_V6 := V6.f4
    have f4_V6 := V6.frozen 4
    have l_V6 := V6.lt
    have m_V6 := Nat.le_of_lt l_V6
    go_wp2_with fail
    clear c_V3 f0_V3 d_V3 f1_V3 e_V3 f2_V3 j_V3 f3_V3 k_V3 f4_V3 l_V3 m_V3 c_V6 f0_V6 d_V6 f1_V6 e_V6 f2_V6 j_V6 f3_V6 k_V6 f4_V6 l_V6 m_V6
    refine (D4).mono ?_
    rintro e x17 ⟨rfl, hb⟩
    replace V3 := Va.after hb V3
    replace V6 := Va.after hb V6
    replace on := Om.after hb on
    replace o1 := Ot.after hb o1
    replace o2 := Ot.after hb o2
    replace B0 := step B0 hb
    clear hb
    clear D4
    have D5 := awake13 x17 (HT.out.to B0)
    go_wp2_with fail
    refine (D5).mono ?_
    rintro e x18 ⟨rfl, hb⟩
    replace V3 := Va.after hb V3
    replace V6 := Va.after hb V6
    replace on := Om.after hb on
    replace o1 := Ot.after hb o1
    replace o2 := Ot.after hb o2
    replace B0 := step B0 hb
    clear hb
    clear D5
    go_wp2_with fail
    go_ret
    exact ⟨rfl, B0⟩
end Go.Proofs.YtblafbbnplfpjaaGreatDoor
namespace Go.Proofs.YtblafbbnplfpjaaGreatDoor
open Go.RowKit Go.Shelf
set_option linter.unusedVariables false

theorem n64_of_ok : ∀ (a : Fo) (o : Int) (d : Nat), a.Ok wdB o d → a.flat.length ≤ 64 → (∀ n ∈ a.flat, N64 n) → ∀ neg, ∀ n ∈ (a.plain neg).flat, N64 n
  | .nil, _, _, _, _, _, _, n, hn => by simp [Fo.plain, Fo.flat] at hn
  | .cons n k r, o, d, h, hl, h6, neg, m, hm => by
    simp only [Fo.flat, List.length_cons, List.length_append] at hl
    have hr := n64_of_ok r o d h.2 (by omega) (fun x hx => h6 x (by simp [Fo.flat, hx])) neg
    have hkk := fun ng => n64_of_ok k n.kd (d + 1) h.1.2.2.2.2 (by omega) (fun x hx => h6 x (by simp [Fo.flat, hx])) ng
    have hn6 : N64 n := h6 n (by simp [Fo.flat])
    have hlen := plain_len k neg _ _ h.1.2.2.2.2
    unfold Fo.plain at hm
    rw [Fo.flat_app, List.mem_append] at hm
    rcases hm with hm | hm
    · have hin : ∀ (c : Int) (a : Fo), ∀ x ∈ (a.melt c).flat, x ∈ a.flat := by
        intro c a
        induction a with
        | nil => intro x hx; exact hx
        | cons n' k' r' _ ih =>
          intro x hx
          unfold Fo.melt at hx
          split at hx
          · rw [Fo.flat_app, List.mem_append] at hx
            simp only [Fo.flat, List.mem_cons, List.mem_append]
            rcases hx with hx | hx
            · exact .inr (.inl hx)
            · exact .inr (.inr (ih x hx))
          · simp only [Fo.flat, List.mem_cons, List.mem_append] at hx ⊢
            rcases hx with hx | hx | hx
            · exact .inl hx
            · exact .inr (.inl hx)
            · exact .inr (.inr (ih x hx))
      split at hm
      · rename_i e
        simp only [Fo.flat, List.mem_cons, List.append_nil] at hm
        rcases hm with rfl | hm
        · intro x hx
          have h1 := Fo.len_flat ((k.plain neg).melt (if neg = true then 3 - n.kd else n.kd))
          have h2 := melt_size (if neg = true then 3 - n.kd else n.kd) (k.plain neg)
          have h3 := plain_size k neg
          simp only [List.mem_cons, List.not_mem_nil, or_false] at hx
          rcases hx with rfl | rfl | rfl | rfl | rfl
          · split <;> omega
          all_goals omega
        · exact hkk neg m (hin _ _ m hm)
      split at hm
      · exact hkk (!neg) m hm
      split at hm
      · split at hm
        · simp [Fo.flat] at hm
          rcases hm with rfl | rfl
          · intro x hx; simp [ndN] at hx; omega
          · exact hn6
        · simp [Fo.flat] at hm
          rw [hm]; exact hn6
      · rename_i e1 e2 e3
        simp [Fo.flat] at hm
        rw [hm]
        split
        · intro x hx
          have h4 : 1 ≤ n.op ∧ n.op ≤ 4 := by
            rcases h.1.1 with ⟨h', -⟩ | ⟨h', -⟩ | ⟨h', -⟩ | ⟨-, -, -, h1, h2, -⟩
            · exact absurd h' e1
            · exact absurd h' e2
            · exact absurd h' e3
            · exact ⟨h1, h2⟩
          simp only [List.mem_cons, List.not_mem_nil, or_false] at hx
          rcases hx with rfl | rfl | rfl | rfl | rfl
          · exact hn6 _ (by simp)
          · exact hn6 _ (by simp)
          · omega
          · exact hn6 _ (by simp)
          · exact hn6 _ (by simp)
        · exact hn6
    · exact hr m hm
/-- All that is asked of a condition made plain. -/
structure Pln (ns out : List Nd) : Prop where
  c1 : Cond wdB ns
  c2 : Cond wdB out
  pl : ∀ o e, PlR out o e → o = out ∧ e = 0
  sg : sgl out = true
  n6 : ∀ n ∈ out, N64 n
  l : out.length ≤ 64
  em : (out.length = 0) ↔ (ns.length = 0)
  hB : ∀ f : Fx, hoB ns f = hoB out f
  hE : ∀ f : Fx, hoE ns f = hoE out f
  n4 : nms 4 ns = nms 4 out
  n5 : nms 5 ns = nms 5 out
theorem cond_nil : Cond wdB [] := .inl rfl
theorem hoE_of {ns out : List Nd} (h1 : Cond wdB ns) (h2 : Cond wdB out) (f : Fx) : hoE ns f = hoE out f := by simp [hoE, h1, h2]
theorem pln_of {ns out : List Nd} {er : Int} (h : PlR ns out er) (he : er = 0) (h6 : ∀ n ∈ ns, N64 n) : Pln ns out := by
  rcases h with ⟨-, -, h⟩ | ⟨rfl, rfl, -⟩ | ⟨n, k, e, ok, hl, h⟩
  · omega
  · refine ⟨cond_nil, cond_nil, ?_, rfl, by simp, by simp, Iff.rfl, fun f => rfl, fun f => rfl, rfl, rfl⟩
    rintro o e (⟨h, -⟩ | ⟨-, rfl, rfl⟩ | ⟨n, k, h, -⟩)
    · exact absurd cond_nil h
    · exact ⟨rfl, rfl⟩
    · simp [Fo.flat] at h
  · rcases h with ⟨-, -, h⟩ | ⟨hp, rfl, -⟩
    · omega
    · obtain ⟨m, j, e1, ok2, pid, sg, hev, hnm⟩ := plain_all ok
      have h6' := n64_of_ok _ _ _ ok (by rw [← e]; exact hl) (by rw [← e]; exact h6) false
      rw [e1] at hp h6' ⊢
      have c1 : Cond wdB ns := .inr ⟨hl, n, k, e, ok⟩
      have c2 : Cond wdB (Fo.cons m j .nil).flat := .inr ⟨hp, m, j, rfl, ok2⟩
      refine ⟨c1, c2, ?_, sg, h6', hp, ?_, ?_, fun f => hoE_of c1 c2 f, ?_, ?_⟩
      · rintro o er (⟨h, -⟩ | ⟨h, -⟩ | ⟨n', k', h, ok', -, h'⟩)
        · exact absurd c2 h
        · simp [Fo.flat] at h
        · have := (flat_inj _ _ _ _ _ _ [] [] ok2 ok' rfl (by rw [h])).1
          rw [← this, pid] at h'
          rcases h' with ⟨h', -⟩ | ⟨-, rfl, rfl⟩
          · omega
          · exact ⟨rfl, rfl⟩
      · rw [e]; simp [Fo.flat]
      · intro f
        unfold hoB
        by_cases hf : f.Ok
        · rw [if_pos ⟨c1, hf⟩, if_pos ⟨c2, hf⟩, hoV_eq e ok, hoV_eq rfl ok2]
          have := hev f.vf (vfa_turns _ _ _ _)
          rw [ev_cons, ev_cons] at this
          simp only [List.cons.injEq] at this
          exact this.1.symm
        · rw [if_neg (fun h => hf h.2), if_neg (fun h => hf h.2)]
      · rw [e]; exact (hnm 4 (.inl rfl)).symm
      · rw [e]; exact (hnm 5 (.inr rfl)).symm
theorem plr_bad {ns out : List Nd} {er : Int} (h : PlR ns out er) (he : er ≠ 0) : out = [] ∧ ((er = 3 ∧ Cond wdB ns) ∨ (er = 131 ∧ ¬ Cond wdB ns)) := by
  rcases h with ⟨h, rfl, rfl⟩ | ⟨-, -, h⟩ | ⟨n, k, e, ok, hl, h⟩
  · exact ⟨rfl, .inr ⟨rfl, h⟩⟩
  · exact absurd h he
  · rcases h with ⟨-, rfl, rfl⟩ | ⟨-, -, h⟩
    · exact ⟨rfl, .inl ⟨rfl, .inr ⟨hl, n, k, e, ok⟩⟩⟩
    · exact absurd h he
end Go.Proofs.YtblafbbnplfpjaaGreatDoor
namespace Go.Proofs.YtblafbbnplfpjaaGreatDoor
open Go.RowKit Go.Shelf
set_option linter.unusedVariables false

theorem len_srt (l : List (List UInt8)) : (srt l).length ≤ l.length := by
  unfold srt
  exact Nat.le_trans (compact_le _) (by rw [List.length_mergeSort]; exact Nat.le_refl _)
theorem len_nms (c : Int) (l : List Nd) : (nms c l).length ≤ l.length := by
  unfold nms
  rw [List.length_map]; exact List.length_filter_le _ _
theorem cond_len {ns : List Nd} (h : Cond wdB ns) : ns.length ≤ 64 := by
  rcases h with rfl | h
  · simp
  · exact h.1
end Go.Proofs.YtblafbbnplfpjaaGreatDoor
namespace Go.Proofs.YtblafbbnplfpjaaGreatDoor
open Go.ChangeShapes Go.WideShapes Go.ChangeAt Go.RowKit
set_option linter.unusedVariables false

theorem gTens : Tryz.prog.globalNamed "tollbook/decimal.tens" = some 0 := by kernel_rfl
theorem gTensT : (Tryz.prog.globals[0]?).map (·.type) = some 118 := by kernel_rfl
theorem cTens : Tryz.prog.cellsOf 118 = 10 := by kernel_rfl
theorem cI64 : Tryz.prog.cellsOf 2 = 1 := by kernel_rfl
theorem tnOf {W : World} {rest : List (String × DataW Unit)} (h : laidMet Tryz.prog (("tollbook/decimal.tens", Rows.laid_tollbook_decimal_tens) :: rest) W) : Tn W :=
  Go.Lib.tabIs_of_head (zs := [1, 10, 100, 1000, 10000, 100000, 1000000, 10000000, 100000000, 1000000000]) gTens gTensT Tryz.underlying118 Tryz.underlying2 cI64 cTens h
theorem list5 {α : Type} {l : List α} (h : l.length = 5) : ∃ a b c d e, l = [a, b, c, d, e] := by
  match l, h with
  | [a, b, c, d, e], _ => exact ⟨a, b, c, d, e, rfl⟩
theorem list6 {α : Type} {l : List α} (h : l.length = 6) : ∃ a b c d e f, l = [a, b, c, d, e, f] := by
  match l, h with
  | [a, b, c, d, e, f], _ => exact ⟨a, b, c, d, e, f, rfl⟩
theorem B64_of_wf {x : Int} (h : (Lit.int .i64 x).wf = true) : -9223372036854775808 ≤ x ∧ x ≤ 9223372036854775807 := by
  simp [Lit.wf, IntKind.min, IntKind.max, IntKind.signed, IntKind.bits] at h
  omega
theorem sv_of (s : ByteArray) : Value.string s = sv s.data.toList := by simp [sv]
instance : Inhabited Nd := ⟨nd0⟩
theorem cNode : Tryz.prog.cellsOf 48 = 6 := by kernel_rfl
section
variable {H : Type} {enc : TypeId × Value → H} {W : World} {sp : Nat → Bool} {hd : Bool}
theorem node_open {n : Nat} {cs : List Value} {y : DataW H × List MemPlace} (h2 : DataW.trod enc Tryz.prog W 0 sp hd n 48 cs = some y) : ∃ nd : Nd, cs = encN nd ∧ N64 nd := by
  obtain ⟨xs, k, _, _, hl, hxl, hf⟩ := DataW.trod_struct Tryz.underlying48 h2
  obtain ⟨v0, v1, v2, v3, v4, v5, rfl⟩ := list6 (hl.trans cNode)
  obtain ⟨y0, y1, y2, y3, y4, rfl⟩ := list5 hxl
  have g0 := hf 0 _ rfl
  have g1 := hf 1 _ rfl
  have g2 := hf 2 _ rfl
  have g3 := hf 3 _ rfl
  have g4 := hf 4 _ rfl
  have e1 : Tryz.prog.cellsOf 43 = 1 := by kernel_rfl
  have e2 : Tryz.prog.cellsOf 3 = 1 := by kernel_rfl
  have e3 : Tryz.prog.cellsOf 9 = 1 := by kernel_rfl
  have e4 : Tryz.prog.cellsOf 44 = 1 := by kernel_rfl
  have e5 : Tryz.prog.cellsOf 46 = 2 := by kernel_rfl
  simp [e1, e2, e3, e4, e5] at g0 g1 g2 g3 g4
  obtain ⟨kd, h0, -, w0⟩ := DataW.trod_int Tryz.underlying43 g0
  obtain ⟨ks, h1, -, w1⟩ := DataW.trod_int Tryz.underlying3 g1
  obtain ⟨nm, h2', -, -⟩ := DataW.trod_string Tryz.underlying9 g2
  obtain ⟨op, h3, -, w3⟩ := DataW.trod_int Tryz.underlying44 g3
  obtain ⟨xs5, k5, _, _, hl5, hxl5, hf5⟩ := DataW.trod_struct Tryz.underlying46 g4
  have q0 := hf5 0 _ rfl
  have q1 := hf5 1 _ rfl
  have e6 : Tryz.prog.cellsOf 2 = 1 := by kernel_rfl
  have hx5 : xs5.length = 2 := hxl5
  match xs5, hx5 with
  | [z0, z1], _ =>
    simp [e6, e2] at q0 q1
    obtain ⟨un, h4, -, w4⟩ := DataW.trod_int Tryz.underlying2 q0
    obtain ⟨pl, h5, -, w5⟩ := DataW.trod_int Tryz.underlying3 q1
    simp at h0 h1 h2' h3 h4 h5
    subst h0 h1 h2' h3 h4 h5
    refine ⟨⟨kd, ks, nm.data.toList, op, un, pl⟩, by simp [encN, sv], ?_⟩
    intro x hx
    simp only [List.mem_cons, List.not_mem_nil, or_false] at hx
    rcases hx with rfl | rfl | rfl | rfl | rfl
    · exact B64_of_wf w0
    · exact B64_of_wf w1
    · exact B64_of_wf w3
    · exact B64_of_wf w4
    · exact B64_of_wf w5
theorem open_nodes {a : Option Addr} {len cap : Nat} {d : DataW H} {p : List MemPlace} (h : DataW.Trod enc Tryz.prog W 0 sp hd 22 (.slice a len cap) d p) :
    ∃ ns : List Nd, Le elN W a len ns ∧ (∀ n ∈ ns, N64 n) := by
  obtain ⟨fuel, hf⟩ := h
  rcases Go.Deep.open_slice Tryz.underlying22 hf with ⟨hcs, _⟩ | ⟨ad, l, c, m, n, D, Pl, hcs, _, hl, hm, hmm, _, hx⟩
  · simp [Value.cells] at hcs
    obtain ⟨rfl, rfl, rfl⟩ := hcs
    exact ⟨[], Le.nil _ _, fun n hn => by simp at hn⟩
  · simp [Value.cells] at hcs
    obtain ⟨rfl, rfl, rfl⟩ := hcs
    have hlm : len ≤ m := by rw [hmm]; split <;> omega
    have each : ∀ i, i < len → ∃ nd : Nd, (∀ j u, (encN nd)[j]? = some u → W.cell? ((ad.add (i * 6)).add j) = some u) ∧ N64 nd := by
      intro i hi
      obtain ⟨cs', h1, h2⟩ := hx i (by omega)
      rw [cNode] at h1
      obtain ⟨nd, rfl, h6⟩ := node_open h2
      obtain ⟨_, hlen, hcell⟩ := World.cells?_some h1
      refine ⟨nd, fun j u hj => ?_, h6⟩
      have hj6 : j < 6 := by
        rcases Nat.lt_or_ge j 6 with h' | h'
        · exact h'
        · rw [List.getElem?_eq_none (by exact h')] at hj; cases hj
      have := hcell j hj6
      rw [this, hj]
    obtain ⟨Q, hQ⟩ := Go.Deep.choose_lt each
    refine ⟨(List.range len).map Q, ⟨by simp, fun h0 => ?_⟩, fun n hn => ?_⟩
    · obtain ⟨b, off, spot⟩ := ad
      have hspot : spot = none := by
        have := (hQ 0 h0).1 0 _ rfl
        simpa [Addr.add] using World.cell?_spot this
      subst hspot
      refine ⟨b, off, rfl, fun i u hu => ?_⟩
      have hlen : (rowE elN ((List.range len).map Q)).length = len * 6 := by rw [rowE_length]; simp; rfl
      have hi : i < len * 6 := by
        rcases Nat.lt_or_ge i (rowE elN ((List.range len).map Q)).length with h' | h'
        · omega
        · rw [List.getElem?_eq_none h'] at hu; cases hu
      have hq := rowE_get elN (i % 6) (Nat.mod_lt _ (by decide)) ((List.range len).map Q) (i / 6) (by simp; omega)
      rw [show i / 6 * elN.s + i % 6 = i by show i / 6 * 6 + i % 6 = i; omega, hu] at hq
      have hg : ((List.range len).map Q).getD (i / 6) elN.dft = Q (i / 6) := by simp [show i / 6 < len by omega]
      rw [hg] at hq
      have := (hQ (i / 6) (by omega)).1 (i % 6) u hq.symm
      rw [Go.WideShapes.add_plain, Go.WideShapes.add_plain] at this
      rw [← this]
      congr 2
      omega
    · simp only [List.mem_map, List.mem_range] at hn
      obtain ⟨i, hi, rfl⟩ := hn
      exact (hQ i hi).2
theorem texts_open {n : Nat} {cs : List Value} {y : DataW H × List MemPlace} (h : DataW.trod enc Tryz.prog W 0 sp hd n 23 cs = some y) : ∃ (a : Option Addr) (c : Nat) (l : List (List UInt8)), cs = [.slice a l.length c] ∧ Le elS W a l.length l := by
  rcases open_strings Tryz.underlying23 Tryz.underlying9 (by kernel_rfl) h with ⟨hcs, _⟩ | ⟨ad, l, c, ss, hcs, _, hl, hm, hz, hx, hcell, _⟩
  · exact ⟨none, 0, [], hcs, Le.nil _ _⟩
  · have hzl : l ≤ ss.length := by rw [hz]; split <;> omega
    have hll : ((ss.take l).map (fun s : ByteArray => s.data.toList)).length = l := by simp; omega
    refine ⟨some ad, c, (ss.take l).map (fun s : ByteArray => s.data.toList), by rw [hll]; exact hcs, rfl, fun h0 => ?_⟩
    rw [hll] at h0
    obtain ⟨b, off, spot⟩ := ad
    have hspot : spot = none := by
      have := hcell 0 (by omega)
      simpa [Addr.add] using World.cell?_spot this
    subst hspot
    refine ⟨b, off, rfl, fun i u hu => ?_⟩
    have hi : i < l := by
      rcases Nat.lt_or_ge i (rowE elS ((ss.take l).map (fun s : ByteArray => s.data.toList))).length with h' | h'
      · rw [rowE_length, hll] at h'
        have h'' : i < l * 1 := h'
        omega
      · rw [List.getElem?_eq_none h'] at hu; cases hu
    have hq := rowE_get elS 0 (by decide) ((ss.take l).map (fun s : ByteArray => s.data.toList)) i (by rw [hll]; exact hi)
    rw [show i * elS.s + 0 = i by show i * 1 + 0 = i; omega, hu] at hq
    have hg : ((ss.take l).map (fun s : ByteArray => s.data.toList)).getD i elS.dft = (ss.getD i ByteArray.empty).data.toList := by
      rw [List.getD_eq_getElem?_getD, List.getElem?_map, List.getElem?_take_of_lt hi, List.getD_eq_getElem?_getD, List.getElem?_eq_getElem (by omega)]; rfl
    rw [hg] at hq
    have e : u = sv (ss.getD i ByteArray.empty).data.toList := by simpa [elS] using hq
    have := hcell i (by omega)
    rw [Go.WideShapes.add_plain] at this
    rw [this, e, sv_of]
set_option maxRecDepth 100000 in
theorem open_facts {r : Reach} {b0 : Nat} {v : Value} {d : DataW H} {p : List MemPlace} (hv : Value.okWide Tryz.prog W r b0 25 v) (h : DataW.Trod enc Tryz.prog W 0 sp hd 25 v d p) :
    ∃ (a1 : Option Addr) (c1 : Nat) (a2 : Option Addr) (c2 : Nat) (f : Fx), v = fxv a1 c1 a2 c2 f ∧ Lf W a1 c1 a2 c2 f := by
  obtain ⟨cs, rfl, hsz⟩ := okWide_struct Tryz.underlying25 hv
  obtain ⟨fuel, hf⟩ := h
  obtain ⟨xs, k, _, _, hl, hxl, hf⟩ := DataW.trod_struct Tryz.underlying25 hf
  have hC : Tryz.prog.cellsOf 25 = 5 := by kernel_rfl
  have hcl : (Value.agg cs).cells.toList.length = 5 := hl.trans hC
  obtain ⟨v0, v1, v2, v3, v4, hcs⟩ := list5 hcl
  have hcs' : cs.toList = [v0, v1, v2, v3, v4] := hcs
  obtain rfl : cs = #[v0, v1, v2, v3, v4] := by rw [← hcs']
  obtain ⟨y0, y1, y2, y3, y4, rfl⟩ := list5 hxl
  have g0 := hf 0 _ rfl
  have g1 := hf 1 _ rfl
  have g2 := hf 2 _ rfl
  have g3 := hf 3 _ rfl
  have g4 := hf 4 _ rfl
  have e1 : Tryz.prog.cellsOf 23 = 1 := by kernel_rfl
  have e2 : Tryz.prog.cellsOf 3 = 1 := by kernel_rfl
  have e3 : Tryz.prog.cellsOf 2 = 1 := by kernel_rfl
  rw [hcs] at g0 g1 g2 g3 g4
  simp [e1, e2, e3] at g0 g1 g2 g3 g4
  obtain ⟨a1, c1, l1, h0, L1⟩ := texts_open g0
  obtain ⟨a2, c2, l2, h1, L2⟩ := texts_open g1
  obtain ⟨am, h2, -, w2⟩ := DataW.trod_int Tryz.underlying2 g2
  obtain ⟨dg, h3, -, w3⟩ := DataW.trod_int Tryz.underlying3 g3
  obtain ⟨qt, h4, -, w4⟩ := DataW.trod_int Tryz.underlying2 g4
  simp at h0 h1 h2 h3 h4
  subst h0 h1 h2 h3 h4
  exact ⟨a1, c1, a2, c2, ⟨l1, l2, am, dg, qt⟩, rfl, L1, L2, B64_of_wf w2, B64_of_wf w3, B64_of_wf w4⟩
end
end Go.Proofs.YtblafbbnplfpjaaGreatDoor
namespace Go.Proofs.YtblafbbnplfpjaaGreatDoor
open Go.ChangeShapes Go.WideShapes Go.ChangeAt Go.RowKit
set_option linter.unusedVariables false

theorem bNode : Tryz.prog.bytesOf 48 = 56 := by kernel_rfl
theorem bStr : Tryz.prog.bytesOf 9 = 16 := by kernel_rfl
section
variable {H : Type} {enc : TypeId × Value → H} {W : World} {sp : Nat → Bool} {hd : Bool}
theorem nodes_need {a : Option Addr} {len cap : Nat} {d : DataW H} {p : List MemPlace} {ts : List TypeId} {ds : List (DataW H)} {j : Nat} (h : DataW.Trod enc Tryz.prog W 0 sp hd 22 (.slice a len cap) d p)
    (hsz : (DataW.weightsEach Tryz.prog ts ds).all (· ≤ reachBytes) = true) (ht : ts[j]? = some 22) (hj : ds[j]? = some d) : (a = none → len = 0 ∧ cap = 0) ∧ len ≤ 5000000000000 := by
  obtain ⟨fuel, hf⟩ := h
  rcases Go.Deep.open_slice Tryz.underlying22 hf with ⟨hcs, _⟩ | ⟨ad, l, c, m, n, D, Pl, hcs, _, hl, hm, hmm, hx, _⟩
  · simp [Value.cells] at hcs
    obtain ⟨rfl, rfl, rfl⟩ := hcs
    exact ⟨fun _ => ⟨rfl, rfl⟩, by omega⟩
  · simp [Value.cells] at hcs
    obtain ⟨rfl, rfl, rfl⟩ := hcs
    have hd' : d = _ := congrArg Prod.fst hx
    have hs := sized_slice hsz (j := j) (t := 22) (e := 48) ht (by rw [hj, hd']) Tryz.underlying22
    rw [bNode] at hs
    refine ⟨fun h => (by cases h), ?_⟩
    simp only [List.length_map, List.length_range, reachBytes] at hs
    omega
theorem texts_open2 {n : Nat} {cs : List Value} {y : DataW H × List MemPlace} (h : DataW.trod enc Tryz.prog W 0 sp hd n 23 cs = some y) : ∃ (a : Option Addr) (c : Nat) (l : List (List UInt8)), cs = [.slice a l.length c] ∧ Le elS W a l.length l ∧ (a = none → l.length = 0 ∧ c = 0) ∧ ((∀ k ∈ y.1.weights Tryz.prog 23, k ≤ reachBytes) → l.length ≤ 9000000000000) := by
  obtain ⟨a, c, l, rfl, hL⟩ := texts_open h
  refine ⟨a, c, l, rfl, hL, ?_⟩
  rcases open_strings Tryz.underlying23 Tryz.underlying9 (by kernel_rfl) h with ⟨hcs, _⟩ | ⟨ad, l', c', ss, hcs, _, hl, hm, hz, hx, hcell, _⟩
  · simp at hcs
    obtain ⟨rfl, h1, rfl⟩ := hcs
    exact ⟨fun _ => ⟨by rw [h1]; rfl, rfl⟩, fun _ => by rw [h1]; simp⟩
  · simp at hcs
    obtain ⟨rfl, h1, rfl⟩ := hcs
    refine ⟨fun h => (by cases h), fun hk => ?_⟩
    have hd' : y.1 = DataW.slice (strs (ss.take l')) (strs (ss.drop l')) := congrArg Prod.fst hx
    have hs := hk (((strs (H := H) (ss.take l')).length + (strs (H := H) (ss.drop l')).length) * Tryz.prog.bytesOf 9) (by rw [hd']; simp [DataW.weights, Tryz.underlying23])
    rw [bStr] at hs
    have hzl : l' ≤ ss.length := by rw [hz]; split <;> omega
    simp only [strs, List.length_map, List.length_take, List.length_drop, reachBytes] at hs
    omega
set_option maxRecDepth 100000 in
theorem facts_open {r : Reach} {b0 : Nat} {v : Value} {d : DataW H} {p : List MemPlace} {ts : List TypeId} {ds : List (DataW H)} {j : Nat} (hv : Value.okWide Tryz.prog W r b0 25 v) (h : DataW.Trod enc Tryz.prog W 0 sp hd 25 v d p)
    (hsz : (DataW.weightsEach Tryz.prog ts ds).all (· ≤ reachBytes) = true) (ht : ts[j]? = some 25) (hj : ds[j]? = some d) :
    ∃ (a1 : Option Addr) (c1 : Nat) (a2 : Option Addr) (c2 : Nat) (f : Fx), v = fxv a1 c1 a2 c2 f ∧ Lf W a1 c1 a2 c2 f ∧ (a1 = none → f.byr.length = 0 ∧ c1 = 0) ∧ (a2 = none → f.lin.length = 0 ∧ c2 = 0) ∧ f.byr.length ≤ 9000000000000 ∧ f.lin.length ≤ 9000000000000 := by
  obtain ⟨cs, rfl, hsz'⟩ := okWide_struct Tryz.underlying25 hv
  obtain ⟨fuel, hf⟩ := h
  obtain ⟨xs, k, _, hx, hl, hxl, hf⟩ := DataW.trod_struct Tryz.underlying25 hf
  have hd' : d = DataW.agg (xs.map (·.1)) := congrArg Prod.fst hx
  have hC : Tryz.prog.cellsOf 25 = 5 := by kernel_rfl
  have hcl : (Value.agg cs).cells.toList.length = 5 := hl.trans hC
  obtain ⟨v0, v1, v2, v3, v4, hcs⟩ := list5 hcl
  have hcs' : cs.toList = [v0, v1, v2, v3, v4] := hcs
  obtain rfl : cs = #[v0, v1, v2, v3, v4] := by rw [← hcs']
  obtain ⟨y0, y1, y2, y3, y4, rfl⟩ := list5 hxl
  have g0 := hf 0 _ rfl
  have g1 := hf 1 _ rfl
  have g2 := hf 2 _ rfl
  have g3 := hf 3 _ rfl
  have g4 := hf 4 _ rfl
  have e1 : Tryz.prog.cellsOf 23 = 1 := by kernel_rfl
  have e2 : Tryz.prog.cellsOf 3 = 1 := by kernel_rfl
  have e3 : Tryz.prog.cellsOf 2 = 1 := by kernel_rfl
  rw [hcs] at g0 g1 g2 g3 g4
  simp [e1, e2, e3] at g0 g1 g2 g3 g4
  have hw : ∀ k ∈ DataW.weightsEach Tryz.prog [23, 23, 2, 3, 2] [y0.1, y1.1, y2.1, y3.1, y4.1], k ≤ reachBytes := fun k hk => by
    have h2 : k ∈ DataW.weights Tryz.prog 25 d := by
      rw [hd']
      simp only [DataW.weights, Tryz.underlying25]
      exact hk
    exact of_decide_eq_true (List.all_eq_true.1 hsz _ (DataW.weights_mem_each (j := j) (t := 25) (d := d) ht hj _ h2))
  obtain ⟨a1, c1, l1, h0, L1, n1, b1⟩ := texts_open2 g0
  obtain ⟨a2, c2, l2, h1, L2, n2, b2⟩ := texts_open2 g1
  obtain ⟨am, h2, -, w2⟩ := DataW.trod_int Tryz.underlying2 g2
  obtain ⟨dg, h3, -, w3⟩ := DataW.trod_int Tryz.underlying3 g3
  obtain ⟨qt, h4, -, w4⟩ := DataW.trod_int Tryz.underlying2 g4
  simp at h0 h1 h2 h3 h4
  subst h0 h1 h2 h3 h4
  exact ⟨a1, c1, a2, c2, ⟨l1, l2, am, dg, qt⟩, rfl, ⟨L1, L2, B64_of_wf w2, B64_of_wf w3, B64_of_wf w4⟩, n1, n2, b1 (fun k hk => hw k (DataW.weights_mem_each (j := 0) (t := 23) rfl rfl k hk)), b2 (fun k hk => hw k (DataW.weights_mem_each (j := 1) (t := 23) rfl rfl k hk))⟩
end
end Go.Proofs.YtblafbbnplfpjaaGreatDoor
namespace Go.Proofs.YtblafbbnplfpjaaGreatDoor.traitChecks
open Go.ChangeShapes Go.WideShapes Go.ChangeAt Go.RowKit
set_option linter.unusedVariables false

theorem own : ownKnob Tryz.prog.godebug = none := by kernel_rfl
theorem laidOut : laidOutB Tryz.prog = true := by kernel_rfl

set_option maxRecDepth 100000 in
theorem contract (H : Type) (enc : TypeId × Value → H) (W : World) (base : Nat) (args : Array Value) (ds gs : List (DataW H)) (before : List MemPlace)
    (hval : ∀ (j : Nat) t v, Tryz.f3.params[j]? = some t → args[j]? = some v → Value.okWide Tryz.prog W .any base t v)
    (hW : DataW.Whole enc Tryz.prog Tryz.f3.params.toList Rows.traitChecksSpec.vars false W args.toList ds gs before) (hsz : (DataW.weightsEach Tryz.prog (Tryz.f3.params.toList ++ Rows.traitChecksSpec.plain.varTypes Tryz.prog) (ds ++ gs)).all (· ≤ reachBytes) = true) (hL0 : laidMetH Tryz.prog Rows.traitChecksRow.laid W) :
    Calls Tryz.prog 3 args W fun e W' => ∃ v, e = .returned v ∧ Rows.traitChecksSpec.post enc Tryz.prog Tryz.f3 false true false false W args v W' := by
  rw [MakeChecks.laidMetH_plain _ _ _ (by kernel_rfl)] at hL0
  have tb0 := by first | exact tnOf hL0 | exact tnOf hL0.tail | exact tnOf hL0.tail.tail | exact tnOf hL0.tail.tail.tail | exact tnOf hL0.tail.tail.tail.tail | exact tnOf hL0.tail.tail.tail.tail.tail
  have hW' := hW
  obtain ⟨p, q, hA0, hV, rfl, hfz, hnd⟩ := hW
  have hA : DataW.TrodAll enc Tryz.prog W 0 (fun _ => true) true Tryz.f3.params.toList args.toList ds p := hA0
  rw [Tryz.params3] at hA hval hsz
  obtain ⟨v0, vs0, d0, ds0, p0, q0, hargs, rfl, rfl, h0, r0⟩ := trodAll_cons hA
  obtain ⟨v1, vs1, d1, ds1, p1, q1, rfl, rfl, rfl, h1, r1⟩ := trodAll_cons r0
  obtain ⟨rfl, rfl, rfl⟩ := trodAll_nil r1
  obtain rfl : args = #[v0, v1] := by cases args; simp_all
  obtain ⟨rfl, rfl⟩ := trodVars_none hV
  obtain ⟨x0, len0, cap0, rfl⟩ := okWide_slice Tryz.underlying22 (hval 0 22 v0 rfl rfl)
  have k0 := h0
  have lt0 : ∀ x ∈ p0, x.block < W.heap.size := by obtain ⟨m, hm⟩ := k0; exact DataW.trod_lt m _ _ _ hm
  obtain ⟨ns0, L0, N0⟩ := open_nodes h0
  obtain rfl : ns0.length = len0 := L0.1
  have Q0 := nodes_need h0 hsz (j := 0) rfl rfl
  have k1 := h1
  have lt1 : ∀ x ∈ p1, x.block < W.heap.size := by obtain ⟨m, hm⟩ := k1; exact DataW.trod_lt m _ _ _ hm
  obtain ⟨a1, c1, b1, e1, f1, rfl, F1, G1, H1, I1, J1⟩ := facts_open (hval 1 25 v1 rfl rfl) h1 hsz (j := 1) rfl rfl
  clear hA0
  refine (traitChecks_walk ns0 x0 cap0 a1 c1 b1 e1 f1 W L0 N0 Q0.1 Q0.2 F1 G1 H1 I1 J1 tb0).mono fun e W' ⟨he, bel⟩ => ?_
  subst he
  exact ⟨_, rfl, _, _, _, [], _, [], hW', trodAll_mk1 (shut_bool Tryz.underlying4 _), (trodAll_cons_mk (Below.trod laidOut (by kernel_rfl) (of_decide_eq_true (by kernel_rfl)) k0 bel lt0) (trodAll_cons_mk (Below.trod laidOut (by kernel_rfl) (of_decide_eq_true (by kernel_rfl)) k1 bel lt1) trodAll_mk0)), rfl, bel.frame _, fun h => by cases h⟩

set_option maxRecDepth 100000 in
theorem lifted (os : Os) (started : os.Started) (H : Type) (enc : TypeId × Value → H) :
    ReturnsInHanded {} Tryz.checked os 3 .any (fun w args => (Rows.traitChecksSpec.pre enc Tryz.prog Tryz.f3 [] false w args ∧ laidMetH Tryz.prog Rows.traitChecksRow.laid w) ∧ sizedMet enc Tryz.prog Tryz.f3 (OpenSpec.ofChange Rows.traitChecksSpec) false w args)
      (Rows.traitChecksSpec.post enc Tryz.prog Tryz.f3 false true false false) := by
  refine returnsInHanded_of_change_and (C := Tryz.checked) (X := fun w _ => laidMetH Tryz.prog Rows.traitChecksRow.laid w) (fun _ _ _ hh h => h.of_heap hh) own started (by kernel_rfl) Tryz.func3
    (ChangeSpec.witness_shaped (enc := enc) (C := Tryz.checked) (os := os) (X := fun w _ => laidMetH Tryz.prog Rows.traitChecksRow.laid w) false (World.laidAll Tryz.prog os Rows.traitChecksRow.laid) #[.slice none 0 0, .agg #[.slice none 0 0, .slice none 0 0, .int .i64 0, .int .i64 0, .int .i64 0]] 8 (World.laidAll_os _ _ _)
      (World.shaped_of_ZipB (by kernel_rfl) (by kernel_rfl)) (by kernel_rfl) (by kernel_rfl) (by kernel_rfl)
      (by rw [MakeChecks.laidMetH_plain _ _ _ (by kernel_rfl)]; exact laidMet_laidAll _ (by kernel_rfl) (by kernel_rfl))) ?_
  intro W base args ds gs before hval0 hW _ hsz0 hL _
  exact contract H enc W base args ds gs before hval0 hW hsz0 hL

theorem over : Rows.traitChecksRow.holds Tryz.pinned (OpenSpec.ofChange Rows.traitChecksSpec) :=
  OpenClaim.holds_of_wide 3 Tryz.f3 rfl rfl rfl rfl rfl rfl rfl ⟨rfl, rfl, rfl, rfl, rfl⟩ rfl rfl rfl rfl rfl (by kernel_rfl) Tryz.func3 (by kernel_rfl)
    (of_decide_eq_true (by kernel_rfl)) (by unfold Func.isWrapper; first | (rw [if_pos (by decide +kernel)]; kernel_rfl) | (rw [if_neg (by decide +kernel)]; exact ⟨rfl, rfl⟩))
    (fun os started H enc _ => lifted os started H enc)
end Go.Proofs.YtblafbbnplfpjaaGreatDoor.traitChecks
namespace Go.Proofs.YtblafbbnplfpjaaGreatDoor
theorem traitChecks_plain (f : FuncId) (fn : Func) (hf : Tryz.pinned.checked.prog.funcNamed "tollbook/tollbooklaw13.TraitChecks" = some f) (hfn : Tryz.pinned.checked.prog.funcs[f]? = some fn) :
    false = Tryz.pinned.checked.prog.looks [] ∧ ∀ (j : Nat) t, fn.params[j]? = some t → Tryz.pinned.checked.prog.wantsStandIn t = false := by
  obtain rfl : f = 3 := Option.some.inj ((show Tryz.prog.funcNamed "tollbook/tollbooklaw13.TraitChecks" = some 3 by kernel_rfl).symm.trans hf) |>.symm
  obtain rfl : fn = Tryz.f3 := (Option.some.inj (Tryz.func3.symm.trans hfn)).symm
  refine ⟨by kernel_rfl, fun j t ht => ?_⟩
  rw [Tryz.params3] at ht
  have hm : t ∈ [22, 25] := by have := Array.mem_of_getElem? ht; simp at this; simp; omega
  have hall : ([22, 25].all fun u => !Tryz.prog.wantsStandIn u) = true := by kernel_rfl
  exact (show Tryz.prog.wantsStandIn t = false by simpa using List.all_eq_true.1 hall t hm)
theorem traitChecksCard_holds : Rows.TraitChecksCardSaid :=
  Claim7.holds_tied_plain_at .later [] _ _ _ _ traitChecks.over (fun _ h => by cases h) (by kernel_rfl) (fun _ h => by cases h) traitChecks_row_tie rfl ⟨rfl, rfl⟩ (by kernel_rfl) rfl traitChecks_plain (by kernel_rfl)
#print axioms traitChecksCard_holds
end Go.Proofs.YtblafbbnplfpjaaGreatDoor
