/-
  The document's among; trees in a row.
-/
import Derived.Test.YtblafbbnplfpjaaGreatDoorMgAj
import Derived.Test.YtblafbbnplfpjaaGreatDoorTr9
import Derived.Test.YtblafbbnplfpjaaGreatDoorMgAp
namespace Go.Proofs.YtblafbbnplfpjaaGreatDoor
open Go.RowKit Go.Shelf
set_option linter.unusedVariables false
set_option linter.unusedSimpArgs false

set_option maxHeartbeats 4000000 in
theorem pamong_any (l : List (List UInt8)) (s : List UInt8) (a : Option Addr) (cap : Nat) (w : World) (h1 : Le elS w a l.length l) (hl : l.length ≤ 9000000000000) :
    Calls Tryz.prog 62 #[.slice a l.length cap, sv s] w fun e w' => e = .returned (.bool (l.contains s)) ∧ Below w.heap.size w w' := by
  have H1 : Hid (Le elS w a l.length l) := h1
  obtain ⟨R, hR⟩ : ∃ R, l.contains s = R := ⟨_, rfl⟩
  have HR : Hid (l.contains s = R) := hR
  rw [hR]
  clear h1 hR
  go_enter Tryz.func62, Tryz.ntmps62
  go_wp2_with fail
  go_loopw [5] (fun j wr => ∃ i : Nat, j = .int .i64 i ∧ i ≤ l.length ∧ Hid (∀ x ∈ l.take i, x ≠ s) ∧ Hid (Below w.heap.size w wr)) (fun j _ => (l.length - (intOf j).toNat : Nat))
  case atStart => exact ⟨0, rfl, Nat.zero_le _, (fun x hx => by simp at hx), Below.refl _ _⟩
  case round =>
    obtain ⟨i, rfl, hi, HN, HB⟩ := hrel
    rcases Nat.lt_or_ge i l.length with hlt | hge
    · have hii : (i : Int) < l.length := by omega
      obtain ⟨b1, o1, rfl⟩ := H1.out.ex (by omega)
      have k1 : wr.cell? ⟨b1, o1 + i, none⟩ = some (sv (l.getD i [])) := by have := (H1.out.after HB.out).at i hlt 0 (sv (l.getD i [])) rfl; simpa [elS] using this
      obtain ⟨x, hx⟩ : ∃ x, l.getD i [] = x := ⟨_, rfl⟩
      have hxe : l[i] = x := by rw [← hx, List.getD_eq_getElem?_getD, List.getElem?_eq_getElem hlt]; rfl
      rw [hx] at k1
      by_cases e : x = s
      · have HF : Hid (true = R) := by
          show _ = _
          rw [← HR.out, eq_comm, List.contains_iff_mem, ← e, ← hxe]
          exact List.getElem_mem hlt
        subst e
        clear hx hxe HN
        go_wp2_with fail
        go_ret
        exact ⟨by rw [← HF.out]; rfl, HB.out⟩
      · have q1 : (x == s) = false := by rw [beq_eq_false_iff_ne]; exact e
        have HN2 : Hid (∀ y ∈ l.take (i + 1), y ≠ s) := fun y hy => by
          rw [List.take_succ_eq_append_getElem hlt] at hy
          rcases List.mem_append.1 hy with hy | hy
          · exact HN.out y hy
          · rw [List.mem_singleton] at hy; rw [hy, hxe]; exact e
        clear hx hxe HN e
        go_wp2_with fail
        go_roundw
        case rel => exact ⟨i + 1, by go_num, by omega, HN2.out, HB.out⟩
        case measure => simp [intOf]; omega
    · obtain rfl : i = l.length := by omega
      have HF : Hid (false = R) := by
        show _ = _
        have h9 := HN.out
        rw [List.take_length] at h9
        rw [← HR.out, eq_comm, ← Bool.not_eq_true, List.contains_iff_mem]
        exact fun h => h9 s h rfl
      clear hge hi HN
      go_wp2_with fail
      go_ret
      exact ⟨by rw [← HF.out]; rfl, HB.out⟩
/-- The cells of a tree in a row. -/
def Ct7 (w : World) (b k : Nat) (n : Nd) (a : Option Addr) (l c : Nat) : Prop := ∀ j u, (encT ⟨n, a, l, c⟩)[j]? = some u → w.cell? ⟨b, k + j, none⟩ = some u
theorem Ct7.after {w w' : World} (hb : Below w.heap.size w w') {b k : Nat} {n : Nd} {a : Option Addr} {l c : Nat} (h : Ct7 w b k n a l c) : Ct7 w' b k n a l c := fun j u hj => (hb.cell (cell_lt (h j u hj))).trans (h j u hj)
theorem Ct7.drw {w : World} {b k : Nat} {n : Nd} {a : Option Addr} {l c : Nat} (h : Ct7 w b k n a l c) : Ct7 w.drew b k n a l c := h
section
variable {w : World} {b k : Nat} {n : Nd} {a : Option Addr} {l c : Nat} (h : Ct7 w b k n a l c)
include h
theorem Ct7.c0 : w.cell? ⟨b, k, none⟩ = some (.int .i64 n.kd) := h 0 _ rfl
theorem Ct7.c1 : w.cell? ⟨b, k + 1, none⟩ = some (.int .i64 n.ks) := h 1 _ rfl
theorem Ct7.c2 : w.cell? ⟨b, k + 2, none⟩ = some (sv n.nm) := h 2 _ rfl
theorem Ct7.c3 : w.cell? ⟨b, k + 3, none⟩ = some (.int .i64 n.op) := h 3 _ rfl
theorem Ct7.c4 : w.cell? ⟨b, k + 4, none⟩ = some (.int .i64 n.un) := h 4 _ rfl
theorem Ct7.c5 : w.cell? ⟨b, k + 5, none⟩ = some (.int .i64 n.pl) := h 5 _ rfl
theorem Ct7.c6 : w.cell? ⟨b, k + 6, none⟩ = some (.slice a l c) := h 6 _ rfl
end
theorem ct7_of {w : World} {b off len : Nat} {ts : List Tc} (h : Le elT w (some ⟨b, off, none⟩) len ts) (i : Nat) (hi : i < len) {n : Nd} {a : Option Addr} {l c : Nat} (e : ts.getD i elT.dft = ⟨n, a, l, c⟩) : Ct7 w b (off + i * 7) n a l c := fun j u hj => by
  rw [Nat.add_assoc]
  exact h.at i hi j u (by rw [e]; exact hj)
/-- The tree at a place of a row. -/
theorem Rtw.nthP {w : World} {P : Nat → Prop} : ∀ {k : Fo} {ts : List Tc}, Rtw w P k ts → ∀ i, i < k.len → ∃ (x : Fo) (m : Nd) (km r : Fo), k = x.app (.cons m km r) ∧ x.len = i ∧ Rtw w P (.cons m km .nil) [ts.getD i elT.dft]
  | .nil, ts, h, i, hi => by simp [Fo.len] at hi
  | .cons n k r, ts, h, 0, hi => by
    obtain ⟨t, ts', kts, rfl, h1, h2, h3, h4, h5, h6⟩ := h
    exact ⟨.nil, n, k, r, rfl, rfl, _, [], kts, rfl, h1, h2, h3, h4, h5, rfl⟩
  | .cons n k r, ts, h, i + 1, hi => by
    obtain ⟨t, ts', kts, rfl, h1, h2, h3, h4, h5, h6⟩ := h
    obtain ⟨x, m, km, r', e, hx, hr⟩ := Rtw.nthP h6 i (by simp only [Fo.len] at hi; omega)
    exact ⟨.cons n k x, m, km, r', by rw [e]; rfl, by simp only [Fo.len, hx], hr⟩
theorem ok_oneP {n : Nd} {k r : Fo} {o : Int} {d : Nat} (h : (Fo.cons n k r).Ok wdB o d) : (Fo.cons n k .nil).Ok wdB o d := ⟨h.1, trivial⟩
theorem app_len_inj : ∀ (a b c e : Fo), a.app b = c.app e → a.len = c.len → a = c ∧ b = e
  | .nil, b, .nil, e, h, _ => ⟨rfl, h⟩
  | .nil, b, .cons n k r, e, _, h => by simp [Fo.len] at h
  | .cons n k r, b, .nil, e, _, h => by simp [Fo.len] at h
  | .cons n k r, b, .cons m j s, e, h, hl => by
    simp only [Fo.app, Fo.cons.injEq] at h
    obtain ⟨rfl, rfl, h3⟩ := h
    obtain ⟨rfl, rfl⟩ := app_len_inj r b s e h3 (by simp only [Fo.len] at hl; omega)
    exact ⟨rfl, rfl⟩
theorem app_done {k x y : Fo} (h : k = x.app y) (hl : x.len = k.len) : k = x := by
  have h2 : y.len = 0 := by have := congrArg Fo.len h; rw [Fo.len_app] at this; omega
  rw [h, Fo.nil_of_len h2, Fo.app_nil]
/-- The kid at a place. -/
structure Kd (w : World) (P : Nat → Prop) (k x : Fo) (i : Nat) (kts : List Tc) (n : Nd) (km r : Fo) (t : Tc) : Prop where
  fe : k = x.app (.cons n km r)
  fl : x.len = i
  ft : Rtw w P (.cons n km .nil) [t]
  fg : kts.getD i elT.dft = t
  fn : t.n = n
theorem kid_at {w : World} {P : Nat → Prop} {k : Fo} {kts : List Tc} (h : Rtw w P k kts) {i : Nat} (hi : i < k.len) {x y : Fo} (e : k = x.app y) (hx : x.len = i) : ∃ n km r t, Kd w P k x i kts n km r t := by
  obtain ⟨x', m, km, r, e', hx', hr⟩ := h.nthP i hi
  obtain ⟨rfl, rfl⟩ := app_len_inj x y x' _ (e.symm.trans e') (by omega)
  refine ⟨m, km, r, _, e', hx', hr, rfl, ?_⟩
  obtain ⟨t0, ts0, kts0, e0, h0, -⟩ := hr
  cases e0; exact h0
theorem app_step {k x : Fo} {n : Nd} {km r : Fo} (e : k = x.app (.cons n km r)) : k = (x.app (.cons n km .nil)).app r := by
  rw [e, Fo.app_assoc]; rfl
end Go.Proofs.YtblafbbnplfpjaaGreatDoor
namespace Go.Proofs.YtblafbbnplfpjaaGreatDoor
open Go.RowKit Go.Shelf
set_option linter.unusedVariables false
set_option linter.unusedSimpArgs false

theorem plain_app (neg : Bool) : ∀ a b : Fo, (a.app b).plain neg = (a.plain neg).app (b.plain neg)
  | .nil, b => rfl
  | .cons n k r, b => by
    rw [show (Fo.cons n k r).app b = .cons n k (r.app b) from rfl, plain_cons n k (r.app b), plain_cons n k r, plain_app neg r b, Fo.app_assoc]
theorem plain_12 {n : Nd} (k : Fo) (neg : Bool) (h : n.kd = 1 ∨ n.kd = 2) : (Fo.cons n k .nil).plain neg = .cons ⟨if neg then 3 - n.kd else n.kd, (((k.plain neg).melt (if neg then 3 - n.kd else n.kd)).len : Nat), [], 0, 0, 0⟩ ((k.plain neg).melt (if neg then 3 - n.kd else n.kd)) .nil := by
  rw [Fo.plain, if_pos h]; rfl
theorem plain_3 {n : Nd} (k : Fo) (neg : Bool) (h : n.kd = 3) : (Fo.cons n k .nil).plain neg = k.plain (!neg) := by
  rw [Fo.plain, if_neg (by omega), if_pos h]
  exact Fo.app_nil _
theorem plain_45 {n : Nd} (k : Fo) (neg : Bool) (h : n.kd = 4 ∨ n.kd = 5) : (Fo.cons n k .nil).plain neg = if neg then .cons ndN (.cons n .nil .nil) .nil else .cons n .nil .nil := by
  rw [Fo.plain, if_neg (by omega), if_neg (by omega), if_pos h]
  exact Fo.app_nil _
theorem plain_67 {n : Nd} (k : Fo) (neg : Bool) (h : n.kd = 6 ∨ n.kd = 7) : (Fo.cons n k .nil).plain neg = .cons (if neg then { n with op := 5 - n.op } else n) .nil .nil := by
  rw [Fo.plain, if_neg (by omega), if_neg (by omega), if_neg (by omega)]; rfl
theorem melt_one (c : Int) (m : Nd) (j : Fo) : (Fo.cons m j .nil).melt c = if m.kd = c then j else .cons m j .nil := by
  unfold Fo.melt
  split
  · exact Fo.app_nil _
  · rfl
/-- What stands in memory behind i kids. -/
structure Pk (k : Fo) (neg : Bool) (c : Int) (bo : Nat) (W : World) (x y : Fo) (i : Nat) (ts : List Tc) (v : Value) : Prop where
  e : k = x.app y
  l : x.len = i
  r : Rtw W (fun b => bo < b ∧ v.ownBlock ≠ some b) ((x.plain neg).melt c) ts
  g : Ge elT W (bo + 1) v ts
theorem Pk.start {k : Fo} {neg : Bool} {c : Int} {bo : Nat} {W : World} : Pk k neg c bo W .nil k 0 [] (.slice none 0 0) := ⟨rfl, rfl, rfl, Ge.nil _ _⟩
theorem Pk.after {k : Fo} {neg : Bool} {c : Int} {bo : Nat} {wr W : World} {x y : Fo} {i : Nat} {ts : List Tc} {v : Value} (h : Pk k neg c bo wr x y i ts v) (hb : Below wr.heap.size wr W) : Pk k neg c bo W x y i ts v :=
  ⟨h.e, h.l, Rtw.imp (fun b hlt hp => ⟨hp, hb.block b hlt⟩) h.r, h.g.after hb⟩
theorem Pk.few {k : Fo} {neg : Bool} {c : Int} {bo : Nat} {W : World} {x y : Fo} {i : Nat} {ts : List Tc} {v : Value} (h : Pk k neg c bo W x y i ts v) (hk : k.flat.length ≤ 64) : ts.length ≤ 128 := by
  have h1 := Fo.len_flat ((x.plain neg).melt c)
  have h2 := melt_size c (x.plain neg)
  have h3 := plain_size x neg
  have h4 : x.flat.length ≤ 64 := by
    rw [h.e, Fo.flat_app, List.length_append] at hk; omega
  rw [h.r.len]; omega
/-- One kid more. -/
theorem Pk.more {k : Fo} {neg : Bool} {c : Int} {bo : Nat} {wr w5 W7 : World} {x y km r : Fo} {m : Nd} {i : Nat} {ts L : List Tc} {v v' : Value} (h : Pk k neg c bo wr x y i ts v) (he : k = x.app (.cons m km r))
    (hR : Rtw w5 (fun b => wr.heap.size ≤ b) (((Fo.cons m km .nil).plain neg).melt c) L) (hb : bo < wr.heap.size) (hge : Ge elT W7 (bo + 1) v' (ts ++ L)) (hv : v'.ownBlock = v.ownBlock ∨ ∃ c, v'.ownBlock = some c ∧ w5.heap.size ≤ c)
    (h5 : Below wr.heap.size wr w5) (h7 : ∀ b, b < w5.heap.size → b ≠ bo → v.ownBlock ≠ some b → W7.heap[b]? = w5.heap[b]?) : Pk k neg c bo W7 (x.app (.cons m km .nil)) r (i + 1) (ts ++ L) v' := by
  have hs := h5.size
  refine ⟨app_step he, by rw [Fo.len_app, h.l]; rfl, ?_, hge⟩
  rw [plain_app, Fo.melt_app]
  refine Rtw.app (Rtw.imp (fun b hb' hp => ?_) h.r) (Rtw.imp (fun b hb' hp => ?_) hR)
  · refine ⟨⟨hp.1, ?_⟩, ?_⟩
    · rcases hv with e | ⟨c, e, hc⟩
      · rw [e]; exact hp.2
      · rw [e]; intro x; cases x; omega
    · rw [h7 b (by omega) (by omega) hp.2, h5.block b hb']
  · have hvb : v.ownBlock ≠ some b := fun e => by have := h.g.lt b e; omega
    refine ⟨⟨by omega, ?_⟩, h7 b hb' (by omega) hvb⟩
    rcases hv with e | ⟨c, e, hc⟩
    · rw [e]; exact hvb
    · rw [e]; intro x; cases x; omega
theorem Pk.next {k : Fo} {neg : Bool} {c : Int} {bo : Nat} {wr w5 W6 W8 : World} {x y km r : Fo} {m : Nd} {i : Nat} {ts L : List Tc} {v v' : Value} (h : Pk k neg c bo wr x y i ts v) (he : k = x.app (.cons m km r))
    (hR : Rtw w5 (fun b => wr.heap.size ≤ b) (((Fo.cons m km .nil).plain neg).melt c) L) (hb : bo < wr.heap.size) (h5 : Below wr.heap.size wr w5) (h6 : Below w5.heap.size w5 W6) (hge : Ge elT W8 (bo + 1) v' (ts ++ L))
    (hv : v'.ownBlock = v.ownBlock ∨ ∃ c, v'.ownBlock = some c ∧ W6.heap.size ≤ c) (hbl : ∀ c, c < W6.heap.size → v.ownBlock ≠ some c → W8.heap[c]? = W6.heap[c]?) (u : Value) :
    Pk k neg c bo (W8.setCell ⟨bo, 6, none⟩ u) (x.app (.cons m km .nil)) r (i + 1) (ts ++ L) v' := by
  have hs := h6.size
  refine h.more he hR hb (hge.far (p := ⟨bo, 6, none⟩) (fun e => by have := hge.block bo e; omega) u) ?_ h5 (fun b hlt hne hno => ?_)
  · exact hv.imp id (fun ⟨c, e, hc⟩ => ⟨c, e, by omega⟩)
  · exact (heap_setCell_other W8 ⟨bo, 6, none⟩ b u hne).trans ((hbl b (by omega) hno).trans (h6.block b hlt))
/-- All kids are there. -/
theorem Pk.whole {k : Fo} {neg : Bool} {c : Int} {bo B : Nat} {wr W7 : World} {x y : Fo} {i : Nat} {ts : List Tc} {a : Option Addr} {l cp : Nat} (h : Pk k neg c bo wr x y i ts (.slice a l cp)) (hi : i = k.len) (hB : B ≤ bo)
    (h7 : ∀ b, bo < b → W7.heap[b]? = wr.heap[b]?) (N : Nd) : Rtw W7 (fun b => B ≤ b) (.cons N ((k.plain neg).melt c) .nil) [⟨N, a, l, cp⟩] := by
  have hk : k = x := app_done h.e (by rw [h.l, hi])
  obtain ⟨a', c', e, -, -, -⟩ := h.g.shape
  cases e
  rw [← hk] at *
  have hr := h.r
  rw [← hk] at hr
  refine ⟨_, [], ts, rfl, rfl, hr.len, ?_, ?_, Rtw.imp (fun b hb hp => ⟨by omega, h7 b hp.1⟩) hr, rfl⟩
  · refine h.g.toLe.kept (fun h0 b off e hlt => h7 b ?_)
    have := h.g.block b (by rw [e]; rfl)
    omega
  · intro h0 b off e
    have := h.g.block b (by
      obtain ⟨a', c', e', -, -, h' | ⟨g, e3⟩⟩ := h.g.shape
      · cases e'; rw [h'.2.1] at h0; exact absurd h0 (Nat.lt_irrefl _)
      · cases e'; cases e; cases e3; rfl)
    omega
theorem Pk.lenT {k : Fo} {neg : Bool} {c : Int} {bo : Nat} {W : World} {x y : Fo} {i : Nat} {ts : List Tc} {v : Value} (h : Pk k neg c bo W x y i ts v) (hi : i = k.len) : ts.length = ((k.plain neg).melt c).len := by
  have hk : k = x := app_done h.e (by rw [h.l, hi])
  rw [h.r.len, ← hk]
/-- How plain ends. -/
def PnE (n : Nd) (k : Fo) (neg : Bool) (w : World) (e : Ending) (w' : World) : Prop := Below w.heap.size w w' ∧ ∃ m j t, e = .returned (tvT t) ∧ (Fo.cons n k .nil).plain neg = .cons m j .nil ∧ Rtw w' (fun b => w.heap.size ≤ b) (.cons m j .nil) [t]
/-- What is put into the row: the tree, or, if it is of the kind, what is below it. -/
theorem kid_put {w : World} {B : Nat} {m : Nd} {j : Fo} {t : Tc} (c : Int) (h : Rtw w (fun b => B ≤ b) (.cons m j .nil) [t]) : (m.kd = c → ∃ L, Le elT w t.a t.len L ∧ Rtw w (fun b => B ≤ b) ((Fo.cons m j .nil).melt c) L ∧ t.len = j.len) ∧ (m.kd ≠ c → Rtw w (fun b => B ≤ b) ((Fo.cons m j .nil).melt c) [t]) := by
  rw [melt_one]
  constructor
  · intro e
    rw [if_pos e]
    obtain ⟨t', ts', kts, e0, h1, h2, h3, h4, h5, -⟩ := h
    cases e0
    exact ⟨kts, h3, h5, h2⟩
  · intro e
    rw [if_neg e]; exact h
/-- A tree of the kind 1 or 2 has two kids or more. -/
theorem kids_two {m : Nd} {j : Fo} {d : Nat} (h : (Fo.cons m j .nil).Ok wdB 0 d) (hc : m.kd = 1 ∨ m.kd = 2) : 2 ≤ j.len := by
  obtain ⟨⟨h1, -, -, h2, -⟩, -⟩ := h
  rcases h1 with ⟨-, h, -⟩ | ⟨h, -⟩ | ⟨h, -⟩ | ⟨h, -⟩ <;> omega
theorem le_new {W : World} {sz : Nat} (h : W.heap.size = sz) (x : Tc) {cs : Array Value} (hc : cs.toList = encT x) : Le elT (W.alloc (.cells cs 56)) (some ⟨sz, 0, none⟩) 1 [x] := by
  subst h; exact Le.one (Va.new W _ cs) hc
theorem results_tr {fn : Func} {j b : Nat} {x0 x1 x2 x3 x4 x5 x6 : Value} {tmps : Array Value} {w : World} (h : fn.results = #[.cell j 56]) (hj : tmps.getD j undef = .pointer (some ⟨b, 0, none⟩)) (hv : Va w b 56 #[x0, x1, x2, x3, x4, x5, x6]) :
    (results fn tmps).run Tryz.prog w = .ok (.agg #[x0, x1, x2, x3, x4, x5, x6]) w := by
  have c0 := hv.t0
  have c1 := hv.t1
  have c2 := hv.t2
  have c3 := hv.t3
  have c4 := hv.t4
  have c5 := hv.t5
  have c6 := hv.t6
  rw [Array.getD_eq_getD_getElem?] at hj
  simp [results, h, hj, c0, c1, c2, c3, c4, c5, c6, go_sem]
theorem stoT1 {w : World} {b : Nat} {t : TypeId} {x0 x1 x2 x3 x4 x5 x6 : Value} (h : Va w b t #[x0, x1, x2, x3, x4, x5, x6]) (y : Value) {Q : World → Prop}
    (k : ∀ V, Va V b t #[x0, y, x2, x3, x4, x5, x6] → (∀ c, c ≠ b → V.heap[c]? = w.heap[c]?) → (∀ B a, B ≤ b → Below B a w → Below B a V) → V.heap.size = w.heap.size → Q V) : Q (w.setCell ⟨b, 1, none⟩ y) := by
  refine k _ ?_ (fun c hc => heap_setCell_other w ⟨b, 1, none⟩ c y hc) (fun B a hB hb => hb.setCell (p := ⟨b, 1, none⟩) hB y) (by simp [World.setCell])
  unfold Va at *
  simp only [World.setCell]
  rw [Array.getElem?_modify, if_pos rfl, h]
  simp
theorem stoN3 {w : World} {b : Nat} {t : TypeId} {x0 x1 x2 x3 x4 x5 : Value} (h : Va w b t #[x0, x1, x2, x3, x4, x5]) (y : Value) {Q : World → Prop}
    (k : ∀ V, Va V b t #[x0, x1, x2, y, x4, x5] → (∀ c, c ≠ b → V.heap[c]? = w.heap[c]?) → (∀ B a, B ≤ b → Below B a w → Below B a V) → V.heap.size = w.heap.size → Q V) : Q (w.setCell ⟨b, 3, none⟩ y) := by
  refine k _ ?_ (fun c hc => heap_setCell_other w ⟨b, 3, none⟩ c y hc) (fun B a hB hb => hb.setCell (p := ⟨b, 3, none⟩) hB y) (by simp [World.setCell])
  unfold Va at *
  simp only [World.setCell]
  rw [Array.getElem?_modify, if_pos rfl, h]
  simp
end Go.Proofs.YtblafbbnplfpjaaGreatDoor
namespace Go.Proofs.YtblafbbnplfpjaaGreatDoor
open Go.RowKit Go.Shelf
set_option linter.unusedVariables false
set_option linter.unusedSimpArgs false

/-- How List ends. -/
def LiE (F : List Nd) (w : World) (e : Ending) (w' : World) : Prop := Below w.heap.size w w' ∧ ∃ a c, e = .returned (.slice a F.length c) ∧ Ge elN w' w.heap.size (.slice a F.length c) F
theorem flat_app1 (x : Fo) (n : Nd) (k : Fo) : (x.app (.cons n k .nil)).flat = x.flat ++ (Fo.cons n k .nil).flat := Fo.flat_app _ _
set_option maxRecDepth 20000 in
set_option maxHeartbeats 16000000 in
theorem rlist_any (P : Nat → Prop) : ∀ (fu d : Nat), d + fu = 17 → ∀ (n : Nd) (k : Fo) (o : Int) (t : Tc) (w : World), (Fo.cons n k .nil).Ok wdB o d → k.flat.length ≤ 200 → Rtw w P (.cons n k .nil) [t] →
    Calls Tryz.prog 42 #[tvT t] w (LiE (Fo.cons n k .nil).flat w) := by
  intro fu
  induction fu with
  | zero =>
    intro d hd n k o t w hok
    have := hok.1.2.2.1
    omega
  | succ fu ih =>
    intro d hd n k o t w hok hkl hR
    obtain ⟨t, ts0, kts, e0, htn, htl, hL, -, hK, -⟩ := hR
    cases e0
    obtain ⟨tn, ta, tl, tc⟩ := t
    dsimp only at htn htl hL
    subst htn
    have HOK : Hid ((Fo.cons tn k .nil).Ok wdB o d) := hok
    have HKL : Hid (k.flat.length ≤ 200) := hkl
    have HL : Hid (Le elT w ta tl kts) := hL
    have HK : Hid (Rtw w P k kts) := hK
    have HTL : Hid (tl = k.len) := htl
    have HIH : Hid (∀ d : Nat, d + fu = 17 → ∀ (n : Nd) (k : Fo) (o : Int) (t : Tc) (w : World), (Fo.cons n k .nil).Ok wdB o d → k.flat.length ≤ 200 → Rtw w P (.cons n k .nil) [t] →
        Calls Tryz.prog 42 #[tvT t] w (LiE (Fo.cons n k .nil).flat w)) := ih
    have htl64 : tl ≤ 200 := by rw [htl]; exact Nat.le_trans (Fo.len_flat k) hkl
    clear hok hkl hL hK htl ih
    dsimp only [tvT, cT]
    go_enter Tryz.func42, Tryz.ntmps42
    go_upto_region 1 with fail
    refine ent1 w _ _ (Q := fun W => Code.wp _ _ _ _ W) ?_
    intro W1 hb1 hs1 V1
    have HV1 : Hid (Va W1 w.heap.size 56 (cT tn (.slice ta tl tc))) := V1
    have HB1 : Hid (Below w.heap.size w W1) := hb1
    have hw1 : w.heap.size < W1.heap.size := by omega
    have z0 := HV1.out.t0
    have z1 := HV1.out.t1
    have z2 := HV1.out.t2
    have z3 := HV1.out.t3
    have z4 := HV1.out.t4
    have z5 := HV1.out.t5
    have z6 := HV1.out.t6
    clear V1 hb1 hs1
    go_upto_region 2 with fail
    refine ent1 W1 _ _ (Q := fun W => Code.wp _ _ _ _ W) ?_
    intro W2 hb2 hs2 VN
    have HV2 : Hid (Va W2 w.heap.size 56 (cT tn (.slice ta tl tc))) := HV1.out.after hb2
    have HB2 : Hid (Below w.heap.size w W2) := step HB1.out hb2
    have HG2 : Hid (Ge elN W2 (w.heap.size + 1) (.slice (some ⟨W1.heap.size, 0, none⟩) (1 + Fo.nil.flat.length) 1) (tn :: Fo.nil.flat)) := Ge.of VN (by omega) rfl rfl (by decide)
    clear z0 z1 z2 z3 z4 z5 z6 VN hb2 hs2 HB1 HV1
    go_wp2_with fail
    go_loopw [3, 4] (fun v j wr => ∃ (i : Nat) (x y : Fo) (ao : Option Addr) (co : Nat), v = .slice ao (1 + x.flat.length) co ∧ j = .int .i64 i ∧ i ≤ tl ∧ Hid (k = x.app y ∧ x.len = i) ∧ Hid (Ge elN wr (w.heap.size + 1) (.slice ao (1 + x.flat.length) co) (tn :: x.flat)) ∧ Hid (Va wr w.heap.size 56 (cT tn (.slice ta tl tc))) ∧ Hid (Below w.heap.size w wr)) (fun _ j _ => (tl - (intOf j).toNat : Nat))
    case atStart => exact ⟨0, .nil, k, _, 1, rfl, rfl, Nat.zero_le _, ⟨rfl, rfl⟩, HG2.out, HV2.out, HB2.out⟩
    case round =>
      clear HG2 HV2 HB2 hw1
      obtain ⟨i, x, y, ao, co, rfl, rfl, hi, HXY, HG, HV, HB⟩ := hrel
      have c6 := HV.out.t6
      have hxl : x.flat.length ≤ 200 := by
        have h1 := HKL.out
        rw [HXY.out.1, Fo.flat_app, List.length_append] at h1
        omega
      rcases Nat.lt_or_ge i tl with hlt | hge
      · have hii : (i : Int) < tl := by omega
        obtain ⟨m, km, r, t, hk⟩ := kid_at HK.out (i := i) (by have := HTL.out; omega) HXY.out.1 HXY.out.2
        obtain ⟨mn, ma, ml, mc⟩ := t
        obtain rfl : mn = m := hk.fn
        obtain ⟨b, off, rfl⟩ := HL.out.ex (by omega)
        have kk : Ct7 wr b (off + i * 7) mn ma ml mc := ct7_of (HL.out.after HB.out) i hlt hk.fg
        have k0 := kk.c0
        have k1 := kk.c1
        have k2 := kk.c2
        have k3 := kk.c3
        have k4 := kk.c4
        have k5 := kk.c5
        have k6 := kk.c6
        have hd16 := HOK.out.1.2.2.1
        have hkk : k.Ok wdB tn.kd (d + 1) := HOK.out.1.2.2.2.2
        rw [hk.fe] at hkk
        have hml : km.flat.length ≤ 200 := by
          have h9 := HKL.out
          rw [hk.fe, Fo.flat_app] at h9
          simp only [Fo.flat, List.length_append, List.length_cons] at h9
          omega
        have D : Calls Tryz.prog 42 #[tvT ⟨mn, ma, ml, mc⟩] wr (LiE (Fo.cons mn km .nil).flat wr) := HIH.out (d + 1) (by omega) mn km _ _ wr (ok_oneP hkk.right) hml (Rtw.imp (fun b' hb' hp => ⟨hp, HB.out.block b' hb'⟩) hk.ft)
        dsimp only [tvT, cT] at D
        have HKD : Hid (k = (x.app (.cons mn km .nil)).app r ∧ (x.app (.cons mn km .nil)).len = i + 1) := ⟨app_step hk.fe, by rw [Fo.len_app, hk.fl]; rfl⟩
        have hfl : (Fo.cons mn km .nil).flat.length ≤ 201 := by simp only [Fo.flat, List.append_nil, List.length_cons]; omega
        have hf0 : 0 < (Fo.cons mn km .nil).flat.length := by simp [Fo.flat]
        have HFA : Hid ((x.app (.cons mn km .nil)).flat = x.flat ++ (Fo.cons mn km .nil).flat) := flat_app1 x mn km
        obtain ⟨F, hF⟩ : ∃ F, (Fo.cons mn km .nil).flat = F := ⟨_, rfl⟩
        rw [hF] at D HFA hfl hf0
        obtain ⟨X, hX⟩ : ∃ X, x.flat = X := ⟨_, rfl⟩
        have HX : Hid (x.flat = X) := hX
        rw [hX] at HG HFA hxl ⊢
        clear kk hk hkk hd16 hml hF hX
        go_wp2_with fail
        refine D.mono ?_
        rintro e w5 ⟨hb5, a5, c5, rfl, hg5⟩
        obtain ⟨a6, c6', e6, -, -, ⟨-, h6, -⟩ | ⟨g6, hg6⟩⟩ := hg5.shape
        · rw [h6] at hf0; simp at hf0
        cases e6
        subst hg6
        have HL5 : Hid (Le elN w5 (some ⟨g6, 0, none⟩) F.length F) := hg5.toLe
        have HG5 : Hid (Ge elN w5 (w.heap.size + 1) (.slice ao (1 + X.length) co) (tn :: X)) := HG.out.after hb5
        have HV5 : Hid (Va w5 w.heap.size 56 (cT tn (.slice (some ⟨b, off, none⟩) tl tc))) := HV.out.after hb5
        have HB5 : Hid (Below w.heap.size w w5) := step HB.out hb5
        have hs5 := HV5.out.lt
        clear D hb5 hg5 k0 k1 k2 k3 k4 k5 k6 c6 HG HV HB
        go_wp2_with (at_builtin; go_loud (refine wpList_appE rfl _ _ _ rfl elN rfl (w.heap.size + 1) _ (tn :: X) rfl HG5.out g6 0 F.length c5 F rfl HL5.out (by simp; omega) (by omega) ?_; intro v8 W8 hg8 hgr8 hob8; have hnb : (Value.slice ao (1 + X.length) co).ownBlock ≠ some w.heap.size := (fun e => by have := HG5.out.block _ e; omega); have HV8 : Hid (Va W8 w.heap.size 56 (cT tn (.slice (some ⟨b, off, none⟩) tl tc))) := HV5.out.keptW (hgr8.block _ hs5 (fun e => hnb e.symm)); have HB8 : Hid (Below w.heap.size w W8) := HB5.out.grown hgr8 HB5.out.size (fun c hc => by have := HG5.out.block c hc; omega); obtain ⟨a8, c8, e8, -, -, -⟩ := hg8.shape; subst e8; have h9 : (tn :: X ++ F).length = 1 + X.length + F.length := (by simp; omega); rw [h9] at hg8; have HG8 : Hid (Ge elN W8 (w.heap.size + 1) (.slice a8 (1 + X.length + F.length) c8) (tn :: X ++ F)) := hg8; rw [h9]; clear hg8 hgr8 hob8 hnb h9))
        go_roundw
        case rel =>
          refine ⟨i + 1, x.app (.cons mn km .nil), r, a8, c8, ?_, by go_num, by omega, HKD.out, ?_, HV8.out, HB8.out⟩
          · rw [HFA.out, List.length_append, Nat.add_assoc]
          · rw [HFA.out, List.length_append, ← Nat.add_assoc]; exact HG8.out
        case measure => simp [intOf]; omega
      · have hii : ¬ (i : Int) < tl := by omega
        have HF : Hid ((Fo.cons tn k .nil).flat = tn :: x.flat) := by
          show _ = _
          have h1 : k = x := app_done HXY.out.1 (by have := HTL.out; have := HXY.out.2; omega)
          simp only [Fo.flat, List.append_nil]
          rw [← h1]
        have HGF : Hid (Ge elN wr w.heap.size (.slice ao (Fo.cons tn k .nil).flat.length co) (Fo.cons tn k .nil).flat) := by
          show Ge _ _ _ _ _
          rw [HF.out, List.length_cons, Nat.add_comm]
          exact HG.out.le (by omega)
        clear hge hi HG
        go_wp2_with fail
        go_ret
        refine ⟨HB.out, ao, co, ?_, HGF.out⟩
        rw [HF.out, List.length_cons, show x.flat.length + 1 = 1 + x.flat.length from Nat.add_comm _ _]; rfl
end Go.Proofs.YtblafbbnplfpjaaGreatDoor
namespace Go.Proofs.YtblafbbnplfpjaaGreatDoor
open Go.RowKit Go.Shelf
set_option linter.unusedVariables false

theorem ent4f (w : World) (t0 : TypeId) (c0 : Array Value) (t1 : TypeId) (c1 : Array Value) (t2 : TypeId) (c2 : Array Value) (t3 : TypeId) (c3 : Array Value) {Q : World → Prop}
    (h : ∀ w0, Below w.heap.size w w0 → w0.heap.size = w.heap.size + 4 → Va w0 (w.heap.size) t0 c0 → Va w0 (w.heap.size + 1) t1 c1 → Va w0 (w.heap.size + 2) t2 c2 → Va w0 (w.heap.size + 3) t3 c3 → Q w0) : Q ((((w.alloc (.cells c0 t0)).alloc (.cells c1 t1)).alloc (.cells c2 t2)).alloc (.cells c3 t3)) := by
  refine ent3 w t0 c0 t1 c1 t2 c2 (Q := fun W => Q (W.alloc (.cells c3 t3))) ?_
  intro w0 hb hs V0 V1 V2
  refine ent1 w0 t3 c3 ?_
  intro w1 hb1 hs1 V3
  exact h w1 (step hb hb1) (by omega) (V0.after hb1) (V1.after hb1) (V2.after hb1) (by rw [hs] at V3; exact V3)
/-- How fold at forms ends. -/
def FdE (y : List Nd) (w : World) (e : Ending) (w' : World) : Prop := ∃ x : Fm, e = .returned (fmv x) ∧ Ge elN w' w.heap.size (.slice x.ya x.yl x.yc) y ∧ Below w.heap.size w w'
set_option maxHeartbeats 4000000 in
theorem foldF (ns : List Nd) (a : Option Addr) (cap : Nat) (w : World) (hL : Le elN w a ns.length ns) (h1 : ns.length ≤ 64) (n : Nd) (k : Fo) (hns : ns = (Fo.cons n k .nil).flat) (hok : (Fo.cons n k .nil).Ok wdB 0 1) :
    Calls Tryz.prog 40 #[.slice a ns.length cap, jvF] w (FdE ((Fo.cons n k .nil).plain false).flat w) := by
  have h0 : 0 < ns.length := by rw [hns]; simp [Fo.flat]
  have HL : Hid (Le elN w a ns.length ns) := hL
  have HN : Hid (ns = (Fo.cons n k .nil).flat) := hns
  have HOK : Hid ((Fo.cons n k .nil).Ok wdB 0 1) := hok
  obtain ⟨RY, hRY⟩ : ∃ R, ((Fo.cons n k .nil).plain false).flat = R := ⟨_, rfl⟩
  obtain ⟨RN, hRN⟩ : ∃ R, ((Fo.cons n k .nil).plain true).flat = R := ⟨_, rfl⟩
  have HR : Hid (((Fo.cons n k .nil).plain false).flat = RY ∧ ((Fo.cons n k .nil).plain true).flat = RN) := ⟨hRY, hRN⟩
  rw [hRY]
  clear hL hns hok hRY hRN
  have B0 : Below w.heap.size w w := Below.refl _ _
  go_enter Tryz.func40, Tryz.ntmps40
  go_upto_region 2 with fail
  refine ent4f w _ _ _ _ _ _ _ _ (Q := fun W => Code.wp _ _ _ _ W) ?_
  intro W1 hb hs V0 V1 VR V2
  replace B0 := step B0 hb
  have L1 := HL.out.after hb
  have hlt := fun b off (h : a = some ⟨b, off, none⟩) => (by subst h; exact HL.out.lt h0 : b < w.heap.size)
  clear hb
  go_upto_region 3 with fail
  refine ent1 W1 _ _ (Q := fun W => Code.wp _ _ _ _ W) ?_
  intro W2 hb hs2 V3
  rw [hs] at V3 hs2
  replace V0 := V0.after hb
  replace V1 := V1.after hb
  replace V2 := V2.after hb
  replace VR := VR.after hb
  replace L1 := L1.after hb
  replace B0 := step B0 hb
  clear hb
  have c3 := V3.cell
  have f3 := V3.frozen 0
  go_upto_region 4 with fail
  refine st1 V3 _ (Q := fun W => Code.wp _ _ _ _ W) ?_
  intro W3 hv hg hs3
  have C3 : DsF ns a cap w.heap.size (w.heap.size + 3) (w.heap.size + 4) (w.heap.size + 1) jvF W3 0 :=
    ⟨V0.gr hg (by omega), V2.gr hg (by omega), hv, V1.gr hg (by omega), L1.grown hg (fun _ b off h => by have := hlt b off h; omega), by omega, by omega, fun b off h => by have := hlt b off h; omega, by omega, h1, Nat.zero_le _⟩
  have HVR : Hid (Va W3 (w.heap.size + 2) 76 #[.slice none 0 0, .slice none 0 0]) := VR.gr hg (by omega)
  have HB3 : Hid (Below w.heap.size w W3) := B0.trans (gr_to hg (by omega) (by omega))
  have d3 := hv.cell
  have hs4 : w.heap.size + 5 ≤ W3.heap.size := by omega
  clear V0 V1 V2 V3 VR c3 f3 L1 hv hg hs hs2 hs3 B0 hlt
  have C9 : Calls Tryz.prog 65 #[pt1 w.heap.size, pt1 (w.heap.size + 3), pt1 (w.heap.size + 4), pt1 (w.heap.size + 1)] W3 (DfE (w.heap.size + 5) ns (w.heap.size + 3) RY RN (0 + (Fo.cons n k .nil).flat.length) W3) := by
    have := (allD_of (downF (w.heap.size + 5) ns a cap w.heap.size (w.heap.size + 3) (w.heap.size + 4) (w.heap.size + 1) (by omega)) (.cons n k .nil)).1 0 0 HOK.out 0 W3 [] C3 (by omega) (by rw [List.drop_zero, List.append_nil]; exact HN.out)
    rw [HR.out.1, HR.out.2] at this
    exact this
  clear C3
  go_wp2_with fail
  refine C9.mono ?_
  rintro e W4 ⟨x, rfl, hfm, -, -, hg⟩
  have B4 : Below w.heap.size w W4 := HB3.out.trans (gr_to hg (by omega) (by omega))
  have V9 := HVR.out.gr hg (by omega)
  have v0 := V9.c0
  have v1 := V9.c1
  have f0 := V9.frozen 0
  have f1 := V9.frozen 1
  have HFM : Hid (FmR (w.heap.size + 5) W4 x RY RN) := hfm
  clear hg C9 HB3 hfm HVR
  go_wp2_with fail
  refine bodyPost_ret (results_f rfl rfl (V9.set2 _ _)) rfl ?_
  refine ⟨x, rfl, ?_, below_2 B4 (by omega) _ _⟩
  exact Ge.kept (HFM.out.1.le (by omega)) (fun g hg => fa2b _ _ _ _ g (by have := HFM.out.1.block g hg; omega))
/-- What Plain answers. -/
def PlR (ns out : List Nd) (er : Int) : Prop := (¬ Cond wdB ns ∧ out = [] ∧ er = 131) ∨ (ns = [] ∧ out = [] ∧ er = 0) ∨
  ∃ n k, ns = (Fo.cons n k .nil).flat ∧ (Fo.cons n k .nil).Ok wdB 0 1 ∧ ns.length ≤ 64 ∧ ((64 < ((Fo.cons n k .nil).plain false).flat.length ∧ out = [] ∧ er = 3) ∨ (((Fo.cons n k .nil).plain false).flat.length ≤ 64 ∧ out = ((Fo.cons n k .nil).plain false).flat ∧ er = 0))
def PlE (ns : List Nd) (w : World) (e : Ending) (w' : World) : Prop := ∃ out a' c' er, e = .returned (.tuple #[.slice a' out.length c', .int .i64 er]) ∧ Ge elN w' w.heap.size (.slice a' out.length c') out ∧ PlR ns out er ∧ Below w.heap.size w w'
set_option maxHeartbeats 4000000 in
theorem plain13 (ns : List Nd) (a : Option Addr) (cap : Nat) (w : World) (hL : Le elN w a ns.length ns) (h64 : ∀ n ∈ ns, N64 n) :
    Calls Tryz.prog 17 #[.slice a ns.length cap] w (PlE ns w) := by
  have C1 := check13 ns a cap w hL h64
  have HL : Hid (Le elN w a ns.length ns) := hL
  clear hL h64
  rcases Classical.em (Cond wdB ns) with hc | hc
  rotate_left
  · rw [ckE_no hc] at C1
    have HC : Hid (¬ Cond wdB ns) := hc
    clear hc
    go_enter Tryz.func17, Tryz.ntmps17
    go_wp2_with fail
    refine C1.mono ?_
    rintro e W2 ⟨rfl, hb2⟩
    clear C1
    go_wp2_with fail
    go_ret2
    exact ⟨[], none, 0, 131, rfl, Ge.nil _ _, .inl ⟨HC.out, rfl, rfl⟩, hb2⟩
  rw [ckE_ok hc] at C1
  have HC : Hid (Cond wdB ns) := hc
  clear hc
  rcases Nat.eq_zero_or_pos ns.length with h0 | h0
  · have hn0 : ((ns.length : Int) == 0) = true := by rw [h0]; rfl
    have HE : Hid (ns = []) := List.length_eq_zero_iff.1 h0
    clear h0
    go_enter Tryz.func17, Tryz.ntmps17
    go_wp2_with fail
    refine C1.mono ?_
    rintro e W2 ⟨rfl, hb2⟩
    clear C1
    go_wp2_with fail
    go_ret2
    exact ⟨[], none, 0, 0, rfl, Ge.nil _ _, .inr (.inl ⟨HE.out, rfl, rfl⟩), hb2⟩
  have hne : ns ≠ [] := fun h => by rw [h] at h0; exact absurd h0 (Nat.lt_irrefl _)
  have hn0 : ((ns.length : Int) == 0) = false := by simp; omega
  obtain ⟨hl64, n, k, hnk, hok⟩ := cond_tree hne HC.out
  have HNK : Hid (ns = (Fo.cons n k .nil).flat ∧ (Fo.cons n k .nil).Ok wdB 0 1) := ⟨hnk, hok⟩
  have C2 := fun W h => foldF ns a cap W h hl64 n k HNK.out.1 HNK.out.2
  obtain ⟨P, hP⟩ : ∃ P, ((Fo.cons n k .nil).plain false).flat = P := ⟨_, rfl⟩
  have HP : Hid (((Fo.cons n k .nil).plain false).flat = P) := hP
  rw [hP] at C2
  clear hnk hok hP hne
  go_enter Tryz.func17, Tryz.ntmps17
  go_wp2_with fail
  refine C1.mono ?_
  rintro e W2 ⟨rfl, hb2⟩
  have D2 := C2 W2 (HL.out.after hb2)
  clear C1 C2
  go_wp2_with fail
  refine D2.mono ?_
  rintro e W3 ⟨x, rfl, hge, hb3⟩
  obtain ⟨ya, yl, yc, na, nl, nc⟩ := x
  dsimp only [fmv] at *
  obtain ⟨a', cap', e', hcl, hcm, hsh⟩ := hge.shape
  simp only [Value.slice.injEq] at e'
  obtain ⟨rfl, rfl, rfl⟩ := e'
  have B3 := step hb2 hb3
  have HG : Hid (Ge elN W3 w.heap.size (.slice ya P.length yc) P) := hge.le hb2.size
  clear hge hb2 hb3 D2 hsh hcl hcm
  have hfd : ∀ W : World, (Instr.field 76 (.agg #[.slice ya P.length yc, .slice na nl nc]) 0).run Tryz.prog W = .ok (.slice ya P.length yc) W := fun _ => by kernel_rfl
  rcases Nat.lt_or_ge 64 P.length with hp | hp
  · have hp' : (64 : Int) < P.length := by omega
    go_wp2_with fail
    go_ret2
    exact ⟨[], none, 0, 3, rfl, Ge.nil _ _, .inr (.inr ⟨n, k, HNK.out.1, HNK.out.2, hl64, .inl ⟨by rw [HP.out]; exact hp, rfl, rfl⟩⟩), B3⟩
  · have hp' : ¬ (64 : Int) < P.length := by omega
    go_wp2_with fail
    go_ret2
    exact ⟨P, ya, yc, 0, rfl, HG.out, .inr (.inr ⟨n, k, HNK.out.1, HNK.out.2, hl64, .inr ⟨by rw [HP.out]; exact hp, by rw [HP.out], rfl⟩⟩), B3⟩
end Go.Proofs.YtblafbbnplfpjaaGreatDoor
