/-
  numeral.joined of any digits, the highest not 0.
-/
import Derived.Test.YtpfbcicjfnfpgaaJoinP
import Derived.Test.YtpfbcicjfnfpgaaJoinFew
import Derived.Test.YtpfbcicjfnfpgaaBsN
namespace Go.Proofs.Ytpfbcicjfnfpgaa
open Go.RowKit Go.Shelf
set_option linter.unusedVariables false
attribute [local go_sem] Oper.semAt_some

/-- The digits of a round. -/
def JD (w W : World) (g off len cap : Nat) (D : Nat → Dg) (ab : Option Addr) (lb cb : Nat) (ys : List Int) (V : Int) : Prop :=
  g < W.heap.size ∧ g ≠ w.heap.size ∧ (∀ j, j < len → W.cell? ⟨g, off + j, none⟩ = some (dv (D j))) ∧ (∀ j, Nt W (D j).1 (D j).2.1 (D j).2.2.1 (D j).2.2.2) ∧ Nt W ab lb cb ys ∧ 1 ≤ num ys ∧ len ≤ 1000000 ∧ len ≤ cap ∧ dsum (num ys) D (down len len) = V ∧ (0 < len → num (D (len - 1)).2.2.2 ≠ 0)
/-- The variables of a round. -/
def JV (w W : World) (ms : List Nat) (ab : Option Addr) (lb cb : Nat) : Prop :=
  Va W w.heap.size 25 #[.slice ab lb cb] ∧ Va W (w.heap.size + 1) 25 #[.slice none 0 0] ∧ Va W (w.heap.size + 1 + 1) 33 #[.int .i64 0] ∧ Below w.heap.size w W ∧ MK w.heap.size ms W ∧ (∀ m ∈ ms, m < W.heap.size)
/-- What stands between two pieces. -/
def JI (W : World) (R P Q : Nat) (PV : Nat → Int) (pre : List Nat) (X : World) : Prop :=
  Below W.heap.size W X ∧ P ≠ R ∧ W.heap.size ≤ P ∧ ∃ ds : List Dg, ds.length = pre.length ∧ Rx X R (Q + 1) (ds.map dv) ∧ Va X P 98 #[.slice (some ⟨R, 0, none⟩) pre.length (Q + 1)] ∧ (∀ d ∈ ds, Nt X d.1 d.2.1 d.2.2.1 d.2.2.2) ∧ ∀ (i x : Nat) (d : Dg), pre[i]? = some x → ds[i]? = some d → num d.2.2.2 = PV x
/-- What stands where a piece was too long. -/
def JX (w : World) (ms : List Nat) (PV : Nat → Int) (pre : List Nat) (X : World) : Prop :=
  Va X (w.heap.size + 1) 25 #[.slice none 0 0] ∧ Va X (w.heap.size + 1 + 1) 33 #[.int .i64 3] ∧ Below w.heap.size w X ∧ MK w.heap.size ms X ∧ ∃ x ∈ pre, pw 4096 ≤ PV x
theorem va_grown {W W' : World} {b : Nat} {t : TypeId} {v : Value} {row : Option Nat} (h : Va W b t #[v]) (hg : W.grownBy W' row) (hr : ∀ r, row = some r → ∃ o : Obj, W.heap[r]? = some o ∧ o.isCells = false) : Va W' b t #[v] :=
  boxed_own b t (fun (_ : Unit) => v) () W W' row h hg hr
theorem rx_grown {W W' : World} {g cap : Nat} {ss : List Value} {row : Option Nat} (h : Rx W g cap ss) (hg : W.grownBy W' row) (hr : ∀ r, row = some r → ∃ o : Obj, W.heap[r]? = some o ∧ o.isCells = false) : Rx W' g cap ss := by
  refine h.at (hg.block g h.lt (fun e => ?_))
  obtain ⟨o, ho, hc⟩ := hr g e.symm
  obtain ⟨rest, hh, -⟩ := h
  rw [hh] at ho; cases ho; cases hc
theorem jI_own (W : World) (R P Q : Nat) (PV : Nat → Int) (n : Nat) (hn : W.heap.size ≤ n) : OwnFrom n (JI W R P Q PV) := by
  intro s X X' row hs hg hr
  obtain ⟨h1, h2, h3, ds, h4, h5, h6, h7, h8⟩ := hs
  have hr2 := fun r e => (hr r e).2
  exact ⟨ownFrom_below (β := Unit) (Nat.le_refl _) hn () X X' row h1 hg hr, h2, h3, ds, h4, rx_grown h5 hg hr2, va_grown h6 hg hr2, fun d hd => ⟨sl_kept (h7 d hd).1 hg hr2, (h7 d hd).2⟩, h8⟩
theorem jX_own (w : World) (ms : List Nat) (PV : Nat → Int) (n : Nat) (hn : w.heap.size ≤ n) (hm : ∀ m ∈ ms, m < n) : OwnFrom n (JX w ms PV) := by
  intro s X X' row hs hg hr
  obtain ⟨h1, h2, h3, h4, h5⟩ := hs
  have hr2 := fun r e => (hr r e).2
  refine ⟨va_grown h1 hg hr2, va_grown h2 hg hr2, ownFrom_below (β := Unit) (Nat.le_refl _) hn () X X' row h3 hg hr, ⟨h4.1, fun m hmm => ⟨(h4.2 m hmm).1, ?_⟩⟩, h5⟩
  have hk := (h4.2 m hmm).2
  refine (hg.block m (Array.getElem?_eq_some_iff.1 hk).1 (fun e => ?_)).trans hk
  have h6 := (hr m e.symm).1
  have h7 := hm m hmm
  omega
theorem mks_cons (D : Nat) (ms : List Nat) : ({ target := .collected D, args := #[] } : Deferred) :: mks ms = mks (D :: ms) := rfl
/-- The end of the function, its marks taken. -/
theorem joined_end {w W : World} {R : Ending → World → Prop} {tmps : Array Value} {ms : List Nat} {a : Option Addr} {l c : Nat} {zs : List Int} {er : Int} (h4 : tmps.getD 4 undef = .pointer (some ⟨w.heap.size + 1, 0, none⟩)) (h5 : tmps.getD 5 undef = .pointer (some ⟨w.heap.size + 1 + 1, 0, none⟩))
    (v1 : Va W (w.heap.size + 1) 25 #[.slice a l c]) (v2 : Va W (w.heap.size + 1 + 1) 33 #[.int .i64 er]) (hn : Nt W a l c zs) (hb : Below w.heap.size w W) (hm : MK w.heap.size ms W)
    (hR : ∀ W', Nt W' a l c zs → Below w.heap.size w W' → R (.returned (.tuple #[.agg #[.slice a l c], .int .i64 er])) W') {n : Nat} : LeavesInM Fence.wide n Try.prog Try.f54 tmps R (mks ms) .returning W := by
  refine leaves_marks (b := w.heap.size) (fun W => Va W (w.heap.size + 1) 25 #[.slice a l c] ∧ Va W (w.heap.size + 1 + 1) 33 #[.int .i64 er] ∧ Nt W a l c zs ∧ Below w.heap.size w W) ?_ ?_ ms W hm ⟨v1, v2, hn, hb⟩
  · rintro W m ⟨h1, h2, h3, h4⟩ hbm hm
    exact ⟨putV h1 hm rfl, putV h2 hm rfl, ⟨sl_kept h3.1 (grownBy_putObj' _ m (.deferred none)) (fun r e => by cases e; exact ⟨_, hm, rfl⟩), h3.2⟩, h4.trans (belowK_b (w := w) (Nat.le_refl _) _ m _ _ hbm hm rfl rfl)⟩
  · rintro W ⟨h1, h2, h3, h4'⟩
    exact ⟨_, results_ne rfl h4 h1 h5 h2, hR W h3 h4'⟩

def Fits (V : Int) : Prop := ∀ n, n = 4096 → V < pw n
theorem Fits.lt {V : Int} (h : Fits V) : V < pw 4096 := h 4096 rfl
theorem Fits.no {V : Int} (h : ¬ Fits V) : pw 4096 ≤ V := Int.not_lt.1 (fun k => h (fun n e => by rw [e]; exact k))
theorem keeps_row {W W' : World} {g cap : Nat} {ss : List Value} (h : Rx W g cap ss) (hs : W'.heap.size = W.heap.size) (hf : ∀ k, k ≠ g → W'.heap[k]? = W.heap[k]?) : KeepsOthers W W' :=
  ⟨by omega, fun k o hk ho => (hf k (fun e => by obtain ⟨rest, hh, -⟩ := h; rw [e, hh] at hk; cases hk; cases ho)).trans hk⟩
theorem ji_on {W X X1 XA X4 : World} {P Q S N n x : Nat} {PV : Nat → Int} {pre : List Nat} {ds : List Dg} {a : Option Addr} {l c : Nat} {zs : List Int}
    (kB : Below W.heap.size W X) (kne : P ≠ W.heap.size) (kP : W.heap.size ≤ P) (kl : ds.length = pre.length) (kR : Rx X W.heap.size (Q + 1) (ds.map dv)) (kV : Va X P 98 #[.slice (some ⟨W.heap.size, 0, none⟩) pre.length (Q + 1)]) (kN : ∀ d ∈ ds, Nt X d.1 d.2.1 d.2.2.1 d.2.2.2) (kv : ∀ (i x : Nat) (d : Dg), pre[i]? = some x → ds[i]? = some d → num d.2.2.2 = PV x)
    (hb1 : Below X.heap.size X X1) (hA : Below X1.heap.size X1 XA) (hn : Nt X1 a l c zs) (hz : num zs = PV x) (HR4 : Rx X4 W.heap.size (Q + 1) (ds.map dv ++ [.slice a l c])) (HF4 : ∀ k, k ≠ W.heap.size → X4.heap[k]? = XA.heap[k]?) (HS4 : X4.heap.size = XA.heap.size) (HB4 : Below W.heap.size XA X4)
    (hS1 : S ≠ W.heap.size) (hS2 : S ≠ P) (hN1 : N ≠ W.heap.size) (hN2 : N ≠ P) :
    KeepsFrom n X (X4.setCell ⟨P, 0, none⟩ (.slice (some ⟨W.heap.size, 0, none⟩) (pre.length + 1) (Q + 1))) ∧ Kc W.heap.size S N X (X4.setCell ⟨P, 0, none⟩ (.slice (some ⟨W.heap.size, 0, none⟩) (pre.length + 1) (Q + 1))) ∧ JI W W.heap.size P Q PV (pre ++ [x]) (X4.setCell ⟨P, 0, none⟩ (.slice (some ⟨W.heap.size, 0, none⟩) (pre.length + 1) (Q + 1))) := by
  have hXA : Below X.heap.size X XA := step hb1 hA
  have kRA := kR.after hXA
  have kVA := Va.after hXA kV
  have kV4 : Va X4 P 98 #[.slice (some ⟨W.heap.size, 0, none⟩) pre.length (Q + 1)] := (HF4 P kne).trans kVA
  have hBX : Below W.heap.size X (X4.setCell ⟨P, 0, none⟩ (.slice (some ⟨W.heap.size, 0, none⟩) (pre.length + 1) (Q + 1))) := (((hXA.mono kB.size).trans HB4).setCell (p := ⟨P, 0, none⟩) kP _)
  have one : ∀ {B : Nat} {t : TypeId} {v : Value}, B ≠ W.heap.size → B ≠ P → Boxed X B t v → Boxed (X4.setCell ⟨P, 0, none⟩ (.slice (some ⟨W.heap.size, 0, none⟩) (pre.length + 1) (Q + 1))) B t v := fun {B t v} h1 h2 h => by
    have h3 : Va XA B t #[v] := Va.after hXA h
    have h4 : Va X4 B t #[v] := (HF4 B h1).trans h3
    exact Va.other h4 (p := ⟨P, 0, none⟩) h2 _
  have past : ∀ d : Dg, Nt XA d.1 d.2.1 d.2.2.1 d.2.2.2 → Nt (X4.setCell ⟨P, 0, none⟩ (.slice (some ⟨W.heap.size, 0, none⟩) (pre.length + 1) (Q + 1))) d.1 d.2.1 d.2.2.1 d.2.2.2 := fun d h =>
    (Nt.past h (fun h0 p hp => kRA.ne h h0 hp) HF4).far kV4 (noInt1 _ _ _) (far1 _ _ _)
  refine ⟨(((keeps_below hXA).trans (keeps_row kRA HS4 HF4)).trans (KeepsOthers.setCell _ _ _)).from _, ⟨hBX, fun v h => one hS1 hS2 h, fun v h => one hN1 hN2 h⟩, kB.trans hBX, kne, kP, ds ++ [(a, l, c, zs)], by simp [kl], ?_, ?_, fun d hd => ?_, fun i y d hi hd => ?_⟩
  · rw [List.map_append]
    exact HR4.at (far1 _ _ _ _ (Ne.symm kne))
  · rw [List.length_append]; exact kV4.set _
  · rcases List.mem_append.1 hd with h | h
    · exact past d (Nt.after hXA (kN d h))
    · obtain rfl : d = (a, l, c, zs) := by simpa using h
      exact past (a, l, c, zs) (Nt.after hA hn)
  · rcases Nat.lt_or_ge i pre.length with h | h
    · rw [List.getElem?_append_left h] at hi
      rw [List.getElem?_append_left (by omega)] at hd
      exact kv i y d hi hd
    · have hi2 := (List.getElem?_eq_some_iff.1 hi).1
      rw [List.length_append] at hi2
      have e : i = pre.length := by simp at hi2; omega
      subst e
      rw [List.getElem?_append_right (Nat.le_refl _), Nat.sub_self] at hi
      rw [List.getElem?_append_right (by omega), kl, Nat.sub_self] at hd
      cases hi; cases hd
      exact hz
theorem jx_on {w X X1 : World} {n x : Nat} {ms : List Nat} {PV : Nat → Int} {pre : List Nat} {o : Obj} {c0 : Code} (hb1 : Below X.heap.size X X1) (y1 : Va X1 (w.heap.size + 1) 25 #[.slice none 0 0]) (y2 : Va X1 (w.heap.size + 1 + 1) 33 #[.int .i64 0]) (hb : Below w.heap.size w X1) (hM : MK w.heap.size ms X1) (hp : pw 4096 ≤ PV x) :
    KeepsFrom n X (((X1.setCell ⟨w.heap.size + 1, 0, none⟩ (.slice none 0 0)).setCell ⟨w.heap.size + 1 + 1, 0, none⟩ (.int .i64 3)).alloc o) ∧ c0 = c0 ∧ JX w ms PV (pre ++ [x]) (((X1.setCell ⟨w.heap.size + 1, 0, none⟩ (.slice none 0 0)).setCell ⟨w.heap.size + 1 + 1, 0, none⟩ (.int .i64 3)).alloc o) := by
  have k := ((KeepsOthers.setCell X1 ⟨w.heap.size + 1, 0, none⟩ (.slice none 0 0)).trans (KeepsOthers.setCell _ ⟨w.heap.size + 1 + 1, 0, none⟩ (.int .i64 3))).trans (KeepsOthers.alloc _ o)
  have u1 := (y1.set (.slice none 0 0)).other (p := ⟨w.heap.size + 1 + 1, 0, none⟩) (show w.heap.size + 1 ≠ w.heap.size + 1 + 1 by omega) (.int .i64 3)
  have u2 := (y2.other (p := ⟨w.heap.size + 1, 0, none⟩) (show w.heap.size + 1 + 1 ≠ w.heap.size + 1 by omega) (.slice none 0 0)).set (.int .i64 3)
  have b1 := (hb.setCell (p := ⟨w.heap.size + 1, 0, none⟩) (show w.heap.size ≤ w.heap.size + 1 by omega) (.slice none 0 0)).setCell (p := ⟨w.heap.size + 1 + 1, 0, none⟩) (show w.heap.size ≤ w.heap.size + 1 + 1 by omega) (.int .i64 3)
  exact ⟨((keeps_below hb1).trans k).from _, rfl, u1.old _, u2.old _, b1.alloc b1.size _, hM.keep k, x, by simp, hp⟩
theorem jd_next {w W X X1 XA : World} {g off len cap P Q : Nat} {D : Nat → Dg} {ab as' : Option Addr} {lb cb ls cs : Nat} {ys zs : List Int} {V : Int} {ms : List Nat} {ds : List Dg} (hJ : JD w W g off len cap D ab lb cb ys V) (hV : JV w W ms ab lb cb) (hl2 : 2 < len) (hQ : Q = len / 2)
    (kB : Below W.heap.size W X) (kl : ds.length = (len + 1) / 2) (kR : Rx X W.heap.size (Q + 1) (ds.map dv)) (kN : ∀ d ∈ ds, Nt X d.1 d.2.1 d.2.2.1 d.2.2.2) (kv : ∀ (i x : Nat) (d : Dg), (List.range ((len + 1) / 2))[i]? = some x → ds[i]? = some d → num d.2.2.2 = Pc (num ys) D len x)
    (hM : MK w.heap.size ms X) (hb1 : Below X.heap.size X X1) (hA : Below X1.heap.size X1 XA) (hn : Nt X1 as' ls cs zs) (hz : num zs = num ys * num ys) {ms' : List Nat} (hM' : MK w.heap.size ms' X) :
    JD w (XA.setCell ⟨w.heap.size, 0, none⟩ (.slice as' ls cs)) W.heap.size 0 ((len + 1) / 2) (Q + 1) (lD ds) as' ls cs zs V ∧ JV w (XA.setCell ⟨w.heap.size, 0, none⟩ (.slice as' ls cs)) ms' as' ls cs := by
  obtain ⟨jg, jne, jc, jD, jy, jB, jl, jcap, jV, jt⟩ := hJ
  obtain ⟨v0, v1, v2, hB, -, -⟩ := hV
  have hl0 : w.heap.size < W.heap.size := v0.lt
  have hXA : Below X.heap.size X XA := step hb1 hA
  have hWA : Below W.heap.size W XA := kB.trans (hXA.mono kB.size)
  have y0 := Va.after hWA v0
  have hNN : ∀ j, 0 ≤ num (D j).2.2.2 := fun j => (jD j).nonneg
  have hR5 : Rx (XA.setCell ⟨w.heap.size, 0, none⟩ (.slice as' ls cs)) W.heap.size (Q + 1) (ds.map dv) := (kR.after hXA).at (far1 _ _ _ _ (by omega))
  have hval : ∀ j, j < (len + 1) / 2 → num (lD ds j).2.2.2 = Pc (num ys) D len j := fun j hj => kv j j _ (List.getElem?_range hj) (lD_some (by omega))
  have hsq : 1 ≤ num zs := by rw [hz]; have := Int.mul_le_mul jB jB (by omega) (by omega); omega
  refine ⟨⟨hR5.lt, by omega, fun j hj => ?_, fun j => ?_, (Nt.after hA hn).far y0 (noInt1 _ _ _) (far1 _ _ _), hsq, by omega, by omega, ?_, fun h => ?_⟩, y0.set _, (Va.after hWA v1).other (p := ⟨w.heap.size, 0, none⟩) (show w.heap.size + 1 ≠ w.heap.size by omega) _, (Va.after hWA v2).other (p := ⟨w.heap.size, 0, none⟩) (show w.heap.size + 1 + 1 ≠ w.heap.size by omega) _, ?_, ?_, ?_⟩
  · rw [Nat.zero_add]
    exact hR5.cell (by rw [List.getElem?_map, lD_some (by omega)]; rfl)
  · exact lD_mem (P := fun d => Nt (XA.setCell ⟨w.heap.size, 0, none⟩ (.slice as' ls cs)) d.1 d.2.1 d.2.2.1 d.2.2.2) (fun d hd => (Nt.after hXA (kN d hd)).far y0 (noInt1 _ _ _) (far1 _ _ _)) (Nt.nil _) j
  · rw [dsum_pv, pv_congr _ hval, hz, pc_sum]; exact jV
  · rw [hval _ (by omega)]
    exact pc_top jB hNN (by omega) (jt (by omega))
  · exact (hB.trans (hWA.mono hB.size)).setCell (p := ⟨w.heap.size, 0, none⟩) (Nat.le_refl _) _
  · exact (hM'.after hXA).keep (KeepsOthers.setCell _ _ _)
  · intro m hm
    have h := ((hM'.after hXA).keep (KeepsOthers.setCell XA ⟨w.heap.size, 0, none⟩ (.slice as' ls cs))).2 m hm
    exact (Array.getElem?_eq_some_iff.1 h.2).1
theorem JD.after {w W W' : World} {g off len cap : Nat} {D : Nat → Dg} {ab : Option Addr} {lb cb : Nat} {ys : List Int} {V : Int} (hb : Below W.heap.size W W') (h : JD w W g off len cap D ab lb cb ys V) : JD w W' g off len cap D ab lb cb ys V :=
  ⟨Nat.lt_of_lt_of_le h.1 hb.size, h.2.1, fun j hj => (hb.cell (p := ⟨g, off + j, none⟩) h.1).trans (h.2.2.1 j hj), fun j => Nt.after hb (h.2.2.2.1 j), Nt.after hb h.2.2.2.2.1, h.2.2.2.2.2⟩
theorem JV.after {w W W' : World} {ms : List Nat} {ab : Option Addr} {lb cb : Nat} (hb : Below W.heap.size W W') (h : JV w W ms ab lb cb) : JV w W' ms ab lb cb :=
  ⟨Va.after hb h.1, Va.after hb h.2.1, Va.after hb h.2.2.1, step h.2.2.2.1 hb, h.2.2.2.2.1.after hb, fun m hm => Nat.lt_of_lt_of_le (h.2.2.2.2.2 m hm) hb.size⟩
def slen : Value → Nat
  | .slice _ l _ => l
  | _ => 0
set_option maxRecDepth 100000 in
set_option maxHeartbeats 16000000 in
theorem joined_in (b off len cap : Nat) (D : Nat → Dg) (xa : Option Addr) (xl xc : Nat) (ys : List Int) (w : World) (hlen : len ≤ 1000000) (hcap : len ≤ cap) (hbw : b < w.heap.size) (hc : ∀ j, j < len → w.cell? ⟨b, off + j, none⟩ = some (dv (D j))) (hD : ∀ j, Nt w (D j).1 (D j).2.1 (D j).2.2.1 (D j).2.2.2) (hy : Nt w xa xl xc ys) (hB : 1 ≤ num ys) (ht : 0 < len → num (D (len - 1)).2.2.2 ≠ 0) :
    CallsIn Fence.wide 7 Try.prog 54 #[.slice (some ⟨b, off, none⟩) len cap, .agg #[.slice xa xl xc]] w fun e W' => ∃ er a l c zs, e = .returned (.tuple #[.agg #[.slice a l c], .int .i64 er]) ∧ Nt W' a l c zs ∧ Hid (AdR (dsum (num ys) D (down len len)) er a l c zs) ∧ Below w.heap.size w W' := by
  obtain ⟨V, hV⟩ : ∃ V, dsum (num ys) D (down len len) = V := ⟨_, rfl⟩
  rw [hV]
  refine callsIn_of_wp_marks Try.func54 rfl trivial ?_ rfl
  simp only [Try.ntmps54, List.size_toArray, List.length_cons, List.length_nil, Nat.reduceAdd, Nat.reduceSub, Array.replicate_succ, Array.replicate_zero, List.push_toArray, List.append_toArray, List.nil_append, List.cons_append]
  gi_wp2
  refine ent3 w _ _ _ _ _ _ (Q := fun W => Code.wpIn Fence.wide 7 Try.prog _ _ _ W) ?_
  intro W0 hB0 hsz V0 V1 V2
  have HJ0 : Hid (JD w W0 b off len cap D xa xl xc ys V) := ⟨by omega, by omega, fun j hj => (hB0.cell (p := ⟨b, off + j, none⟩) hbw).trans (hc j hj), fun j => Nt.after hB0 (hD j), Nt.after hB0 hy, hB, hlen, hcap, hV, ht⟩
  have HV0 : Hid (JV w W0 [] xa xl xc) := ⟨V0, V1, V2, hB0, ⟨List.nodup_nil, fun m hm => by simp at hm⟩, fun m hm => by simp at hm⟩
  clear hc hD hy hB ht hV V0 V1 V2 hB0 hsz hbw hlen hcap
  refine wpIn_loop (fun a W => ∃ (g off len cap : Nat) (D : Nat → Dg) (ab : Option Addr) (lb cb : Nat) (ys : List Int) (ms : List Nat) (u6 u7 u8 u9 u10 u11 u12 u13 u14 u15 u16 u17 u18 u19 u20 u21 u22 u23 u24 u25 u26 u27 u28 u29 u30 u31 u32 u33 u34 u35 u36 u37 u38 u39 u40 u41 u42 u43 u44 u45 u46 u47 u48 u49 u50 u51 u52 u53 : Value), a = { tmps := #[.slice (some ⟨g, off, none⟩) len cap, .agg #[.slice xa xl xc], undef, .pointer (some ⟨w.heap.size, 0, none⟩), .pointer (some ⟨w.heap.size + 1, 0, none⟩), .pointer (some ⟨w.heap.size + 1 + 1, 0, none⟩), u6, u7, u8, u9, u10, u11, u12, u13, u14, u15, u16, u17, u18, u19, u20, u21, u22, u23, u24, u25, u26, u27, u28, u29, u30, u31, u32, u33, u34, u35, u36, u37, u38, u39, u40, u41, u42, u43, u44, u45, u46, u47, u48, u49, u50, u51, u52, u53], defers := mks ms } ∧ Hid (JD w W g off len cap D ab lb cb ys V) ∧ Hid (JV w W ms ab lb cb)) (fun a _ => slen (a.tmps.getD 0 undef)) ⟨b, off, len, cap, D, xa, xl, xc, ys, [], _, _, _, _, _, _, _, _, _, _, _, _, _, _, _, _, _, _, _, _, _, _, _, _, _, _, _, _, _, _, _, _, _, _, _, _, _, _, _, _, _, _, _, _, _, _, _, _, rfl, HJ0, HV0⟩ ?_
  clear HJ0 HV0 ys D b off len cap
  rintro a W ⟨g, off, len, cap, D, ab, lb, cb, ys, ms, u6, u7, u8, u9, u10, u11, u12, u13, u14, u15, u16, u17, u18, u19, u20, u21, u22, u23, u24, u25, u26, u27, u28, u29, u30, u31, u32, u33, u34, u35, u36, u37, u38, u39, u40, u41, u42, u43, u44, u45, u46, u47, u48, u49, u50, u51, u52, u53, rfl, HJ, HV⟩
  obtain ⟨jg, jne, jc, jD, jy, jB, jl, jcap, jV, jt⟩ := HJ.out
  obtain ⟨v0, v1, v2, hB, hM, hML⟩ := HV.out
  have q0 := v0.cell
  have q1 := v1.cell
  have f1 := v1.frozen 0
  have q2 := v2.cell
  have f2 := v2.frozen 0
  have l0 := v0.lt
  have l1 := v1.lt
  have l2 := v2.lt
  by_cases hl2 : 2 < len
  · have hli : (2 : Int) < len := by omega
    obtain ⟨Q, hQ⟩ : ∃ Q : Nat, Q = len / 2 := ⟨_, rfl⟩
    have hQi : (len : Int).tdiv 2 = Q := by rw [Int.tdiv_eq_ediv_of_nonneg (by omega)]; omega
    have hQb : Q ≤ 1000000 := by omega
    obtain ⟨w1, hmk, hRx, hbm⟩ := run_mkrow W (Q + 1) (by omega)
    have hmk' : (Instr.makeSlice 98 (.int .i64 0) (.int .i64 ((Q : Int) + 1))).run Try.prog W = .ok (.slice (some ⟨W.heap.size, 0, none⟩) 0 (Q + 1)) w1 := by have := hmk; simpa using this
    have HRx : Hid (Rx w1 W.heap.size (Q + 1) []) := hRx
    have HQ : Hid (Q = len / 2) := hQ
    clear hmk hRx hQ
    gi_wp2_with (refine ⟨trivial, ?_⟩; gi_at_call 75; refine (chunk_in Fence.wide _ trivial rfl _ _ _ _).mono ?_; rintro e w' ⟨rfl, rfl⟩)
    refine ent3 w1 _ _ _ _ _ _ (Q := fun W => Code.wpIn Fence.wide 7 Try.prog _ _ _ W) ?_
    intro X0 hBx hsx P0 P1 P2
    have hR1 := HRx.out.lt
    have hbX : Below W.heap.size W X0 := step hbm hBx
    have hsz := hbX.size
    have hBs := hB.size
    have HI0 : Hid (JI W W.heap.size w1.heap.size Q (Pc (num ys) D len) [] X0) := ⟨hbX, by omega, hbm.size, [], rfl, HRx.out.after hBx, P0, fun d hd => by simp at hd, fun i x d h => by simp at h⟩
    have HQ2 : Hid ((len + 1) / 2 ≤ Q + 1) := by have := HQ.out; show (len + 1) / 2 ≤ Q + 1; omega
    have HML : Hid (∀ m ∈ ms, m < X0.heap.size) := fun m hm => Nat.lt_of_lt_of_le (hML m hm) hsz
    have HNN : Hid (∀ j, 0 ≤ num (D j).2.2.2) := fun j => (jD j).nonneg
    refine wpIn_rangeFunc_ownH rfl (show 1 ≤ 7 by omega) (gf := 89) (lb := #[.pointer (some ⟨w1.heap.size + 1, 0, none⟩), .pointer (some ⟨w1.heap.size + 1 + 1, 0, none⟩)]) rfl trivial (enters_of Try.func89 (by kernel_rfl) rfl)
      (chunk_stops Fence.wide (7 - 1) trivial rfl (by omega) (w1.heap.size + 1) (w1.heap.size + 1 + 1) W.heap.size g off len cap jl jcap X0 P1.lt P2.lt P1 P2) kc_t (kc_b hsz) (Below.refl _ _) (fun _ => rfl)
      (JI W W.heap.size w1.heap.size Q (Pc (num ys) D len)) (fun c pre X => c = .ret ∧ JX w ms (Pc (num ys) D len) pre X)
      (jI_own W _ _ _ _ _ hsz) (fun c s A A' row hs hg hr => ⟨hs.1, jX_own w ms _ _ (by omega) HML.out s A A' row hs.2 hg hr⟩)
      HI0.out (fun x a' X => a' = { tmps := #[.slice (some ⟨g, off, none⟩) len cap, .agg #[.slice xa xl xc], undef, .pointer (some ⟨w.heap.size, 0, none⟩), .pointer (some ⟨w.heap.size + 1, 0, none⟩), .pointer (some ⟨w.heap.size + 1 + 1, 0, none⟩), .pointer (some ⟨w1.heap.size, 0, none⟩), .slice (some ⟨g, off + 2 * x, none⟩) (cl len x) (cl len x), u8, u9, u10, u11, .slice (some ⟨g, off, none⟩) len cap, .int .i64 (len : Int), .bool true, .slice (some ⟨g, off, none⟩) len cap, .int .i64 (len : Int), .int .i64 (Q : Int), .int .i64 ((Q : Int) + 1), .slice (some ⟨W.heap.size, 0, none⟩) 0 (Q + 1), .slice (some ⟨g, off, none⟩) len cap, .func (.func 89) #[] #[.pointer (some ⟨w1.heap.size + 1, 0, none⟩), .pointer (some ⟨w1.heap.size + 1 + 1, 0, none⟩)], .slice (some ⟨g, off + 2 * x, none⟩) (cl len x) (cl len x), u23, u24, u25, u26, u27, u28, u29, u30, u31, u32, u33, u34, u35, u36, u37, u38, u39, u40, u41, u42, u43, u44, u45, u46, u47, u48, u49, u50, u51, u52, u53], defers := [] }) (fun x a' _ X Y row hs hg hr => hs) ?assign ?body ?done ?stop
    case assign =>
      rintro l pre x X K hI hK
      gi_wp2
      exact hK _ _ ((show KeepsOthers X X from ⟨Nat.le_refl _, fun _ _ h _ => h⟩).from _) (Kc.refl _ _ _ _) hI rfl
    case body =>
      rintro l pre x a' X hl ⟨r, hr⟩ hI rfl hlt
      obtain ⟨kB, kne, kP, ds, kl, kR, kV, kN, kv⟩ := hI
      have x0 := Va.after kB v0
      have x1 := Va.after kB v1
      have x2 := Va.after kB v2
      clear q0 q1 f1 q2 f2 l0 l1 l2
      have q0 := x0.cell
      have l0 := x0.lt
      have hAd := added_in g (off + 2 * x) (cl len x) (cl len x) (fun j => D (2 * x + j)) ab lb cb ys X (by unfold cl; omega) (Nat.lt_of_lt_of_le jg kB.size) (fun j hj => (kB.cell (p := ⟨g, off + 2 * x + j, none⟩) jg).trans (by rw [Nat.add_assoc]; exact jc (2 * x + j) (by unfold cl at hj; omega))) (fun j => Nt.after kB (jD _)) (Nt.after kB jy) jB
      have HLT : Hid (pre.length < (len + 1) / 2) := hlt
      clear hlt hr hl hmk' hli hQi
      by_cases hp : Fits ((Pc (num ys) D len) x)
      · have HF : Hid (Fits ((Pc (num ys) D len) x)) := hp
        clear hp
        gi_wp2_with (first
          | (refine ⟨trivial, ?_⟩; gi_at_call 76; refine (CallsIn.inRound l (callsIn_wide.2 (callsIn_wide.1 hAd))).mono ?_; rintro e X1 ⟨er, a1, m1, c1, zs, rfl, h1, hA, hb1⟩; obtain ⟨rfl, hz⟩ : er = 0 ∧ num zs = (Pc (num ys) D len) x := (by rcases hA.out with ⟨e1, e2, -⟩ | ⟨-, -, -, -, -, e2⟩; exact ⟨e1, e2⟩; exact absurd e2 (Int.not_le.2 HF.out.lt)); have HZ : Hid (num zs = (Pc (num ys) D len) x) := hz; have HN1 : Hid (Nt X1 a1 m1 c1 zs) := h1; have HB1 : Hid (Below X.heap.size X X1) := hb1; have kV1 := Va.after hb1 kV; have qp := kV1.cell; have lp := kV1.lt; have HXA : Hid (Below X1.heap.size X1 ((X1.alloc (.cells #[.slice a1 m1 c1] 25)).alloc (.cells #[.slice a1 m1 c1] 25))) := (((Below.refl _ _).alloc (Nat.le_refl _) _).alloc (by simp) _); have HRA : Hid (Rx ((X1.alloc (.cells #[.slice a1 m1 c1] 25)).alloc (.cells #[.slice a1 m1 c1] 25)) W.heap.size (Q + 1) (ds.map dv)) := kR.after (step hb1 HXA.out); clear q0 l0 hA hz h1 hb1)
          | (gi_at_builtin; refine wpListIn_appx rfl (.tmp 33) (.tmp 35) rfl W.heap.size pre.length (Q + 1) (ds.map dv) rfl (by rw [List.length_map, kl]) HRA.out (X1.heap.size + 1) 1 1 [.slice a1 m1 c1] rfl rfl (fun j u hu => by rcases j with _ | j; (cases hu; simp); (simp at hu)) (fun x hx => ⟨_, _, _, by simpa using hx⟩) (by have := HLT.out; have := HQ2.out; omega) ?_; intro X4 HR4 HF4 HS4 HB4; have kV4 : Va X4 w1.heap.size 98 #[.slice (some ⟨W.heap.size, 0, none⟩) pre.length (Q + 1)] := (HF4.out _ kne).trans (Va.after HXA.out kV1); have q4 := kV4.cell; have f4 := kV4.frozen 0; have l4 := kV4.lt; clear qp lp))
        exact ji_on kB kne kP kl kR kV kN kv HB1.out HXA.out HN1.out HZ.out HR4.out HF4.out HS4.out HB4.out (by omega) (by omega) (by omega) (by omega)
      · have HF : Hid (pw 4096 ≤ (Pc (num ys) D len) x) := Fits.no hp
        clear hp
        gi_wp2_with (refine ⟨trivial, ?_⟩; gi_at_call 76; refine (CallsIn.inRound l (callsIn_wide.2 (callsIn_wide.1 hAd))).mono ?_; rintro e X1 ⟨er, a1, m1, c1, zs, rfl, h1, hA, hb1⟩; obtain ⟨rfl, rfl, rfl, rfl⟩ : er = 3 ∧ a1 = none ∧ m1 = 0 ∧ c1 = 0 := (by rcases hA.out with ⟨-, -, e2⟩ | ⟨e1, e2, e3, e4, -, -⟩; exact absurd HF.out (Int.not_le.2 e2); exact ⟨e1, e2, e3, e4⟩); have y1 := Va.after hb1 x1; have y2 := Va.after hb1 x2; have q31 := y1.cell; have f31 := y1.frozen 0; have l31 := y1.lt; have q32 := y2.cell; have f32 := y2.frozen 0; have l32 := y2.lt; have HB1 : Hid (Below X.heap.size X X1) := hb1; clear q0 l0 hA h1 hb1)
        exact jx_on HB1.out y1 y2 (hB.trans ((step kB HB1.out).mono hB.size)) ((hM.after kB).after HB1.out) HF.out
    case done =>
      rintro Dd zs X hD1 rfl hI hK
      obtain ⟨kB, kne, kP, ds, kl, kR, kV, kN, kv⟩ := hI
      rw [List.length_range] at kl kV
      have x0 := Va.after kB v0
      have x1 := Va.after kB v1
      have x2 := Va.after kB v2
      clear q0 q1 f1 q2 f2 l0 l1 l2
      have q0 := x0.cell
      have l0 := x0.lt
      have hyX := Nt.after kB jy
      have hMX : MK w.heap.size (Dd :: ms) X := MK.cons (hM.after kB) (by omega) hK (fun h => by have := HML.out _ h; omega)
      have HMX : Hid (MK w.heap.size (Dd :: ms) X) := hMX
      have hBX : Below w.heap.size w X := hB.trans (kB.mono hB.size)
      clear hMX hmk' hQi hK
      by_cases hp : Fits (num ys * num ys)
      · have HF : Hid (Fits (num ys * num ys)) := hp
        clear hp
        gi_wp2_with (refine ⟨trivial, ?_⟩; gi_at_call 77; refine (callsIn_wide.2 (nmul_ok ab ab lb cb lb cb ys ys X hyX hyX HF.out.lt)).mono ?_; rintro e X1 ⟨as', ls, cs, zs, rfl, h1, hz, hb1⟩; have HZ : Hid (num zs = num ys * num ys) := hz; have HN1 : Hid (Nt X1 as' ls cs zs) := h1; have HB1 : Hid (Below X.heap.size X X1) := hb1; have kV1 := Va.after hb1 kV; have qp := kV1.cell; have lp := kV1.lt; have y0 := Va.after hb1 x0; have q30 := y0.cell; have f30 := y0.frozen 0; have l30 := y0.lt; clear q0 l0 hz h1 hb1)
        gi_region
        have hN := jd_next (P := w1.heap.size) HJ.out HV.out hl2 HQ.out kB kl kR kN kv (hM.after kB) HB1.out (Below.refl _ _) HN1.out HZ.out HMX.out
        have hbE : Below (X1.setCell ⟨w.heap.size, 0, none⟩ (.slice as' ls cs)).heap.size (X1.setCell ⟨w.heap.size, 0, none⟩ (.slice as' ls cs)) ((X1.setCell ⟨w.heap.size, 0, none⟩ (.slice as' ls cs)).alloc (.cells #[.slice as' ls cs] 25)).drew := ((Below.refl _ _).alloc (Nat.le_refl _) _).drew
        exact ⟨⟨W.heap.size, 0, (len + 1) / 2, Q + 1, lD ds, as', ls, cs, zs, Dd :: ms, _, _, _, _, _, _, _, _, _, _, _, _, _, _, _, _, _, _, _, _, _, _, _, _, _, _, _, _, _, _, _, _, _, _, _, _, _, _, _, _, _, _, _, _, _, _, _, _, rfl, JD.after hbE hN.1, JV.after hbE hN.2⟩, show (len + 1) / 2 < len by omega⟩
      · have HF : Hid (pw 4096 ≤ num ys * num ys) := Fits.no hp
        clear hp
        gi_wp2_with (refine ⟨trivial, ?_⟩; gi_at_call 77; refine (callsIn_wide.2 (nmul_long ab ab lb cb lb cb ys ys X hyX hyX HF.out)).mono ?_; rintro e X1 ⟨rfl, hb1⟩; have y1 := Va.after hb1 x1; have y2 := Va.after hb1 x2; have q31 := y1.cell; have f31 := y1.frozen 0; have l31 := y1.lt; have q32 := y2.cell; have f32 := y2.frozen 0; have l32 := y2.lt; have HB1 : Hid (Below X.heap.size X X1) := hb1; clear q0 l0 hb1)
        have u1 := ((y1.set (.slice none 0 0)).other (p := ⟨w.heap.size + 1 + 1, 0, none⟩) (show w.heap.size + 1 ≠ w.heap.size + 1 + 1 by omega) (.int .i64 3)).old (.cells #[.slice none 0 0] 25)
        have u2 := ((y2.other (p := ⟨w.heap.size + 1, 0, none⟩) (show w.heap.size + 1 + 1 ≠ w.heap.size + 1 by omega) (.slice none 0 0)).set (.int .i64 3)).old (.cells #[.slice none 0 0] 25)
        have b1 := ((step hBX (HB1.out)).setCell (p := ⟨w.heap.size + 1, 0, none⟩) (show w.heap.size ≤ w.heap.size + 1 by omega) (.slice none 0 0)).setCell (p := ⟨w.heap.size + 1 + 1, 0, none⟩) (show w.heap.size ≤ w.heap.size + 1 + 1 by omega) (.int .i64 3)
        exact joined_end (ms := Dd :: ms) rfl rfl u1 u2 (Nt.nil _) (b1.alloc b1.size _) (MK.keep (HMX.out.after HB1.out) (((KeepsOthers.setCell _ _ _).trans (KeepsOthers.setCell _ _ _)).trans (KeepsOthers.alloc _ _))) (fun W' h h' => ⟨3, none, 0, 0, [], rfl, h, Or.inr ⟨rfl, rfl, rfl, rfl, rfl, by rw [← jV]; exact Int.le_trans HF.out (sq_le jB HNN.out hl2 (jt (by omega)))⟩, h'⟩)
    case stop =>
      rintro Dd c pre X hD1 ⟨k, hk, rfl⟩ ⟨rfl, y1, y2, hB', hM', x, hx, hlong⟩ hK
      gi_wp2
      exact joined_end rfl rfl y1 y2 (Nt.nil _) hB' (MK.cons hM' (by omega) hK (fun h => by have := HML.out _ h; omega)) (fun W' h h' => ⟨3, none, 0, 0, [], rfl, h, Or.inr ⟨rfl, rfl, rfl, rfl, rfl, by rw [← jV]; exact Int.le_trans hlong (pc_le jB HNN.out (by have := List.mem_range.1 hx; omega))⟩, h'⟩)
  · have hli : ¬ (2 : Int) < len := by omega
    gi_wp2_with (refine ⟨trivial, ?_⟩; gi_at_call 76; refine (callsIn_wide.2 (callsIn_wide.1 (added_in g off len cap D ab lb cb ys W jl jg jc jD jy jB))).mono ?_; rintro e W1 ⟨er, a1, m1, c1, zs, rfl, h1, hA, hb1⟩; have y1 := Va.after hb1 v1; have y2 := Va.after hb1 v2; have q31 := y1.cell; have f31 := y1.frozen 0; have l31 := y1.lt; have q32 := y2.cell; have f32 := y2.frozen 0; have l32 := y2.lt; clear q0 q1 f1 q2 f2 l0 l1 l2)
    rw [jV] at hA
    have u1 := (y1.set (.slice a1 m1 c1)).other (p := ⟨w.heap.size + 1 + 1, 0, none⟩) (show w.heap.size + 1 ≠ w.heap.size + 1 + 1 by omega) (.int .i64 er)
    have u2 := (y2.other (p := ⟨w.heap.size + 1, 0, none⟩) (show w.heap.size + 1 + 1 ≠ w.heap.size + 1 by omega) (.slice a1 m1 c1)).set (.int .i64 er)
    have n1 := (h1.far y1 (noInt1 _ _ _) (far1 _ _ (.slice a1 m1 c1))).far (y2.other (p := ⟨w.heap.size + 1, 0, none⟩) (show w.heap.size + 1 + 1 ≠ w.heap.size + 1 by omega) (.slice a1 m1 c1)) noIntE (far1 _ _ (.int .i64 er))
    have b1 := ((hB.trans (hb1.mono hB.size)).setCell (p := ⟨w.heap.size + 1, 0, none⟩) (show w.heap.size ≤ w.heap.size + 1 by omega) (.slice a1 m1 c1)).setCell (p := ⟨w.heap.size + 1 + 1, 0, none⟩) (show w.heap.size ≤ w.heap.size + 1 + 1 by omega) (.int .i64 er)
    exact joined_end rfl rfl u1 u2 n1 b1 (MK.keep (hM.after hb1) ((KeepsOthers.setCell _ _ _).trans (KeepsOthers.setCell _ _ _))) (fun W' h h' => ⟨er, a1, m1, c1, zs, rfl, h, hA, h'⟩)
theorem joined_any (b off len cap : Nat) (D : Nat → Dg) (xa : Option Addr) (xl xc : Nat) (ys : List Int) (w : World) (hlen : len ≤ 1000000) (hcap : len ≤ cap) (hbw : b < w.heap.size) (hc : ∀ j, j < len → w.cell? ⟨b, off + j, none⟩ = some (dv (D j))) (hD : ∀ j, Nt w (D j).1 (D j).2.1 (D j).2.2.1 (D j).2.2.2) (hy : Nt w xa xl xc ys) (hB : 1 ≤ num ys) (ht : 0 < len → num (D (len - 1)).2.2.2 ≠ 0) :
    Calls Try.prog 54 #[.slice (some ⟨b, off, none⟩) len cap, .agg #[.slice xa xl xc]] w fun e W' => ∃ er a l c zs, e = .returned (.tuple #[.agg #[.slice a l c], .int .i64 er]) ∧ Nt W' a l c zs ∧ Hid (AdR (dsum (num ys) D (down len len)) er a l c zs) ∧ Below w.heap.size w W' :=
  callsIn_wide.1 (joined_in b off len cap D xa xl xc ys w hlen hcap hbw hc hD hy hB ht)
end Go.Proofs.Ytpfbcicjfnfpgaa
