/-
  tokens: rows of bytes that grow; joined.
-/
import Derived.Test.YtiedpclomplnmaaTc4
import Derived.Test.YtiedpclomplnmaaTcQ
import Derived.Laws.IdiomStrings
import Derived.Lib.AppendStr
namespace Go.Proofs.Ytiedpclomplnmaa
open Go.RowKit Go.Shelf
set_option linter.unusedVariables false

def rowU (cs : List UInt8) : List Value := cs.map (fun c => Value.int .u8 (c.toNat : Int))
theorem rowU_length (cs : List UInt8) : (rowU cs).length = cs.length := by simp [rowU]
theorem rowU_append (a b : List UInt8) : rowU (a ++ b) = rowU a ++ rowU b := by simp [rowU]
theorem rowU_one (cs : List UInt8) : ∀ v ∈ rowU cs, v.oneCell' = true := by
  intro v hv
  simp only [rowU, List.mem_map] at hv
  obtain ⟨x, -, rfl⟩ := hv
  rfl
def GrU (w : World) (B : Nat) (v : Value) (cs : List UInt8) : Prop := w.ownsRow B 5 1 v cs.length (rowU cs)
theorem GrU.nil (w : World) (B : Nat) : GrU w B (.slice none 0 0) [] := ⟨rfl, .inl ⟨rfl, rfl⟩⟩
theorem GrU.alloc {w : World} {B : Nat} {v : Value} {cs : List UInt8} (h : GrU w B v cs) (o : Obj) : GrU (w.alloc o) B v cs := World.ownsRow.alloc h o
theorem GrU.block {w : World} {B : Nat} {v : Value} {cs : List UInt8} (h : GrU w B v cs) : ∀ k, v.ownBlock = some k → B ≤ k := by
  obtain ⟨h1, h2 | ⟨g, cap, cur, rfl, hB, hh, hc, hm, hs, ht⟩⟩ := h
  · obtain ⟨rfl, h0⟩ := h2
    intro k hk; cases hk
  · intro k hk; cases hk; exact hB
theorem info1U : (Try.prog.info? 5).map (fun i => (i.zero, i.size, i.bytes)) = some (some (.int .u8 0), 1, 1) := by kernel_rfl
theorem GrU.after {w w' : World} {B : Nat} {v : Value} {cs : List UInt8} (hb : Below w.heap.size w w') (h : GrU w B v cs) : GrU w' B v cs := by
  obtain ⟨h1, h2 | ⟨g, cap, cur, e, hB, hh, r⟩⟩ := h
  · exact ⟨h1, .inl h2⟩
  · exact ⟨h1, .inr ⟨g, cap, cur, e, hB, by rw [hb.block g (Array.getElem?_eq_some_iff.1 hh).1]; exact hh, r⟩⟩
theorem GrU.shape {w : World} {B : Nat} {v : Value} {cs : List UInt8} (h : GrU w B v cs) : ∃ a cap, v = .slice a cs.length cap := by
  obtain ⟨h1, h2 | ⟨g, cap, cur, rfl, hB, hh, hc, hm, hs, ht⟩⟩ := h
  · obtain ⟨rfl, h0⟩ := h2
    exact ⟨none, 0, by rw [h0]⟩
  · exact ⟨_, cap, rfl⟩
/-- append of one byte. -/
theorem wpList_appU {ops : Array Oper} {rest : List Oper} {o : Oper} {a : Act} {w : World} {Q : Exit → Act → World → Prop} (hgd : o.guard = none) (s x : Operand)
    (ho : o.op = .call { callee := .builtin .append, args := #[s, x], argTypes := #[39, 39] })
    (B : Nat) (v : Value) (cs : List UInt8) (hs : a.eval s = v) (hg : GrU w B v cs) (g : Nat) (c : UInt8) (hx : a.eval x = .slice (some ⟨g, 0, none⟩) 1 1) (hn : w.cell? ⟨g, 0, none⟩ = some (.int .u8 (c.toNat : Int)))
    (hb : cs.length + 1 ≤ 140737488355328) (hB : B ≤ w.heap.size)
    (h : ∀ v' w', Hid (GrU w' B v' (cs ++ [c])) → Below B w w' → wpList Try.prog ops Q rest (a.put o.dst v') w') : wpList Try.prog ops Q (o :: rest) a w := by
  obtain ⟨i0, hi, hz0, hz1, hz2⟩ := info_parts info1U
  refine wpList_append_own w hgd s x _ ho B 5 i0 (.int .u8 0) 1 1 Try.underlying39 hi hz0 hz1 hz2 rfl (by decide) v cs.length (rowU cs) hs hg ⟨g, 0, none⟩ 1 1 (rowU [c]) hx rfl ?_ (rowU_one _) (by unfold maxLen; omega) (by omega) hB ?_
  · intro j u hu
    match j, hu with
    | 0, hu => cases hu; exact hn
    | j + 1, hu => simp [rowU] at hu
  · intro v' w' h2 h3 _
    refine h v' w' ?_ ((Below.refl B w).grown h3 hB hg.block)
    show GrU w' B v' (cs ++ [c])
    unfold GrU
    rw [List.length_append, rowU_append]
    exact h2
theorem addr_add (b off j : Nat) : (⟨b, off, none⟩ : Addr).add j = ⟨b, off + j, none⟩ := by
  unfold Addr.add; split <;> simp_all
theorem strCells_row (l : List UInt8) : Lib.strCells ⟨l.toArray⟩ = rowU l := by
  simp [Lib.strCells, rowU]
/-- append of a text's bytes. -/
theorem wpList_appX {ops : Array Oper} {rest : List Oper} {o : Oper} {a : Act} {w : World} {Q : Exit → Act → World → Prop} (hgd : o.guard = none) (s x : Operand)
    (ho : o.op = .call { callee := .builtin .append, args := #[s, x], argTypes := #[39, 9] })
    (B : Nat) (v : Value) (cs : List UInt8) (hs : a.eval s = v) (hg : GrU w B v cs) (l : List UInt8) (hx : a.eval x = sv l)
    (hb : cs.length + l.length ≤ 140737488355328) (hB : B ≤ w.heap.size)
    (h : ∀ v' w', Hid (GrU w' B v' (cs ++ l)) → Below B w w' → wpList Try.prog ops Q rest (a.put o.dst v') w') : wpList Try.prog ops Q (o :: rest) a w := by
  obtain ⟨i0, hi, hz0, hz1, hz2⟩ := info_parts info1U
  have hsz := bsize l
  refine Lib.wpList_append_own_string (w := w) hgd s x _ _ ho B 5 i0 Try.underlying39 Try.underlying9 hi hz0 hz1 hz2 v cs.length (rowU cs) hs hg ⟨l.toArray⟩ hx (by unfold maxLen; omega) (by omega) hB ?_
  intro v' w' h2 h3 _
  refine h v' w' ?_ ((Below.refl B w).grown h3 hB hg.block)
  show GrU w' B v' (cs ++ l)
  unfold GrU
  rw [List.length_append, rowU_append, ← strCells_row l, ← hsz]
  exact h2
theorem conv_nil (w : World) : (convert 39 9 (.slice none 0 0)).run Try.prog w = .ok (sv []) w := by
  simp [convert, run_underlying Try.underlying39, run_underlying Try.underlying9, run_underlying Try.underlying5, Conv.bytesToString, go_sem]
  rfl
theorem GrU.conv {w : World} {B : Nat} {v : Value} {cs : List UInt8} (h : GrU w B v cs) : (convert 39 9 v).run Try.prog w = .ok (sv cs) w := by
  obtain ⟨h1, h2 | ⟨g, cap, cur, rfl, hB, hh, hc, hm, hs, ht⟩⟩ := h
  · obtain ⟨rfl, h0⟩ := h2
    obtain rfl := List.length_eq_zero_iff.1 h0
    exact conv_nil w
  · refine run_convert_bytes_back (P := Try.prog) w 39 9 5 ⟨g, 0, none⟩ cap cs Try.underlying39 Try.underlying5 Try.underlying9 (fun j hj => ?_)
    have hr : (rowU cs)[j]? = some (.int .u8 ((cs[j]).toNat : Int)) := by simp [rowU, hj]
    rw [← ht, Nat.mul_one, List.getElem?_take_of_lt hj] at hr
    rw [addr_add, Nat.zero_add]
    simp only [World.cell?, hh]
    simpa using hr
/-- How much room the texts take. -/
def nT (ts : List Tk) : Nat := (ts.map (fun t => t.tx.length + 1)).sum
theorem nT_snoc (a : List Tk) (t : Tk) : nT (a ++ [t]) = nT a + (t.tx.length + 1) := by simp [nT]
theorem nT_take (ts : List Tk) (i : Nat) (h : i < ts.length) : nT (ts.take (i + 1)) = nT (ts.take i) + ((ts.getD i tk0).tx.length + 1) := by
  rw [List.take_add_one, List.getElem?_eq_getElem h, List.getD_eq_getElem?_getD, List.getElem?_eq_getElem h]
  exact nT_snoc _ _
theorem nT_le (ts : List Tk) (i : Nat) : nT (ts.take i) ≤ nT ts := by
  have : nT ts = nT (ts.take i) + nT (ts.drop i) := by
    conv => lhs; rw [← List.take_append_drop i ts]
    simp only [nT, List.map_append, List.sum_append]
  omega
theorem jn_take (ts : List Tk) (i : Nat) (h : i < ts.length) (h0 : 0 < i) : jn (ts.take (i + 1)) = jn (ts.take i) ++ [32] ++ (ts.getD i tk0).tx := by
  rw [List.take_add_one, List.getElem?_eq_getElem h, List.getD_eq_getElem?_getD, List.getElem?_eq_getElem h]
  show jn (ts.take i ++ [ts[i]]) = _
  rw [jn_snoc _ _ (by intro e; have := congrArg List.length e; rw [List.length_take, List.length_nil] at this; omega)]
  simp
theorem jn_len : ∀ ts : List Tk, (jn ts).length ≤ nT ts
  | [] => Nat.zero_le _
  | [t] => by simp [jn, nT]
  | t :: u :: ts => by
    have := jn_len (u :: ts)
    have e : nT (t :: u :: ts) = t.tx.length + 1 + nT (u :: ts) := by simp [nT]
    rw [e]
    show (t.tx ++ 32 :: jn (u :: ts)).length ≤ _
    simp only [List.length_append, List.length_cons]
    omega
set_option maxHeartbeats 1000000 in
theorem joined_any (B g n cap : Nat) (ts : List Tk) (w : World) (h : Gt w B (.slice (some ⟨g, 0, none⟩) n cap) ts) (h0 : ts ≠ []) (hs : nT ts ≤ 1000000) :
    Calls Try.prog 18 #[.slice (some ⟨g, 0, none⟩) n cap] w fun e w' => e = .returned (sv (jn ts)) ∧ Below w.heap.size w w' := by
  obtain ⟨a', cap', e, -, -, -⟩ := h.shape
  cases e
  have hl : ts.length ≤ nT ts := by
    clear h h0 hs
    induction ts with
    | nil => exact Nat.zero_le _
    | cons t ts ih => simp [nT] at ih ⊢; omega
  have hl1 : 1 ≤ ts.length := by cases ts with | nil => exact absurd rfl h0 | cons _ _ => simp
  have HG : Hid (Gt w B (.slice (some ⟨g, 0, none⟩) ts.length cap) ts) := h
  obtain ⟨i0, hi, hz0, hz1, hz2⟩ := info_parts info1U
  have hb8 : ∀ q, q ≤ 1000000 → i0.bytes * q ≤ 281474976710656 := by intro q hq; rw [hz2]; omega
  have HB8 : Hid (∀ q, q ≤ 1000000 → i0.bytes * q ≤ 281474976710656) := hb8
  have Hs : Hid (nT ts ≤ 1000000) := hs
  have hnl := nT_le ts
  clear h hb8
  go_enter Try.func18, Try.ntmps18
  go_wp2_with fail
  go_loopw [3, 4] (fun m i wr => ∃ k : Nat, i = .int .i64 k ∧ m = .int .i64 (nT (ts.take k)) ∧ k ≤ ts.length ∧ wr = w) (fun _ i _ => (ts.length - (intOf i).toNat : Nat))
  case atStart => exact ⟨0, rfl, rfl, Nat.zero_le _, rfl⟩
  case round =>
    obtain ⟨k, rfl, rfl, hk, hw⟩ := hrel
    subst hw
    rcases Nat.lt_or_ge k ts.length with hlt | hge
    · have hki : (k : Int) < ts.length := by omega
      have c1 : wr.cell? ⟨g, k * 4 + 1, none⟩ = some (sv (ts.getD k tk0).tx) := (HG.out.cells k hlt 1 (by omega)).1
      have e1 := nT_take ts k hlt
      have e2 := hnl (k + 1)
      have hq0 : (0 : Int) ≤ nT (ts.take k) := by omega
      generalize nT (ts.take k) = q at *
      have HQ : Hid (nT (ts.take (k + 1)) = q + ((ts.getD k tk0).tx.length + 1)) := e1
      have hsm : q + ((ts.getD k tk0).tx.length + 1) ≤ 1000000 := by omega
      clear e1 e2 hnl
      generalize (ts.getD k tk0).tx = X at *
      go_wp2_with fail
      go_roundw
      case rel => exact ⟨k + 1, rfl, by rw [HQ.out]; simp; omega, by omega, trivial⟩
      case measure => simp [intOf]; omega
    · obtain rfl : k = ts.length := by omega
      have hkk : ¬ (ts.length : Int) < ts.length := by omega
      rw [List.take_length]
      clear hge hkk
      obtain ⟨w0, hw0⟩ : ∃ w0, w0 = wr := ⟨_, rfl⟩
      subst hw0
      have hnt : ∃ N, nT ts = N := ⟨_, rfl⟩
      obtain ⟨N, hN⟩ := hnt
      have HN : Hid (nT ts = N) := hN
      rw [hN] at hs hl ⊢
      clear hN
      have hN1 : 1 ≤ N := by omega
      go_wp2_with (at_make; refine wpList_make_own w0 rfl _ _ 39 rfl w0.heap.size 5 i0 (.int .u8 0) 1 Try.underlying39 hi hz0 hz1 .i64 .i64 _ N rfl rfl ?c1 (HB8.out N hs) ?c2 (Nat.le_refl _) ?_)
      case c1 => rfl
      case c2 => unfold maxLen; omega
      intro w1 ho1 hg1
      have HG1 : Hid (GrU w1 w0.heap.size (.slice (some ⟨w0.heap.size, 0, none⟩) 0 N) []) := ho1
      have hb1 : Below w0.heap.size w0 w1 := (Below.refl _ _).grown hg1 (Nat.le_refl _) (fun k hk => by cases hk)
      have HB1 : Hid (Below w0.heap.size w0 w1) := hb1
      have hjl : ∀ i, (jn (ts.take i)).length ≤ 1000000 := fun i => by
        have h1 := jn_len (ts.take i)
        have h2 := hnl i
        have h3 := Hs.out
        omega
      have HJ : Hid (∀ i, (jn (ts.take i)).length ≤ 1000000) := hjl
      clear ho1 hg1 hb1 hnl hjl
      go_wp2_with fail
      go_loopw [5, 6] (fun b i wx => ∃ k : Nat, i = .int .i64 k ∧ k ≤ ts.length ∧ Hid (GrU wx w0.heap.size b (jn (ts.take k))) ∧ Hid (Below w0.heap.size w0 wx)) (fun _ i _ => (ts.length - (intOf i).toNat : Nat))
      case atStart => exact ⟨0, rfl, Nat.zero_le _, HG1.out, HB1.out⟩
      case round =>
        clear HG1 HB1
        obtain ⟨k, rfl, hk2, HR, HB⟩ := hrel
        obtain ⟨av, cv, rfl⟩ := HR.out.shape
        rcases Nat.lt_or_ge k ts.length with hlt | hge
        · have hki : (k : Int) < ts.length := by omega
          have c1 : wr.cell? ⟨g, k * 4 + 1, none⟩ = some (sv (ts.getD k tk0).tx) := ((HG.out.after HB.out).cells k hlt 1 (by omega)).1
          have hsz := HB.out.size
          have hj1 := HJ.out k
          have hj2 := HJ.out (k + 1)
          cases k with
          | zero =>
            have e1 : jn (ts.take (0 + 1)) = jn (ts.take 0) ++ (ts.getD 0 tk0).tx := by
              cases ts with
              | nil => exact absurd rfl h0
              | cons t ts => rfl
            have HE : Hid (jn (ts.take (0 + 1)) = jn (ts.take 0) ++ (ts.getD 0 tk0).tx) := e1
            have hjs : (jn (ts.take 0)).length + (ts.getD 0 tk0).tx.length ≤ 1000000 := by rw [e1, List.length_append] at hj2; exact hj2
            clear e1 hj2
            generalize (ts.getD 0 tk0).tx = X at *
            generalize jn (ts.take 0) = J at *
            go_wp2_with (at_builtin; refine wpList_appX rfl _ _ rfl w0.heap.size _ J rfl HR.out X rfl (by omega) hsz ?_; intro v' w2 HR2 hb2; obtain ⟨a2, c2, rfl⟩ := HR2.out.shape)
            go_roundw
            case rel => exact ⟨0 + 1, rfl, by omega, by first | (rw [HE.out]; exact HR2) | (have := HR2.out; rw [List.length_append] at this; rw [HE.out]; exact this), HB.out.trans hb2⟩
            case measure => simp [intOf]; omega
          | succ k =>
            have e1 := jn_take ts (k + 1) hlt (by omega)
            have HE : Hid (jn (ts.take (k + 1 + 1)) = jn (ts.take (k + 1)) ++ [32] ++ (ts.getD (k + 1) tk0).tx) := e1
            have hjs : (jn (ts.take (k + 1))).length + 1 + (ts.getD (k + 1) tk0).tx.length ≤ 1000000 := by rw [e1, List.length_append, List.length_append] at hj2; exact hj2
            have hk0 : (0 : Int) < ((k + 1 : Nat) : Int) := by omega
            have KC : Hid (∀ W, Below w0.heap.size w0 W → W.cell? ⟨g, (k + 1) * 4 + 1, none⟩ = some (sv (ts.getD (k + 1) tk0).tx)) := fun W hW => ((HG.out.after hW).cells (k + 1) hlt 1 (by omega)).1
            clear e1 hj2 c1
            generalize (ts.getD (k + 1) tk0).tx = X at *
            generalize jn (ts.take (k + 1)) = J at *
            generalize k + 1 = q at *
            go_wp2_with (at_builtin; first
              | (refine wpList_appU rfl _ _ rfl w0.heap.size _ J rfl (HR.out.alloc _) wr.heap.size 32 rfl (va_c wr _ 0 rfl) (by omega) (by simp; omega) ?_; intro v' w2 HR2 hb2; obtain ⟨a2, c2, rfl⟩ := HR2.out.shape; have hb3 : Below w0.heap.size w0 w2 := (HB.out.alloc hsz _).trans hb2; have c3 : w2.cell? ⟨g, q * 4 + 1, none⟩ = some (sv X) := (KC.out w2 hb3); have HB3 : Hid (Below w0.heap.size w0 w2) := hb3; have hsz2 := hb3.size; clear hb2 hb3)
              | (refine wpList_appX rfl _ _ rfl w0.heap.size _ (J ++ [32]) rfl (by have := HR2.out; first | exact this | (rw [List.length_append] at this; exact this)) X rfl (by rw [List.length_append]; exact Nat.le_trans hjs (by omega)) hsz2 ?_; intro v' w3 HR3 hb3; obtain ⟨a3, c3', rfl⟩ := HR3.out.shape))
            go_roundw
            case rel => exact ⟨q + 1, rfl, by omega, by first | (rw [HE.out]; exact HR3) | (have e9 : (J ++ [32] ++ X).length = J.length + (X.length + 1) := (by simp); have := HR3.out; rw [e9] at this; rw [HE.out]; exact this), HB3.out.trans hb3⟩
            case measure => simp [intOf]; omega
        · obtain rfl : k = ts.length := by omega
          rw [List.take_length] at HR ⊢
          have hcv := HR.out.conv
          clear hge
          go_wp2_with fail
          go_ret
          exact ⟨rfl, HB.out⟩
end Go.Proofs.Ytiedpclomplnmaa
