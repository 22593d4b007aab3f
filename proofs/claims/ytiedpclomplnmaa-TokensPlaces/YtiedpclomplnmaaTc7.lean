/-
  tokens: lists of ints that grow; the statements' starts.
-/
import Derived.Test.YtiedpclomplnmaaTcR
import Derived.Test.YtiedpclomplnmaaTc5
namespace Go.Proofs.Ytiedpclomplnmaa
open Go.RowKit Go.Shelf
set_option linter.unusedVariables false

def rowN (ns : List Nat) : List Value := ns.map (fun n : Nat => Value.int .i64 (n : Int))
theorem rowN_length (ns : List Nat) : (rowN ns).length = ns.length := by simp [rowN]
theorem rowN_append (a b : List Nat) : rowN (a ++ b) = rowN a ++ rowN b := by simp [rowN]
theorem rowN_one (ns : List Nat) : ∀ v ∈ rowN ns, v.oneCell' = true := by
  intro v hv
  simp only [rowN, List.mem_map] at hv
  obtain ⟨x, -, rfl⟩ := hv
  rfl
def Gn (w : World) (B : Nat) (v : Value) (ns : List Nat) : Prop := w.ownsRow B 3 1 v ns.length (rowN ns)
theorem Gn.alloc {w : World} {B : Nat} {v : Value} {ns : List Nat} (h : Gn w B v ns) (o : Obj) : Gn (w.alloc o) B v ns := World.ownsRow.alloc h o
theorem Gn.block {w : World} {B : Nat} {v : Value} {ns : List Nat} (h : Gn w B v ns) : ∀ k, v.ownBlock = some k → B ≤ k := fun k hk => (World.ownsRow.lt h k hk).1
theorem Gn.after {w w' : World} {B : Nat} {v : Value} {ns : List Nat} (hb : Below w.heap.size w w') (h : Gn w B v ns) : Gn w' B v ns := by
  obtain ⟨h1, h2 | ⟨g, cap, cur, e, hB, hh, r⟩⟩ := h
  · exact ⟨h1, .inl h2⟩
  · exact ⟨h1, .inr ⟨g, cap, cur, e, hB, by rw [hb.block g (Array.getElem?_eq_some_iff.1 hh).1]; exact hh, r⟩⟩
theorem Gn.shape {w : World} {B : Nat} {v : Value} {ns : List Nat} (h : Gn w B v ns) (h0 : ns ≠ []) : ∃ g cap, v = .slice (some ⟨g, 0, none⟩) ns.length cap := by
  obtain ⟨h1, h2 | ⟨g, cap, cur, rfl, hB, hh, hc, hm, hs, ht⟩⟩ := h
  · exact absurd (List.length_eq_zero_iff.1 h2.2) h0
  · exact ⟨g, cap, rfl⟩
theorem Gn.cell {w : World} {B g n cap : Nat} {ns : List Nat} (h : Gn w B (.slice (some ⟨g, 0, none⟩) n cap) ns) (i : Nat) (hi : i < ns.length) : w.cell? ⟨g, i, none⟩ = some (.int .i64 (ns.getD i 0)) := by
  obtain ⟨h1, h2 | ⟨g', cap', cur, e, hB, hh, hc, hm, hs, ht⟩⟩ := h
  · cases h2.1
  · cases e
    have hr : (rowN ns)[i]? = some (.int .i64 (ns.getD i 0 : Nat)) := by
      simp [rowN, List.getD_eq_getElem?_getD, List.getElem?_eq_getElem hi]
    rw [← ht, Nat.mul_one, List.getElem?_take_of_lt hi] at hr
    simp only [World.cell?, hh]
    simpa using hr
theorem infoN : (Try.prog.info? 3).map (fun i => (i.zero, i.size, i.bytes)) = some (some (.int .i64 0), 1, 8) := by kernel_rfl
theorem wpList_appN {ops : Array Oper} {rest : List Oper} {o : Oper} {a : Act} {w : World} {Q : Exit → Act → World → Prop} (hgd : o.guard = none) (s x : Operand)
    (ho : o.op = .call { callee := .builtin .append, args := #[s, x], argTypes := #[32, 32] })
    (B : Nat) (v : Value) (ns : List Nat) (hs : a.eval s = v) (hg : Gn w B v ns) (g : Nat) (n : Nat) (hx : a.eval x = .slice (some ⟨g, 0, none⟩) 1 1) (hn : w.cell? ⟨g, 0, none⟩ = some (.int .i64 (n : Int)))
    (hb : ns.length + 1 ≤ 17592186044416) (hB : B ≤ w.heap.size)
    (h : ∀ v' w', Hid (Gn w' B v' (ns ++ [n])) → Below B w w' → wpList Try.prog ops Q rest (a.put o.dst v') w') : wpList Try.prog ops Q (o :: rest) a w := by
  obtain ⟨i0, hi, hz0, hz1, hz2⟩ := info_parts infoN
  refine wpList_append_own w hgd s x _ ho B 3 i0 (.int .i64 0) 1 8 Try.underlying32 hi hz0 hz1 hz2 rfl (by decide) v ns.length (rowN ns) hs hg ⟨g, 0, none⟩ 1 1 (rowN [n]) hx rfl ?_ (rowN_one _) (by unfold maxLen; omega) (by omega) hB ?_
  · intro j u hu
    match j, hu with
    | 0, hu => cases hu; exact hn
    | j + 1, hu => simp [rowN] at hu
  · intro v' w' h2 h3 _
    refine h v' w' ?_ ((Below.refl B w).grown h3 hB hg.block)
    show Gn w' B v' (ns ++ [n])
    unfold Gn
    rw [List.length_append, rowN_append]
    exact h2
theorem st_snoc : ∀ (s : List UInt8) (k : Nat) (c : UInt8), st k (s ++ [c]) = st k s ++ (if c = 10 then [k + s.length + 1] else [])
  | [], k, c => by simp [st]
  | b :: t, k, c => by
    have := st_snoc t (k + 1) c
    simp only [List.cons_append, st, List.length_cons]
    rw [this, show k + 1 + t.length + 1 = k + (t.length + 1) + 1 by omega]
    split <;> simp
theorem st_take (s : List UInt8) (k : Nat) (c : UInt8) (h : s[k]? = some c) : st 0 (s.take (k + 1)) = st 0 (s.take k) ++ (if c = 10 then [k + 1] else []) := by
  have hk := (List.getElem?_eq_some_iff.1 h).1
  rw [List.take_add_one, h]
  simp only [Option.toList_some]
  rw [st_snoc, List.length_take, Nat.min_eq_left (by omega), Nat.zero_add]
set_option maxHeartbeats 1000000 in
theorem starts_any (s : List UInt8) (w : World) (hl : s.length ≤ 17592186044000) : Calls Try.prog 15 #[sv s] w fun e w' => ∃ g cap, e = .returned (.slice (some ⟨g, 0, none⟩) (st 0 s).length.succ cap) ∧ Gn w' w.heap.size (.slice (some ⟨g, 0, none⟩) (st 0 s).length.succ cap) (0 :: st 0 s) ∧ Below w.heap.size w w' := by
  go_enter Try.func15, Try.ntmps15
  go_wp2_with fail

  refine ent1 w _ _ (Q := fun W => Code.wp _ _ _ _ W) ?_
  intro W0 hB0 hs0 V0
  have HG0 : Hid (Gn W0 w.heap.size (.slice (some ⟨w.heap.size, 0, none⟩) 1 1) [0]) := ⟨rfl, .inr ⟨w.heap.size, 1, #[.int .i64 0], rfl, Nat.le_refl _, V0, Nat.le_refl _, by decide, rfl, rfl⟩⟩
  have HB0 : Hid (Below w.heap.size w W0) := hB0
  clear hB0 hs0 V0
  go_loopw [3, 4] (fun b i wr => ∃ k : Nat, i = .int .i64 k ∧ k ≤ s.length ∧ Hid (Gn wr w.heap.size b (0 :: st 0 (s.take k))) ∧ Hid (Below w.heap.size w wr)) (fun _ i _ => (s.length - (intOf i).toNat : Nat))
  case atStart => exact ⟨0, rfl, Nat.zero_le _, HG0.out, HB0.out⟩
  case round =>
    clear HG0 HB0
    obtain ⟨k, rfl, hk, HR, HB⟩ := hrel
    obtain ⟨g, cap, rfl⟩ := HR.out.shape (by simp)
    rcases Nat.lt_or_ge k s.length with hlt | hge
    · obtain ⟨c, hc, hcd⟩ := byte_at s k hlt
      have hat := str_at s k c hc
      have hft := st_take s k c hc
      have hki : (k : Int) < s.length := by omega
      have hfl : (st 0 (s.take k)).length ≤ k := Nat.le_trans (st_len _ _) (by rw [List.length_take]; omega)
      have hsz := HB.out.size
      have e10 : ((c.toNat : Int) = 10) ↔ c = 10 := u8_eq c 10 (by omega)
      clear hc hcd
      by_cases h10 : (c.toNat : Int) = 10
      · rw [if_pos (e10.1 h10)] at hft
        have HE : Hid (st 0 (s.take (k + 1)) = st 0 (s.take k) ++ [k + 1]) := hft
        have h10b : ((c.toNat : Int) == 10) = true := by simpa using h10
        clear hft e10
        generalize st 0 (s.take k) = F at *
        go_wp2_with (at_builtin; refine wpList_appN rfl _ _ rfl w.heap.size _ (0 :: F) rfl (HR.out.alloc _) wr.heap.size (k + 1) rfl (va_c wr _ 0 rfl) (by simp; omega) (by simp; omega) ?_; intro v' w2 HR2 hb2; obtain ⟨g2, c2, rfl⟩ := HR2.out.shape (by simp); have HB3 : Hid (Below w.heap.size w w2) := (HB.out.alloc hsz _).trans hb2; clear hb2)
        go_roundw
        case rel => exact ⟨k + 1, rfl, by omega, by rw [HE.out]; first | exact HR2 | (have := HR2.out; simp only [List.cons_append, List.length_cons, List.length_append, List.length_nil] at this; exact this), HB3.out⟩
        case measure => simp [intOf]; omega
      · rw [if_neg (fun h => h10 (e10.2 h)), List.append_nil] at hft
        have HE : Hid (st 0 (s.take (k + 1)) = st 0 (s.take k)) := hft
        have h10b : ((c.toNat : Int) == 10) = false := by simpa using h10
        clear hft e10
        generalize st 0 (s.take k) = F at *
        go_wp2_with fail
        go_roundw
        case rel => exact ⟨k + 1, rfl, by omega, by rw [HE.out]; exact HR.out, HB.out⟩
        case measure => simp [intOf]; omega
    · obtain rfl : k = s.length := by omega
      rw [List.take_length] at HR ⊢
      clear hge
      go_wp2_with fail
      go_ret
      exact ⟨g, cap, rfl, HR.out, HB.out⟩
end Go.Proofs.Ytiedpclomplnmaa
