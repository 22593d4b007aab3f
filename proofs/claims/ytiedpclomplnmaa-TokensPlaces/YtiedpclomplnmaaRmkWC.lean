/-
  tokens: the walk of TokensRemarks.
-/
import Derived.Test.YtiedpclomplnmaaBckWC
import Derived.Lib.SlBytesConst
namespace Go.Proofs.Ytiedpclomplnmaa
open Go.RowKit Go.Shelf
set_option linter.unusedVariables false

/-- All places some lines down. -/
def Cr.down : Cr → Cr
  | .ok ts => .ok (ts.map (fun t => ⟨t.kd, t.tx, t.ln + 1, t.co⟩))
  | .no l c => .no (l + 1) c
theorem Cr.down_pre (a : List Tk) (r : Cr) : Cr.down (Cr.pre a r) = Cr.pre (a.map (fun t => ⟨t.kd, t.tx, t.ln + 1, t.co⟩)) (Cr.down r) := by
  cases r <;> simp [Cr.down, Cr.pre]
theorem cu_down : ∀ (f : Nat) (s : List UInt8) (l c : Nat), s.length ≤ f → cu s (l + 1) c = Cr.down (cu s l c) := by
  intro f
  induction f with
  | zero =>
    intro s l c h
    obtain rfl : s = [] := List.length_eq_zero_iff.1 (by omega)
    rfl
  | succ f ih =>
    intro s l c h
    cases s with
    | nil => rfl
    | cons b t =>
      simp only [List.length_cons] at h
      rw [cu_cons, cu_cons]
      by_cases h1 : b = 10
      · rw [if_pos h1, if_pos h1, ih t (l + 1) 1 (by omega)]
      · rw [if_neg h1, if_neg h1]
        by_cases h2 : b = 32 ∨ b = 9 ∨ b = 13
        · rw [if_pos h2, if_pos h2, ih t l _ (by omega)]
        · rw [if_neg h2, if_neg h2]
          by_cases h3 : b = 35
          · rw [if_pos h3, if_pos h3, ih _ l _ (by simp; omega)]
          · rw [if_neg h3, if_neg h3]
            by_cases h4 : bad (b :: t) = true
            · rw [if_pos h4, if_pos h4]; rfl
            · have := bad_pos h4
              rw [if_neg h4, if_neg h4, ih _ l _ (by simp; omega), Cr.down_pre]
              rfl
theorem rm_nl : ∀ (r : List UInt8) (s : List UInt8), (∀ c ∈ r, c ≠ 10) → rm (r ++ 10 :: s) = r.length
  | [], s, _ => by simp [rm, rn]
  | c :: r, s, h => by
    have := rm_nl r s (fun c hc => h c (List.mem_cons_of_mem _ hc))
    unfold rm at this ⊢
    rw [List.cons_append, rn, this]
    simp [h c (List.mem_cons_self ..)]
theorem cu_remark (r s : List UInt8) (h : ∀ c ∈ r, c ≠ 10) : cu (35 :: r ++ 10 :: s) 1 1 = Cr.down (cu s 1 1) := by
  rw [List.cons_append, cu_cons, if_neg (by decide), if_neg (by decide), if_pos rfl, rm_nl r s h, List.drop_append_of_le_length (Nat.le_refl _), List.drop_length, List.nil_append, cu_cons, if_pos rfl]
  exact cu_down _ s 1 1 (Nat.le_refl _)
theorem filt_take (r : List UInt8) (k : Nat) (c : UInt8) (h : r[k]? = some c) : (r.take (k + 1)).filter (· != 10) = (r.take k).filter (· != 10) ++ (if (c != 10) = true then [c] else []) := by
  rw [List.take_add_one, h]
  simp only [Option.toList_some, List.filter_append]
  congr 1
  cases hc : (c != 10) <;> simp [List.filter, hc]
/-- A row of bytes that can be appended to: one's own, or one that is full. -/
def GrM (w : World) (B : Nat) (v : Value) (cs : List UInt8) : Prop := GrU w B v cs ∨ ∃ b fz, B ≤ b ∧ v = .slice (some ⟨b, 0, none⟩) cs.length cs.length ∧ w.heap[b]? = some (.cells (rowU cs).toArray 5 fz)
theorem GrM.shape {w : World} {B : Nat} {v : Value} {cs : List UInt8} (h : GrM w B v cs) : ∃ a cap, v = .slice a cs.length cap := by
  rcases h with h | ⟨b, fz, -, rfl, -⟩
  · exact h.shape
  · exact ⟨_, _, rfl⟩
theorem GrM.alloc {w : World} {B : Nat} {v : Value} {cs : List UInt8} (h : GrM w B v cs) (o : Obj) : GrM (w.alloc o) B v cs := by
  rcases h with h | ⟨b, fz, hb, rfl, hh⟩
  · exact .inl (h.alloc o)
  · exact .inr ⟨b, fz, hb, rfl, by rw [heap_alloc_old w o (Array.getElem?_eq_some_iff.1 hh).1]; exact hh⟩
theorem full_cells {w : World} {b : Nat} {cs : List UInt8} {fz : Nat × Nat} (hh : w.heap[b]? = some (.cells (rowU cs).toArray 5 fz)) : ∀ j u, (rowU cs)[j]? = some u → w.cell? ((⟨b, 0, none⟩ : Addr).add j) = some u := by
  intro j u hu
  rw [addr_add, Nat.zero_add]
  simp only [World.cell?, hh]
  simpa using hu
theorem GrM.conv {w : World} {B : Nat} {v : Value} {cs : List UInt8} (h : GrM w B v cs) : (convert 39 9 v).run Try.prog w = .ok (sv cs) w := by
  rcases h with h | ⟨b, fz, hb, rfl, hh⟩
  · exact h.conv
  · refine run_convert_bytes_back (P := Try.prog) w 39 9 5 ⟨b, 0, none⟩ cs.length cs Try.underlying39 Try.underlying5 Try.underlying9 (fun j hj => ?_)
    exact full_cells hh j _ (by simp [rowU, hj])
theorem wpList_appM {ops : Array Oper} {rest : List Oper} {o : Oper} {a : Act} {w : World} {Q : Exit → Act → World → Prop} (hgd : o.guard = none) (s x : Operand)
    (ho : o.op = .call { callee := .builtin .append, args := #[s, x], argTypes := #[39, 39] })
    (B : Nat) (v : Value) (cs : List UInt8) (hs : a.eval s = v) (hg : GrM w B v cs) (g : Nat) (c : UInt8) (hx : a.eval x = .slice (some ⟨g, 0, none⟩) 1 1) (hn : w.cell? ⟨g, 0, none⟩ = some (.int .u8 (c.toNat : Int)))
    (hb : cs.length + 1 ≤ 140737488355328) (hB : B ≤ w.heap.size)
    (h : ∀ v' w', Hid (GrM w' B v' (cs ++ [c])) → Below B w w' → wpList Try.prog ops Q rest (a.put o.dst v') w') : wpList Try.prog ops Q (o :: rest) a w := by
  rcases hg with hg | ⟨b, fz, hbb, rfl, hh⟩
  · exact wpList_appU hgd s x ho B v cs hs hg g c hx hn hb hB (fun v' w' h1 h2 => h v' w' (.inl h1.out) h2)
  · obtain ⟨i0, hi, hz0, hz1, hz2⟩ := info_parts info1U
    refine wpList_plain hgd fun K hK => ?_
    have hr := run_append_grow (P := Try.prog) w 39 o.type 5 i0 (.int .u8 0) Try.underlying39 hi hz0 ⟨b, 0, none⟩ cs.length cs.length (rowU cs) (by rw [hz1, rowU_length, Nat.mul_one]) (full_cells hh) ⟨g, 0, none⟩ 1 1 (rowU [c]) (by rw [hz1]; rfl) (fun j u hu => by
      match j, hu with
      | 0, hu => cases hu; exact hn
      | j + 1, hu => simp [rowU] at hu) (by omega) (by omega) (by rw [hz2]; exact growslice_fits (by omega) (by omega))
    unfold Oper.wp execOp
    simp only [ho, resolve, invoke, builtin, Sem.run_bind, Sem.run_pure, Result.andThen_ok, List.map_toArray, List.map_cons, List.map_nil, hs, hx, hr]
    have hge := grownCap_ge w (cs.length + 1) cs.length 5
    have hcm2 : grownCap w (cs.length + 1) cs.length 5 ≤ maxLen := grownCap_le_maxLen w (cs.length + 1) cs.length 5 (by unfold maxLen; omega)
    refine hK _ _ (h _ _ (.inl ⟨?_, .inr ⟨w.heap.size, _, _, ?_, hB, heap_alloc_new w.drew _, ?_, hcm2, ?_, ?_⟩⟩) ?_)
    · simp [rowU]
    · rw [List.length_append]; rfl
    · rw [List.length_append]; exact hge
    · have hz1' : (Value.int IntKind.u8 0).cells.size = 1 := rfl
      simp only [Array.size_append, List.size_toArray, size_zeroCells, hz1', rowU_length, List.length_cons, List.length_nil]
      omega
    · simp only [Array.toList_append]
      rw [← rowU_append, show (cs ++ [c]).length * 1 = (rowU (cs ++ [c])).length by rw [rowU_length]; omega]
      exact List.take_left
    · exact (below_dr (Below.refl B w)).alloc hB _
theorem run_cbc (w : World) : (convert 39 39 (.slice (some ⟨w.heap.size, 0, none⟩) 1 1)).run Try.prog (w.alloc (.cells #[.int .u8 35] 5)) = .ok (.slice (some ⟨w.heap.size, 0, none⟩) 1 1) (w.alloc (.cells #[.int .u8 35] 5 (1, 2))) :=
  Lib.run_convert_bytes_const w 39 5 #[.int .u8 35] 1 1 Try.underlying39 Try.underlying5
def dn (t : Tk) : Tk := ⟨t.kd, t.tx, t.ln + 1, t.co⟩
theorem dn_at (ts : List Tk) (i : Nat) (h : i < ts.length) : (ts.map dn).getD i tk0 = dn (ts.getD i tk0) := by
  simp [List.getD_eq_getElem?_getD, List.getElem?_eq_getElem h]
/-- No line lies behind the text's. -/
def Cr.upTo (n : Nat) : Cr → Prop
  | .ok ts => ∀ t ∈ ts, t.ln ≤ n
  | .no l _ => l ≤ n
theorem Cr.upTo_pre {n : Nat} {a : List Tk} {r : Cr} (h : r.upTo n) (ha : ∀ t ∈ a, t.ln ≤ n) : (Cr.pre a r).upTo n := by
  cases r with
  | ok ts =>
    intro t ht
    rcases List.mem_append.1 ht with h' | h'
    · exact ha t h'
    · exact h t h'
  | no l c => exact h
theorem Cr.upTo_mono {n m : Nat} {r : Cr} (h : r.upTo n) (hm : n ≤ m) : r.upTo m := by
  cases r with
  | ok ts => exact fun t ht => Nat.le_trans (h t ht) hm
  | no l c => exact Nat.le_trans h hm
theorem cu_upTo : ∀ (f : Nat) (s : List UInt8) (l c : Nat), s.length ≤ f → (cu s l c).upTo (l + s.length) := by
  intro f
  induction f with
  | zero =>
    intro s l c h
    obtain rfl : s = [] := List.length_eq_zero_iff.1 (by omega)
    rw [cu_nil]; intro t ht; simp at ht; subst ht; simp
  | succ f ih =>
    intro s l c h
    cases s with
    | nil => rw [cu_nil]; intro t ht; simp at ht; subst ht; simp
    | cons b t =>
      simp only [List.length_cons] at h ⊢
      rw [cu_cons]
      split
      · exact Cr.upTo_mono (ih t (l + 1) 1 (by omega)) (by omega)
      · split
        · exact Cr.upTo_mono (ih t l _ (by omega)) (by omega)
        · split
          · exact Cr.upTo_mono (ih _ l _ (by simp; omega)) (by simp; omega)
          · split
            · exact Nat.le_add_right _ _
            · rename_i h4
              have := bad_pos h4
              refine Cr.upTo_pre (Cr.upTo_mono (ih _ l _ (by simp; omega)) (by simp only [List.length_drop, List.length_cons]; omega)) ?_
              intro x hx; simp at hx; subst hx; exact Nat.le_add_right _ _
theorem cut_no (s : List UInt8) (l c : Nat) (w : World) (h : s.length ≤ 65536) (hT : cu s 1 1 = .no l c) : Calls Try.prog 14 #[sv s] w fun e w' => e = .returned (.tuple #[.slice none 0 0, .agg #[.int .i64 120, .int .i64 l, .int .i64 c]]) ∧ Below w.heap.size w w' := by
  refine (cut_any s w h).mono ?_
  rintro e w' ⟨hb, ⟨ts', v, hT', -, -⟩ | ⟨l', c', hT', rfl⟩⟩
  · rw [hT] at hT'; cases hT'
  · rw [hT] at hT'; cases hT'
    exact ⟨rfl, hb⟩
set_option maxHeartbeats 2000000 in
set_option maxRecDepth 20000 in
theorem rmk_walk (s r : List UInt8) (w : World) (hs : s.length ≤ 140737488351232) (hr : r.length ≤ 140737488351232) : Calls Try.prog 6 #[sv s, sv r] w fun e w' => e = .returned (.bool true) ∧ Below w.heap.size w w' := by
  go_enter Try.func6, Try.ntmps6
  go_wp2_with fail
  refine (awake_any w).mono ?_
  rintro e w1 ⟨rfl, hb1⟩
  have HB1 : Hid (Below w.heap.size w w1) := hb1
  clear hb1
  have cbb := run_cbc w1
  go_wp2_with fail
  have hg0 : GrM (w1.alloc (.cells #[.int .u8 35] 5 (1, 2))) w1.heap.size (.slice (some ⟨w1.heap.size, 0, none⟩) 1 1) [35] := .inr ⟨w1.heap.size, (1, 2), Nat.le_refl _, rfl, heap_alloc_new w1 _⟩
  have hb0 : Below w1.heap.size w1 (w1.alloc (.cells #[.int .u8 35] 5 (1, 2))) := (Below.refl _ _).alloc (Nat.le_refl _) _
  obtain ⟨W1, hW1⟩ : ∃ W1, W1 = w1.alloc (.cells #[.int .u8 35] 5 (1, 2)) := ⟨_, rfl⟩
  rw [← hW1] at hg0 hb0 ⊢
  clear hW1 cbb
  have HG1 : Hid (GrM W1 w1.heap.size (.slice (some ⟨w1.heap.size, 0, none⟩) 1 1) [35]) := hg0
  have HB2 : Hid (Below w1.heap.size w1 W1) := hb0
  clear hg0 hb0
  go_loopw [5, 6] (fun b i wr => ∃ k : Nat, i = .int .i64 k ∧ k ≤ r.length ∧ Hid (GrM wr w1.heap.size b (35 :: (r.take k).filter (· != 10))) ∧ Hid (Below w1.heap.size w1 wr)) (fun _ i _ => (r.length - (intOf i).toNat : Nat))
  case atStart => exact ⟨0, rfl, Nat.zero_le _, HG1.out, HB2.out⟩
  case round =>
    clear HG1 HB2
    obtain ⟨k, rfl, hk, HR, HB⟩ := hrel
    obtain ⟨av, cv, rfl⟩ := HR.out.shape
    rcases Nat.lt_or_ge k r.length with hlt | hge
    · obtain ⟨c, hc, hcd⟩ := byte_at r k hlt
      have hat := str_at r k c hc
      have hft := filt_take r k c hc
      have hki : (k : Int) < r.length := by omega
      have hfl : ((r.take k).filter (· != 10)).length ≤ k := Nat.le_trans (List.length_filter_le _ _) (by rw [List.length_take]; omega)
      have hsz := HB.out.size
      have e10 : ((c.toNat : Int) = 10) ↔ c = 10 := u8_eq c 10 (by omega)
      clear hc hcd
      by_cases h10 : (c.toNat : Int) = 10
      · have hc10 : (c != 10) = false := by simp [e10.1 h10]
        rw [hc10, if_neg (by simp), List.append_nil] at hft
        have HE : Hid ((r.take (k + 1)).filter (· != 10) = (r.take k).filter (· != 10)) := hft
        clear hft hc10 e10
        generalize (r.take k).filter (· != 10) = F at *
        go_wp2_with fail
        go_roundw
        case rel => exact ⟨k + 1, rfl, by omega, by rw [HE.out]; exact HR.out, HB.out⟩
        case measure => simp [intOf]; omega
      · have hc10 : (c != 10) = true := by simp [show ¬ c = 10 from fun h => h10 (e10.2 h)]
        rw [hc10, if_pos rfl] at hft
        have HE : Hid ((r.take (k + 1)).filter (· != 10) = (r.take k).filter (· != 10) ++ [c]) := hft
        have h10b : ((c.toNat : Int) == 10) = false := by simpa using h10
        clear hft hc10 e10
        generalize (r.take k).filter (· != 10) = F at *
        go_wp2_with (at_builtin; refine wpList_appM rfl _ _ rfl w1.heap.size _ (35 :: F) rfl (HR.out.alloc _) wr.heap.size c rfl (va_c wr _ 0 rfl) (by simp; omega) (by simp; omega) ?_; intro v' w2 HR2 hb2; obtain ⟨a2, c2, rfl⟩ := HR2.out.shape; have HB3 : Hid (Below w1.heap.size w1 w2) := (HB.out.alloc hsz _).trans hb2; clear hb2)
        go_roundw
        case rel => exact ⟨k + 1, rfl, by omega, by rw [HE.out]; first | exact HR2 | (have := HR2.out; simp only [List.cons_append, List.length_cons, List.length_append, List.length_nil] at this; exact this), HB3.out⟩
        case measure => simp [intOf]; omega
    · obtain rfl : k = r.length := by omega
      rw [List.take_length] at HR ⊢
      have hfl : (r.filter (· != 10)).length ≤ r.length := List.length_filter_le _ _
      have hno : ∀ c ∈ r.filter (· != 10), c ≠ 10 := fun c hc => by have := (List.mem_filter.1 hc).2; simpa using this
      have HNO : Hid (∀ c ∈ r.filter (· != 10), c ≠ 10) := hno
      clear hge hno
      generalize r.filter (· != 10) = F at *
      have HRM : Hid (cu (35 :: F ++ [10] ++ s) 1 1 = Cr.down (cu s 1 1)) := by
        have := cu_remark F s HNO.out
        show _ = _
        rw [← this]; simp
      have hA : (35 :: F).length ≤ r.length + 1 := by simp; omega
      generalize 35 :: F = A at *
      have hcv := HR.out.conv
      have k1 := catS A [10]
      have k2 := catS (A ++ [10]) s
      have hA2 : (A ++ [10]).length = A.length + 1 := by simp
      have HA3 : Hid ((A ++ [10] ++ s).length = A.length + 1 + s.length) := by show _ = _; simp; omega
      generalize A ++ [10] = A2 at *
      have hA2' : A2.length ≤ r.length + 2 := by omega
      have hq3 : A2.length + s.length ≤ 281474976702468 := by omega
      have HA2 : Hid (A2.length = A.length + 1) := hA2
      have HA4 : Hid ((A2 ++ s).length = A2.length + s.length) := by show _ = _; simp
      clear hA2
      generalize A2 ++ s = ALL at *
      obtain ⟨wq, hwq⟩ : ∃ wq, wq = wr := ⟨_, rfl⟩
      subst hwq
      rcases Nat.lt_or_ge 65536 ALL.length with hJ | hJ
      · have hJi : (65536 : Int) < ALL.length := by omega
        go_wp2_with fail
        go_ret
        exact ⟨rfl, step HB1.out HB.out⟩
      · have hJi : (ALL.length : Int) ≤ 65536 := by omega
        have hsl : s.length ≤ 65536 := by have := HA4.out; omega
        go_wp2_with fail
        have hup := cu_upTo _ s 1 1 (Nat.le_refl _)
        have HB4 : Hid (Below w.heap.size w wq) := step HB1.out HB.out
        have hal := HRM.out
        clear k1 k2 hcv HRM HA4 HA3 HA2 HB HB1 HR HNO
        cases hT : cu s 1 1 with
        | no l c =>
          rw [hT] at hal hup
          have hu : l ≤ 1 + s.length := hup
          have cn1 := fun W => cut_no s l c W hsl hT
          have cn2 := fun W => cut_no ALL (l + 1) c W hJ hal
          clear hal hup hT
          refine (cn1 _).mono ?_
          rintro e w2 ⟨rfl, hb2⟩
          have HB5 : Hid (Below w.heap.size w w2) := step HB4.out hb2
          clear hb2 cn1 HB4
          go_wp2_with fail
          refine ent1 w2 _ _ (Q := fun W => Calls _ _ _ W _) ?_
          intro W2 hB2 hs2 V2
          have HB6 : Hid (Below w.heap.size w W2) := step HB5.out hB2
          refine (cn2 _).mono ?_
          rintro e w3 ⟨rfl, hb3⟩
          have V3 := V2.after hb3
          have HV3 : Hid (Va w3 w2.heap.size 29 #[.int .i64 120, .int .i64 l, .int .i64 c]) := V3
          have HB7 : Hid (Below w.heap.size w w3) := step HB6.out hb3
          clear hB2 hs2 V2 hb3 V3 HB5 HB6 cn2
          go_upto_region 14 with fail
          refine ent1 w3 _ _ (Q := fun W => Code.wp _ _ _ _ W) ?_
          intro W4 hB4 hs4 V4
          have V5 := HV3.out.after hB4
          have HB8 : Hid (Below w.heap.size w W4) := step HB7.out hB4
          have a0 : W4.cell? ⟨w2.heap.size, 0, none⟩ = some (.int .i64 120) := V5.cellAt 0
          have a1 : W4.cell? ⟨w2.heap.size, 1, none⟩ = some (.int .i64 l) := V5.cellAt 1
          have a2 : W4.cell? ⟨w2.heap.size, 2, none⟩ = some (.int .i64 c) := V5.cellAt 2
          have d0 : W4.cell? ⟨w3.heap.size, 0, none⟩ = some (.int .i64 120) := V4.cellAt 0
          have d1 : W4.cell? ⟨w3.heap.size, 1, none⟩ = some (.int .i64 ((l : Int) + 1)) := V4.cellAt 1
          have d2 : W4.cell? ⟨w3.heap.size, 2, none⟩ = some (.int .i64 c) := V4.cellAt 2
          clear hB4 hs4 V4 V5 HV3 HB7
          go_wp2_with fail
          try go_quiet (fail)
          go_wp2_with fail
          refine wp_loop_rounds 1 ?_
          rw [rounds_succ]
          go_wp2_with fail
          go_ret
          exact ⟨rfl, by first | exact HB8.out | exact below_dN HB8.out _⟩
        | ok ts =>
          rw [hT] at hal hup
          have hal2 : cu ALL 1 1 = .ok (ts.map dn) := hal
          have HU : Hid (∀ i, i < ts.length → (ts.getD i tk0).ln ≤ 65537) := fun i hi => by
            have := hup (ts.getD i tk0) (by rw [List.getD_eq_getElem?_getD, List.getElem?_eq_getElem hi]; exact List.getElem_mem hi)
            omega
          have htl : ts.length ≤ 200000 := by
            have h1 := len_nT ts
            have h2 := nT_cut _ (Nat.le_refl _) hT
            omega
          have cn1 := fun W => cut_ok s ts W hsl hT
          have cn2 := fun W => cut_ok ALL (ts.map dn) W hJ hal2
          rw [List.length_map] at cn2
          clear hal hal2 hup hT
          refine (cn1 _).mono ?_
          rintro e w2 ⟨g, cap, rfl, hg2, hb2⟩
          have HG2 : Hid (Gt w2 wq.heap.size (.slice (some ⟨g, 0, none⟩) ts.length cap) ts) := hg2
          have HB5 : Hid (Below w.heap.size w w2) := step HB4.out hb2
          clear hb2 cn1 HB4 hg2
          go_wp2_with fail
          refine ent1 w2 _ _ (Q := fun W => Calls _ _ _ W _) ?_
          intro W2 hB2 hs2 V2
          have HB6 : Hid (Below w.heap.size w W2) := step HB5.out hB2
          have HG3 : Hid (Gt W2 wq.heap.size (.slice (some ⟨g, 0, none⟩) ts.length cap) ts) := HG2.out.after hB2
          refine (cn2 _).mono ?_
          rintro e w3 ⟨g5, cap5, rfl, hg5, hb3⟩
          have HG5 : Hid (Gt w3 W2.heap.size (.slice (some ⟨g5, 0, none⟩) ts.length cap5) (ts.map dn)) := hg5
          have HG4 : Hid (Gt w3 wq.heap.size (.slice (some ⟨g, 0, none⟩) ts.length cap) ts) := HG3.out.after hb3
          have V3 := V2.after hb3
          have HV3 : Hid (Va w3 w2.heap.size 29 #[.int .i64 0, .int .i64 0, .int .i64 0]) := V3
          have HB7 : Hid (Below w.heap.size w w3) := step HB6.out hb3
          clear hB2 hs2 V2 hb3 V3 HB5 HB6 cn2 HG2 HG3 hg5
          go_upto_region 14 with fail
          refine ent1 w3 _ _ (Q := fun W => Code.wp _ _ _ _ W) ?_
          intro W4 hB4 hs4 V4
          have V5 := HV3.out.after hB4
          have HB8 : Hid (Below w.heap.size w W4) := step HB7.out hB4
          have HG6 : Hid (Gt W4 W2.heap.size (.slice (some ⟨g5, 0, none⟩) ts.length cap5) (ts.map dn)) := HG5.out.after hB4
          have HG7 : Hid (Gt W4 wq.heap.size (.slice (some ⟨g, 0, none⟩) ts.length cap) ts) := HG4.out.after hB4
          have a0 : W4.cell? ⟨w2.heap.size, 0, none⟩ = some (.int .i64 0) := V5.cellAt 0
          have a1 : W4.cell? ⟨w2.heap.size, 1, none⟩ = some (.int .i64 0) := V5.cellAt 1
          have a2 : W4.cell? ⟨w2.heap.size, 2, none⟩ = some (.int .i64 0) := V5.cellAt 2
          have d0 : W4.cell? ⟨w3.heap.size, 0, none⟩ = some (.int .i64 0) := V4.cellAt 0
          have d1 : W4.cell? ⟨w3.heap.size, 1, none⟩ = some (.int .i64 0) := V4.cellAt 1
          have d2 : W4.cell? ⟨w3.heap.size, 2, none⟩ = some (.int .i64 0) := V4.cellAt 2
          clear hB4 hs4 V4 V5 HV3 HB7 HG4 HG5
          go_wp2_with fail
          try go_quiet (fail)
          go_wp2_with fail
          go_loopw [12] (fun i wr => ∃ k : Nat, i = .int .i64 k ∧ k ≤ ts.length ∧ Hid (Dr W4 wr)) (fun i _ => (ts.length - (intOf i).toNat : Nat))
          case atStart => exact ⟨0, rfl, Nat.zero_le _, by first | exact Dr.refl _ | exact (Dr.refl W4).dr _⟩
          case round =>
            clear a0 a1 a2 d0 d1 d2
            obtain ⟨k, rfl, hk2, HD⟩ := hrel
            rcases Nat.lt_or_ge k ts.length with hlt | hge
            · have hki : (k : Int) < ts.length := by omega
              obtain ⟨a0, a1, a2, a3⟩ := (HG6.out.after (HD.out.below _)).cellsA k (by rw [List.length_map]; exact hlt)
              obtain ⟨b0, b1, b2, b3⟩ := (HG7.out.after (HD.out.below _)).cellsA k hlt
              rw [dn_at ts k hlt] at a0 a1 a2 a3
              have hln := HU.out k hlt
              have hk9 : k + 1 ≤ 200001 := by omega
              generalize ts.getD k tk0 = X at *
              obtain ⟨x0, x1, x2, x3⟩ := X
              change wr.cell? ⟨g5, k * 4, none⟩ = some (.int .i64 x0) at a0
              change wr.cell? ⟨g5, k * 4 + 1, none⟩ = some (sv x1) at a1
              have a2' : wr.cell? ⟨g5, k * 4 + 2, none⟩ = some (.int .i64 ((x2 : Int) + 1)) := a2
              change wr.cell? ⟨g5, k * 4 + 3, none⟩ = some (.int .i64 x3) at a3
              change wr.cell? ⟨g, k * 4, none⟩ = some (.int .i64 x0) at b0
              change wr.cell? ⟨g, k * 4 + 1, none⟩ = some (sv x1) at b1
              change wr.cell? ⟨g, k * 4 + 2, none⟩ = some (.int .i64 x2) at b2
              change wr.cell? ⟨g, k * 4 + 3, none⟩ = some (.int .i64 x3) at b3
              have hl2 : x2 ≤ 65537 := hln
              have wx : IntKind.i64.wrap ((x2 : Int) + 1) = (x2 : Int) + 1 := by rw [IntKind.wrap_i64]; omega
              have hx1 : (x1 == x1) = true := by simp
              clear hln a2
              go_wp2_with fail
              go_quiet (fail)
              go_wp2_with fail
              go_roundw
              case rel => exact ⟨k + 1, rfl, by omega, HD.out.dr _⟩
              case measure => simp [intOf]; omega
            · obtain rfl : k = ts.length := by omega
              clear hge
              go_wp2_with fail
              go_ret
              exact ⟨rfl, HB8.out.trans (HD.out.below _)⟩
theorem rmk_w (s r : ByteArray) (w : World) (hs : s.data.toList.length ≤ 140737488351232) (hr : r.data.toList.length ≤ 140737488351232) : Calls Try.prog 6 #[.string s, .string r] w fun e w' => e = .returned (.bool true) ∧ Below w.heap.size w w' := by
  rw [sv_of, sv_of]; exact rmk_walk s.data.toList r.data.toList w hs hr
end Go.Proofs.Ytiedpclomplnmaa
