/-
  A list of spans sorted, and put together to the fewest.
-/
import Derived.Test.YtiabjlaganmloaaSp5
import Derived.Test.YtiabjlaganmloaaShelf
namespace Go.Proofs.Ytiabjlaganmloaa
open Go.RowKit Go.Shelf Go.Lib Go.Sort
set_option linter.unusedVariables false

/-- A span's two cells. -/
def encS (x : Pr) : List Value := [.int .i64 x.1, .int .i64 x.2]
def cfS (x y : Pr) : Int := Lib.compareInt x.1 y.1
theorem ltS (x y : Pr) : ltOf cfS x y = decide (x.1 < y.1) := by
  unfold ltOf cfS Lib.compareInt
  by_cases h1 : x.1 < y.1
  · simp [h1]
  · by_cases h2 : y.1 < x.1 <;> simp [h1, h2]
theorem swoS : SWO (ltOf cfS) where
  irrefl x := by rw [ltS]; simp
  trans x y z h1 h2 := by rw [ltS] at *; simp at *; omega
  ntrans x y z h1 h2 := by rw [ltS] at *; simp at *; omega
set_option maxHeartbeats 1000000 in
theorem closureS (x y : Pr) (W : World) : Calls Try.prog 73 #[.agg #[.int .i64 x.1, .int .i64 x.2], .agg #[.int .i64 y.1, .int .i64 y.2]] W fun e w' => e = .returned (.int .i64 (cfS x y)) ∧ ∃ q os', w' = grow (W.drewN q) os' := by
  have hcon := fun W' => AnyG.cmp_Compare_int Try.cmpD x.1 y.1 W'
  change ∀ W', Calls Try.prog 74 _ _ _ at hcon
  unfold cfS
  generalize Lib.compareInt x.1 y.1 = r at hcon ⊢
  go_enter Try.func73, Try.ntmps73
  go_wp2_with (go_at_call 74; refine (hcon _).mono ?_; rintro e w' ⟨rfl, rfl⟩)
  go_ret
  exact ⟨rfl, 0, _, by rw [alloc_eq_grow, alloc_eq_grow, grow_grow]; rfl⟩
theorem cmpLaysS (blk off size : Nat) (w : World) : CmpLays Try.prog 73 #[] encS 2 cfS blk off size w :=
  fun _ _ _ _ x y => closureS x y _
theorem getD_arr (ps : List Pr) (i : Nat) (hi : i < ps.length) : (ps.toArray)[i]! = ps.getD i (0, 0) := by
  rw [getElem!_pos _ i (by simpa using hi), List.getD_eq_getElem?_getD, List.getElem?_eq_getElem hi]
  simp
theorem Gs.holds {w : World} {B g n cap : Nat} {ps : List Pr} (h : Gs w B (.slice (some ⟨g, 0, none⟩) n cap) ps) : HoldsK encS 2 w g 0 ps.toArray := by
  intro j hj
  have hj' : j < ps.length * 2 := by simpa using hj
  rw [get_flatK _ _ _ _ (by simpa using hj'), getD_arr ps (j / 2) (by omega), Nat.zero_add]
  have hc := h.cells (j / 2) (by omega)
  rcases Nat.mod_two_eq_zero_or_one j with e | e
  · rw [show (j / 2) * 2 = j by omega] at hc
    rw [e]
    exact ⟨hc.1, hc.2.2.1⟩
  · rw [show (j / 2) * 2 + 1 = j by omega] at hc
    rw [e]
    exact ⟨hc.2.1, hc.2.2.2⟩
/-- What a sort leaves: the list in another order, by where spans begin; all else as it was. -/
theorem sort_world {w : World} {B g n cap m : Nat} {ps : List Pr} {d' : Array Pr} {os : Array Obj} (h : Gs w B (.slice (some ⟨g, 0, none⟩) n cap) ps) (hs : d'.size = ps.length) :
    Ls (sortWorldK encS 2 w g 0 m d' os) (some ⟨g, 0, none⟩) n d'.toList ∧ (∀ n₀, n₀ ≤ g → Below n₀ w (sortWorldK encS 2 w g 0 m d' os)) ∧ ∀ k, k < w.heap.size → k ≠ g → (sortWorldK encS 2 w g 0 m d' os).heap[k]? = w.heap[k]? := by
  have hg : g < w.heap.size := h.lt g rfl
  obtain ⟨a', cap', e, -, -, -⟩ := h.shape
  have hn : n = ps.length := by cases e; rfl
  have hH := holdsK_sortWorldK_c encS 2 w g 0 ps.toArray d' m os h.holds hg (by simpa using hs)
  refine ⟨⟨by simp [hs, hn], fun h0 => ⟨g, 0, rfl, fun i hi => ?_⟩⟩, fun n₀ hn₀ => ?_, fun k hk hkg => ?_⟩
  · have c0 := (hH.cell (i := i) (c := 0) (by omega) (by omega)).1
    have c1 := (hH.cell (i := i) (c := 1) (by omega) (by omega)).1
    have e : d'[i]! = d'.toList.getD i (0, 0) := by have := getD_arr d'.toList i (by simp; omega); simpa using this
    rw [e] at c0 c1
    exact ⟨c0, c1⟩
  · unfold sortWorldK
    have hsz : (putRowK encS 2 (Sort.ahead w m) g 0 d').heap.size = w.heap.size := by rw [size_putRowK]; rfl
    refine ⟨rfl, rfl, rfl, by show w.heap.size ≤ (_ ++ os).size; rw [Array.size_append, hsz]; omega, fun k hk => ?_⟩
    show (_ ++ os)[k]? = _
    rw [Array.getElem?_append_left (by rw [hsz]; omega)]
    unfold putRowK putRow mapBlock
    show ((Sort.ahead w m).heap.modify g _)[k]? = _
    rw [Array.getElem?_modify, if_neg (by omega)]
    rfl
  · unfold sortWorldK
    have hsz : (putRowK encS 2 (Sort.ahead w m) g 0 d').heap.size = w.heap.size := by rw [size_putRowK]; rfl
    show (_ ++ os)[k]? = _
    rw [Array.getElem?_append_left (by rw [hsz]; omega)]
    unfold putRowK putRow mapBlock
    show ((Sort.ahead w m).heap.modify g _)[k]? = _
    rw [Array.getElem?_modify, if_neg (Ne.symm hkg)]
    rfl
set_option maxHeartbeats 1000000 in
/-- A sort of no element. -/
theorem sort_none (a : Option Addr) (cap : Nat) (fv : Value) (w : World) :
    Calls Try.prog 72 #[.slice a 0 cap, fv] w fun e w' => e = .returned (.tuple #[]) ∧ w' = w := by
  have hi : ∀ W, Calls Try.prog 85 #[.slice a 0 cap, .int .i64 0, .int .i64 0, fv] W fun e w' => e = .returned (.tuple #[]) ∧ w' = W := by
    intro W
    go_enter Try.func85, Try.ntmps85
    go_wp2_with fail
    refine wp_loop_rounds 1 ?_
    rw [rounds_succ]
    go_wp2_with fail
    go_end0
    exact ⟨rfl, rfl⟩
  have hp : ∀ W l, Calls Try.prog 80 #[.slice a 0 cap, .int .i64 0, .int .i64 0, .int .i64 l, fv] W fun e w' => e = .returned (.tuple #[]) ∧ w' = W := by
    intro W l
    go_enter Try.func80, Try.ntmps80
    go_wp2_with fail
    refine wp_loop_rounds 1 ?_
    rw [rounds_succ]
    go_wp2_with (go_at_call 85; refine (hi _).mono ?_; rintro e w' ⟨rfl, rfl⟩)
    refine bodyPost_ret (results_none rfl _ _ _) rfl ?_
    exact ⟨rfl, rfl⟩
  have hb := fun W => Try.bits_Len 0 W (by omega) (by omega)
  go_enter Try.func72, Try.ntmps72
  go_wp2_with (first
    | (go_at_call 81; refine (hb _).mono ?_; rintro e w' ⟨rfl, rfl⟩)
    | (go_at_call 80; refine (hp _ _).mono ?_; rintro e w' ⟨rfl, rfl⟩))
  go_end0
  exact ⟨rfl, rfl⟩
/-- A sort of any list of one's own. -/
theorem sort_any (B : Nat) (a : Option Addr) (n cap : Nat) (ps : List Pr) (w : World) (h : Gs w B (.slice a n cap) ps) (hl : ps.length ≤ 1000000) :
    Calls Try.prog 72 #[.slice a n cap, .func (.func 73) #[] #[]] w fun e w' => e = .returned (.tuple #[]) ∧ ∃ qs : List Pr, qs.Perm ps ∧ qs.Pairwise (fun p q => p.1 ≤ q.1) ∧ Ls w' a n qs ∧ (∀ n₀, n₀ ≤ B → n₀ ≤ w.heap.size → Below n₀ w w') ∧ ∀ k, k < w.heap.size → (Value.slice a n cap).ownBlock ≠ some k → w'.heap[k]? = w.heap[k]? := by
  obtain ⟨a', cap', e, -, -, hs⟩ := h.shape
  cases e
  rcases hs with ⟨rfl, rfl, rfl⟩ | ⟨g, rfl⟩
  · refine (sort_none none 0 _ w).mono ?_
    rintro e w' ⟨rfl, rfl⟩
    exact ⟨rfl, [], List.Perm.nil, List.Pairwise.nil, Ls.nil _ _, fun n₀ _ _ => Below.refl _ _, fun _ _ _ => rfl⟩
  · have eg : ∀ args w, (callFunc 73 args).run Try.prog w = .ok (.enter 73 args) w := enters_of Try.func73 (by kernel_rfl) rfl
    have hcon := AnyQ.slices_SortFunc Try.sortS 2 Try.isAgg24 Try.sizeOf24 encS (fun _ => rfl) (fun x v hv => by simp [encS] at hv; rcases hv with rfl | rfl <;> rfl) cfS swoS 73 #[] g 0 cap ps.toArray w eg (cmpLaysS g 0 _ w) h.holds (h.lt g rfl) (by simp; omega)
    change Calls Try.prog 72 _ _ _ at hcon
    rw [show ps.toArray.size = ps.length by simp] at hcon
    refine hcon.mono ?_
    rintro e w' ⟨rfl, d', m, os, hp, hso, rfl⟩
    have hsz : d'.size = ps.length := by simpa using hp.1
    have hw := sort_world (m := m) (os := os) h hsz
    refine ⟨rfl, d'.toList, ?_, ?_, hw.1, fun n₀ h1 _ => hw.2.1 n₀ (Nat.le_trans h1 (h.block g rfl)), fun k hk hne => hw.2.2 k hk (fun e => hne (by rw [e]; rfl))⟩
    · have h3 : d'.toList.Perm (List.take d'.size ps) := by simpa [← hsz] using hp.2.2
      rwa [hsz, List.take_length] at h3
    · rw [List.pairwise_iff_getElem]
      intro i j hi hj hij
      have := hso i j (Nat.zero_le _) hij (by simp at hj; omega)
      have hi' : i < d'.size := by simpa using hi
      have hj' : j < d'.size := by simpa using hj
      rw [ltS, getElem!_pos d' j hj', getElem!_pos d' i hi'] at this
      simp only [Array.getElem_toList]
      simpa using this
theorem nameW (w : World) (o : Obj) (n : Nat) {Q : World → Prop} (h : ∀ W, RowKit.Below w.heap.size w W → W.heap.size = w.heap.size + 1 → W.heap[w.heap.size]? = some o → Q W) : Q ((w.alloc o).drewN n) :=
  h _ (below_drewN ((RowKit.Below.refl _ _).alloc (Nat.le_refl _) _) n) (by simp) (heap_alloc_new w o)
theorem frozen_after {n : Nat} {w W : World} (hb : RowKit.Below n w W) {g i : Nat} (hg : g < n) : W.frozen? ⟨g, i, none⟩ = w.frozen? ⟨g, i, none⟩ := by
  simp only [World.frozen?, hb.block g hg]
theorem app_below {w1 W w2 wr : World} {B : Nat} {v : Value} {ps : List Pr} (h : W.grownBy w2 v.ownBlock) (hg : Gs wr B v ps) (hle : B ≤ W.heap.size) (hb : RowKit.Below B w1 W) : RowKit.Below B w1 w2 := hb.trans ((RowKit.Below.refl B W).grown h hle hg.block)
theorem ent_c0 (w : World) (t : TypeId) (x y : Int) (o : Obj) : ((w.alloc o).alloc (.cells #[.int .i64 x, .int .i64 y] t)).cell? ⟨w.heap.size + 1, 0, none⟩ = some (.int .i64 x) := by
  have := (Va.new (w.alloc o) t #[.int .i64 x, .int .i64 y]).c0
  rwa [World.size_alloc] at this
theorem ent_c1 (w : World) (t : TypeId) (x y : Int) (o : Obj) : ((w.alloc o).alloc (.cells #[.int .i64 x, .int .i64 y] t)).cell? ⟨w.heap.size + 1, 1, none⟩ = some (.int .i64 y) := by
  have := (Va.new (w.alloc o) t #[.int .i64 x, .int .i64 y]).c1
  rwa [World.size_alloc] at this
/-- What has been gathered of a sorted list's first spans. -/
def mrgs (qs : List Pr) : List Pr := qs.foldl mrg []
theorem mrgs_snoc (qs : List Pr) (s : Pr) : mrgs (qs ++ [s]) = mrg (mrgs qs) s := by simp [mrgs]
theorem mi_mrgs : ∀ (k : Nat) (qs : List Pr), (∀ p ∈ qs, May p) → qs.Pairwise (fun p q => p.1 ≤ q.1) → k ≤ qs.length → MI (mrgs (qs.take k)) (qs.take k)
  | 0, qs, _, _, _ => by simpa [mrgs] using MI.start
  | k + 1, qs, hm, hp, hk => by
    have ih := mi_mrgs k qs hm hp (by omega)
    have hk' : k < qs.length := by omega
    rw [List.take_succ_eq_append_getElem hk', mrgs_snoc]
    refine ih.step (hm _ (List.getElem_mem hk')) (fun q hq => ?_)
    obtain ⟨i, hi, rfl⟩ := List.mem_iff_getElem.1 hq
    rw [List.getElem_take]
    simp at hi
    exact List.pairwise_iff_getElem.1 hp i k (by omega) hk' (by omega)
theorem mrgs_length (qs : List Pr) : (mrgs qs).length ≤ qs.length := by
  have h : ∀ (l acc : List Pr), (l.foldl mrg acc).length ≤ acc.length + l.length := by
    intro l
    induction l with
    | nil => intro acc; simp
    | cons s l ih => intro acc; have := ih (mrg acc s); have := mrg_length acc s; simp only [List.foldl_cons, List.length_cons]; omega
  have := h qs []
  simpa [mrgs] using this
set_option maxRecDepth 20000 in
set_option maxHeartbeats 4000000 in
theorem fewest_any (B : Nat) (v : Value) (ps : List Pr) (w : World) (h : Gs w B v ps) (hm : ∀ p ∈ ps, May p) (hl : ps.length ≤ 1000000) (hBw : B ≤ w.heap.size) :
    Calls Try.prog 45 #[v] w fun e w' => ∃ v' cs, e = .returned v' ∧ Gs w' B v' cs ∧ Hid (Few cs ∧ (∀ d, inS cs d ↔ inS ps d) ∧ cs.length ≤ ps.length) ∧ (∀ n₀, n₀ ≤ B → Below n₀ w w') ∧ ∀ k, k < w.heap.size → v.ownBlock ≠ some k → w'.heap[k]? = w.heap[k]? := by
  obtain ⟨a, cap, rfl, -, -, -⟩ := h.shape
  have hs := sort_any B a ps.length cap ps w h hl
  clear h
  have HM : Hid _ := hm
  clear hm
  go_enter Try.func45, Try.ntmps45
  go_wp2_with (go_at_call 72; refine hs.mono ?_; rintro e w1 ⟨rfl, qs, hperm, hsort, hL, hBel, hKeep⟩)
  have hql : qs.length = ps.length := hperm.length_eq
  have HMI : Hid (∀ k, k ≤ qs.length → MI (mrgs (qs.take k)) (qs.take k)) := fun k hk => mi_mrgs k qs (fun p hp => HM.out p (hperm.mem_iff.1 hp)) hsort hk
  have HB : Hid (∀ n₀, n₀ ≤ B → n₀ ≤ w.heap.size → Below n₀ w w1) := hBel
  have HP : Hid (∀ d, inS qs d ↔ inS ps d) := fun d => inS_perm hperm d
  have hB1 : B ≤ w1.heap.size := Nat.le_trans hBw (hBel B (Nat.le_refl _) hBw).size
  have HL : Hid (Ls w1 a ps.length qs) := hL
  have HKK : Hid (∀ k, k < w.heap.size → a.isSome = false ∨ (∀ ad, a = some ad → ad.block ≠ k) → w1.heap[k]? = w.heap[k]?) := fun k hk hne => hKeep k hk (fun e => by
    cases a with
    | none => cases e
    | some ad => cases e; rcases hne with h | h
                 · cases h
                 · exact h ad rfl rfl)
  have HKS : Hid (w.heap.size ≤ w1.heap.size) := (hBel 0 (Nat.zero_le _) (Nat.zero_le _)).size
  clear hKeep
  generalize hN : ps.length = N at *
  clear hs hBel hperm hsort HM hL
  go_loopw [3, 11] (fun s3 i wr => ∃ (k : Nat) (acc : List Pr), k ≤ N ∧ i = .int .i64 (k : Int) ∧ Hid (acc = mrgs (qs.take k)) ∧ Gs wr w1.heap.size s3 acc ∧ Below w1.heap.size w1 wr) (fun _ i _ => N - (intOf i).toNat)
  case atStart => exact ⟨0, [], Nat.zero_le _, rfl, by show _ = _; simp [mrgs], Gs.nil _ _, Below.refl _ _⟩
  case round =>
    obtain ⟨k, acc, hk, rfl, hacc, hG, hB⟩ := hrel
    by_cases hlt : k < N
    · have hkz : (k : Int) < N := by omega
      obtain ⟨b, off, rfl, hc⟩ := (HL.out.after hB).2 (by omega)
      have c0 := (hc k hlt).1
      have c1 := (hc k hlt).2
      have HS : Hid (mrgs (qs.take (k + 1)) = mrg acc (qs.getD k (0, 0))) := by
        show _ = _
        rw [List.take_succ_eq_append_getElem (by omega), mrgs_snoc, hacc.out, List.getD_eq_getElem?_getD, List.getElem?_eq_getElem (by omega)]
        rfl
      have HA : Hid (acc.length ≤ N) := by
        have := mrgs_length (qs.take k)
        rw [← hacc.out, List.length_take] at this
        show _ ≤ _; omega
      have hsw := hB.size
      generalize qs.getD k (0, 0) = s at *
      obtain ⟨s0, s1⟩ := s
      dsimp only at c0 c1
      clear hc hacc
      rcases List.eq_nil_or_concat acc with rfl | ⟨l, q, rfl⟩
      · obtain ⟨av, cv, rfl, -, -, -⟩ := hG.shape
        have HG : Hid (Gs wr w1.heap.size (.slice av ([] : List Pr).length cv) []) := hG
        clear hG
        simp only [List.length_nil] at HG ⊢
        go_wp2_with fail
        go_quiet (fail)
        go_wp2_with (at_builtin; refine wpList_appS rfl _ _ rfl w1.heap.size _ [] rfl ((HG.out.al _).al _) (wr.heap.size + 1) 1 s0 s1 rfl (ent_c0 wr _ s0 s1 _) (ent_c1 wr _ s0 s1 _) (by simp) (by simp; omega) ?_; intro v' w2 hg1 hgr1 hob; obtain ⟨a2, c2, rfl, -, -, -⟩ := hg1.shape)
        refine ⟨⟨k + 1, _, by omega, by go_num, ?_, hg1, ?_⟩, by simp [intOf]; omega⟩
        · show _ = _; rw [HS.out, mrg_nil]; rfl
        · exact app_below hgr1 HG.out (by simp; omega) ((below_drewN (hB.alloc hsw _) nq).alloc (by simp; omega) _)
      · rw [List.concat_eq_append] at *
        obtain ⟨av, cv, rfl, hcv, -, hsh⟩ := hG.shape
        obtain ⟨g, rfl⟩ : ∃ g, av = some ⟨g, 0, none⟩ := by
          rcases hsh with ⟨-, h, -⟩ | h
          · simp at h
          · exact h
        obtain ⟨q0, q1⟩ := q
        have hcl := hG.cells l.length (by simp)
        have eq : (l ++ [(q0, q1)]).getD l.length (0, 0) = (q0, q1) := by simp
        rw [eq] at hcl
        obtain ⟨d0, d1, f0, f1⟩ := hcl
        dsimp only at d0 d1
        have hgl : g < wr.heap.size := hG.lt g rfl
        have hln : (l ++ [(q0, q1)]).length = l.length + 1 := by simp
        have HLN : Hid ((l ++ [(q0, q1)]).length = l.length + 1) := hln
        rw [hln] at hG hcv ⊢
        have HG : Hid (Gs wr w1.heap.size (.slice (some ⟨g, 0, none⟩) (l.length + 1) cv) (l ++ [(q0, q1)])) := hG
        have e1 : (((l.length + 1 : Nat) : Int) - 1) = l.length := by omega
        have e2 : IntKind.i64.wrap (((l.length + 1 : Nat) : Int) - 1) = l.length := by rw [e1, IntKind.wrap_i64]; have := HA.out; omega
        have e3 : ¬ ((l.length : Int) < 0) := by omega
        have hlb : l.length + 1 ≤ N := by have := HA.out; omega
        have HSS := HS.out
        rw [mrg_snoc] at HSS
        dsimp only at HSS
        clear hG hsh hln HS HA eq
        generalize hLL : l.length = L at *
        by_cases hle : s0 ≤ q1
        · rw [if_pos hle] at HSS
          have HSS : Hid _ := HSS
          go_wp2_with fail
          go_quiet (fail)
          go_wp2_with fail
          refine nameW wr (.cells #[.int .i64 s0, .int .i64 s1] 24) nq (Q := fun W => Code.wp Try.prog _ _ _ W) ?_
          intro W2 hb2 hs2 V2
          have x1 := Va.c1 V2
          have d2 := (hb2.cell (p := ⟨g, L * 2 + 1, none⟩) hgl).trans d1
          have f2 : W2.frozen? ⟨g, L * 2 + 1, none⟩ = false := (frozen_after hb2 hgl).trans f1
          have HG2 : Hid (Gs W2 w1.heap.size (.slice (some ⟨g, 0, none⟩) (L + 1) cv) (l ++ [(q0, q1)])) := HG.out.after hb2
          have HB2 : Hid (Below w1.heap.size w1 W2) := hB.trans (hb2.mono hsw)
          clear c0 c1 d0 d1 f0 f1
          go_region
          all_goals go_wp2_with fail
          have hp := HG2.out.put1 L (by have := HLN.out; omega) (max q1 s1)
          have ep : (l ++ [(q0, q1)]).set L (((l ++ [(q0, q1)]).getD L (0, 0)).1, max q1 s1) = l ++ [(q0, max q1 s1)] := by rw [← hLL]; simp
          rw [ep] at hp
          have hb3 : Below w1.heap.size w1 (W2.setCell ⟨g, L * 2 + 1, none⟩ (.int .i64 (max q1 s1))) := HB2.out.setCell (p := ⟨g, L * 2 + 1, none⟩) (HG.out.block g rfl) _
          exact ⟨⟨k + 1, l ++ [(q0, max q1 s1)], by omega, by go_num, by show _ = _; rw [HSS.out], hp, ⟨hb3.os, hb3.tape, hb3.output, hb3.size, hb3.block⟩⟩, by simp [intOf]; omega⟩
        · rw [if_neg hle] at HSS
          have HSS : Hid _ := HSS
          go_wp2_with fail
          go_quiet (fail)
          go_wp2_with (at_builtin; refine wpList_appS rfl _ _ rfl w1.heap.size _ (l ++ [(q0, q1)]) rfl ((HG.out.al _).al _) (wr.heap.size + 1) 1 s0 s1 rfl (ent_c0 wr _ s0 s1 _) (ent_c1 wr _ s0 s1 _) (by have := HLN.out; omega) (by simp; omega) ?_; intro v' w2 hg1 hgr1 hob; obtain ⟨a2, c2, rfl, -, -, -⟩ := hg1.shape)
          refine ⟨⟨k + 1, l ++ [(q0, q1)] ++ [(s0, s1)], by omega, by go_num, ?_, by rw [List.length_append, HLN.out] at hg1; exact hg1, ?_⟩, by simp [intOf]; omega⟩
          · show _ = _; rw [HSS.out]
          · exact app_below hgr1 HG.out (by simp; omega) ((below_drewN (hB.alloc hsw _) nq).alloc (by simp; omega) _)
    · have hkz : ¬ (k : Int) < N := by omega
      obtain rfl : k = N := by omega
      obtain ⟨av, cv, rfl, -, -, -⟩ := hG.shape
      go_wp2_with fail
      go_ret
      refine ⟨_, rfl, acc, hG.le hB1, ?_, fun n₀ hn => ?_, fun kk hkk hne => ?_⟩
      · have hmi := HMI.out k (by omega)
        rw [← hacc.out, List.take_of_length_le (by omega)] at hmi
        have hln := mrgs_length (qs.take k)
        rw [← hacc.out, List.length_take] at hln
        exact ⟨hmi.few, fun d => (hmi.same d).trans (HP.out d), by omega⟩
      · exact (HB.out n₀ hn (by omega)).trans (hB.mono (by omega))
      · refine (hB.block kk (Nat.lt_of_lt_of_le hkk HKS.out)).trans (HKK.out kk hkk ?_)
        cases a with
        | none => exact .inl rfl
        | some ad => exact .inr (fun ad' e hb => by cases e; exact hne (by rw [← hb]; rfl))
set_option maxHeartbeats 1000000 in
/-- slices.Clone of a list of spans. -/
theorem clone_any (a : Option Addr) (len cap : Nat) (ps : List Pr) (w : World) (h : Ls w a len ps) (hl : len ≤ 1000000) :
    Calls Try.prog 46 #[.slice a len cap] w fun e w' => ∃ v, e = .returned v ∧ Gs w' w.heap.size v ps ∧ RowKit.Below w.heap.size w w' := by
  have q22 : ∀ (w : World) (a : Option Addr) (n c n' c' : Nat), (binOp .eql 31 (.slice a n c) (.slice none n' c')).run Try.prog w = .ok (.bool a.isNone) w := fun w a n c n' c' => Lib.run_eql_slice_nil w _ _ a n c n' c' Try.underlying31
  cases a with
  | none =>
    have h0 : len = 0 := by
      rcases Nat.eq_zero_or_pos len with h' | h'
      · exact h'
      · obtain ⟨b, off, e, -⟩ := h.2 h'; cases e
    subst h0
    have hp : ps = [] := List.length_eq_zero_iff.1 h.1
    subst hp
    go_enter Try.func46, Try.ntmps46
    go_wp2_with fail
    go_ret
    exact ⟨_, rfl, Gs.nil _ _, RowKit.Below.refl _ _⟩
  | some ad =>
    have HC : Hid (∀ j u, (rowS ps)[j]? = some u → w.cell? (ad.add j) = some u) := fun j u hj => by
      have hj' : j < ps.length * 2 := by
        rcases Nat.lt_or_ge j (rowS ps).length with h' | h'
        · rwa [rowS_length] at h'
        · rw [List.getElem?_eq_none h'] at hj; cases hj
      obtain ⟨b, off, e, hc⟩ := h.2 (by have := h.1; omega)
      cases e
      rw [Addr.add_lit]
      rcases Nat.mod_two_eq_zero_or_one j with e | e
      · have c0 := (hc (j / 2) (by have := h.1; omega)).1
        have r0 := rowS_get0 ps (j / 2) (by omega)
        rw [show (j / 2) * 2 = j by omega] at c0 r0
        rw [hj] at r0; cases r0; exact c0
      · have c0 := (hc (j / 2) (by have := h.1; omega)).2
        have r0 := rowS_get1 ps (j / 2) (by omega)
        rw [show (j / 2) * 2 + 1 = j by omega] at r0
        rw [show off + (j / 2) * 2 + 1 = off + j by omega] at c0
        rw [hj] at r0; cases r0; exact c0
    have hl1 := h.1
    have HP : Hid (ps.length = len) := hl1
    obtain ⟨i0, hi, hz0, hz1, hz2⟩ := info_parts infoS
    clear h hl1
    go_enter Try.func46, Try.ntmps46
    go_wp2_with (at_builtin; refine wpList_append_own _ rfl _ _ 31 rfl w.heap.size 24 i0 (.agg #[.int .i64 0, .int .i64 0]) 2 16 Try.underlying31 hi hz0 hz1 hz2 rfl (by decide) _ _ _ rfl (World.ownsRow_made w #[] 0 (Nat.le_refl _) (Nat.zero_le _) (by simp)) ad len cap (rowS ps) rfl (by rw [rowS_length, HP.out]) (fun j u hj => Lib.cell?_alloc_some _ (HC.out j u hj)) (rowS_one _) (by unfold maxLen; omega) (by omega) (by simp) ?_; intro v' w1 hown hgrow hnil)
    obtain ⟨a2, c2, rfl⟩ : ∃ a2 c2, v' = .slice a2 (0 + len) c2 := by
      rcases hown.2 with ⟨e, h'⟩ | ⟨g, cp, cur, e, -⟩
      · exact ⟨none, 0, by rw [e, h']⟩
      · exact ⟨_, cp, e⟩
    go_wp2_with fail
    go_ret
    refine ⟨_, rfl, ?_, ((RowKit.Below.refl _ w).alloc (Nat.le_refl _) _).grown hgrow (by simp) (by intro k hk; cases hk; exact Nat.le_refl _)⟩
    show World.ownsRow _ _ _ _ _ _ _
    rw [HP.out]
    simpa using hown
end Go.Proofs.Ytiabjlaganmloaa
