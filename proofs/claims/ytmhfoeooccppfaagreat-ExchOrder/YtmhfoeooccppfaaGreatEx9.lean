/-
  exchange: New, strings.Clone, Put.
-/
import Derived.Test.YtmhfoeooccppfaaGreatEx8
import Derived.Test.YtmhfoeooccppfaaGreatShelf
namespace Go.Proofs.YtmhfoeooccppfaaGreat
open Go.RowKit Go.Shelf
set_option linter.unusedVariables false
set_option maxRecDepth 20000

theorem new_any (w : World) : Calls Tryz.prog 8 #[] w fun e w' => ∃ b S, e = .returned (.pointer (some ⟨b, 0, none⟩)) ∧ TbR w' S b [] ∧ Below w.heap.size w w' ∧ ∀ k, S k → w.heap.size ≤ k := by
  have hmm := @run_makeMap Tryz.prog
  go_enter Tryz.func8, Tryz.ntmps8
  go_wp2_with fail
  go_ret
  have V : Va ((w.alloc (.map #[] 0)).alloc (.cells #[.pointer (some ⟨w.heap.size + 1, 0, none⟩), .map (some w.heap.size), .int .i64 0] 32)) (w.heap.size + 1) 32 #[.pointer (some ⟨w.heap.size + 1, 0, none⟩), .map (some w.heap.size), .int .i64 0] := by
    have := Va.new (w.alloc (.map #[] 0)) 32 #[.pointer (some ⟨w.heap.size + 1, 0, none⟩), .map (some w.heap.size), .int .i64 0]
    simpa using this
  have O1 := World.ownsMap_made w Tryz.prog 71 hdR
  have O2 := O1.alloc (.cells #[.pointer (some ⟨w.heap.size + 1, 0, none⟩), .map (some w.heap.size), .int .i64 0] 32)
  refine ⟨_, _, rfl, ⟨_, 0, .map [], tb_empty V O2⟩, ?_, ?_⟩
  · exact ((Below.refl _ w).alloc (Nat.le_refl _) _).alloc (by simp) _
  · rintro k (rfl | rfl) <;> omega
theorem sclone (s : List UInt8) (hs : s.length ≤ 1000000) (w : World) : Calls Tryz.prog 26 #[sv s] w fun e w' => e = .returned (sv s) ∧ Below w.heap.size w w' := by
  have hc := Tryz.stringslite_Clone ⟨s.toArray⟩ w (by simp [ByteArray.size]; omega)
  go_enter Tryz.func26, Tryz.ntmps26
  go_wp2_with (go_at_call 58; refine hc.mono ?_; rintro e w' ⟨rfl, hb⟩; have HB : Hid (Below w.heap.size w w') := hb; clear hb)
  go_ret
  exact ⟨rfl, HB.out⟩
theorem Va.gq {w w' : World} {b : Nat} {t : TypeId} {cs : Array Value} (h : Va w b t cs) {v : Value} {xs : List (Int × Nat)} {B : Nat} (hG : Ge elQ w B v xs) (hg : w.grownBy w' v.ownBlock) (ht : t ≠ 76) : Va w' b t cs := by
  refine h.keep (hg.block b h.lt (fun e => ?_))
  obtain ⟨cur, hc⟩ := hG.kind e.symm
  unfold Va at h
  rw [h] at hc
  cases hc
  exact ht rfl
theorem Va.gm {w w' : World} {b : Nat} {t : TypeId} {cs : Array Value} (h : Va w b t cs) {m n : Nat} {D : DataW Value} (ho : w.ownsMap Tryz.prog 71 hdR m n D) (hg : w.grownBy w' (some m)) : Va w' b t cs := by
  refine h.keep (hg.block b h.lt (fun e => ?_))
  obtain ⟨es, clock, hb, -⟩ := ho
  unfold Va at h
  cases e
  rw [h] at hb
  cases hb
theorem own_gq {w w' : World} {m n : Nat} {D : DataW Value} (h : w.ownsMap Tryz.prog 71 hdR m n D) {v : Value} {xs : List (Int × Nat)} {B : Nat} (hG : Ge elQ w B v xs) (hg : w.grownBy w' v.ownBlock) : w'.ownsMap Tryz.prog 71 hdR m n D := by
  refine h.kept hg (fun e => ?_)
  obtain ⟨cur, hc⟩ := hG.kind e.symm
  obtain ⟨es, clock, hb, -⟩ := h
  rw [hb] at hc
  cases hc
theorem run_store_flt (a : Addr) (b : Nat) (m : Mode) (w : World) : (store a (.float .f64 b) m).run Tryz.prog w = match w.cell? a with
      | some _ => if w.frozen? a then .halt (.unsupported (.unsafePointer "a write to bytes that a string shares")) w else .ok () (w.setCell a (.float .f64 b))
      | none => match w.farStore Tryz.prog a (.float .f64 b) (m == .atomic) with
        | .ok (w', _) => .ok () w'
        | .error h => .halt h w := run_store _ _ _ _ _ rfl
theorem code_len {s : List UInt8} (h : cdF' s = true) : s.length ≤ 1000 := by
  unfold cdF' at h
  simp at h
  omega
theorem sho_of {q : Qe} (h : ckE q = 0) : Sho (q.fr, q.to) := ⟨code_len (ckE_ok h).1, code_len (ckE_ok h).2.1⟩
theorem min_room {a b : Nat} (h : ¬ 4096 ≤ a) : a < 4096 := by omega
theorem Va.neT {w : World} {b b' : Nat} {t t' : TypeId} {cs cs' : Array Value} (h : Va w b t cs) (k : Va w b' t' cs') (ht : t ≠ t') : b ≠ b' := fun e => by
  unfold Va at h k
  rw [e, k] at h
  cases h
  exact ht rfl
theorem sto2q {W : World} {b : Nat} {t : TypeId} {x y : Value} (h : Va W b t #[x, y]) (x' y' : Value) {Q : World → Prop}
    (k : ∀ V, Va V b t #[x', y'] → (∀ c t cs, c ≠ b → Va W c t cs → Va V c t cs) → (V.heap.size = W.heap.size ∧ (∀ c, c ≠ b → V.heap[c]? = W.heap[c]?) ∧ (∀ B v, B ≤ b → Below B v W → Below B v V)) → Q V) : Q ((W.setCell ⟨b, 0, none⟩ x').setCell ⟨b, 1, none⟩ y') := by
  have e : ∀ c, c ≠ b → ((W.setCell ⟨b, 0, none⟩ x').setCell ⟨b, 1, none⟩ y').heap[c]? = W.heap[c]? := fun c hc => by
    rw [Below.heap_setCell _ _ _ c hc, Below.heap_setCell _ _ _ c hc]
  refine k _ ?_ (fun c t cs hc hv => hv.keep (e c hc)) ⟨by simp [World.setCell], e, fun B v hB hb => (hb.setCell hB x').setCell hB y'⟩
  have := (h.sti 0 x').sti 1 y'
  simpa using this
set_option maxHeartbeats 8000000 in
theorem put_any (f t : List UInt8) (d : Int) (x : Nat) (hr : x < 18446744073709551616) (S : Nat → Prop) (b : Nat) (T : List Qe) (w : World) (h : TbR w S b T) (hT : Tok T) :
    Calls Tryz.prog 9 #[.pointer (some ⟨b, 0, none⟩), .agg #[sv f, sv t, .int .i64 d, .float .f64 x]] w fun e w' => ∃ (E : Int) (T' : List Qe) (S' : Nat → Prop), e = .returned (.int .i64 E) ∧ PuR T ⟨f, t, d, x⟩ E T' ∧ TbR w' S' b T' ∧ Ch w w' S S' ∧ NUc w w' := by
  obtain ⟨m, n, D, HTb⟩ := h
  have B0 : Below w.heap.size w w := Below.refl _ _
  obtain ⟨len, hlen⟩ : ∃ len, T.length = len := ⟨_, rfl⟩
  have HL : Hid (T.length = len) := hlen
  have HLT : Hid (∀ k, S k → k < w.heap.size) := HTb.lt
  clear hlen
  by_cases hE : ckE ⟨f, t, d, x⟩ = 0
  rotate_left
  ·
    obtain ⟨E, hEE⟩ : ∃ E, ckE ⟨f, t, d, x⟩ = E := ⟨_, rfl⟩
    have HE : Hid (ckE ⟨f, t, d, x⟩ = E) := hEE
    rw [hEE] at hE
    have g1 : (E == 0) = false := by simpa using hE
    have HNE : Hid (¬ E = 0) := hE
    clear hEE
    go_enter Tryz.func9, Tryz.ntmps9
    go_wp2_with fail
    refine ent1 w _ _ (Q := fun W => Calls Tryz.prog _ _ W _) ?_
    intro x1 hb hs1 V1
    replace HTb := HTb.after hb
    replace B0 := step B0 hb
    clear hb hs1
    have hck := check_any ⟨f, t, d, x⟩ hr b m T.length x1 HTb.cells
    rw [HE.out] at hck
    refine hck.mono ?_
    rintro e x2 ⟨rfl, hb⟩
    clear hck
    replace HTb := HTb.after hb
    replace V1 := Va.after hb V1
    replace B0 := step B0 hb
    clear hb
    have hne := HNE.out
    go_wp2_with fail
    go_ret
    exact ⟨E, T, S, rfl, by rw [← HE.out]; exact .bad (by rw [HE.out]; exact HNE.out), ⟨m, n, D, HTb⟩, Ch.of_below B0, NUc.of_below B0⟩
  have HE : Hid (ckE ⟨f, t, d, x⟩ = 0) := hE
  have HSH : Hid (Sho (f, t)) := sho_of (q := ⟨f, t, d, x⟩) hE
  clear hE
  go_enter Tryz.func9, Tryz.ntmps9
  go_wp2_with fail
  refine ent1 w _ _ (Q := fun W => Calls Tryz.prog _ _ W _) ?_
  intro x1 hb hs1 V1
  replace HTb := HTb.after hb
  replace B0 := step B0 hb
  clear hb hs1
  have hck := check_any ⟨f, t, d, x⟩ hr b m T.length x1 HTb.cells
  rw [HE.out] at hck
  refine hck.mono ?_
  rintro e x2 ⟨rfl, hb⟩
  clear hck
  replace HTb := HTb.after hb
  replace V1 := Va.after hb V1
  replace B0 := step B0 hb
  clear hb
  go_upto_region 4 with fail
  go_cut [6] (fun s6 wx => ∃ pb : Nat, s6 = .pointer (some ⟨pb, 0, none⟩) ∧ Hid (Va wx pb 71 #[sv f, sv t]) ∧ Hid (Va wx w.heap.size 29 #[sv f, sv t, .int .i64 d, .float .f64 x]) ∧ Hid (Tb wx S b m n D T) ∧ Hid (Below w.heap.size w wx) ∧ Hid (w.heap.size ≤ pb))
  case first =>
    have HTd : Tb x2.drew S b m n D T := HTb.after ((Below.refl _ _).drew)
    clear HTb
    refine wp_region_noPanic ?_
    replace V1 : Va x2.drew _ _ _ := V1
    replace B0 := Below.drew B0
    refine wp_region_held_drew (S := (fun W => W.cell? ⟨w.heap.size, 0, none⟩ = some (sv f) ∧ W.cell? ⟨w.heap.size, 1, none⟩ = some (sv t))) (by kernel_rfl) ⟨by rw [V1.cellAt 0]; rfl, by rw [V1.cellAt 1]; rfl⟩ (fun hHeld => ?_)
    obtain ⟨x3, hxd⟩ : ∃ xd, xd = x2.drew := ⟨_, rfl⟩
    rw [← hxd] at V1 B0 hHeld ⊢
    have HTb : Tb x3 S b m n D T := by rw [hxd]; exact HTd
    clear hxd HTd
    refine wpAnyH_take (i := 0) (v := ?_) rfl (by kernel_rfl) (by kernel_rfl) (by kernel_rfl) (fun _ _ _ h => h) (Or.inl ⟨by rfl, ?_⟩) hHeld ?_
    rotate_left
    · (intro W hSw; (try dsimp only at hSw); go_simp; all_goals (with_reducible rfl))
    simp only [List.getElem_toArray, List.getElem_cons_zero, Act.put, List.setIfInBounds_toArray, List.set_cons_zero, List.set_cons_succ]
    refine wpAnyH_take (i := 1) (v := ?_) rfl (by kernel_rfl) (by kernel_rfl) (by kernel_rfl) (fun _ _ _ h => h) (Or.inl ⟨by rfl, ?_⟩) hHeld ?_
    rotate_left
    · (intro W hSw; (try dsimp only at hSw); go_simp; all_goals (with_reducible rfl))
    simp only [List.getElem_toArray, List.getElem_cons_zero, List.getElem_cons_succ, Act.put, List.setIfInBounds_toArray, List.set_cons_zero, List.set_cons_succ]
    refine wpAnyH_take (i := 3) (v := ?_) rfl (by kernel_rfl) (by kernel_rfl) (by kernel_rfl) (fun _ _ _ h => h) (Or.inl ⟨by rfl, ?_⟩) hHeld ?_
    rotate_left
    · (intro W hSw; (try dsimp only at hSw); go_simp; all_goals (with_reducible rfl))
    simp only [List.getElem_toArray, List.getElem_cons_zero, List.getElem_cons_succ, Act.put, List.setIfInBounds_toArray, List.set_cons_zero, List.set_cons_succ]
    refine wpAnyH_take (i := 4) (v := ?_) rfl (by kernel_rfl) (by kernel_rfl) (by kernel_rfl) (fun _ _ _ h => h) (Or.inl ⟨by rfl, ?_⟩) hHeld ?_
    rotate_left
    · (intro W hSw; (try dsimp only at hSw); go_simp; all_goals (with_reducible rfl))
    simp only [List.getElem_toArray, List.getElem_cons_zero, List.getElem_cons_succ, Act.put, List.setIfInBounds_toArray, List.set_cons_zero, List.set_cons_succ]
    refine wpAnyH_ready (rs := [2, 7]) (by kernel_rfl) (by simp) ?_
    refine AllReadyH.cons rfl (fun K hK => ?_) (AllReadyH.cons rfl (fun K hK => ?_) AllReadyH.nil)
    ·
      simp only [List.getElem_toArray, List.getElem_cons_zero, List.getElem_cons_succ]
      go_simp
      refine (sclone f (by have := HSH.out; unfold Sho at this; simp only at this; omega) _).mono ?_
      rintro e x4 ⟨rfl, hb⟩
      replace HTb := HTb.after hb
      replace V1 := Va.after hb V1
      replace B0 := step B0 hb
      clear hb
      try go_wp2_with fail
      refine hK.out _ _ ⟨by rw [V1.cellAt 0]; rfl, by rw [V1.cellAt 1]; rfl⟩ (fun hHeld => ?_)
      clear hK K
      refine wpAnyH_ready (rs := [5, 7]) (by kernel_rfl) (by simp) ?_
      refine AllReadyH.cons rfl (fun K hK => ?_) (AllReadyH.cons rfl (fun K hK => ?_) AllReadyH.nil)
      ·
        simp only [List.getElem_toArray, List.getElem_cons_zero, List.getElem_cons_succ]
        go_simp
        refine (sclone t (by have := HSH.out; unfold Sho at this; simp only at this; omega) _).mono ?_
        rintro e x5 ⟨rfl, hb⟩
        replace HTb := HTb.after hb
        replace V1 := Va.after hb V1
        replace B0 := step B0 hb
        clear hb
        try go_wp2_with fail
        refine hK.out _ _ ⟨by rw [V1.cellAt 0]; rfl, by rw [V1.cellAt 1]; rfl⟩ (fun hHeld => ?_)
        clear hK K
        refine wpAnyH_take (i := 6) (v := ?_) rfl (by kernel_rfl) (by kernel_rfl) (by kernel_rfl) (fun _ _ _ h => h) (Or.inl ⟨by rfl, ?_⟩) hHeld ?_
        rotate_left
        · (intro W hSw; (try dsimp only at hSw); go_simp; all_goals (with_reducible rfl))
        simp only [List.getElem_toArray, List.getElem_cons_zero, List.getElem_cons_succ, Act.put, List.setIfInBounds_toArray, List.set_cons_zero, List.set_cons_succ]
        refine wpAnyH_ready (rs := [7]) (by kernel_rfl) (by simp) ?_
        refine AllReadyH.cons rfl (fun K hK => ?_) AllReadyH.nil
        simp only [List.getElem_toArray, List.getElem_cons_zero, List.getElem_cons_succ]
        go_simp
        have HPB : Hid (w.heap.size ≤ x5.heap.size) := B0.size
        refine ent1 x5 _ _ (Q := fun V => K _ V) ?_
        intro x6 hb hsz V2
        clear hsz
        replace HTb := HTb.after hb
        replace V1 := Va.after hb V1
        replace B0 := step B0 hb
        clear hb
        refine hK.out _ _ ⟨by rw [V1.cellAt 0]; rfl, by rw [V1.cellAt 1]; rfl⟩ (fun hHeld => ?_)
        clear hK K
        have c_0 : x6.cell? ⟨_, 0, none⟩ = _ := V2.cellAt 0
        have c_1 : x6.cell? ⟨_, 1, none⟩ = _ := V2.cellAt 1
        have f_0 := V2.frozen 0
        have f_1 := V2.frozen 1
        have l_1 := V2.lt
        have n_1 : _ ≠ w.heap.size := V2.neT V1 (by decide)
        refine wpAnyH_ready (rs := [8]) (by kernel_rfl) (by simp) ?_
        refine AllReadyH.cons rfl (fun K hK => ?_) AllReadyH.nil
        simp only [List.getElem_toArray, List.getElem_cons_zero, List.getElem_cons_succ]
        go_simp
        clear c_0 c_1 f_0 f_1
        refine sto2q V2 (sv f) (sv t) (Q := fun W => K _ W) ?_
        intro y V2' oth far
        replace V1 := oth _ _ _ n_1.symm V1
        replace HTb := HTb.kept (w' := y) (by rw [far.1]; exact Nat.le_refl _) (fun k hk => far.2.1 k (fun e => by have h1 := HLT.out k hk; have h2 := HPB.out; omega))
        replace B0 := far.2.2 _ _ HPB.out B0
        replace V2 := V2'
        clear oth far V2'
        refine hK.out _ _ ⟨by rw [V1.cellAt 0]; rfl, by rw [V1.cellAt 1]; rfl⟩ (fun hHeld => ?_)
        clear hK K
        refine wpAnyH_done (by kernel_rfl) ?_ _
        refine NoPanic.normal ?_
        clear hHeld
        try go_wp2_with fail
        go_meet
        exact ⟨_, rfl, V2, V1, HTb, B0, HPB⟩
      ·
        simp only [List.getElem_toArray, List.getElem_cons_zero, List.getElem_cons_succ]
        go_simp
        have HPB : Hid (w.heap.size ≤ x4.heap.size) := B0.size
        refine ent1 x4 _ _ (Q := fun V => K _ V) ?_
        intro x7 hb hsz V2
        clear hsz
        replace HTb := HTb.after hb
        replace V1 := Va.after hb V1
        replace B0 := step B0 hb
        clear hb
        refine hK.out _ _ ⟨by rw [V1.cellAt 0]; rfl, by rw [V1.cellAt 1]; rfl⟩ (fun hHeld => ?_)
        clear hK K
        refine wpAnyH_ready (rs := [5]) (by kernel_rfl) (by simp) ?_
        refine AllReadyH.cons rfl (fun K hK => ?_) AllReadyH.nil
        simp only [List.getElem_toArray, List.getElem_cons_zero, List.getElem_cons_succ]
        go_simp
        refine (sclone t (by have := HSH.out; unfold Sho at this; simp only at this; omega) _).mono ?_
        rintro e x8 ⟨rfl, hb⟩
        replace HTb := HTb.after hb
        replace V1 := Va.after hb V1
        replace B0 := step B0 hb
        replace V2 := Va.after hb V2
        clear hb
        try go_wp2_with fail
        refine hK.out _ _ ⟨by rw [V1.cellAt 0]; rfl, by rw [V1.cellAt 1]; rfl⟩ (fun hHeld => ?_)
        clear hK K
        refine wpAnyH_take (i := 6) (v := ?_) rfl (by kernel_rfl) (by kernel_rfl) (by kernel_rfl) (fun _ _ _ h => h) (Or.inl ⟨by rfl, ?_⟩) hHeld ?_
        rotate_left
        · (intro W hSw; (try dsimp only at hSw); go_simp; all_goals (with_reducible rfl))
        simp only [List.getElem_toArray, List.getElem_cons_zero, List.getElem_cons_succ, Act.put, List.setIfInBounds_toArray, List.set_cons_zero, List.set_cons_succ]
        have c_0 : x8.cell? ⟨_, 0, none⟩ = _ := V2.cellAt 0
        have c_1 : x8.cell? ⟨_, 1, none⟩ = _ := V2.cellAt 1
        have f_0 := V2.frozen 0
        have f_1 := V2.frozen 1
        have l_1 := V2.lt
        have n_1 : _ ≠ w.heap.size := V2.neT V1 (by decide)
        refine wpAnyH_ready (rs := [8]) (by kernel_rfl) (by simp) ?_
        refine AllReadyH.cons rfl (fun K hK => ?_) AllReadyH.nil
        simp only [List.getElem_toArray, List.getElem_cons_zero, List.getElem_cons_succ]
        go_simp
        clear c_0 c_1 f_0 f_1
        refine sto2q V2 (sv f) (sv t) (Q := fun W => K _ W) ?_
        intro y V2' oth far
        replace V1 := oth _ _ _ n_1.symm V1
        replace HTb := HTb.kept (w' := y) (by rw [far.1]; exact Nat.le_refl _) (fun k hk => far.2.1 k (fun e => by have h1 := HLT.out k hk; have h2 := HPB.out; omega))
        replace B0 := far.2.2 _ _ HPB.out B0
        replace V2 := V2'
        clear oth far V2'
        refine hK.out _ _ ⟨by rw [V1.cellAt 0]; rfl, by rw [V1.cellAt 1]; rfl⟩ (fun hHeld => ?_)
        clear hK K
        refine wpAnyH_done (by kernel_rfl) ?_ _
        refine NoPanic.normal ?_
        clear hHeld
        try go_wp2_with fail
        go_meet
        exact ⟨_, rfl, V2, V1, HTb, B0, HPB⟩
    ·
      simp only [List.getElem_toArray, List.getElem_cons_zero, List.getElem_cons_succ]
      go_simp
      have HPB : Hid (w.heap.size ≤ x3.heap.size) := B0.size
      refine ent1 x3 _ _ (Q := fun V => K _ V) ?_
      intro x9 hb hsz V2
      clear hsz
      replace HTb := HTb.after hb
      replace V1 := Va.after hb V1
      replace B0 := step B0 hb
      clear hb
      refine hK.out _ _ ⟨by rw [V1.cellAt 0]; rfl, by rw [V1.cellAt 1]; rfl⟩ (fun hHeld => ?_)
      clear hK K
      refine wpAnyH_ready (rs := [2]) (by kernel_rfl) (by simp) ?_
      refine AllReadyH.cons rfl (fun K hK => ?_) AllReadyH.nil
      simp only [List.getElem_toArray, List.getElem_cons_zero, List.getElem_cons_succ]
      go_simp
      refine (sclone f (by have := HSH.out; unfold Sho at this; simp only at this; omega) _).mono ?_
      rintro e x10 ⟨rfl, hb⟩
      replace HTb := HTb.after hb
      replace V1 := Va.after hb V1
      replace B0 := step B0 hb
      replace V2 := Va.after hb V2
      clear hb
      try go_wp2_with fail
      refine hK.out _ _ ⟨by rw [V1.cellAt 0]; rfl, by rw [V1.cellAt 1]; rfl⟩ (fun hHeld => ?_)
      clear hK K
      refine wpAnyH_ready (rs := [5]) (by kernel_rfl) (by simp) ?_
      refine AllReadyH.cons rfl (fun K hK => ?_) AllReadyH.nil
      simp only [List.getElem_toArray, List.getElem_cons_zero, List.getElem_cons_succ]
      go_simp
      refine (sclone t (by have := HSH.out; unfold Sho at this; simp only at this; omega) _).mono ?_
      rintro e x11 ⟨rfl, hb⟩
      replace HTb := HTb.after hb
      replace V1 := Va.after hb V1
      replace B0 := step B0 hb
      replace V2 := Va.after hb V2
      clear hb
      try go_wp2_with fail
      refine hK.out _ _ ⟨by rw [V1.cellAt 0]; rfl, by rw [V1.cellAt 1]; rfl⟩ (fun hHeld => ?_)
      clear hK K
      refine wpAnyH_take (i := 6) (v := ?_) rfl (by kernel_rfl) (by kernel_rfl) (by kernel_rfl) (fun _ _ _ h => h) (Or.inl ⟨by rfl, ?_⟩) hHeld ?_
      rotate_left
      · (intro W hSw; (try dsimp only at hSw); go_simp; all_goals (with_reducible rfl))
      simp only [List.getElem_toArray, List.getElem_cons_zero, List.getElem_cons_succ, Act.put, List.setIfInBounds_toArray, List.set_cons_zero, List.set_cons_succ]
      have c_0 : x11.cell? ⟨_, 0, none⟩ = _ := V2.cellAt 0
      have c_1 : x11.cell? ⟨_, 1, none⟩ = _ := V2.cellAt 1
      have f_0 := V2.frozen 0
      have f_1 := V2.frozen 1
      have l_1 := V2.lt
      have n_1 : _ ≠ w.heap.size := V2.neT V1 (by decide)
      refine wpAnyH_ready (rs := [8]) (by kernel_rfl) (by simp) ?_
      refine AllReadyH.cons rfl (fun K hK => ?_) AllReadyH.nil
      simp only [List.getElem_toArray, List.getElem_cons_zero, List.getElem_cons_succ]
      go_simp
      clear c_0 c_1 f_0 f_1
      refine sto2q V2 (sv f) (sv t) (Q := fun W => K _ W) ?_
      intro y V2' oth far
      replace V1 := oth _ _ _ n_1.symm V1
      replace HTb := HTb.kept (w' := y) (by rw [far.1]; exact Nat.le_refl _) (fun k hk => far.2.1 k (fun e => by have h1 := HLT.out k hk; have h2 := HPB.out; omega))
      replace B0 := far.2.2 _ _ HPB.out B0
      replace V2 := V2'
      clear oth far V2'
      refine hK.out _ _ ⟨by rw [V1.cellAt 0]; rfl, by rw [V1.cellAt 1]; rfl⟩ (fun hHeld => ?_)
      clear hK K
      refine wpAnyH_done (by kernel_rfl) ?_ _
      refine NoPanic.normal ?_
      clear hHeld
      try go_wp2_with fail
      go_meet
      exact ⟨_, rfl, V2, V1, HTb, B0, HPB⟩
  case rest =>
    clear V1 HTb B0
    obtain ⟨pb, rfl, HV2, HV1, HT0, HB, HPB⟩ := hcut
    have V2 := HV2.out
    have V1 := HV1.out
    have HTb := HT0.out
    have B0 := HB.out
    clear HV2 HV1 HT0 HB
    obtain ⟨v, hlook, hat, hGe, hSv⟩ := HTb.look HSH.out
    have HAT : Hid (AtP D (f, t) v) := hat
    clear hat hSv
    obtain ⟨xs, hxs⟩ : ∃ xs, sel f t T = xs := ⟨_, rfl⟩
    have HXS : Hid (sel f t T = xs) := hxs
    have HXL : xs.length ≤ 4096 := by rw [← hxs]; exact Nat.le_trans (sel_len _ _ _) hT.len
    have HRI : Hid (Ris xs) := by show Ris _; rw [← hxs]; exact sel_ris hT.srt
    have hGe2 : Ge elQ wc 0 v xs := by rw [← hxs]; exact hGe
    clear hGe hxs
    obtain ⟨a, cap, rfl, hcp, hcm, hsh⟩ := hGe2.shape
    have HGE : Hid (Ge elQ wc 0 (.slice a xs.length cap) xs) := hGe2
    have HSH2 : Hid (a = none ∧ xs = [] ∧ cap = 0 ∨ ∃ g, a = some ⟨g, 0, none⟩) := hsh
    have HLK := hlook
    clear hGe2 hcp hcm hsh hlook
    go_upto_region 5 with fail
    have HTd : Tb wc.drew S b m n D T := HTb.after ((Below.refl _ _).drew)
    have HGd : Ge elQ wc.drew 0 (.slice a xs.length cap) xs := HGE.out.after ((Below.refl _ _).drew)
    have hlk := HLK wc.drew ((Below.refl _ _).drew)
    clear HTb HGE
    refine wp_region_noPanic ?_
    replace V1 : Va wc.drew _ _ _ := V1
    replace V2 : Va wc.drew _ _ _ := V2
    replace B0 := Below.drew B0
    refine wp_region_held_drew (S := (fun W => W.cell? ⟨b, 1, none⟩ = some (.map (some m)) ∧ (W.cell? ⟨pb, 0, none⟩ = some (sv f) ∧ W.cell? ⟨pb, 1, none⟩ = some (sv t)) ∧ (Instr.lookup 30 (.map (some m)) (pv (f, t)) false).run Tryz.prog W = .ok (.slice a xs.length cap) W)) (by kernel_rfl) ⟨HTd.cells.at1, ⟨by rw [V2.cellAt 0]; rfl, by rw [V2.cellAt 1]; rfl⟩, hlk⟩ (fun hHeld => ?_)
    obtain ⟨y1, hxd⟩ : ∃ xd, xd = wc.drew := ⟨_, rfl⟩
    rw [← hxd] at V1 V2 B0 hHeld ⊢
    have HTb : Tb y1 S b m n D T := by rw [hxd]; exact HTd
    have HGE : Hid (Ge elQ y1 0 (.slice a xs.length cap) xs) := by rw [hxd]; exact HGd
    clear hxd HTd HGd hlk HLK
    refine wpAnyH_take (i := 0) (v := ?_) rfl (by kernel_rfl) (by kernel_rfl) (by kernel_rfl) (fun _ _ _ h => h) (Or.inl ⟨by rfl, ?_⟩) hHeld ?_
    rotate_left
    · (intro W hSw; (try dsimp only at hSw); go_simp; all_goals (with_reducible rfl))
    simp only [List.getElem_toArray, List.getElem_cons_zero, Act.put, List.setIfInBounds_toArray, List.set_cons_zero, List.set_cons_succ]
    refine wpAnyH_take (i := 1) (v := ?_) rfl (by kernel_rfl) (by kernel_rfl) (by kernel_rfl) (fun _ _ _ h => h) (Or.inl ⟨by rfl, ?_⟩) hHeld ?_
    rotate_left
    · (intro W hSw; (try dsimp only at hSw); go_simp; all_goals (with_reducible rfl))
    simp only [List.getElem_toArray, List.getElem_cons_zero, List.getElem_cons_succ, Act.put, List.setIfInBounds_toArray, List.set_cons_zero, List.set_cons_succ]
    refine wpAnyH_take (i := 2) (v := ?_) rfl (by kernel_rfl) (by kernel_rfl) (by kernel_rfl) (fun _ _ _ h => h) (Or.inl ⟨by rfl, ?_⟩) hHeld ?_
    rotate_left
    · (intro W hSw; (try dsimp only at hSw); go_simp; all_goals (with_reducible rfl))
    simp only [List.getElem_toArray, List.getElem_cons_zero, List.getElem_cons_succ, Act.put, List.setIfInBounds_toArray, List.set_cons_zero, List.set_cons_succ]
    refine wpAnyH_take (i := 3) (v := ?_) rfl (by kernel_rfl) (by kernel_rfl) (by kernel_rfl) (fun _ _ _ h => h) (Or.inl ⟨by rfl, ?_⟩) hHeld ?_
    rotate_left
    · (intro W hSw; (try dsimp only at hSw); go_simp; all_goals (with_reducible rfl))
    simp only [List.getElem_toArray, List.getElem_cons_zero, List.getElem_cons_succ, Act.put, List.setIfInBounds_toArray, List.set_cons_zero, List.set_cons_succ]
    refine wpAnyH_take (i := 4) (v := ?_) rfl (by kernel_rfl) (by kernel_rfl) (by kernel_rfl) (fun _ _ _ h => h) (Or.inl ⟨by rfl, ?_⟩) hHeld ?_
    rotate_left
    · (intro W hSw; (try dsimp only at hSw); go_simp; all_goals (with_reducible rfl))
    simp only [List.getElem_toArray, List.getElem_cons_zero, List.getElem_cons_succ, Act.put, List.setIfInBounds_toArray, List.set_cons_zero, List.set_cons_succ]
    refine wpAnyH_take (i := 5) (v := ?_) rfl (by kernel_rfl) (by kernel_rfl) (by kernel_rfl) (fun _ _ _ h => h) (Or.inl ⟨by rfl, ?_⟩) hHeld ?_
    rotate_left
    · (intro W hSw; (try dsimp only at hSw); go_simp; all_goals (with_reducible rfl))
    simp only [List.getElem_toArray, List.getElem_cons_zero, List.getElem_cons_succ, Act.put, List.setIfInBounds_toArray, List.set_cons_zero, List.set_cons_succ]
    refine wpAnyH_take (i := 6) (v := ?_) rfl (by kernel_rfl) (by kernel_rfl) (by kernel_rfl) (fun _ _ _ h => h) (Or.inl ⟨by rfl, ?_⟩) hHeld ?_
    rotate_left
    · (intro W hSw; (try dsimp only at hSw); go_simp; all_goals (with_reducible rfl))
    simp only [List.getElem_toArray, List.getElem_cons_zero, List.getElem_cons_succ, Act.put, List.setIfInBounds_toArray, List.set_cons_zero, List.set_cons_succ]
    refine wpAnyH_done (by kernel_rfl) ?_ _
    refine NoPanic.normal ?_
    clear hHeld
    have bs := fun W hb => bsearch_any xs a cap d W (HGE.out.toLe.after hb) HRI.out (by omega)
    have c_v2 : y1.cell? ⟨w.heap.size, 2, none⟩ = some (.int .i64 d) := by rw [V1.cellAt 2]; rfl
    go_wp2_with fail
    refine (bs _ (Below.refl _ _)).mono ?_
    rintro e y2 ⟨⟨i, F, rfl, hs⟩, hb⟩
    have HS : Hid (Sch xs d i F) := hs
    have HB2 : Hid (Below y1.heap.size y1 y2) := hb
    clear hs hb
    replace HTb := HTb.after HB2.out
    replace V1 := Va.after HB2.out V1
    replace V2 := Va.after HB2.out V2
    replace B0 := step B0 HB2.out
    have HG2 : Hid (Ge elQ y2 0 (.slice a xs.length cap) xs) := HGE.out.after HB2.out
    clear HGE HB2 bs c_v2
    cases F with
    | true =>
      obtain ⟨r, hxi⟩ := HS.out.2.2.2.1 rfl
      have hil : i < xs.length := lt_of_at hxi
      obtain ⟨g, rfl⟩ : ∃ g, a = some ⟨g, 0, none⟩ := by
        rcases HSH2.out with ⟨-, e, -⟩ | h
        · rw [e] at hil; exact absurd hil (Nat.not_lt_zero _)
        · exact h
      have hxd : xs.getD i (0, 0) = (d, r) := by
        have := getQ xs i hil
        rw [hxi] at this
        exact (Option.some.inj this).symm
      have c_q1 : y2.cell? ⟨g, i * 2 + 1, none⟩ = some (.float .f64 r) := by
        have := HG2.out.toLe.at i hil 1 (.float .f64 r) (by show (elQ.enc (xs.getD i (0, 0)))[1]? = _; rw [hxd]; rfl)
        simpa [elQ] using this
      have f_q1 := HG2.out.frozen (i * 2 + 1)
      have c_v3 : y2.cell? ⟨w.heap.size, 3, none⟩ = some (.float .f64 x) := by rw [V1.cellAt 3]; rfl
      have HXI : Hid ((sel f t T)[i]? = some (d, r)) := by show _ = _; rw [HXS.out]; exact hxi
      clear hxi hxd
      have sf := run_store_flt
      go_wp2_with fail
      go_ret
      obtain ⟨t1, t2, t3, t4⟩ := HTb.set hT (q := ⟨f, t, d, x⟩) HSH.out HAT.out HXI.out
      refine ⟨0, _, S, rfl, .set HE.out t3, ⟨m, n, D, t1⟩, (Ch.of_below B0).trans t2, NUc.after B0 t4⟩
    | false =>
      have hab := HTb.cells.at2
      rw [HL.out] at hab
      by_cases hfull : 4096 ≤ len
      · have hno := sch_no HRI.out HS.out
        have hfi : (4096 : Int) ≤ (len : Int) := by omega
        have HNO : Hid (¬ Has T ⟨f, t, d, x⟩) := by
          rintro ⟨p, hp, h1, h2, h3⟩
          refine hno.2 (p.day, p.rate) ?_ h3
          rw [← HXS.out]
          obtain ⟨pf, pt, pd, pr⟩ := p
          simp only at h1 h2
          subst h1
          subst h2
          exact mem_sel.2 hp
        clear hno
        go_wp2_with fail
        go_ret
        exact ⟨294, T, S, rfl, .full HE.out HNO.out (by rw [HL.out]; exact hfull), ⟨m, n, D, HTb⟩, Ch.of_below B0, NUc.of_below B0⟩
      · have hfi : ¬ (4096 : Int) ≤ (len : Int) := by omega
        have HLL : Hid (T.length < 4096) := by show _ < _; rw [HL.out]; omega
        go_upto_region 12 with fail
        clear hab
        have hxn : xs.length ≤ 1000000 := by omega
        have HTd : Tb y2.drew S b m n D T := HTb.after ((Below.refl _ _).drew)
        have HGd : Ge elQ y2.drew 0 (.slice a xs.length cap) xs := HG2.out.after ((Below.refl _ _).drew)
        clear HTb HG2
        refine wp_region_noPanic ?_
        replace V1 : Va y2.drew _ _ _ := V1
        replace V2 : Va y2.drew _ _ _ := V2
        replace B0 := Below.drew B0
        refine wp_region_held_drew (S := (fun W => W.cell? ⟨b, 1, none⟩ = some (.map (some m)) ∧ (W.cell? ⟨pb, 0, none⟩ = some (sv f) ∧ W.cell? ⟨pb, 1, none⟩ = some (sv t)) ∧ W.cell? ⟨w.heap.size, 2, none⟩ = some (.int .i64 d) ∧ W.cell? ⟨w.heap.size, 3, none⟩ = some (.float .f64 x))) (by kernel_rfl) ⟨HTd.cells.at1, ⟨by rw [V2.cellAt 0]; rfl, by rw [V2.cellAt 1]; rfl⟩, by rw [V1.cellAt 2]; rfl, by rw [V1.cellAt 3]; rfl⟩ (fun hHeld => ?_)
        obtain ⟨y3, hxd⟩ : ∃ xd, xd = y2.drew := ⟨_, rfl⟩
        rw [← hxd] at V1 V2 B0 hHeld ⊢
        have HTb : Tb y3 S b m n D T := by rw [hxd]; exact HTd
        have HG3 : Ge elQ y3 0 (.slice a xs.length cap) xs := by rw [hxd]; exact HGd
        clear hxd HTd HGd
        have HNEW : Hid ((Value.slice a xs.length cap).ownBlock ≠ some y3.heap.size) := fun e => Nat.lt_irrefl _ (HG3.lt _ e)
        refine wpAnyH_take (i := 0) (v := ?_) rfl (by kernel_rfl) (by kernel_rfl) (by kernel_rfl) (fun _ _ _ h => h) (Or.inl ⟨by rfl, ?_⟩) hHeld ?_
        rotate_left
        · (intro W hSw; (try dsimp only at hSw); go_simp; all_goals (with_reducible rfl))
        simp only [List.getElem_toArray, List.getElem_cons_zero, Act.put, List.setIfInBounds_toArray, List.set_cons_zero, List.set_cons_succ]
        refine wpAnyH_take (i := 1) (v := ?_) rfl (by kernel_rfl) (by kernel_rfl) (by kernel_rfl) (fun _ _ _ h => h) (Or.inl ⟨by rfl, ?_⟩) hHeld ?_
        rotate_left
        · (intro W hSw; (try dsimp only at hSw); go_simp; all_goals (with_reducible rfl))
        simp only [List.getElem_toArray, List.getElem_cons_zero, List.getElem_cons_succ, Act.put, List.setIfInBounds_toArray, List.set_cons_zero, List.set_cons_succ]
        refine wpAnyH_take (i := 2) (v := ?_) rfl (by kernel_rfl) (by kernel_rfl) (by kernel_rfl) (fun _ _ _ h => h) (Or.inl ⟨by rfl, ?_⟩) hHeld ?_
        rotate_left
        · (intro W hSw; (try dsimp only at hSw); go_simp; all_goals (with_reducible rfl))
        simp only [List.getElem_toArray, List.getElem_cons_zero, List.getElem_cons_succ, Act.put, List.setIfInBounds_toArray, List.set_cons_zero, List.set_cons_succ]
        refine wpAnyH_take (i := 3) (v := ?_) rfl (by kernel_rfl) (by kernel_rfl) (by kernel_rfl) (fun _ _ _ h => h) (Or.inl ⟨by rfl, ?_⟩) hHeld ?_
        rotate_left
        · (intro W hSw; (try dsimp only at hSw); go_simp; all_goals (with_reducible rfl))
        simp only [List.getElem_toArray, List.getElem_cons_zero, List.getElem_cons_succ, Act.put, List.setIfInBounds_toArray, List.set_cons_zero, List.set_cons_succ]
        refine wpAnyH_take (i := 4) (v := ?_) rfl (by kernel_rfl) (by kernel_rfl) (by kernel_rfl) (fun _ _ _ h => h) (Or.inl ⟨by rfl, ?_⟩) hHeld ?_
        rotate_left
        · (intro W hSw; (try dsimp only at hSw); go_simp; all_goals (with_reducible rfl))
        simp only [List.getElem_toArray, List.getElem_cons_zero, List.getElem_cons_succ, Act.put, List.setIfInBounds_toArray, List.set_cons_zero, List.set_cons_succ]
        refine wpAnyH_take (i := 5) (v := ?_) rfl (by kernel_rfl) (by kernel_rfl) (by kernel_rfl) (fun _ _ _ h => h) (Or.inl ⟨by rfl, ?_⟩) hHeld ?_
        rotate_left
        · (intro W hSw; (try dsimp only at hSw); go_simp; all_goals (with_reducible rfl))
        simp only [List.getElem_toArray, List.getElem_cons_zero, List.getElem_cons_succ, Act.put, List.setIfInBounds_toArray, List.set_cons_zero, List.set_cons_succ]
        refine wpAnyH_take (i := 6) (v := ?_) rfl (by kernel_rfl) (by kernel_rfl) (by kernel_rfl) (fun _ _ _ h => h) (Or.inl ⟨by rfl, ?_⟩) hHeld ?_
        rotate_left
        · (intro W hSw; (try dsimp only at hSw); go_simp; all_goals (with_reducible rfl))
        simp only [List.getElem_toArray, List.getElem_cons_zero, List.getElem_cons_succ, Act.put, List.setIfInBounds_toArray, List.set_cons_zero, List.set_cons_succ]
        refine wpAnyH_take (i := 7) (v := ?_) rfl (by kernel_rfl) (by kernel_rfl) (by kernel_rfl) (fun _ _ _ h => h) (Or.inl ⟨by rfl, ?_⟩) hHeld ?_
        rotate_left
        · (intro W hSw; (try dsimp only at hSw); go_simp; all_goals (with_reducible rfl))
        simp only [List.getElem_toArray, List.getElem_cons_zero, List.getElem_cons_succ, Act.put, List.setIfInBounds_toArray, List.set_cons_zero, List.set_cons_succ]
        refine wpAnyH_take (i := 8) (v := ?_) rfl (by kernel_rfl) (by kernel_rfl) (by kernel_rfl) (fun _ _ _ h => h) (Or.inl ⟨by rfl, ?_⟩) hHeld ?_
        rotate_left
        · (intro W hSw; (try dsimp only at hSw); go_simp; all_goals (with_reducible rfl))
        simp only [List.getElem_toArray, List.getElem_cons_zero, List.getElem_cons_succ, Act.put, List.setIfInBounds_toArray, List.set_cons_zero, List.set_cons_succ]
        refine wpAnyH_take (i := 9) (v := ?_) rfl (by kernel_rfl) (by kernel_rfl) (by kernel_rfl) (fun _ _ _ h => h) (Or.inl ⟨by rfl, ?_⟩) hHeld ?_
        rotate_left
        · (intro W hSw; (try dsimp only at hSw); go_simp; all_goals (with_reducible rfl))
        simp only [List.getElem_toArray, List.getElem_cons_zero, List.getElem_cons_succ, Act.put, List.setIfInBounds_toArray, List.set_cons_zero, List.set_cons_succ]
        refine wpAnyH_take (i := 10) (v := ?_) rfl (by kernel_rfl) (by kernel_rfl) (by kernel_rfl) (fun _ _ _ h => h) (Or.inl ⟨by rfl, ?_⟩) hHeld ?_
        rotate_left
        · (intro W hSw; (try dsimp only at hSw); go_simp; all_goals (with_reducible rfl))
        simp only [List.getElem_toArray, List.getElem_cons_zero, List.getElem_cons_succ, Act.put, List.setIfInBounds_toArray, List.set_cons_zero, List.set_cons_succ]
        refine wpAnyH_take (i := 11) (v := ?_) rfl (by kernel_rfl) (by kernel_rfl) (by kernel_rfl) (fun _ _ _ h => h) (Or.inl ⟨by rfl, ?_⟩) hHeld ?_
        rotate_left
        · (intro W hSw; (try dsimp only at hSw); go_simp; all_goals (with_reducible rfl))
        simp only [List.getElem_toArray, List.getElem_cons_zero, List.getElem_cons_succ, Act.put, List.setIfInBounds_toArray, List.set_cons_zero, List.set_cons_succ]
        refine wpAnyH_ready (rs := [12]) (by kernel_rfl) (by simp) ?_
        refine AllReadyH.cons rfl (fun K hK => ?_) AllReadyH.nil
        simp only [List.getElem_toArray, List.getElem_cons_zero, List.getElem_cons_succ]
        go_simp
        refine ent1 y3 _ _ (Q := fun V => K _ V) ?_
        intro y4 hb hsz V3
        replace HTb := HTb.after hb
        replace HG3 := HG3.after hb
        replace V1 := Va.after hb V1
        replace V2 := Va.after hb V2
        replace B0 := step B0 hb
        have h34 : y3.heap.size < y4.heap.size := by omega
        clear hb hsz
        refine hK.out _ _ ⟨HTb.cells.at1, ⟨by rw [V2.cellAt 0]; rfl, by rw [V2.cellAt 1]; rfl⟩, by rw [V1.cellAt 2]; rfl, by rw [V1.cellAt 3]; rfl⟩ (fun hHeld => ?_)
        clear hK K
        have hins := insert_any 0 (.slice a xs.length cap) xs (d, x) i y3.heap.size y4 HG3 (HTb.nou _ HSH.out _ HAT.out) V3 (Nat.zero_le _) (fun e => HNEW.out e) HS.out.1 hxn
        refine wpAnyH_ready (rs := [13]) (by kernel_rfl) (by simp) ?_
        refine AllReadyH.cons rfl (fun K hK => ?_) AllReadyH.nil
        simp only [List.getElem_toArray, List.getElem_cons_zero, List.getElem_cons_succ]
        go_simp
        refine hins.mono ?_
        rintro e y5 ⟨v', rfl, i1, i2, i3, i4⟩
        clear hins
        have HI1 : Hid (Ge elQ y5 0 v' (xs.take i ++ (d, x) :: xs.drop i)) := i1
        have HI2 : Hid (y4.grownBy y5 (Value.slice a xs.length cap).ownBlock) := i2
        have HI3 : Hid (v'.ownBlock = (Value.slice a xs.length cap).ownBlock ∨ v'.ownBlock = some y4.heap.size) := i3
        have HI4 : Hid (NoU y5 v') := i4
        clear i1 i2 i3 i4
        have W1 := V1.gq HG3 HI2.out (by decide)
        have W2 := V2.gq HG3 HI2.out (by decide)
        have W3 := HTb.cells.gq HG3 HI2.out (by decide)
        have O5 := own_gq HTb.own HG3 HI2.out
        try go_wp2_with fail
        refine hK.out _ _ ⟨W3.at1, ⟨by rw [W2.cellAt 0]; rfl, by rw [W2.cellAt 1]; rfl⟩, by rw [W1.cellAt 2]; rfl, by rw [W1.cellAt 3]; rfl⟩ (fun hHeld => ?_)
        clear hK K
        obtain ⟨y6, hupd, o6, g6⟩ := O5.update lawP Tryz.underlying30 (by have := HTb.le; have := HLL.out; unfold maxLen; omega) (keyP (f, t) HSH.out) (val := v') (d := .held v') (ps := []) rfl
        have HO6 : Hid (y6.ownsMap Tryz.prog 71 hdR m (n + 1) (D.put (klP (f, t)) (.held v'))) := o6
        have HG6 : Hid (y5.grownBy y6 (some m)) := g6
        clear o6 g6
        refine wpAnyH_ready (rs := [14]) (by kernel_rfl) (by simp) ?_
        refine AllReadyH.cons rfl (fun K hK => ?_) AllReadyH.nil
        simp only [List.getElem_toArray, List.getElem_cons_zero, List.getElem_cons_succ]
        go_simp
        have X1 := W1.gm O5 HG6.out
        have X2 := W2.gm O5 HG6.out
        have X3 := W3.gm O5 HG6.out
        refine hK.out _ _ ⟨X3.at1, ⟨by rw [X2.cellAt 0]; rfl, by rw [X2.cellAt 1]; rfl⟩, by rw [X1.cellAt 2]; rfl, by rw [X1.cellAt 3]; rfl⟩ (fun hHeld => ?_)
        clear hK K
        refine wpAnyH_done (by kernel_rfl) ?_ _
        refine NoPanic.normal ?_
        clear hHeld
        have c_b2 := X3.at2
        rw [HL.out] at c_b2
        have f_b2 := X3.frozen 2
        have hll : len < 4096 := by have := HLL.out; rw [HL.out] at this; exact this
        skip
        go_wp2_with fail
        go_ret
        rw [← HL.out]
        obtain ⟨t1, t2, t3, t4⟩ := HTb.more (w3 := _) hT (q := ⟨f, t, d, x⟩) HSH.out HAT.out (by rw [HXS.out]; exact HS.out) (by rw [HXS.out]; exact HI1.out) HI4.out HI2.out HI3.out HO6.out HG6.out rfl
        exact ⟨0, _, _, rfl, .more HE.out t3 HLL.out, ⟨m, _, _, t1⟩, (Ch.of_below B0).trans t2, NUc.after B0 t4⟩
end Go.Proofs.YtmhfoeooccppfaaGreat
