/-
  needed: the program's.
-/
import Derived.Test.YtonhooaboieapaaNwA
import Derived.Test.YtonhooaboieapaaSoI
namespace Go.Proofs.Ytonhooaboieapaa
open Go.RowKit Go.Shelf
set_option linter.unusedVariables false
set_option linter.unusedSimpArgs false

theorem Ge.lisA {w : World} {B : Nat} {a : Option Addr} {c : Nat} {l : List Nat} (h : Ge elI w B (.slice a l.length c) (ints l)) : Li w a l.length (ints l) := by
  rw [← ints_length l] at h ⊢
  exact h.toLe.li
/-- In memory from the block B on. -/
def Nwb (B : Nat) (a : Option Addr) : Prop := ∀ p, a = some p → B ≤ p.block
theorem apart_step {v v5 va : Value} {s : Nat} (h : v5.ownBlock = v.ownBlock ∨ v5.ownBlock = some s) (h1 : ∀ k, v.ownBlock = some k → va.ownBlock ≠ some k) (h2 : ∀ k, va.ownBlock = some k → k < s) : ∀ k, v5.ownBlock = some k → va.ownBlock ≠ some k := fun k hk e => by
  rcases h with h9 | h9
  · exact h1 k (by rw [← h9]; exact hk) e
  · rw [h9] at hk
    cases hk
    exact Nat.lt_irrefl _ (h2 _ e)
set_option maxRecDepth 20000 in
set_option maxHeartbeats 16000000 in
theorem needed_walk (n : Nat) (hn : n ≤ 4096) (b : Nat) (N : Nat → List Nat) (a : Option Addr) (len cap : Nat) (fr : List Nat) (w : World) (hR : Rw n w b N) (hL : Li w a len (ints fr)) (hfl : fr.length = len) (hl8 : len ≤ 17592186043904) (hf : ∀ x ∈ fr, x < n) (hN : ∀ x y, y ∈ N x → x < n ∧ y < n) (hl : ∀ x, (N x).length ≤ 65536) :
    Calls Try.prog 24 #[.slice (some ⟨b, 0, none⟩) n n, .slice a len cap] w fun e w' => ∃ l : List Nat, (∃ a c, e = .returned (.slice a l.length c) ∧ Li w' a l.length (ints l) ∧ Nwb w.heap.size a) ∧ l.Pairwise (· < ·) ∧ (∀ y, y ∈ l ↔ Nd (Rn N) fr y) ∧ Below w.heap.size w w' := by
  have HR : Hid (Rw n w b N) := hR
  have HN : Hid (∀ x y, y ∈ N x → x < n ∧ y < n) := hN
  have HTl : Hid (∀ x, (N x).length ≤ 65536) := hl
  have HF : Hid (∀ x ∈ fr, x < n) := hf
  have HL : Hid (Li w a len (ints fr)) := hL
  have HFl : Hid (fr.length = len) := hfl
  have hmb := fun W => make_bool n (by omega) W
  clear hR hN hl hf hL hfl
  go_enter Try.func24, Try.ntmps24
  go_wp2_with fail
  obtain ⟨X1, hX1⟩ : ∃ X, X = w.alloc (Obj.cells (Array.replicate n (Value.bool false)) 4) := ⟨_, rfl⟩
  rw [← hX1]
  obtain ⟨X2, hX2⟩ : ∃ X, X = X1.alloc (Obj.cells (Array.replicate n (Value.bool false)) 4) := ⟨_, rfl⟩
  rw [← hX2]
  obtain ⟨X3, hX3⟩ : ∃ X, X = X2.alloc (Obj.cells #[.slice (some ⟨w.heap.size + 1, 0, none⟩) n n] 36) := ⟨_, rfl⟩
  rw [← hX3]
  obtain ⟨X4, hX4⟩ : ∃ X, X = X3.alloc (Obj.cells #[.slice none 0 0] 23) := ⟨_, rfl⟩
  rw [← hX4]
  obtain ⟨g, hg⟩ : ∃ g, w.heap.size = g := ⟨_, rfl⟩
  have s1 : X1.heap.size = g + 1 := by rw [hX1, ← hg]; simp
  have s2 : X2.heap.size = g + 1 + 1 := by rw [hX2]; simp [s1]
  have s3 : X3.heap.size = g + 1 + 1 + 1 := by rw [hX3]; simp [s2]
  have b1 : Below w.heap.size w X1 := by rw [hX1]; exact (Below.refl _ _).alloc (Nat.le_refl _) _
  have b2 : Below X1.heap.size X1 X2 := by rw [hX2]; exact (Below.refl _ _).alloc (Nat.le_refl _) _
  have b3 : Below X2.heap.size X2 X3 := by rw [hX3]; exact (Below.refl _ _).alloc (Nat.le_refl _) _
  have b4 : Below X3.heap.size X3 X4 := by rw [hX4]; exact (Below.refl _ _).alloc (Nat.le_refl _) _
  have v1 : Va X1 g 4 (Array.replicate n (Value.bool false)) := by rw [hX1, ← hg]; exact Va.new _ _ _
  have v2 : Va X2 (g + 1) 4 (Array.replicate n (Value.bool false)) := by rw [hX2, ← s1]; exact Va.new _ _ _
  have v3 : Va X3 (g + 1 + 1) 36 #[.slice (some ⟨w.heap.size + 1, 0, none⟩) n n] := by rw [hX3, ← s2]; exact Va.new _ _ _
  have v4 : Va X4 (g + 1 + 1 + 1) 23 #[.slice none 0 0] := by rw [hX4, ← s3]; exact Va.new _ _ _
  rw [hg] at v3 ⊢
  have HI0 : Hid (Fb n X4 g (fun x => decide (x ∈ ([] : List Nat)))) := by
    have h9 : Fb n X4 g (fun _ => false) := Fv.after b4 (Fv.after b3 (Fv.after b2 (Fb.falses v1)))
    rwa [show (fun x : Nat => decide (x ∈ ([] : List Nat))) = fun _ => false from funext (fun x => by simp)]
  have HA0 : Hid (As n g X4 [] (.slice none 0 0)) := by
    refine ⟨?_, (v3.after b4), v4, Ge.nil _ _⟩
    have h9 : Fb n X4 (g + 1) (fun _ => false) := Fv.after b4 (Fv.after b3 (Fb.falses v2))
    rwa [show (fun x : Nat => decide (x ∈ ([] : List Nat))) = fun _ => false from funext (fun x => by simp)]
  have HB0 : Hid (Below g w X4) := by rw [← hg]; exact step (step (step b1 b2) b3) b4
  have HG : Hid (w.heap.size = g) := hg
  clear hX1 hX2 hX3 hX4 s1 s2 s3 b1 b2 b3 b4 v1 v2 v3 v4 hg hmb X1 X2 X3
  go_loopw [24] (fun u wz => ∃ (i : Nat) (A : List Nat) (va : Value), u = .int .i64 i ∧ i ≤ len ∧ Hid (A.Nodup ∧ (∀ x ∈ A, x ∈ fr)) ∧ Hid (∀ j x, j < i → fr[j]? = some x → x ∈ A) ∧ Hid (As n g wz A va) ∧ Hid (Fb n wz g (fun x => decide (x ∈ ([] : List Nat)))) ∧ Hid (Below g w wz)) (fun u _ => (len - (intOf u).toNat : Nat))
  case atStart => exact ⟨0, [], _, rfl, Nat.zero_le _, ⟨List.nodup_nil, fun x hx => by simp at hx⟩, fun j x hj => absurd hj (by omega), HA0.out, HI0.out, HB0.out⟩
  case round =>
    clear HA0 HI0 HB0
    obtain ⟨i, A, va, rfl, hi, HD, HM, HA, HI, HB⟩ := hrel
    rcases Nat.lt_or_ge i len with hlt | hge
    · have hii : (i : Int) < len := by omega
      have hif : i < fr.length := by rw [HFl.out]; exact hlt
      obtain ⟨b1, o1, rfl, c1⟩ := Li.node (by have h9 := HL.out.after (by rw [HG.out]; exact HB.out); rw [← HFl.out] at h9; exact h9) hif
      have hxg : fr[i]? = some (fr.getD i 0) := by rw [List.getD_eq_getElem?_getD, List.getElem?_eq_getElem hif]; rfl
      have hxn := HF.out _ (List.mem_of_getElem? hxg)
      have HX : Hid (fr[i]? = some (fr.getD i 0)) := hxg
      clear hxg hif
      generalize fr.getD i 0 = x at *
      have hask := ask_any n hn g A va x hxn wr HA.out HD.out.1 (fun z hz => HF.out z (HD.out.2 z hz))
      have HVa : Hid (∀ k, va.ownBlock = some k → g + 1 + 1 + 1 + 1 ≤ k) := HA.out.ge.block
      have HIl : Hid (g < wr.heap.size) := HI.out.lt
      go_wp2_with fail
      refine hask.mono ?_
      rintro e w5 ⟨⟨u5, rfl⟩, B, vb, hB, hA5, hk5, hb5, ho5⟩
      have HA5 : Hid (As n g w5 B vb) := hA5
      have HI5 : Hid (Fb n w5 g (fun x => decide (x ∈ ([] : List Nat)))) := Fv.kept HI.out (hk5 g HIl.out (by omega) (by omega) (fun e => by have := HVa.out g e; omega))
      have HB5 : Hid (Below g w w5) := HB.out.trans (hb5.mono (by omega))
      have HD5 : Hid (B.Nodup ∧ (∀ x ∈ B, x ∈ fr)) := by
        rcases hB with ⟨-, rfl⟩ | ⟨h1, rfl⟩
        · exact HD.out
        · refine ⟨?_, fun z hz => ?_⟩
          · rw [List.nodup_append]
            exact ⟨HD.out.1, by simp, fun a ha b hb => by simp at hb; subst hb; exact fun e => h1 (by rw [← e]; exact ha)⟩
          · rcases List.mem_append.1 hz with h2 | h2
            · exact HD.out.2 z h2
            · simp at h2; rw [h2]; exact List.mem_of_getElem? HX.out
      have HM5 : Hid (∀ j z, j < i + 1 → fr[j]? = some z → z ∈ B) := fun j z hj hz => by
        have hsub : ∀ z, z ∈ A ∨ z = x → z ∈ B := fun z hz => by
          rcases hB with ⟨h1, rfl⟩ | ⟨h1, rfl⟩
          · rcases hz with h2 | rfl
            · exact h2
            · exact h1
          · rcases hz with h2 | rfl
            · exact List.mem_append_left _ h2
            · simp
        by_cases e : j < i
        · exact hsub z (.inl (HM.out j z e hz))
        · obtain rfl : j = i := by omega
          rw [HX.out] at hz; cases hz
          exact hsub _ (.inr rfl)
      clear hask hB hA5 hk5 hb5 ho5 HA HI HB HD HM c1
      go_wp2_with fail
      go_roundw
      case rel => exact ⟨i + 1, B, vb, rfl, by omega, HD5.out, HM5.out, HA5.out, HI5.out, HB5.out⟩
      case measure => simp [intOf]; omega
    · obtain rfl : i = len := by omega
      clear hge hi
      have HW0 : Hid (Nw N n fr A [] 0 0) := Nw.start N n fr A HD.out.1 (fun x hx => HF.out x (HD.out.2 x hx)) HD.out.2
      have HFA : Hid (∀ x ∈ fr, x ∈ A) := fun x hx => by
        obtain ⟨j, hj⟩ := List.mem_iff_getElem?.1 hx
        exact HM.out j x (by rw [← HFl.out]; exact (List.getElem?_eq_some_iff.1 hj).1) hj
      have HA0 : Hid (As n g wr A va) := HA.out
      have HI0 : Hid (Fb n wr g (fun x => decide (x ∈ ([] : List Nat)))) := HI.out
      have HB0 : Hid (Below g w wr) := HB.out
      have HX0 : Hid (Ge elI wr (g + 1 + 1 + 1 + 1) (.slice none ([] : List Nat).length 0) (ints [])) := Ge.nil _ _
      clear HD HM HA HI HB
      go_wp2_with fail
      go_loopw [11, 12] (fun vL u wz => ∃ (k : Nat) (A L : List Nat) (va : Value), u = .int .i64 k ∧ Hid (∃ aL cL, vL = .slice aL L.length cL) ∧ k ≤ A.length ∧ Hid (Nw N n fr A L k 0) ∧ Hid (∀ x ∈ fr, x ∈ A) ∧ Hid (As n g wz A va) ∧ Hid (Fb n wz g (fun x => decide (x ∈ L))) ∧ Hid (Ge elI wz (g + 1 + 1 + 1 + 1) vL (ints L)) ∧ Hid (∀ k, vL.ownBlock = some k → va.ownBlock ≠ some k) ∧ Hid (Below g w wz)) (fun _ u _ => (n + 1 - (intOf u).toNat : Nat))
      case atStart => exact ⟨0, A, [], va, rfl, ⟨_, _, rfl⟩, Nat.zero_le _, HW0.out, HFA.out, HA0.out, HI0.out, HX0.out, fun k hk => by (cases hk), HB0.out⟩
      case round =>
        clear HW0 HFA HA0 HI0 HX0 HB0
        obtain ⟨k, A, L, va, rfl, HV, hk, HW, HFA, HA, HI, HX, HAp, HB⟩ := hrel
        obtain ⟨aL, cL, rfl⟩ := HV.out
        clear HV
        obtain ⟨aa, ca, hva, -, -, -⟩ := HA.out.ge.shape
        rw [ints_length] at hva
        subst hva
        have cA := HA.out.p3.cz
        have hAn : A.length ≤ n := few_nat HW.out.ndA HW.out.ltA
        rcases Nat.lt_or_ge k A.length with hlt | hge
        · have hki : (k : Int) < A.length := by omega
          obtain ⟨b1, o1, rfl, c1⟩ := Li.node HA.out.ge.lisA hlt
          have hxg : A[k]? = some (A.getD k 0) := by rw [List.getD_eq_getElem?_getD, List.getElem?_eq_getElem hlt]; rfl
          have hxn := HW.out.ltA _ (List.mem_of_getElem? hxg)
          have HXg : Hid (A[k]? = some (A.getD k 0)) := hxg
          clear hxg
          generalize A.getD k 0 = x at *
          have hxi : (x : Int) < n := by omega
          obtain ⟨ar, cr, crow0, hLr⟩ := HR.out.cell hxn
          have crow := ((by rw [HG.out]; exact HB.out : Below w.heap.size w wr).cell (p := ⟨b, x, none⟩) HR.out.lt).trans crow0
          have HLy : Hid (∀ W, Below g w W → Li W ar (N x).length (ints (N x))) := fun W hW => Li.after (by rw [HG.out]; exact hW) hLr
          have htl := HTl.out x
          have HW1 : Hid (Nw N n fr A L k 0) := HW.out
          have HFA1 : Hid (∀ x ∈ fr, x ∈ A) := HFA.out
          have HA1 : Hid (As n g wr A (.slice (some ⟨b1, o1, none⟩) A.length ca)) := HA.out
          have HI1 : Hid (Fb n wr g (fun x => decide (x ∈ L))) := HI.out
          have HX1 : Hid (Ge elI wr (g + 1 + 1 + 1 + 1) (.slice aL L.length cL) (ints L)) := HX.out
          have HAp1 : Hid (∀ k, (Value.slice aL L.length cL).ownBlock = some k → (Value.slice (some ⟨b1, o1, none⟩) A.length ca).ownBlock ≠ some k) := HAp.out
          have HB1 : Hid (Below g w wr) := HB.out
          clear hLr crow0 HW HFA HA HI HX HAp HB
          go_wp2_with fail
          go_loopw [11, 46] (fun vL u wz => ∃ (j : Nat) (A L : List Nat) (va : Value), u = .int .i64 j ∧ Hid (∃ aL cL, vL = .slice aL L.length cL) ∧ j ≤ (N x).length ∧ Hid (A[k]? = some x) ∧ Hid (Nw N n fr A L k j) ∧ Hid (∀ x ∈ fr, x ∈ A) ∧ Hid (As n g wz A va) ∧ Hid (Fb n wz g (fun x => decide (x ∈ L))) ∧ Hid (Ge elI wz (g + 1 + 1 + 1 + 1) vL (ints L)) ∧ Hid (∀ k, vL.ownBlock = some k → va.ownBlock ≠ some k) ∧ Hid (Below g w wz)) (fun _ u _ => ((N x).length - (intOf u).toNat : Nat))
          case atStart => exact ⟨0, A, L, _, rfl, ⟨_, _, rfl⟩, Nat.zero_le _, HXg.out, HW1.out, HFA1.out, HA1.out, HI1.out, HX1.out, HAp1.out, HB1.out⟩
          case round =>
            clear HW1 HFA1 HA1 HI1 HX1 HAp1 HB1 HXg c1 crow cA
            obtain ⟨j, A, L, va, rfl, HV, hj, HXg, HW, HFA, HA, HI, HX, HAp, HB⟩ := hrel
            obtain ⟨aL, cL, rfl⟩ := HV.out
            clear HV
            rcases Nat.lt_or_ge j (N x).length with hjl | hjg
            · have hji : (j : Int) < (N x).length := by omega
              obtain ⟨b2, o2, rfl, c2⟩ := Li.node (HLy.out wr HB.out) hjl
              have hyg : (N x)[j]? = some ((N x).getD j 0) := by rw [List.getD_eq_getElem?_getD, List.getElem?_eq_getElem hjl]; rfl
              have hyn := (HN.out x _ (List.mem_of_getElem? hyg)).2
              have HYg : Hid ((N x)[j]? = some ((N x).getD j 0)) := hyg
              clear hyg
              generalize (N x).getD j 0 = y at *
              have hyi : (y : Int) < n := by omega
              have cy := HI.out.cell hyn
              have fy := Fv.frozen HI.out y
              by_cases hyL : y ∈ L
              · rw [decide_eq_true hyL] at cy
                have HP2 : Hid (Nw N n fr A L k (j + 1)) := HW.out.old HXg.out HYg.out hyL
                clear hyL HW
                go_wp2_with fail
                go_roundw
                case rel => exact ⟨j + 1, A, L, va, rfl, ⟨_, _, rfl⟩, by omega, HXg.out, HP2.out, HFA.out, HA.out, HI.out, HX.out, HAp.out, HB.out⟩
                case measure => simp [intOf]; omega
              · rw [decide_eq_false hyL] at cy
                have HYn : Hid (y ∉ L) := hyL
                have HVa : Hid (∀ k, va.ownBlock = some k → g + 1 + 1 + 1 + 1 ≤ k ∧ k < wr.heap.size) := fun k hk => ⟨HA.out.ge.block k hk, HA.out.ge.lt k hk⟩
                have hg4 : g + 1 + 1 + 1 < wr.heap.size := HA.out.p3.lt
                have HKa : Hid (∀ k, (k = g + 1 ∨ k = g + 1 + 1 ∨ k = g + 1 + 1 + 1 ∨ va.ownBlock = some k) → k < wr.heap.size ∧ (Value.slice aL (ints L).length cL).ownBlock ≠ some k) := fun k hk => by
                  rw [ints_length]
                  rcases hk with rfl | rfl | rfl | hk
                  · exact ⟨by omega, fun e => by have := HX.out.block _ e; omega⟩
                  · exact ⟨by omega, fun e => by have := HX.out.block _ e; omega⟩
                  · exact ⟨by omega, fun e => by have := HX.out.block _ e; omega⟩
                  · exact ⟨(HVa.out k hk).2, fun e => HAp.out k e hk⟩
                have HI5 : Hid (Fb n (wr.setCell ⟨g, y, none⟩ (.bool true)) g (fun z => decide (z ∈ L ++ [y]))) := by
                  have h9 := Fb.set HI.out y true
                  rwa [show upf (fun z => decide (z ∈ L)) y true = fun z => decide (z ∈ L ++ [y]) from funext (fun z => by
                    by_cases e : z = y
                    · rw [e, upf_self]; simp
                    · rw [upf_ne _ _ e]; simp [e])] at h9
                have HA5 : Hid (As n g (wr.setCell ⟨g, y, none⟩ (.bool true)) A va) := HA.out.kept (fun k hk => heap_setCell_other _ _ _ _ (by
                  show k ≠ g
                  rcases hk with rfl | rfl | rfl | hk
                  · omega
                  · omega
                  · omega
                  · have := (HVa.out k hk).1; omega))
                have HX5 : Hid (Ge elI (wr.setCell ⟨g, y, none⟩ (.bool true)) (g + 1 + 1 + 1 + 1) (.slice aL (ints L).length cL) (ints L)) := by
                  rw [ints_length]
                  exact HX.out.far (p := ⟨g, y, none⟩) (fun e => by have h9 : g + 1 + 1 + 1 + 1 ≤ g := HX.out.block _ e; omega) _
                have HAp5 : Hid (∀ k, (Value.slice aL (ints L).length cL).ownBlock = some k → va.ownBlock ≠ some k) := by rw [ints_length]; exact HAp.out
                have HB5 : Hid (Below g w (wr.setCell ⟨g, y, none⟩ (.bool true))) := HB.out.setCell (p := ⟨g, y, none⟩) (Nat.le_refl _) _
                have HVN : Hid (Le elI ((wr.setCell ⟨g, y, none⟩ (.bool true)).alloc (.cells #[.int .i64 (y : Int)] 3)) (some ⟨wr.heap.size, 0, none⟩) 1 [(y : Int)]) := Le.one (by have := Va.new (wr.setCell ⟨g, y, none⟩ (.bool true)) 3 #[.int .i64 (y : Int)]; rwa [World.size_setCell] at this) rfl
                have HLn3 : Hid ((ints L).length + 1 ≤ 1000000000000) := by
                  have := few_nat HW.out.ndL HW.out.ltL
                  show _ ≤ _; rw [ints_length]; omega
                clear hyL HA HI HX HAp HB
                rw [← ints_length L]
                go_wp2_with (at_builtin; refine wpList_appE rfl _ _ _ rfl elI rfl (g + 1 + 1 + 1 + 1) _ (ints L) rfl (HX5.out.al _) wr.heap.size 0 1 1 [(y : Int)] rfl HVN.out HLn3.out (by simp; omega) ?_; intro v5 w5 hg5 hgr5 hob5; have HI6 : Hid (Fb n w5 g (fun z => decide (z ∈ L ++ [y]))) := Fv.kept (Fv.after ((Below.refl _ _).alloc (Nat.le_refl _) _) HI5.out) (hgr5.block g (by simp; omega) (fun e => by have := HX5.out.block _ e.symm; omega)); have HA6 : Hid (As n g w5 A va) := (HA5.out.after ((Below.refl _ _).alloc (Nat.le_refl _) _)).kept (fun k hk => hgr5.block k (by have := (HKa.out k hk).1; simp; omega) (fun e => (HKa.out k hk).2 e.symm)); have HB6 : Hid (Below g w w5) := (HB5.out.alloc (by simp; omega) _).grown hgr5 (by simp; omega) (fun k hk => by have := HX5.out.block k hk; omega); have HAp6 : Hid (∀ k, v5.ownBlock = some k → va.ownBlock ≠ some k) := apart_step hob5 HAp5.out (fun k hk => by have := (HVa.out k hk).2; simp; omega); obtain ⟨a5, c5, rfl, -, -, -⟩ := hg5.shape; have HX6 : Hid (Ge elI w5 (g + 1 + 1 + 1 + 1) (.slice a5 (ints L ++ [(y : Int)]).length c5) (ints (L ++ [y]))) := (by rw [ints_snoc]; exact hg5); clear hg5 hgr5 hob5 HI5 HA5 HX5 HAp5 HB5 HVN HLn3)
                have hask := ask_any n hn g A va y hyn w5 HA6.out HW.out.ndA HW.out.ltA
                go_wp2_with fail
                refine hask.mono ?_
                rintro e w7 ⟨⟨u7, rfl⟩, B, vb, hB, hA7, hk7, hb7, ho7⟩
                have e9 : (ints L ++ [(y : Int)]).length = (ints L).length + 1 := by simp
                rw [e9] at HX6 HAp6
                have hgl := HI6.out.lt
                have HI7 : Hid (Fb n w7 g (fun z => decide (z ∈ L ++ [y]))) := Fv.kept HI6.out (hk7 g hgl (by omega) (by omega) (fun e => by have := (HVa.out g e).1; omega))
                have HX7 : Hid (Ge elI w7 (g + 1 + 1 + 1 + 1) (.slice a5 ((ints L).length + 1) c5) (ints (L ++ [y]))) := HX6.out.kept (fun q hq => hk7 q (HX6.out.lt q hq) (by have := HX6.out.block q hq; omega) (by have := HX6.out.block q hq; omega) (HAp6.out q hq))
                have HAp7 : Hid (∀ q, (Value.slice a5 ((ints L).length + 1) c5).ownBlock = some q → vb.ownBlock ≠ some q) := fun q hq e => by
                  rcases ho7 with h9 | h9
                  · exact HAp6.out q hq (by rw [← h9]; exact e)
                  · have h8 := h9 q e
                    have h7 := HX6.out.lt q hq
                    omega
                have HB7 : Hid (Below g w w7) := HB6.out.trans (hb7.mono (by omega))
                have HW7 : Hid (Nw N n fr B (L ++ [y]) k (j + 1)) := HW.out.put HN.out HXg.out HYg.out HYn.out hB
                have hkA := (List.getElem?_eq_some_iff.1 HXg.out).1
                have HFA7 : Hid (∀ x ∈ fr, x ∈ B) := fun z hz => by
                  rcases hB with ⟨-, rfl⟩ | ⟨-, rfl⟩
                  · exact HFA.out z hz
                  · exact List.mem_append_left _ (HFA.out z hz)
                have HXg7 : Hid (B[k]? = some x) := by
                  rcases hB with ⟨-, rfl⟩ | ⟨-, rfl⟩
                  · exact HXg.out
                  · show _ = _
                    rw [List.getElem?_append_left hkA]; exact HXg.out
                have HA7 : Hid (As n g w7 B vb) := hA7
                clear hask hB hA7 hk7 hb7 ho7 HI6 HX6 HAp6 HB6 HA6 e9 hgl HW HXg HFA HVa HKa HYn
                go_wp2_with fail
                go_roundw
                case rel =>
                  have e8 : (ints L).length + 1 = (L ++ [y]).length := by rw [List.length_append, ints_length]; rfl
                  exact ⟨j + 1, B, L ++ [y], vb, rfl, ⟨a5, c5, by rw [e8]⟩, by omega, HXg7.out, HW7.out, HFA7.out, HA7.out, HI7.out, HX7.out, HAp7.out, HB7.out⟩
                case measure => simp [intOf]; omega
            · obtain rfl : j = (N x).length := by omega
              have HP2 : Hid (Nw N n fr A L (k + 1) 0) := Nw.row HXg.out HW.out
              have hkA := (List.getElem?_eq_some_iff.1 HXg.out).1
              have hAn2 : A.length ≤ n := few_nat HW.out.ndA HW.out.ltA
              clear hjg hj HW
              go_wp2_with fail
              go_roundw
              case rel => exact ⟨k + 1, A, L, va, rfl, ⟨_, _, rfl⟩, hkA, HP2.out, HFA.out, HA.out, HI.out, HX.out, HAp.out, HB.out⟩
              case measure => simp [intOf]; omega
        · obtain rfl : k = A.length := by omega
          have HE : Hid (∀ y, y ∈ L ↔ Nd (Rn N) fr y) := HW.out.end HFA.out
          have HNdL : Hid (L.Nodup ∧ ∀ x ∈ L, x < n) := ⟨HW.out.ndL, HW.out.ltL⟩
          have hLn : L.length ≤ n := few_nat HNdL.out.1 HNdL.out.2
          clear hge hk HW HFA HA HI HAp
          obtain ⟨a', c', e', -, -, hsh⟩ := HX.out.shape
          rw [ints_length] at e'
          cases e'
          rcases hsh with ⟨rfl, h0, rfl⟩ | ⟨g5, rfl⟩
          · obtain rfl : L = [] := by
              cases L with
              | nil => rfl
              | cons x l => cases h0
            have C1 := Try.slices_Sort_int_none none 0 wr
            go_wp2_with fail
            refine C1.mono ?_
            rintro e w2 ⟨rfl, rfl⟩
            go_wp2_with fail
            go_ret
            exact ⟨[], ⟨none, 0, rfl, Li.nil _ _, fun p hp => by cases hp⟩, List.Pairwise.nil, HE.out, by rw [HG.out]; exact HB.out⟩
          · have HS := sort_intI (by have h9 := HX.out; rw [← ints_length L] at h9; exact h9) (by rw [ints_length]; omega)
            rw [ints_length] at HS
            have hgB : g ≤ g5 := by have := HX.out.block g5 rfl; omega
            go_wp2_with fail
            refine HS.mono ?_
            rintro e w2 ⟨⟨rfl, s, hp, hs, hL⟩, hgr⟩
            obtain ⟨l, rfl, hpl, hpw⟩ := sorted_nat hp hs HNdL.out.1
            have HP : Hid (l.Perm L ∧ l.Pairwise (· < ·)) := ⟨hpl, hpw⟩
            have HLi : Hid (Li w2 (some ⟨g5, 0, none⟩) L.length (ints l)) := hL
            have HGr : Hid (wr.grownBy w2 (some g5)) := hgr
            have HB2 : Hid (Below g w w2) := HB.out.trans ((Below.refl _ _).grown hgr (by have := HX.out.lt g5 rfl; omega) (fun b hb => by cases hb; exact hgB))
            clear hp hs hL hgr hpl hpw HS HX HB
            go_wp2_with fail
            go_ret
            have hll : l.length = L.length := HP.out.1.length_eq
            exact ⟨l, ⟨some ⟨g5, 0, none⟩, cL, by rw [hll]; rfl, by rw [hll]; exact HLi.out, fun p hp => by cases hp; rw [HG.out]; exact hgB⟩, HP.out.2, fun y => (HP.out.1.mem_iff).trans (HE.out y), by rw [HG.out]; exact HB2.out⟩
end Go.Proofs.Ytonhooaboieapaa
