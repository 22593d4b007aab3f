/-
  The document's Needs.
-/
import Derived.Test.YtonhooaboieapaaNdA
import Derived.Test.YtonhooaboieapaaRrS
import Derived.Test.YtonhooaboieapaaRcA
namespace Go.Proofs.Ytonhooaboieapaa
open Go.RowKit Go.Shelf
set_option linter.unusedVariables false
set_option linter.unusedSimpArgs false

set_option maxHeartbeats 4000000 in
theorem rneeds_bad (n : Int) (a : Option Addr) (len cap : Nat) (xs : List Pr) (v : Value) (w : World) (h : La w a len xs) (hc : ckE n xs ≠ 0) :
    Calls Try.prog 9 #[.int .i64 n, .slice a len cap, v] w fun e w' => e = .returned (.tuple #[.slice none 0 0, .int .i64 (ckE n xs)]) ∧ Below w.heap.size w w' := by
  have hC := rcheck_any n a len cap xs w h
  clear h
  generalize ckE n xs = k at *
  have hk : (k != 0) = true := by simp; exact hc
  go_enter Try.func9, Try.ntmps9
  go_wp2_with (go_at_call 26; refine hC.mono ?_; rintro e w1 ⟨rfl, hw1⟩; rw [hw1]; clear hw1 w1 hC)
  go_ret2
  exact ⟨rfl, Below.refl _ _⟩
set_option maxRecDepth 20000 in
set_option maxHeartbeats 16000000 in
theorem rneeds_ok (n : Nat) (a : Option Addr) (len cap : Nat) (xs : List Pr) (af : Option Addr) (lf cf : Nat) (fr : List Int) (w : World) (h : La w a len xs) (hF : Li w af lf fr) (hl8 : lf ≤ 17592186043904) (hnf : af = none → cf = 0) (hc : ckE n xs = 0) :
    Calls Try.prog 9 #[.int .i64 (n : Int), .slice a len cap, .slice af lf cf] w fun e w' => ∃ (a' : Option Addr) (l' c' : Nat) (k : Int), e = .returned (.tuple #[.slice a' l' c', .int .i64 k]) ∧ NeR w' n xs fr a' l' c' k ∧ Below w.heap.size w w' ∧ Nwb w.heap.size a' := by
  have hC := rcheck_any n a len cap xs w h
  rw [hc] at hC
  obtain ⟨h0, h1, h2, h3⟩ := ckE_ok hc
  have HL : Hid (La w a len xs) := h
  have HF : Hid (Li w af lf fr) := hF
  have hlen := h.1
  have HFl : Hid (fr.length = lf) := hF.1
  have HOk : Hid (ckE n xs = 0 ∧ xs.all (okA n) = true) := ⟨hc, h3⟩
  have HNf : Hid (af = none → cf = 0) := hnf
  have hn : n ≤ 4096 := by omega
  have hl6 : len ≤ 65536 := by omega
  have HLen : Hid (xs.length = len) := hlen
  have HB1 : Hid (Below w.heap.size w w) := Below.refl _ _
  clear h hc h3 h2 hlen h0 h1 hF hnf
  go_enter Try.func9, Try.ntmps9
  go_wp2_with (go_at_call 26; refine hC.mono ?_; rintro e w1 ⟨rfl, hw1⟩; rw [hw1]; clear hw1 w1 hC)
  go_loopw [9] (fun j wr => ∃ k : Nat, j = .int .i64 k ∧ k ≤ lf ∧ Hid ((fr.take k).all (ndB n) = true) ∧ Hid (Below w.heap.size w wr)) (fun j _ => (lf - (intOf j).toNat : Nat))
  case atStart => exact ⟨0, rfl, Nat.zero_le _, rfl, HB1.out⟩
  case round =>
    clear HB1
    obtain ⟨k, rfl, hk, HA, HB⟩ := hrel
    rcases Nat.lt_or_ge k lf with hlt | hge
    · have hki : (k : Int) < lf := by omega
      obtain ⟨b, off, rfl, c0⟩ := (HF.out.after HB.out).at hlt
      have HT : Hid (fr.take (k + 1) = fr.take k ++ [fr.getD k (-1)]) := take_snoc _ (by rw [HFl.out]; exact hlt)
      have HM : Hid (fr.getD k (-1) ∈ fr) := by
        show _ ∈ fr
        rw [List.getD_eq_getElem?_getD, List.getElem?_eq_getElem (by rw [HFl.out]; exact hlt)]; exact List.getElem_mem _
      generalize fr.getD k (-1) = x at *
      have HN : Hid (∀ W, Calls Try.prog 27 #[.int .i64 (n : Int), .int .i64 x] W fun e w' => e = .returned (.bool (ndB n x)) ∧ w' = W) := fun W => rnode_any n x W
      by_cases e1 : ndB n x = true
      · go_wp2_with (go_at_call 27; refine (HN.out _).mono ?_; rintro e w3 ⟨rfl, hw3⟩; rw [hw3]; clear hw3 w3)
        go_roundw
        case rel => exact ⟨k + 1, rfl, by omega, by
          show (fr.take (k + 1)).all _ = true
          rw [HT.out, List.all_append, HA.out, List.all_cons, List.all_nil]; simp [e1], HB.out⟩
        case measure => simp [intOf]; omega
      · have e1' : ndB n x = false := by simpa using e1
        clear e1
        go_wp2_with (go_at_call 27; refine (HN.out _).mono ?_; rintro e w3 ⟨rfl, hw3⟩; rw [hw3]; clear hw3 w3)
        go_ret2
        refine ⟨_, _, _, _, rfl, .arg HOk.out.1 ?_, HB.out, fun p hp => by cases hp⟩
        rw [← Bool.not_eq_true]
        intro hall
        have := List.all_eq_true.1 hall _ HM.out
        rw [e1'] at this; cases this
    · obtain rfl : k = lf := by omega
      have HAl : Hid (fr.all (ndB n) = true) := by
        have := HA.out
        rwa [List.take_of_length_le (by rw [HFl.out]; exact Nat.le_refl _)] at this
      have hmb := fun W => make_bool n (by omega) W
      clear hge hk HA
      obtain ⟨F, hF⟩ : ∃ F, fr.map Int.toNat = F := ⟨_, rfl⟩
      have HFr : Hid (fr = ints F ∧ fr.map Int.toNat = F ∧ ∀ x ∈ F, x < n) := by
        rw [← hF]
        exact ⟨(nodes_nat HAl.out).1, rfl, fun x hx => by have := (nodes_nat HAl.out).2 x hx; omega⟩
      clear hF
      go_wp2_with (first
        | (go_at_call 28; refine (rneeded_any n hn a len cap xs wr (HL.out.after HB.out) hl6 HOk.out.2).mono ?_; rintro e w2 ⟨f, rfl, hD⟩; have HD : Hid (Dg n wr w2 f (nlf xs)) := hD; clear hD; have HB2 : Hid (Below w.heap.size w w2) := HB.out.trans (HD.out.below.mono HB.out.size))
        | (at_builtin; refine wpList_appI0 rfl _ _ _ rfl rfl (w2.heap.size + 1 + 1) (w2.heap.size + 1 + 1) af _ cf fr rfl (by have h9 := Va.new ((w2.alloc (Obj.cells (Array.replicate n (Value.bool false)) 4)).alloc (Obj.cells (Array.replicate n (Value.bool false)) 4)) 3 #[]; rwa [World.size_alloc, World.size_alloc] at h9) (Nat.le_refl _) rfl (HF.out.after (((HB2.out.alloc HB2.out.size _).alloc (by have := HB2.out.size; simp; omega) _).alloc (by have := HB2.out.size; simp; omega) _)) HNf.out hl8 (by simp) ?_; intro v5 w5 hg5 hgr5; have HG5 : Hid (Ge elI w5 (w2.heap.size + 1 + 1) v5 fr) := hg5; have HGr5 : Hid ((((w2.alloc (Obj.cells (Array.replicate n (Value.bool false)) 4)).alloc (Obj.cells (Array.replicate n (Value.bool false)) 4)).alloc (Obj.cells #[] 3)).grownBy w5 (some (w2.heap.size + 1 + 1))) := hgr5; clear hg5 hgr5))
      obtain ⟨g, hg⟩ : ∃ g, w2.heap.size = g := ⟨_, rfl⟩
      rw [hg] at HG5 HGr5 ⊢
      have HG0 : Hid (w2.heap.size = g) := hg
      have v1 : Va (w2.alloc (Obj.cells (Array.replicate n (Value.bool false)) 4)) g 4 (Array.replicate n (Value.bool false)) := by rw [← hg]; exact Va.new _ _ _
      have v2 : Va ((w2.alloc (Obj.cells (Array.replicate n (Value.bool false)) 4)).alloc (Obj.cells (Array.replicate n (Value.bool false)) 4)) (g + 1) 4 (Array.replicate n (Value.bool false)) := by have h9 := Va.new (w2.alloc (Obj.cells (Array.replicate n (Value.bool false)) 4)) 4 (Array.replicate n (Value.bool false)); rwa [World.size_alloc, hg] at h9
      have AL : ∀ (W : World) o, Below W.heap.size W (W.alloc o) := fun W o => (Below.refl _ _).alloc (Nat.le_refl _) _
      have HM0 : Hid (Fb n w5 g (fun _ => false)) := Fv.kept (Fv.after (AL _ (Obj.cells #[] 3)) (Fv.after (AL _ _) (Fb.falses v1))) (HGr5.out.block g (by first | (simp; done) | (simp; omega)) (fun e => by cases e <;> omega))
      have HA0 : Hid (Fb n w5 (g + 1) (fun _ => false)) := Fv.kept (Fv.after (AL _ (Obj.cells #[] 3)) (Fb.falses v2)) (HGr5.out.block (g + 1) (by first | (simp; done) | (simp; omega)) (fun e => by cases e <;> omega))
      have HB5 : Hid (Below w2.heap.size w2 w5) := ((step (step (AL w2 (Obj.cells (Array.replicate n (Value.bool false)) 4)) (AL _ (Obj.cells (Array.replicate n (Value.bool false)) 4))) (AL _ (Obj.cells #[] 3))) : Below w2.heap.size w2 _).grown HGr5.out (by first | (simp; done) | (simp; omega)) (fun b hb => by cases hb; omega)
      have HR5 : Hid (Rw n w2 wr.heap.size (nlf xs)) := HD.out.rows
      have HRl : Hid (wr.heap.size < g) := by have h9 := HD.out.size; show _ < g; omega
      have HNn : Hid (∀ x y, y ∈ nlf xs x → x < n ∧ y < n) := nlf_ok HOk.out.2
      have HNl : Hid (∀ x, (nlf xs x).length ≤ 65536) := fun x => Nat.le_trans (nlf_len xs x) (by have := HLen.out; omega)
      have HT5 : Hid (∃ av cv, v5 = .slice av F.length cv) := by
        obtain ⟨av, cv, e, -, -, -⟩ := HG5.out.shape
        exact ⟨av, cv, by rw [e, HFr.out.1, ints_length]⟩
      have HG6 : Hid (Ge elI w5 (g + 1 + 1) v5 (ints F)) := by show Ge _ _ _ _ _; rw [← HFr.out.1]; exact HG5.out
      have HNe : Hid (Ne (nlf xs) n F F 0 (fun _ => false) (fun _ => false)) := Ne.start _ _ _ HFr.out.2.2
      have HMx : Hid (F.length + owed (nlf xs) (fun _ => false) n ≤ 19000000000000) := by
        have h1 := owed_few (N := nlf xs) (asked := fun _ => false) HNl.out n
        have h2 : n * 65536 ≤ 4096 * 65536 := Nat.mul_le_mul_right _ hn
        have h3 : F.length = fr.length := by rw [← HFr.out.2.1, List.length_map]
        have h4 := HFl.out
        show _ ≤ _
        omega
      have HAl9 : Hid (fr.all (ndB n) = true) := HAl.out
      obtain ⟨w0, rfl⟩ : ∃ W, W = wr := ⟨_, rfl⟩
      have HBw : Hid (Below w.heap.size w w2) := HB2.out
      clear hg v1 v2 AL HG5 HGr5 HD HAl HB HB2 hmb
      go_loopg [13, 14] (F.length + owed (nlf xs) (fun _ => false) n) (fun gh v u wz => ∃ (i : Nat) (todo : List Nat) (met asked : Nat → Bool), u = .int .i64 i ∧ i ≤ todo.length ∧ Hid (∃ av cv, v = .slice av todo.length cv) ∧ Hid (Ne (nlf xs) n F todo i met asked) ∧ Hid (todo.length + owed (nlf xs) asked n ≤ 19000000000000) ∧ Hid (Ge elI wz (g + 1 + 1) v (ints todo)) ∧ Hid (Fb n wz g met) ∧ Hid (Fb n wz (g + 1) asked) ∧ Hid (Below w2.heap.size w2 wz) ∧ Hid (gh = todo.length + owed (nlf xs) asked n - i))
      case atStart => exact ⟨0, F, _, _, rfl, Nat.zero_le _, HT5.out, HNe.out, HMx.out, HG6.out, HM0.out, HA0.out, HB5.out, rfl⟩
      case round =>
        clear HT5 HNe HMx HG6 HM0 HA0 HB5
        obtain ⟨i, todo, met, asked, rfl, hi, HV, HE, HX, HG, HM, HA, HB, HGh⟩ := hrel
        obtain ⟨av, cv, rfl⟩ := HV.out
        clear HV
        have hbd : todo.length ≤ 19000000000000 := by have := HX.out; omega
        rcases Nat.lt_or_ge i todo.length with hlt | hge
        · have hii : (i : Int) < todo.length := by omega
          obtain ⟨b1, o1, rfl, c1⟩ := Li.node HG.out.lisA hlt
          have HXg : Hid (todo[i]? = some (todo.getD i 0)) := by show _ = _; rw [List.getD_eq_getElem?_getD, List.getElem?_eq_getElem hlt]; rfl
          generalize todo.getD i 0 = x at *
          have hxn := HE.out.tl _ (List.mem_of_getElem? HXg.out)
          have hxi : (x : Int) < n := by omega
          have ca := HA.out.cell hxn
          by_cases hax : asked x = true
          · rw [hax] at ca
            have HE2 : Hid (Ne (nlf xs) n F todo (i + 1) met asked) := HE.out.skip HXg.out hax
            clear hax
            go_wp2_with fail
            go_roundg (todo.length + owed (nlf xs) asked n - (i + 1))
            case measure => have h1 := HGh.out; omega
            case rel => exact ⟨i + 1, todo, met, asked, by go_num, by omega, ⟨_, _, rfl⟩, HE2.out, HX.out, HG.out, HM.out, HA.out, HB.out, rfl⟩
          · have hax2 : asked x = false := by simpa using hax
            rw [hax2] at ca
            have fa := Fv.frozen HA.out x
            have HE2 : Hid (Np (nlf xs) n F todo i met (upf asked x true) x 0) := HE.out.ask HXg.out hax2
            have HO : Hid (owed (nlf xs) (upf asked x true) n + (nlf xs x).length = owed (nlf xs) asked n) := owed_ask hax2 hxn
            have HA2 : Hid (Fb n (wr.setCell ⟨g + 1, x, none⟩ (.bool true)) (g + 1) (upf asked x true)) := Fb.set HA.out x true
            have HM2 : Hid (Fb n (wr.setCell ⟨g + 1, x, none⟩ (.bool true)) g met) := Fv.kept HM.out (heap_setCell_other _ _ _ _ (by show g ≠ g + 1; omega))
            have HG2 : Hid (Ge elI (wr.setCell ⟨g + 1, x, none⟩ (.bool true)) (g + 1 + 1) (.slice (some ⟨b1, o1, none⟩) todo.length cv) (ints todo)) := HG.out.far (p := ⟨g + 1, x, none⟩) (fun e => by have h9 : g + 1 + 1 ≤ g + 1 := HG.out.block _ e; omega) _
            have HB2 : Hid (Below w2.heap.size w2 (wr.setCell ⟨g + 1, x, none⟩ (.bool true))) := HB.out.setCell (p := ⟨g + 1, x, none⟩) (by rw [HG0.out]; exact Nat.le_succ _) _
            have HT0 : Hid (todo.length + 0 = todo.length) := rfl
            obtain ⟨T0, hT0⟩ : ∃ T0, todo.length = T0 := ⟨_, rfl⟩
            have HTT : Hid (todo.length = T0 + 0) := hT0
            have HX2 : Hid (T0 + owed (nlf xs) asked n ≤ 19000000000000 ∧ i < T0 ∧ todo.length = T0) := ⟨by rw [← hT0]; exact HX.out, by omega, hT0⟩
            clear hax hax2 HE HA HM HB HX hT0
            obtain ⟨ar, cr, crow0, hLr⟩ := HR5.out.cell hxn
            have HRw : Hid (∀ W, Below w2.heap.size w2 W → W.cell? ⟨w0.heap.size, x, none⟩ = some (.slice ar (nlf xs x).length cr) ∧ Li W ar (nlf xs x).length (ints (nlf xs x))) := fun W hW => ⟨(hW.cell (p := ⟨w0.heap.size, x, none⟩) (by rw [HG0.out]; exact HRl.out)).trans crow0, hLr.after hW⟩
            clear crow0 hLr
            go_wp2_with fail
            go_loopw [13, 15] (fun v u wz => ∃ (k : Nat) (td : List Nat) (mt : Nat → Bool), u = .int .i64 k ∧ k ≤ (nlf xs x).length ∧ Hid (∃ av cv, v = .slice av td.length cv) ∧ Hid (Np (nlf xs) n F td i mt (upf asked x true) x k) ∧ Hid (td.length = T0 + k) ∧ Hid (Ge elI wz (g + 1 + 1) v (ints td)) ∧ Hid (Fb n wz g mt) ∧ Hid (Fb n wz (g + 1) (upf asked x true)) ∧ Hid (Below w2.heap.size w2 wz)) (fun _ u _ => ((nlf xs x).length - (intOf u).toNat : Nat))
            case atStart => exact ⟨0, todo, met, rfl, Nat.zero_le _, ⟨_, _, rfl⟩, HE2.out, HTT.out, HG2.out, HM2.out, HA2.out, HB2.out⟩
            case round =>
              clear HE2 HTT HG2 HM2 HA2 HB2 c1
              obtain ⟨k, td, mt, rfl, hk, HV, HE, HTT, HG, HM, HA, HB⟩ := hrel
              obtain ⟨av, cv, rfl⟩ := HV.out
              clear HV
              have hit : i < td.length := (List.getElem?_eq_some_iff.1 HE.out.cur).1
              have hii2 : (i : Int) < td.length := by omega
              have ex : td.getD i 0 = x := by rw [List.getD_eq_getElem?_getD, HE.out.cur]; rfl
              obtain ⟨b2, o2, e2, ct⟩ := Li.node HG.out.lisA hit
              subst e2
              rw [ex] at ct
              obtain ⟨crow, hLw⟩ := HRw.out wr HB.out
              have hkb := HNl.out x
              rcases Nat.lt_or_ge k (nlf xs x).length with hkl | hkg
              · have hki : (k : Int) < (nlf xs x).length := by omega
                obtain ⟨b3, o3, e3, cy⟩ := Li.node hLw hkl
                subst e3
                have hyg : (nlf xs x)[k]? = some ((nlf xs x).getD k 0) := by rw [List.getD_eq_getElem?_getD, List.getElem?_eq_getElem hkl]; rfl
                have hyn := (HNn.out x _ (List.mem_of_getElem? hyg)).2
                have HE9 : Hid (Np (nlf xs) n F (td ++ [(nlf xs x).getD k 0]) i (upf mt ((nlf xs x).getD k 0) true) (upf asked x true) x (k + 1)) := HE.out.step HNn.out hyg
                clear hyg
                have hLi2 := HRw.out (wr.setCell ⟨g, (nlf xs x).getD k 0, none⟩ (.bool true)) (HB.out.setCell (p := ⟨g, _, none⟩) (by rw [HG0.out]; exact Nat.le_refl _) _)
                obtain ⟨crow2, hLw2⟩ := hLi2
                obtain ⟨b4, o4, e4, cy2⟩ := Li.node hLw2 hkl
                simp only [Option.some.injEq, Addr.mk.injEq, and_true] at e4
                obtain ⟨rfl, rfl⟩ := e4
                have HG7 : Hid (Ge elI (wr.setCell ⟨g, (nlf xs x).getD k 0, none⟩ (.bool true)) (g + 1 + 1) (.slice (some ⟨b2, o2, none⟩) td.length cv) (ints td)) := HG.out.far (p := ⟨g, (nlf xs x).getD k 0, none⟩) (fun e => by have h9 : g + 1 + 1 ≤ g := HG.out.block _ e; omega) _
                obtain ⟨b5, o5, e5, ct2⟩ := Li.node HG7.out.lisA hit
                simp only [Option.some.injEq, Addr.mk.injEq, and_true] at e5
                obtain ⟨rfl, rfl⟩ := e5
                rw [ex] at ct2
                have HM7 : Hid (Fb n (wr.setCell ⟨g, (nlf xs x).getD k 0, none⟩ (.bool true)) g (upf mt ((nlf xs x).getD k 0) true)) := Fb.set HM.out _ true
                have HA7 : Hid (Fb n (wr.setCell ⟨g, (nlf xs x).getD k 0, none⟩ (.bool true)) (g + 1) (upf asked x true)) := Fv.kept HA.out (heap_setCell_other _ _ _ _ (by show g + 1 ≠ g; omega))
                have HB7 : Hid (Below w2.heap.size w2 (wr.setCell ⟨g, (nlf xs x).getD k 0, none⟩ (.bool true))) := HB.out.setCell (p := ⟨g, _, none⟩) (by rw [HG0.out]; exact Nat.le_refl _) _
                have cm := HM.out.cell hyn
                have fm := Fv.frozen HM.out ((nlf xs x).getD k 0)
                generalize (nlf xs x).getD k 0 = y at *
                have hyi : (y : Int) < n := by omega
                have HVN : Hid (Le elI ((wr.setCell ⟨g, y, none⟩ (.bool true)).alloc (.cells #[.int .i64 (y : Int)] 3)) (some ⟨wr.heap.size, 0, none⟩) 1 [(y : Int)]) := Le.one (by have := Va.new (wr.setCell ⟨g, y, none⟩ (.bool true)) 3 #[.int .i64 (y : Int)]; rwa [World.size_setCell] at this) rfl
                have HLn3 : Hid ((ints td).length + 1 ≤ 20000000000000) := by
                  have h1 := HTT.out
                  have h2 := HX2.out.1
                  have h3 := HO.out
                  show _ ≤ _
                  rw [ints_length]
                  omega
                have hgw : g + 1 + 1 ≤ wr.heap.size := by have := HA.out.lt; omega
                clear HE HG HM HA HB hLw hLw2 ex
                go_wp2_with (at_builtin; refine wpList_appI1 rfl _ _ _ rfl rfl (g + 1 + 1) _ (ints td) rfl (HG7.out.al _) wr.heap.size 0 1 (y : Int) rfl HVN.out HLn3.out (by simp; omega) ?_; intro v8 w8 hg8 hgr8; have HM8 : Hid (Fb n w8 g (upf mt y true)) := Fv.kept (Fv.after ((Below.refl _ _).alloc (Nat.le_refl _) _) HM7.out) (hgr8.block g (by simp; omega) (fun e => by have := HG7.out.block _ e.symm; omega)); have HA8 : Hid (Fb n w8 (g + 1) (upf asked x true)) := Fv.kept (Fv.after ((Below.refl _ _).alloc (Nat.le_refl _) _) HA7.out) (hgr8.block (g + 1) (by simp; omega) (fun e => by have := HG7.out.block _ e.symm; omega)); have HB8 : Hid (Below w2.heap.size w2 w8) := (HB7.out.alloc (by rw [HG0.out]; simp; omega) _).grown hgr8 (by rw [HG0.out]; simp; omega) (fun q hq => by have := HG7.out.block q hq; have := HG0.out; omega); have HG8 : Hid (Ge elI w8 (g + 1 + 1) v8 (ints (td ++ [y]))) := (by rw [ints_snoc]; exact hg8); clear hg8 hgr8)
                go_roundw
                case rel =>
                  obtain ⟨a8, c8, e8, -, -, -⟩ := HG8.out.shape
                  rw [ints_length] at e8
                  exact ⟨k + 1, td ++ [y], upf mt y true, by go_num, by omega, ⟨a8, c8, e8⟩, HE9.out, by show _ = _; rw [List.length_append, HTT.out]; rfl, HG8.out, HM8.out, HA8.out, HB8.out⟩
                case measure => simp [intOf]; omega
              · obtain rfl : k = (nlf xs x).length := by omega
                have HE9 : Hid (Ne (nlf xs) n F td (i + 1) mt (upf asked x true)) := HE.out.end
                have htl : td.length = T0 + (nlf xs x).length := HTT.out
                clear HE hkg hk
                go_wp2_with fail
                go_roundg (td.length + owed (nlf xs) (upf asked x true) n - (i + 1))
                case measure =>
                  have h1 := HGh.out
                  have h2 := HX2.out
                  have h3 := HO.out
                  omega
                case rel => exact ⟨i + 1, td, mt, upf asked x true, by go_num, by omega, ⟨_, _, rfl⟩, HE9.out, by have h2 := HX2.out; have h3 := HO.out; show _ ≤ _; omega, HG.out, HM.out, HA.out, HB.out, rfl⟩
        · obtain rfl : i = todo.length := by omega
          have HAll : Hid (∀ y, met y = true ↔ Nd (Rn (nlf xs)) F y) := HE.out.all
          obtain ⟨W6, rfl⟩ : ∃ W, W = wr := ⟨_, rfl⟩
          have HM6 : Hid (Fb n W6 g met) := HM.out
          have HB6 : Hid (Below w.heap.size w W6) := step HBw.out HB.out
          have HGn : Hid (Ge elI W6 W6.heap.size (.slice none 0 0) (ints ((List.range 0).filter met))) := Ge.nil _ _
          have HBr : Hid (Below W6.heap.size W6 W6) := Below.refl _ _
          clear hge hi HE HX HG HM HA HB HGh
          go_wp2_with fail
          go_loopw [16, 17] (fun v u wz => ∃ i : Nat, u = .int .i64 i ∧ i ≤ n ∧ Hid (∃ av cv, v = .slice av ((List.range i).filter met).length cv) ∧ Hid (Ge elI wz W6.heap.size v (ints ((List.range i).filter met))) ∧ Hid (Below W6.heap.size W6 wz)) (fun _ u _ => (n - (intOf u).toNat : Nat))
          case atStart => exact ⟨0, rfl, Nat.zero_le _, ⟨_, _, rfl⟩, HGn.out, HBr.out⟩
          case round =>
            clear HGn HBr
            obtain ⟨i, rfl, hi, HV, HG, HB⟩ := hrel
            obtain ⟨av, cv, rfl⟩ := HV.out
            clear HV
            rcases Nat.lt_or_ge i n with hlt | hge
            · have hii : (i : Int) < n := by omega
              have cm := (show Fb n wr g met from Fv.after HB.out HM6.out).cell hlt
              have HSn : Hid ((List.range (i + 1)).filter met = (List.range i).filter met ++ (if met i = true then [i] else [])) := by
                show _ = _
                rw [List.range_succ, List.filter_append]
                by_cases e : met i = true
                · rw [if_pos e]; simp [e]
                · rw [if_neg e]; simp [e]
              have hfl : ((List.range i).filter met).length ≤ i := by have := List.length_filter_le met (List.range i); rwa [List.length_range] at this
              generalize (List.range i).filter met = L at *
              by_cases e : met i = true
              · rw [if_pos e] at HSn
                rw [e] at cm
                have HVN : Hid (Le elI (wr.alloc (.cells #[.int .i64 (i : Int)] 3)) (some ⟨wr.heap.size, 0, none⟩) 1 [(i : Int)]) := Le.one (Va.new wr _ _) rfl
                have HLn3 : Hid ((ints L).length + 1 ≤ 20000000000000) := by show _ ≤ _; rw [ints_length]; omega
                have hsz := HB.out.size
                clear e
                go_wp2_with (at_builtin; refine wpList_appI1 rfl _ _ _ rfl rfl W6.heap.size _ (ints L) rfl (HG.out.al _) wr.heap.size 0 1 (i : Int) rfl HVN.out HLn3.out (by simp; omega) ?_; intro v8 w8 hg8 hgr8; have HB8 : Hid (Below W6.heap.size W6 w8) := (HB.out.alloc hsz _).grown hgr8 (by simp; omega) (fun q hq => HG.out.block q hq); have HG8 : Hid (Ge elI w8 W6.heap.size v8 (ints (L ++ [i]))) := (by rw [ints_snoc]; exact hg8); clear hg8 hgr8)
                go_roundw
                case rel =>
                  obtain ⟨a8, c8, e8, -, -, -⟩ := HG8.out.shape
                  rw [ints_length] at e8
                  refine ⟨i + 1, by go_num, by omega, ?_, ?_, HB8.out⟩
                  · rw [HSn.out]; exact ⟨a8, c8, e8⟩
                  · rw [HSn.out]; exact HG8.out
                case measure => simp [intOf]; omega
              · rw [if_neg e, List.append_nil] at HSn
                have e' : met i = false := by simpa using e
                rw [e'] at cm
                clear e e'
                go_wp2_with fail
                go_roundw
                case rel =>
                  refine ⟨i + 1, by go_num, by omega, ?_, ?_, HB.out⟩
                  · rw [HSn.out]; exact ⟨_, _, rfl⟩
                  · rw [HSn.out]; exact HG.out
                case measure => simp [intOf]; omega
            · obtain rfl : i = n := by omega
              have HLi : Hid (Li wr av ((List.range i).filter met).length (ints ((List.range i).filter met))) := HG.out.lisA
              have HFin : Hid (((List.range i).filter met).Pairwise (· < ·) ∧ ∀ y, y ∈ (List.range i).filter met ↔ Nd (Rn (nlf xs)) (fr.map Int.toNat) y) := by
                refine ⟨List.Pairwise.filter _ List.pairwise_lt_range, fun y => ?_⟩
                rw [List.mem_filter, List.mem_range, HAll.out y, HFr.out.2.1]
                exact ⟨fun h => h.2, fun h => ⟨by obtain ⟨z, -, h9⟩ := h.called; exact (HNn.out z y h9).2, h⟩⟩
              have HBf : Hid (Below w.heap.size w wr) := step HB6.out HB.out
              have HNW : Hid (Nwb w.heap.size av) := fun p hp => by have h9 := HG.out.block p.block (by rw [hp]; rfl); have h8 := HB6.out.size; omega
              have HOk2 : Hid (ckE i xs = 0 ∧ fr.all (ndB i) = true) := ⟨HOk.out.1, HAl9.out⟩
              generalize (List.range i).filter met = L at *
              clear HG HB hge hi
              go_wp2_with fail
              go_ret2
              exact ⟨_, _, _, _, rfl, .ok HOk2.out.1 HOk2.out.2 L HFin.out.1 HFin.out.2 _ _ HLi.out, HBf.out, HNW.out⟩
theorem rneeds_any (n : Int) (a : Option Addr) (len cap : Nat) (xs : List Pr) (af : Option Addr) (lf cf : Nat) (fr : List Int) (w : World) (h : La w a len xs) (hF : Li w af lf fr) (hl8 : lf ≤ 17592186043904) (hnf : af = none → cf = 0) :
    Calls Try.prog 9 #[.int .i64 n, .slice a len cap, .slice af lf cf] w fun e w' => ∃ (a' : Option Addr) (l' c' : Nat) (k : Int), e = .returned (.tuple #[.slice a' l' c', .int .i64 k]) ∧ NeR w' n xs fr a' l' c' k ∧ Below w.heap.size w w' ∧ Nwb w.heap.size a' := by
  by_cases hc : ckE n xs = 0
  · obtain ⟨h0, -⟩ := ckE_ok hc
    obtain ⟨m, rfl⟩ : ∃ m : Nat, n = m := ⟨n.toNat, by omega⟩
    exact rneeds_ok m a len cap xs af lf cf fr w h hF hl8 hnf hc
  · refine (rneeds_bad n a len cap xs _ w h hc).mono ?_
    rintro e w' ⟨rfl, hb⟩
    exact ⟨_, _, _, _, rfl, .bad hc, hb, fun p hp => by cases hp⟩
end Go.Proofs.Ytonhooaboieapaa
