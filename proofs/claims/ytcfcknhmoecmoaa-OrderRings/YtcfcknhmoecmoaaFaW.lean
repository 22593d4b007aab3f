/-
  The document's Far.
-/
import Derived.Test.YtcfcknhmoecmoaaFaP
import Derived.Test.YtcfcknhmoecmoaaOdD
import Derived.Test.YtcfcknhmoecmoaaOd5
namespace Go.Proofs.Ytcfcknhmoecmoaa
open Go.RowKit Go.Shelf
set_option linter.unusedVariables false
set_option linter.unusedSimpArgs false

theorem Ge.lis {w : World} {B : Nat} {a : Option Addr} {c : Nat} {l : List Nat} (h : Ge elI w B (.slice a l.length c) (ints l)) : Li w a l.length (ints l) := by
  rw [← ints_length l] at h ⊢
  exact h.toLe.li
set_option maxRecDepth 20000 in
set_option maxHeartbeats 16000000 in
theorem far_any (n : Nat) (hn : n ≤ 4096) (b a : Nat) (N T : Nat → List Nat) (w : World) (hR : Rw n w b T) (ha : a < n) (hT : ∀ x p, p ∈ T x → p < n ∧ x ∈ N p) (hN : ∀ x y, y ∈ N x → x < n ∧ x ∈ T y) (hl : ∀ x, (T x).length ≤ 65536) :
    Calls Try.prog 36 #[.int .i64 (n : Int), .slice (some ⟨b, 0, none⟩) n n, .int .i64 (a : Int)] w fun e w' => ∃ fv, e = .returned (.slice (some ⟨w.heap.size, 0, none⟩) n n) ∧ Fn n w' w.heap.size fv ∧ Fr N n a fv ∧ Below w.heap.size w w' := by
  have HR : Hid (Rw n w b T) := hR
  have HT : Hid (∀ x p, p ∈ T x → p < n ∧ x ∈ N p) := hT
  have HN : Hid (∀ x y, y ∈ N x → x < n ∧ x ∈ T y) := hN
  have HTl : Hid (∀ x, (T x).length ≤ 65536) := hl
  have hmi := fun W => make_int n (by omega) W
  clear hR hT hN hl
  go_enter Try.func36, Try.ntmps36
  go_wp2_with fail
  obtain ⟨W0, hW0⟩ : ∃ W0, W0 = w.alloc (Obj.cells (Array.replicate n (Value.int .i64 0)) 3) := ⟨_, rfl⟩
  rw [← hW0]
  have HF0 : Hid (Fn n W0 w.heap.size (fun _ => 0)) := Fn.noughts (by rw [hW0]; exact Va.new _ _ _)
  have HB0 : Hid (Below w.heap.size w W0) := by rw [hW0]; exact (Below.refl _ _).alloc (Nat.le_refl _) _
  have HS0 : Hid (W0.heap.size = w.heap.size + 1) := by rw [hW0]; show _ = _; simp
  clear hW0 hmi
  refine ent1 W0 _ _ (Q := fun W => Code.wp _ _ _ _ W) ?_
  intro W1 hB1 hs1 V1
  have HF1 : Hid (Fn n W1 w.heap.size (fun _ => 0)) := Fv.after hB1 HF0.out
  have HB1 : Hid (Below w.heap.size w W1) := step HB0.out hB1
  have HG1 : Hid (Ge elI W1 (w.heap.size + 1) (.slice (some ⟨w.heap.size + 1, 0, none⟩) [a].length 1) (ints [a])) := by
    have V1' := V1
    rw [HS0.out] at V1'
    exact Ge.of (E := elI) V1' (Nat.le_refl _) rfl rfl (by show 1 ≤ _; unfold maxLen; omega)
  have HL1 : Hid (Lv N n a 1 [a] [] (fun _ => 0)) := Lv.start ha
  clear hB1 hs1 V1 HF0 HB0 HS0
  go_loopw [8, 9] (fun vn vd wz => ∃ (d : Nat) (now M : List Nat) (fv : Nat → Nat), Hid (∃ an cn, vn = .slice an now.length cn) ∧ vd = .int .i64 d ∧ Hid (Lv N n a d now M fv) ∧ Hid (Fn n wz w.heap.size fv) ∧ Hid (Ge elI wz (w.heap.size + 1) vn (ints now)) ∧ Hid (Below w.heap.size w wz)) (fun _ vd _ => (n + 3 - (intOf vd).toNat : Nat))
  case atStart => exact ⟨1, [a], [], _, ⟨_, _, rfl⟩, rfl, HL1.out, HF1.out, HG1.out, HB1.out⟩
  case round =>
    clear HF1 HB1 HG1 HL1
    obtain ⟨d, now, M, fv, HV, rfl, HLv, HF, HG, HB⟩ := hrel
    obtain ⟨an, cn, rfl⟩ := HV.out
    clear HV
    have hds := HLv.out.small
    by_cases h0 : now = []
    · subst h0
      have hFr := HLv.out.end
      have HFr : Hid (Fr N n a fv) := hFr
      clear hFr HLv
      go_wp2_with fail
      go_ret
      exact ⟨fv, rfl, HF.out, HFr.out, HB.out⟩
    · have hl0 : 0 < now.length := List.length_pos_iff.2 h0
      have hl0i : (0 : Int) < now.length := by omega
      have HW0 : Hid (Lw N T n a d now M 0 0 [] fv) := HLv.out.in h0
      obtain ⟨s4, hs4⟩ : ∃ s, s = wr.heap.size := ⟨_, rfl⟩
      have HS4 : Hid (w.heap.size < s4) := by show _ < _; rw [hs4]; exact HF.out.lt
      have HNb : Hid (∀ k, (Value.slice an now.length cn).ownBlock = some k → k < s4) := fun k hk => by rw [hs4]; exact HG.out.lt k hk
      have HZ0 : Hid (s4 ≤ wr.heap.size) := by show _ ≤ _; omega
      have HX0 : Hid (Ge elI wr s4 (.slice none ([] : List Nat).length 0) (ints [])) := Ge.nil _ _
      have HF0 : Hid (Fn n wr w.heap.size fv) := HF.out
      have HG0 : Hid (Ge elI wr (w.heap.size + 1) (.slice an now.length cn) (ints now)) := HG.out
      have HB0 : Hid (Below w.heap.size w wr) := HB.out
      clear hs4 HLv h0 HF HG HB
      go_wp2_with fail
      go_loopw [10, 11] (fun vx vi wz => ∃ (i : Nat) (nx : List Nat) (fv : Nat → Nat), Hid (∃ ax cx, vx = .slice ax nx.length cx) ∧ vi = .int .i64 i ∧ i ≤ now.length ∧ Hid (Lw N T n a d now M i 0 nx fv) ∧ Hid (Fn n wz w.heap.size fv) ∧ Hid (Ge elI wz (w.heap.size + 1) (.slice an now.length cn) (ints now)) ∧ Hid (Ge elI wz s4 vx (ints nx)) ∧ Hid (Below w.heap.size w wz) ∧ Hid (s4 ≤ wz.heap.size)) (fun _ vi _ => (now.length - (intOf vi).toNat : Nat))
      case atStart => exact ⟨0, [], fv, ⟨_, _, rfl⟩, rfl, Nat.zero_le _, HW0.out, HF0.out, HG0.out, HX0.out, HB0.out, HZ0.out⟩
      case round =>
        clear HW0 HF0 HG0 HX0 HB0 HZ0
        obtain ⟨i, nx, fv, HV, rfl, hi, HW, HF, HG, HX, HB, HZ⟩ := hrel
        obtain ⟨ax, cx, rfl⟩ := HV.out
        clear HV
        rcases Nat.lt_or_ge i now.length with hlt | hge
        · have hii : (i : Int) < now.length := by omega
          obtain ⟨b1, o1, rfl, c1⟩ := Li.node HG.out.lis hlt
          have hyg : now[i]? = some (now.getD i 0) := by rw [List.getD_eq_getElem?_getD, List.getElem?_eq_getElem hlt]; rfl
          have hyn := HW.out.nowl _ (List.mem_of_getElem? hyg)
          have HY : Hid (now[i]? = some (now.getD i 0)) := hyg
          clear hyg
          generalize now.getD i 0 = y at *
          have hyi : (y : Int) < n := by omega
          obtain ⟨ar, cr, crow0, hLr⟩ := HR.out.cell hyn
          have crow := (HB.out.cell (p := ⟨b, y, none⟩) HR.out.lt).trans crow0
          have HLy : Hid (∀ W, Below w.heap.size w W → Li W ar (T y).length (ints (T y))) := fun W hW => Li.after hW hLr
          have htl := HTl.out y
          have hnl : now.length ≤ 9223372036854775807 := by
            obtain ⟨_, _, e, h1, h2, -⟩ := HG.out.shape
            rw [ints_length] at h1
            unfold maxLen at h2
            omega
          have hwi : IntKind.i64.wrap ((i : Int) + 1) = (i : Int) + 1 := by rw [IntKind.wrap_i64]; omega
          clear hLr crow0
          go_wp2_with fail
          have HW1 : Hid (Lw N T n a d now M i 0 nx fv) := HW.out
          have HF1 : Hid (Fn n wr w.heap.size fv) := HF.out
          have HG1 : Hid (Ge elI wr (w.heap.size + 1) (.slice (some ⟨b1, o1, none⟩) now.length cn) (ints now)) := HG.out
          have HX1 : Hid (Ge elI wr s4 (.slice ax nx.length cx) (ints nx)) := HX.out
          have HB1 : Hid (Below w.heap.size w wr) := HB.out
          have HZ1 : Hid (s4 ≤ wr.heap.size) := HZ.out
          clear HW HF HG HX HB HZ c1 crow
          go_loopw [10, 13] (fun vx vk wz => ∃ (k : Nat) (nx : List Nat) (fv : Nat → Nat), Hid (∃ ax cx, vx = .slice ax nx.length cx) ∧ vk = .int .i64 k ∧ k ≤ (T y).length ∧ Hid (Lw N T n a d now M i k nx fv) ∧ Hid (Fn n wz w.heap.size fv) ∧ Hid (Ge elI wz (w.heap.size + 1) (.slice (some ⟨b1, o1, none⟩) now.length cn) (ints now)) ∧ Hid (Ge elI wz s4 vx (ints nx)) ∧ Hid (Below w.heap.size w wz) ∧ Hid (s4 ≤ wz.heap.size)) (fun _ vk _ => ((T y).length - (intOf vk).toNat : Nat))
          case atStart => exact ⟨0, nx, fv, ⟨_, _, rfl⟩, rfl, Nat.zero_le _, HW1.out, HF1.out, HG1.out, HX1.out, HB1.out, HZ1.out⟩
          case round =>
            clear HW1 HF1 HG1 HX1 HB1 HZ1
            obtain ⟨k, nx, fv, HV, rfl, hk, HW, HF, HG, HX, HB, HZ⟩ := hrel
            obtain ⟨ax, cx, rfl⟩ := HV.out
            clear HV
            rcases Nat.lt_or_ge k (T y).length with hkt | hkg
            · have hki : (k : Int) < (T y).length := by omega
              obtain ⟨b2, o2, rfl, c2⟩ := Li.node (HLy.out wr HB.out) hkt
              have hxg : (T y)[k]? = some ((T y).getD k 0) := by rw [List.getD_eq_getElem?_getD, List.getElem?_eq_getElem hkt]; rfl
              have hxn := (HT.out y _ (List.mem_of_getElem? hxg)).1
              have hb2 : b2 < w.heap.size := by
                obtain ⟨_, _, e, c⟩ := Li.node (HLy.out w (Below.refl _ _)) hkt
                cases e
                exact cell_lt c
              have HXg : Hid ((T y)[k]? = some ((T y).getD k 0)) := hxg
              clear hxg
              generalize (T y).getD k 0 = x at *
              have hxi : (x : Int) < n := by omega
              have cf := HF.out.cell hxn
              have ff := Fv.frozen HF.out x
              by_cases hf0 : fv x = 0
              · rw [hf0] at cf
                have HP2 : Hid (Lw N T n a d now M i (k + 1) (nx ++ [x]) (upf fv x d)) := HW.out.put HT.out HY.out HXg.out hf0
                have HF5 : Hid (Fn n (wr.setCell ⟨w.heap.size, x, none⟩ (.int .i64 (d : Int))) w.heap.size (upf fv x d)) := Fn.set HF.out x d
                have HG5 : Hid (Ge elI (wr.setCell ⟨w.heap.size, x, none⟩ (.int .i64 (d : Int))) (w.heap.size + 1) (.slice (some ⟨b1, o1, none⟩) now.length cn) (ints now)) := HG.out.far (p := ⟨w.heap.size, x, none⟩) (fun e => by have h9 : w.heap.size + 1 ≤ w.heap.size := HG.out.block _ e; omega) _
                have HX5 : Hid (Ge elI (wr.setCell ⟨w.heap.size, x, none⟩ (.int .i64 (d : Int))) s4 (.slice ax (ints nx).length cx) (ints nx)) := by
                  rw [ints_length]
                  exact HX.out.far (p := ⟨w.heap.size, x, none⟩) (fun e => by have h9 : s4 ≤ w.heap.size := HX.out.block _ e; have := HS4.out; omega) _
                have HB5 : Hid (Below w.heap.size w (wr.setCell ⟨w.heap.size, x, none⟩ (.int .i64 (d : Int)))) := HB.out.setCell (p := ⟨w.heap.size, x, none⟩) (Nat.le_refl _) _
                have HVN : Hid (Le elI ((wr.setCell ⟨w.heap.size, x, none⟩ (.int .i64 (d : Int))).alloc (.cells #[.int .i64 (x : Int)] 3)) (some ⟨wr.heap.size, 0, none⟩) 1 [(x : Int)]) := Le.one (by have := Va.new (wr.setCell ⟨w.heap.size, x, none⟩ (.int .i64 (d : Int))) 3 #[.int .i64 (x : Int)]; rwa [World.size_setCell] at this) rfl
                have HLn3 : Hid ((ints nx).length + 1 ≤ 1000000000000) := by
                  have h1 : (M ++ nx).length ≤ n := few_nat HW.out.nd (fun z hz => (HW.out.mark z ((HW.out.all z).1 hz)).1)
                  rw [List.length_append] at h1
                  show _ ≤ _; rw [ints_length]; omega
                have hz4 := HZ.out
                have hs4 := HS4.out
                have c3 : (wr.setCell ⟨w.heap.size, x, none⟩ (.int .i64 (d : Int))).cell? ⟨b2, o2 + k, none⟩ = some (.int .i64 (x : Int)) := (World.cell?_setCell_other _ _ _ _ (by intro h; simp only [Addr.mk.injEq] at h; omega)).trans c2
                clear HW HF HG HX hf0
                rw [← ints_length nx]
                go_wp2_with (at_builtin; refine wpList_appE rfl _ _ _ rfl elI rfl s4 _ (ints nx) rfl (HX5.out.al _) wr.heap.size 0 1 1 [(x : Int)] rfl HVN.out HLn3.out (by simp; omega) ?_; intro v5 w5 hg5 hgr5 hob5; have HF6 : Hid (Fn n w5 w.heap.size (upf fv x d)) := Fv.kept (Fv.after ((Below.refl _ _).alloc (Nat.le_refl _) _) HF5.out) (hgr5.block w.heap.size (by simp; omega) (fun e => by have := HX5.out.block _ e.symm; omega)); have HG6 : Hid (Ge elI w5 (w.heap.size + 1) (.slice (some ⟨b1, o1, none⟩) now.length cn) (ints now)) := (HG5.out.al _).kept (fun j hj => hgr5.block j ((HG5.out.al _).lt j hj) (fun e => by have h1 := HNb.out j hj; have h2 := HX5.out.block _ e.symm; omega)); have HB6 : Hid (Below w.heap.size w w5) := (HB5.out.alloc (by simp; omega) _).grown hgr5 (by simp; omega) (fun j hj => by have := HX5.out.block j hj; omega); have HZ6 : Hid (s4 ≤ w5.heap.size) := (by have := hgr5.size; simp at this; show _ ≤ _; omega); obtain ⟨a5, c5, rfl, -, -, -⟩ := hg5.shape; have HX6 : Hid (Ge elI w5 s4 (.slice a5 (nx ++ [x]).length c5) (ints (nx ++ [x]))) := (by rw [ints_snoc, ← ints_length (nx ++ [x]), ints_snoc]; exact hg5); clear hg5 hgr5 hob5 HF5 HG5 HX5 HB5 HVN HLn3)
                go_roundw
                case rel => exact ⟨k + 1, nx ++ [x], _, ⟨a5, c5, by rw [ints_length, List.length_append]; rfl⟩, rfl, by omega, HP2.out, HF6.out, HG6.out, by have h9 := HX6.out; rw [ints_length]; rw [List.length_append] at h9; exact h9, HB6.out, HZ6.out⟩
                case measure => simp [intOf]; omega
              · have HP2 : Hid (Lw N T n a d now M i (k + 1) nx fv) := HW.out.old HY.out HXg.out hf0
                generalize fv x = fx at *
                have hfi : ¬ (fx : Int) = 0 := by omega
                clear HW
                go_wp2_with fail
                go_roundw
                case rel => exact ⟨k + 1, nx, fv, ⟨ax, cx, rfl⟩, rfl, by omega, HP2.out, HF.out, HG.out, HX.out, HB.out, HZ.out⟩
                case measure => simp [intOf]; omega
            · obtain rfl : k = (T y).length := by omega
              have HP2 : Hid (Lw N T n a d now M (i + 1) 0 nx fv) := HW.out.row HY.out rfl
              clear hkg hk HW
              go_wp2_with fail
              go_roundw
              case rel => exact ⟨i + 1, nx, fv, ⟨ax, cx, rfl⟩, rfl, by omega, HP2.out, HF.out, HG.out, HX.out, HB.out, HZ.out⟩
              case measure => simp [intOf]; omega
        · obtain rfl : i = now.length := by omega
          have HL2 : Hid (Lv N n a (d + 1) nx (M ++ nx) fv) := HW.out.out HN.out
          have hwd : IntKind.i64.wrap ((d : Int) + 1) = (d : Int) + 1 := by rw [IntKind.wrap_i64]; omega
          clear hge hi HW
          go_wp2_with fail
          go_roundw
          case rel => exact ⟨d + 1, nx, M ++ nx, fv, ⟨ax, cx, rfl⟩, rfl, HL2.out, HF.out, HX.out.le (by have := HS4.out; omega), HB.out⟩
          case measure => simp [intOf]; omega
end Go.Proofs.Ytcfcknhmoecmoaa
