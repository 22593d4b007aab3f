/-
  juris: the document's Meet.
-/
import Derived.Test.YtfmbloagmeodeaaJrD
namespace Go.Proofs.Ytfmbloagmeodeaa
open Go.RowKit Go.Shelf
set_option linter.unusedVariables false

theorem MeR.same {ps : List Int} (hT : Tre ps) {i k : Int} {m m' : Int} {ok ok' : Bool} (h : MeR (pthZ ps i) (pthZ ps k) m ok) (g : MeR (pthZ ps k) (pthZ ps i) m' ok') : m = m' ∧ ok = ok' := by
  have hbad : ∀ {P Q : List Nat} {m : Int} {ok : Bool}, (P = [] ∨ Q = []) → MeR P Q m ok → m = 0 ∧ ok = false := fun hpq h => by
    rcases h with ⟨rfl, rfl, -⟩ | ⟨rfl, pre, x, rfl, h2, h3, -⟩
    · exact ⟨rfl, rfl⟩
    · rcases hpq with rfl | rfl
      · cases h3
      · have := h2.length_le; simp at this
  cases hi : plB ps.length i with
  | false =>
    have e := pthZ_bad hi
    obtain ⟨rfl, rfl⟩ := hbad (.inl e) h
    obtain ⟨rfl, rfl⟩ := hbad (.inr e) g
    exact ⟨rfl, rfl⟩
  | true =>
    cases hk : plB ps.length k with
    | false =>
      have e := pthZ_bad hk
      obtain ⟨rfl, rfl⟩ := hbad (.inr e) h
      obtain ⟨rfl, rfl⟩ := hbad (.inl e) g
      exact ⟨rfl, rfl⟩
    | true =>
      obtain ⟨i, rfl, hi'⟩ := plB_ex hi
      obtain ⟨k, rfl, hk'⟩ := plB_ex hk
      rcases h.mt hT hi' hk' with ⟨rfl, rfl, h1⟩ | ⟨rfl, x, rfl, h1⟩ <;> rcases g.mt hT hk' hi' with ⟨rfl, rfl, g1⟩ | ⟨rfl, y, rfl, g1⟩
      · exact ⟨rfl, rfl⟩
      · exact absurd ⟨y, g1.2.1, g1.1⟩ h1
      · exact absurd ⟨x, h1.2.1, h1.1⟩ g1
      · exact ⟨by rw [Mt.unique hT hi' h1 g1.symm], rfl⟩
set_option maxRecDepth 20000 in
set_option maxHeartbeats 8000000 in
theorem rmeet_any (ps : List Int) (hT : Tre ps) (hl : ps.length ≤ 4096) (a : Option Addr) (cap : Nat) (w : World) (hL : Li w a ps.length ps) (i k : Int) :
    Calls Try.prog 20 #[.slice a ps.length cap, .int .i64 i, .int .i64 k] w fun e w' => (∃ mm ok, e = .returned (.tuple #[.int .i64 mm, .bool ok]) ∧ MeR (pthZ ps k) (pthZ ps i) mm ok) ∧ Below w.heap.size w w' := by
  have hm := make_bool ps.length (by omega)
  have hP := rpath_any ps hT hl a cap w hL i
  have HQ : Hid (∀ W, Below w.heap.size w W → Calls Try.prog 25 #[.slice a ps.length cap, .int .i64 k] W fun e w' => (∃ v, e = .returned v ∧ Ge elI w' W.heap.size v (ints (pthZ ps k))) ∧ Below W.heap.size W w') := fun W hb => rpath_any ps hT hl a cap W (hL.after hb) k
  have hpl := pthZ_len hT i
  have hql := pthZ_len hT k
  have HPl : Hid (∀ x ∈ pthZ ps i, x < ps.length) := (ptc_any hT i).lt
  have HQl : Hid (∀ x ∈ pthZ ps k, x < ps.length) := (ptc_any hT k).lt
  clear hL hT
  generalize pthZ ps i = P at *
  generalize pthZ ps k = Q at *
  go_enter Try.func20, Try.ntmps20
  go_wp2_with (first
    | (go_at_call 25; refine hP.mono ?_; rintro e w1 ⟨⟨v, rfl, hG⟩, hb1⟩; obtain ⟨a1, c1, rfl, hli⟩ := hG.sl; rw [ints_length] at hli ⊢; have HB1 : Hid (Below w.heap.size w w1) := hb1; have HLi : Hid (Li w1 a1 P.length (ints P)) := hli; have HLow : Hid (lowA w1.heap.size a1 P.length) := hli.low; clear hG hb1 hli hP)
    | (go_at_call 25; refine ent1 w1 _ _ (Q := fun W => Calls _ _ _ W _) ?_; intro W2 hB2 hs2 V2; refine (HQ.out W2 (step HB1.out hB2)).mono ?_; rintro e w3 ⟨⟨v, rfl, hG⟩, hb3⟩; obtain ⟨a3, c3, rfl, hli⟩ := hG.sl; rw [ints_length] at hli ⊢; have HB3 : Hid (Below w.heap.size w w3) := step (step HB1.out hB2) hb3; have HLi3 : Hid (Li w3 a3 Q.length (ints Q)) := hli; have HLq3 : Hid (lowA w3.heap.size a3 Q.length) := hli.low; have HGe3 : Hid (Ge elI w3 W2.heap.size (.slice a3 (ints Q).length c3) (ints Q)) := hG; replace HLi : Hid (Li w3 a1 P.length (ints P)) := (HLi.out.after hB2).after hb3; have HR3 : Hid (Va w3 w1.heap.size 4 (Array.replicate ps.length (Value.bool false))) := V2.after hb3; have HS : Hid (w1.heap.size < W2.heap.size) := (by show _ < _; omega); have HLl : Hid (lowA w1.heap.size a1 P.length) := HLow.out; clear hG hb3 hli hB2 hs2 V2 hm HQ))
  have hs13 : w1.heap.size < w3.heap.size := HR3.out.lt
  have hw01 := HB1.out.size
  have HKeep : Hid (∀ W : World, (∀ c, c ≠ w1.heap.size → c < w3.heap.size → W.heap[c]? = w3.heap[c]?) → Li W a1 P.length (ints P) ∧ Li W a3 Q.length (ints Q)) := fun W hW => by
    refine ⟨(HLi.out.le.kept (fun h0 b off e hlt => hW b (by have := HLl.out h0 b off e; omega) hlt)).li, (HLi3.out.le.kept (fun h0 b off e hlt => hW b (fun e2 => ?_) hlt)).li⟩
    have := HGe3.out.block b (by rw [e]; rfl)
    have := HS.out
    omega
  have HR : Hid (Ow 4 Value.bool w3 w1.heap.size (bR (ofL (Q.take 0)) ps.length)) := by
    show Va _ _ _ _
    rw [show bR (ofL (Q.take 0)) ps.length = List.replicate ps.length false from by rw [mr_zero]; rfl]
    simpa using HR3.out
  clear HR3 HLi HLi3 HGe3 HLq3 HLl HLow
  go_loopw [11] (fun v wr => ∃ t : Nat, v = .int .i64 t ∧ t ≤ Q.length ∧ Hid (Ow 4 Value.bool wr w1.heap.size (bR (ofL (Q.take t)) ps.length)) ∧ Hid (∀ c, c ≠ w1.heap.size → c < w3.heap.size → wr.heap[c]? = w3.heap[c]?) ∧ Hid (Below w.heap.size w wr)) (fun v _ => (Q.length - (intOf v).toNat : Nat))
  case atStart => exact ⟨0, rfl, Nat.zero_le _, HR.out, fun c _ _ => rfl, HB3.out⟩
  case round =>
    clear HR
    obtain ⟨t, rfl, ht, HR, HK, HB⟩ := hrel
    rcases Nat.lt_or_ge t Q.length with hlt | hge
    · have hti : (t : Int) < Q.length := by omega
      obtain ⟨b, off, rfl, hc⟩ := (HKeep.out wr HK.out).2.at hlt
      have hgt : Q[t]? = some (Q.getD t 0) := by rw [List.getD_eq_getElem?_getD, List.getElem?_eq_getElem hlt]; rfl
      rw [show (ints Q).getD t (-1) = (Q.getD t 0 : Int) by simp [ints, List.getD_eq_getElem?_getD, hlt]] at hc
      have hxl := HQl.out _ (List.mem_of_getElem? hgt)
      have HTk : Hid (Q.take (t + 1) = Q.take t ++ [Q.getD t 0]) := by
        show _ = _
        rw [List.take_succ_eq_append_getElem hlt, List.getD_eq_getElem?_getD, List.getElem?_eq_getElem hlt]; rfl
      generalize Q.getD t 0 = x at *
      have hxi : (x : Int) < ps.length := by omega
      have cx := HR.out.cell x true (by simp [bR, hxl])
      have fx := HR.out.frozen x
      generalize (bR (ofL (Q.take t)) ps.length).getD x true = yy at *
      clear hgt
      go_wp2_with fail
      go_roundw
      case rel =>
        refine ⟨t + 1, rfl, by omega, ?_, fun c hne hc => ?_, HB.out.setCell (p := ⟨w1.heap.size, x, none⟩) (by show _ ≤ w1.heap.size; omega) _⟩
        · have := HR.out.set x true _ rfl
          rw [bR_set, ofL_snoc, ← HTk.out] at this
          exact this
        · rw [heap_setCell_other _ _ _ _ hne]; exact HK.out c hne hc
      case measure => simp [intOf]; omega
    · obtain rfl : t = Q.length := by omega
      clear hge ht
      rw [List.take_length] at HR
      go_wp2_with fail
      obtain ⟨w5, hw5⟩ : ∃ w5, wr = w5 := ⟨_, rfl⟩
      rw [hw5] at HR HK HB ⊢
      clear hw5
      have HLP := (HKeep.out w5 HK.out).1
      have HLP2 : Hid (Li w5 a1 P.length (ints P)) := HLP
      clear HLP HKeep HK
      go_loopw [12] (fun v wr => ∃ t : Nat, v = .int .i64 t ∧ t ≤ P.length ∧ Hid (∀ y ∈ P.take t, y ∉ Q) ∧ wr = w5) (fun v _ => (P.length - (intOf v).toNat : Nat))
      case atStart => exact ⟨0, rfl, Nat.zero_le _, fun y hy => by simp at hy, rfl⟩
      case round =>
        obtain ⟨t, rfl, ht, HN, hwr⟩ := hrel
        subst hwr
        rcases Nat.lt_or_ge t P.length with hlt | hge
        · have hti : (t : Int) < P.length := by omega
          obtain ⟨b, off, rfl, hc⟩ := HLP2.out.at hlt
          have hgt : P[t]? = some (P.getD t 0) := by rw [List.getD_eq_getElem?_getD, List.getElem?_eq_getElem hlt]; rfl
          rw [show (ints P).getD t (-1) = (P.getD t 0 : Int) by simp [ints, List.getD_eq_getElem?_getD, hlt]] at hc
          have hxl := HPl.out _ (List.mem_of_getElem? hgt)
          have HTk : Hid (P.take (t + 1) = P.take t ++ [P.getD t 0]) := by
            show _ = _
            rw [List.take_succ_eq_append_getElem hlt, List.getD_eq_getElem?_getD, List.getElem?_eq_getElem hlt]; rfl
          have HPf : Hid (P.take (t + 1) <+: P) := List.take_prefix _ _
          generalize P.getD t 0 = x at *
          have hxi : (x : Int) < ps.length := by omega
          have cx := HR.out.cell x true (by simp [bR, hxl])
          rw [show (bR (ofL Q) ps.length).getD x true = ofL Q x from mr_get _ true hxl] at cx
          clear hgt
          cases ho : ofL Q x with
          | true =>
            rw [ho] at cx
            have HIn : Hid (x ∈ Q) := (ofL_iff Q x).1 ho
            clear ho
            go_wp2_with fail
            go_ret2
            exact ⟨⟨_, _, rfl, .inr ⟨rfl, P.take t, x, rfl, by rw [← HTk.out]; exact HPf.out, HIn.out, HN.out⟩⟩, HB.out⟩
          | false =>
            rw [ho] at cx
            have HOut : Hid (x ∉ Q) := fun h => by rw [(ofL_iff Q x).2 h] at ho; cases ho
            clear ho
            go_wp2_with fail
            go_roundw
            case rel => exact ⟨t + 1, rfl, by omega, fun y hy => by
              rw [HTk.out] at hy
              rcases List.mem_append.1 hy with h | h
              · exact HN.out y h
              · simp at h; subst h; exact HOut.out, by trivial⟩
            case measure => simp [intOf]; omega
        · obtain rfl : t = P.length := by omega
          clear hge ht
          go_wp2_with fail
          go_ret2
          exact ⟨⟨_, _, rfl, .inl ⟨rfl, rfl, fun x hx => HN.out x (by rw [List.take_length]; exact hx)⟩⟩, HB.out⟩
end Go.Proofs.Ytfmbloagmeodeaa
