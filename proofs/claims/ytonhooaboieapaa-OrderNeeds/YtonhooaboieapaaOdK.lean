/-
  order: container/heap's Push and Pop at the heap's own type.
-/
import Derived.Test.YtonhooaboieapaaOdJ
namespace Go.Proofs.Ytonhooaboieapaa
open Go.RowKit Go.Shelf
set_option linter.unusedVariables false

/-- A variable that holds a heap: the row lies in memory of its own, in the row's own block. -/
structure Hv (w : World) (B b : Nat) (v : Value) (l : List Int) : Prop where
  va : Va w b 52 #[v]
  ge : Ge elI w B v l
  hp : Hp l l.length
  le : B ≤ w.heap.size
theorem Hv.after {w w' : World} {B b : Nat} {v : Value} {l : List Int} (h : Hv w B b v l) (hb : Below w.heap.size w w') : Hv w' B b v l := ⟨h.va.after hb, h.ge.after hb, h.hp, Nat.le_trans h.le hb.size⟩
set_option maxHeartbeats 4000000 in
theorem hpush_any {w : World} {B b : Nat} {v : Value} {l : List Int} (h : Hv w B b v l) (hl : l.length ≤ 100000) (x : Int) :
    Calls Try.prog 36 #[.iface 54 (.pointer (some ⟨b, 0, none⟩)), .iface 3 (.int .i64 x)] w fun e w' => (∃ u, e = .returned u) ∧ ∃ v' l', Hv w' B b v' l' ∧ l'.length = l.length + 1 ∧ (∀ y, l'.count y = l.count y + (if x = y then 1 else 0)) ∧ Below 0 w w' ∧ w.heap.size ≤ w'.heap.size ∧ (∀ c, c < w.heap.size → c ≠ b → v.ownBlock ≠ some c → w'.heap[c]? = w.heap[c]?) ∧ (v'.ownBlock = v.ownBlock ∨ ∃ c, v'.ownBlock = some c ∧ w.heap.size ≤ c) := by
  have mp := me_push b w
  have hP := rpush_any h.va h.ge h.le (by omega) x
  have hle := h.le
  have HH : Hid (Hv w B b v l) := h
  clear h
  go_enter Try.func36, Try.ntmps36
  go_wp2_with (first
    | (go_at_call 96; refine hP.mono ?_; rintro e w1 ⟨⟨u, rfl⟩, v1, V1, hg1, hz1, hs1, hk1, ho1⟩; have HZ1 : Hid (Below 0 w w1) := hz1; obtain ⟨a1, c1, rfl, -, -, hsh⟩ := hg1.shape; (obtain ⟨g, rfl⟩ : ∃ g, a1 = some ⟨g, 0, none⟩ := by rcases hsh with ⟨-, e, -⟩ | h; exact absurd e (by simp); exact h); have c0 := V1.cell; have ml := me_len c0; have HV1 : Hid (Va w1 b 52 #[.slice (some ⟨g, 0, none⟩) (l ++ [x]).length c1]) := V1; have HG1 : Hid (Ge elI w1 B (.slice (some ⟨g, 0, none⟩) (l ++ [x]).length c1) (l ++ [x])) := hg1; have HS1 : Hid (w.heap.size ≤ w1.heap.size) := hs1; have HK1 : Hid _ := hk1; have HO1 : Hid _ := ho1; clear V1 hg1 hz1 hs1 hk1 ho1 hsh hP)
    | (go_at_call 92; refine (rlen_any _ _ _ _).mono ?_; rintro e w2 ⟨rfl, hw⟩; rw [hw]; clear hw w2)
    | (go_at_call 47; refine (hup_any HV1.out HG1.out (Nat.le_trans hle HS1.out) (by simp; omega) l.length (by simp) (by rw [List.length_append]; exact HpU.push HH.out.hp rfl x)).mono ?_; rintro e w3 ⟨⟨u3, rfl⟩, l3, hl3, hp3, hc3, V3, hg3, hgr3, hs3⟩; have HF : Hid (l3.length = (l ++ [x]).length ∧ Hp l3 l3.length ∧ (∀ v, l3.count v = (l ++ [x]).count v) ∧ Va w3 b 52 #[.slice (some ⟨g, 0, none⟩) (l ++ [x]).length c1] ∧ Ge elI w3 B (.slice (some ⟨g, 0, none⟩) (l ++ [x]).length c1) l3 ∧ w1.grownBy w3 (some g) ∧ w3.heap.size = w1.heap.size) := ⟨hl3, hp3, hc3, V3, hg3, hgr3, hs3⟩; clear hl3 hp3 hc3 V3 hg3 hgr3 hs3))
  go_end0
  obtain ⟨hl3, hp3, hc3, V3, hg3, hgr3, hs3⟩ := HF.out
  have hs1 := HS1.out
  refine ⟨⟨_, rfl⟩, _, l3, ⟨V3, hg3, hp3, by omega⟩, by rw [hl3]; simp, fun y => ?_, HZ1.out.trans ((Below.refl 0 w1).grown hgr3 (Nat.zero_le _) (fun k _ => Nat.zero_le _)), by omega, fun c hc hne hno => ?_, ?_⟩
  · rw [hc3, List.count_append, List.count_singleton]
    simp only [beq_iff_eq]
  · rw [hgr3.block c (by omega) (fun e => ?_)]
    · exact HK1.out c hc hne hno
    · have hg9 : (Value.slice (some ⟨g, 0, none⟩) (l ++ [x]).length c1).ownBlock = some g := rfl
      have hcg := Option.some.inj e
      rcases HO1.out with h | ⟨d, h, hd⟩
      · rw [hg9] at h; exact hno (by rw [← h, hcg])
      · rw [hg9] at h; have := Option.some.inj h; omega
  · exact HO1.out
set_option maxHeartbeats 4000000 in
theorem hpop_any {w : World} {B b : Nat} {v : Value} {l : List Int} (h : Hv w B b v l) (h0 : 0 < l.length) (hl : l.length ≤ 100000) :
    Calls Try.prog 35 #[.iface 54 (.pointer (some ⟨b, 0, none⟩))] w fun e w' => (∃ u, e = .returned u) ∧ ∃ v' l', Hv w' B b v' l' ∧ l'.length = l.length - 1 ∧ (∀ y, l'.count y + (if l.getD 0 0 = y then 1 else 0) = l.count y) ∧ Below 0 w w' ∧ w'.heap.size = w.heap.size ∧ (∀ c, c < w.heap.size → c ≠ b → v.ownBlock ≠ some c → w'.heap[c]? = w.heap[c]?) ∧ v'.ownBlock = v.ownBlock := by
  obtain ⟨a, cap, rfl, hcap, -, hsh⟩ := h.ge.shape
  obtain ⟨g, rfl⟩ : ∃ g, a = some ⟨g, 0, none⟩ := by
    rcases hsh with ⟨-, e, -⟩ | h
    · rw [e] at h0; simp at h0
    · exact h
  have c0 := h.va.cell
  have ml := me_len c0
  have ms := me_swap c0
  have hle := h.le
  have hbg : b ≠ g := fun e => h.ge.apart h.va (by decide) (by rw [e]; rfl)
  obtain ⟨n, hn⟩ : ∃ n, l.length = n + 1 := ⟨l.length - 1, by omega⟩
  have hS := rswap_any h.ge (i := 0) (j := n) (by omega) (by omega)
  have HH : Hid (Hv w B b (.slice (some ⟨g, 0, none⟩) l.length cap) l) := h
  have HN : Hid (l.length = n + 1) := hn
  rw [hn] at c0 ml ms hS
  push_cast at hS
  have hn9 : n + 1 ≤ 100000 := by omega
  clear h hsh hcap h0 hl hn
  go_enter Try.func35, Try.ntmps35
  go_wp2_with (first
    | (go_at_call 92; refine (rlen_any _ _ _ _).mono ?_; rintro e w2 ⟨rfl, hw⟩; rw [hw]; clear hw w2)
    | (go_at_call 94; refine hS.mono ?_; rintro e w1 ⟨⟨u, rfl⟩, hg1, hgr1, hs1⟩; have V1 : Va w1 b 52 #[.slice (some ⟨g, 0, none⟩) l.length cap] := (hgr1.block b HH.out.va.lt (fun e => hbg (Option.some.inj e))).trans HH.out.va; have HV1 : Hid (Va w1 b 52 #[.slice (some ⟨g, 0, none⟩) l.length cap]) := V1; have HG1 : Hid (Ge elI w1 B (.slice (some ⟨g, 0, none⟩) (n + 1) cap) (sw l 0 n)) := hg1; have HR1 : Hid (w.grownBy w1 (some g)) := hgr1; have HS1 : Hid (w1.heap.size = w.heap.size) := hs1; clear V1 hg1 hgr1 hs1 hS ms ml c0)
    | (go_at_call 46; refine (hdown_any (l := sw l 0 n) (by rw [sw_length]; exact HV1.out) (by rw [sw_length, HN.out]; exact HG1.out) (by rw [HS1.out]; exact hle) (by rw [sw_length, HN.out]; omega) n (by rw [sw_length, HN.out]; omega) (by have := HpD.pop HH.out.hp (by rw [HN.out]; omega); rw [show l.length - 1 = n by have := HN.out; omega] at this; exact this)).mono ?_; rintro e w3 ⟨⟨u3, rfl⟩, l3, hl3, hp3, hc3, he3, V3, hg3, hgr3, hs3⟩; rw [sw_length, HN.out] at hl3 V3 hg3; have HF : Hid (l3.length = n + 1 ∧ Hp l3 n ∧ (∀ v, l3.count v = (sw l 0 n).count v) ∧ (∀ k, n ≤ k → l3.getD k 0 = (sw l 0 n).getD k 0) ∧ Va w3 b 52 #[.slice (some ⟨g, 0, none⟩) (n + 1) cap] ∧ Ge elI w3 B (.slice (some ⟨g, 0, none⟩) (n + 1) cap) l3 ∧ w1.grownBy w3 (some g) ∧ w3.heap.size = w1.heap.size) := ⟨hl3, hp3, hc3, he3, V3, hg3, hgr3, hs3⟩; have mo := me_pop b w3; clear hl3 hp3 hc3 he3 V3 hg3 hgr3 hs3)
    | (go_at_call 95; refine (rpop_any (l := l3) (by rw [HF.out.1]; exact HF.out.2.2.2.2.1) (by rw [HF.out.1]; exact HF.out.2.2.2.2.2.1) (by rw [HF.out.1]; omega) (by rw [HF.out.1]; omega)).mono ?_; rintro e w4 ⟨⟨u4, rfl⟩, hw4, V4, hg4⟩; rw [show l3.length - 1 = n by rw [HF.out.1]; rfl] at hw4 V4 hg4; have HW4 : Hid _ := hw4; have HV4 : Hid (Va w4 b 52 #[.slice (some ⟨g, 0, none⟩) n cap]) := V4; have HG4 : Hid (Ge elI w4 B (.slice (some ⟨g, 0, none⟩) n cap) (l3.take n)) := hg4; clear hw4 V4 hg4))
  go_ret
  obtain ⟨hl3, hp3, hc3, he3, V3, hg3, hgr3, hs3⟩ := HF.out
  have hs4 : w4.heap.size = w3.heap.size := by rw [HW4.out]; simp
  have hs1 := HS1.out
  have hnl := HN.out
  have hz4 : Below 0 w w4 := by
    rw [HW4.out]
    exact (((Below.refl 0 w).grown HR1.out (Nat.zero_le _) (fun k _ => Nat.zero_le _)).grown hgr3 (Nat.zero_le _) (fun k _ => Nat.zero_le _)).setCell (p := ⟨b, 0, none⟩) (Nat.zero_le _) _
  have htl : (l3.take n).length = n := by rw [List.length_take, hl3]; omega
  refine ⟨⟨_, rfl⟩, _, l3.take n, ⟨HV4.out, HG4.out, by rw [htl]; exact hp3.take (by omega), by omega⟩, by rw [htl]; omega, fun y => ?_, hz4, by omega, fun c hc hne hno => ?_, rfl⟩
  · have h9 := count_last (l := l3) (by omega) y
    rw [show l3.length - 1 = n by omega] at h9
    rw [he3 n (Nat.le_refl _), sw_get (by omega) (by omega), if_pos rfl, hc3, sw_count (by omega) (by omega)] at h9
    exact h9
  · have hcg : (some c : Option Nat) ≠ some g := fun e => hno (by have := Option.some.inj e; rw [this]; rfl)
    rw [HW4.out, heap_setCell_other _ _ _ _ hne, hgr3.block c (by omega) hcg, HR1.out.block c hc hcg]
end Go.Proofs.Ytonhooaboieapaa
