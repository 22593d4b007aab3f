/-
  Texts put one by one into a list that rises: pure.
-/
import Derived.Test.YtblafbbnplfpjaaGreatDoorMgAq
import Derived.Test.YtblafbbnplfpjaaGreatDoorMgAn
import Derived.Test.YtblafbbnplfpjaaGreatDoorTr9
import Derived.Test.YtblafbbnplfpjaaGreatDoorMgAs
namespace Go.Proofs.YtblafbbnplfpjaaGreatDoor
set_option linter.unusedVariables false

/-- Texts. -/
abbrev Txx := List UInt8
theorem tlt_trans {a b c : Txx} (h : a < b) (k : b < c) : a < c := List.lt_trans h k
theorem tlt_not {a b : Txx} (h : a < b) : ¬ b < a := fun k => List.lt_irrefl a (List.lt_trans h k)
theorem tlt_of {a b : Txx} (h : ¬ a < b) (k : a ≠ b) : b < a := by
  have h1 : b ≤ a := List.not_lt.1 h
  rcases List.le_iff_lt_or_eq.1 h1 with h2 | h2
  · exact h2
  · exact absurd h2.symm k
/-- A text into a list that rises. -/
def ins (s : Txx) : List Txx → List Txx
  | [] => [s]
  | x :: r => if s < x then s :: x :: r else x :: ins s r
def putT (l : List Txx) (s : Txx) : List Txx := if l.contains s then l else ins s l
theorem ins_mem (s y : Txx) : ∀ l, y ∈ ins s l ↔ y = s ∨ y ∈ l
  | [] => by simp [ins]
  | x :: r => by
    unfold ins
    split
    · simp
    · rw [List.mem_cons, ins_mem s y r, List.mem_cons]
      exact ⟨fun h => h.elim (fun h => .inr (.inl h)) (fun h => h.elim .inl (fun h => .inr (.inr h))), fun h => h.elim (fun h => .inr (.inl h)) (fun h => h.elim .inl (fun h => .inr (.inr h)))⟩
theorem ins_len (s : Txx) : ∀ l, (ins s l).length = l.length + 1
  | [] => rfl
  | x :: r => by
    unfold ins
    split
    · rfl
    · rw [List.length_cons, ins_len s r]; rfl
theorem ins_up (s : Txx) : ∀ l, l.Pairwise (· < ·) → s ∉ l → (ins s l).Pairwise (· < ·)
  | [], _, _ => by simp [ins]
  | x :: r, h, hn => by
    rw [List.pairwise_cons] at h
    unfold ins
    split
    · rename_i hs
      refine List.pairwise_cons.2 ⟨fun y hy => ?_, List.pairwise_cons.2 h⟩
      rcases List.mem_cons.1 hy with rfl | hy
      · exact hs
      · exact tlt_trans hs (h.1 y hy)
    · rename_i hs
      refine List.pairwise_cons.2 ⟨fun y hy => ?_, ins_up s r h.2 (fun k => hn (List.mem_cons.2 (.inr k)))⟩
      rcases (ins_mem s y r).1 hy with rfl | hy
      · exact tlt_of hs (fun e => hn (by rw [e]; exact List.mem_cons_self))
      · exact h.1 y hy
/-- Behind what is not above. -/
theorem ins_end (s : Txx) : ∀ l : List Txx, (∀ x ∈ l, ¬ s < x) → ins s l = l ++ [s]
  | [], _ => rfl
  | x :: r, h => by
    unfold ins
    rw [if_neg (h x List.mem_cons_self), ins_end s r (fun y hy => h y (List.mem_cons.2 (.inr hy)))]
    rfl
theorem ins_one (s y : Txx) : ∀ l : List Txx, (∀ x ∈ l, ¬ s < x) → s < y → ins s (l ++ [y]) = l ++ [s] ++ [y]
  | [], _, hy => by simp [ins, hy]
  | x :: r, h, hy => by
    rw [List.cons_append, ins, if_neg (h x List.mem_cons_self), ins_one s y r (fun z hz => h z (List.mem_cons.2 (.inr hz))) hy]
    rfl
theorem ins_more (s y : Txx) : ∀ l : List Txx, (∃ x ∈ l, s < x) → ins s (l ++ [y]) = ins s l ++ [y]
  | [], h => by obtain ⟨x, hx, -⟩ := h; simp at hx
  | x :: r, h => by
    rw [List.cons_append]
    unfold ins
    split
    · rfl
    · rename_i hs
      obtain ⟨z, hz, hsz⟩ := h
      rcases List.mem_cons.1 hz with rfl | hz
      · exact absurd hsz hs
      · rw [ins_more s y r ⟨z, hz, hsz⟩]; rfl
theorem put_mem (l : List Txx) (s y : Txx) : y ∈ putT l s ↔ y = s ∨ y ∈ l := by
  unfold putT
  split
  · rename_i h
    rw [List.contains_iff_mem] at h
    exact ⟨.inr, fun k => k.elim (fun e => e ▸ h) id⟩
  · exact ins_mem s y l
theorem put_up (l : List Txx) (s : Txx) (h : l.Pairwise (· < ·)) : (putT l s).Pairwise (· < ·) := by
  unfold putT
  split
  · exact h
  · rename_i hc
    exact ins_up s l h (fun k => hc (List.contains_iff_mem.2 k))
theorem put_len (l : List Txx) (s : Txx) : (putT l s).length ≤ l.length + 1 := by
  unfold putT
  split
  · omega
  · rw [ins_len]; exact Nat.le_refl _
/-- All, one by one. -/
def putAll (l : List Txx) : List Txx := l.foldl putT []
theorem putAll_snoc (l : List Txx) (s : Txx) : putAll (l ++ [s]) = putT (putAll l) s := by unfold putAll; rw [List.foldl_append]; rfl
theorem putAll_mem (y : Txx) : ∀ n (l : List Txx), l.length = n → (y ∈ putAll l ↔ y ∈ l) := by
  intro n
  induction n with
  | zero => intro l h; rw [List.length_eq_zero_iff.1 h]; simp [putAll]
  | succ n ih =>
    intro l h
    obtain ⟨r, s, rfl⟩ : ∃ r s, l = r ++ [s] := ⟨l.dropLast, l.getLast (fun e => by rw [e] at h; simp at h), (List.dropLast_concat_getLast _).symm⟩
    rw [putAll_snoc, put_mem, ih r (by simp at h; exact h), List.mem_append, List.mem_singleton]
    exact ⟨fun h => h.elim .inr .inl, fun h => h.elim .inr .inl⟩
theorem putAll_up : ∀ n (l : List Txx), l.length = n → (putAll l).Pairwise (· < ·) := by
  intro n
  induction n with
  | zero => intro l h; rw [List.length_eq_zero_iff.1 h]; simp [putAll]
  | succ n ih =>
    intro l h
    obtain ⟨r, s, rfl⟩ : ∃ r s, l = r ++ [s] := ⟨l.dropLast, l.getLast (fun e => by rw [e] at h; simp at h), (List.dropLast_concat_getLast _).symm⟩
    rw [putAll_snoc]
    exact put_up _ _ (ih r (by simp at h; exact h))
theorem putAll_len : ∀ n (l : List Txx), l.length = n → (putAll l).length ≤ n := by
  intro n
  induction n with
  | zero => intro l h; rw [List.length_eq_zero_iff.1 h]; simp [putAll]
  | succ n ih =>
    intro l h
    obtain ⟨r, s, rfl⟩ : ∃ r s, l = r ++ [s] := ⟨l.dropLast, l.getLast (fun e => by rw [e] at h; simp at h), (List.dropLast_concat_getLast _).symm⟩
    rw [putAll_snoc]
    have h1 := put_len (putAll r) s
    have h2 := ih r (by simp at h; exact h)
    omega
/-- Two lists that rise and hold the same are the same. -/
theorem up_ext : ∀ (a b : List Txx), a.Pairwise (· < ·) → b.Pairwise (· < ·) → (∀ y, y ∈ a ↔ y ∈ b) → a = b
  | [], [], _, _, _ => rfl
  | [], y :: b, _, _, h => by have := (h y).2 List.mem_cons_self; simp at this
  | x :: a, [], _, _, h => by have := (h x).1 List.mem_cons_self; simp at this
  | x :: a, y :: b, ha, hb, h => by
    rw [List.pairwise_cons] at ha hb
    have e : x = y := by
      rcases List.mem_cons.1 ((h x).1 List.mem_cons_self) with e | hx
      · exact e
      · rcases List.mem_cons.1 ((h y).2 List.mem_cons_self) with e | hy
        · exact e.symm
        · exact absurd (hb.1 x hx) (tlt_not (ha.1 y hy))
    subst e
    rw [up_ext a b ha.2 hb.2 (fun y => ?_)]
    constructor
    · intro hy
      rcases List.mem_cons.1 ((h y).1 (List.mem_cons.2 (.inr hy))) with rfl | hy'
      · exact absurd (ha.1 y hy) (List.lt_irrefl y)
      · exact hy'
    · intro hy
      rcases List.mem_cons.1 ((h y).2 (List.mem_cons.2 (.inr hy))) with rfl | hy'
      · exact absurd (hb.1 y hy) (List.lt_irrefl y)
      · exact hy'
theorem srt_mem (l : List Txx) (x : Txx) : x ∈ srt l ↔ x ∈ l := by
  have hs : x ∈ l.mergeSort (fun x y => decide (x ≤ y)) ↔ x ∈ l := List.mem_mergeSort
  rw [← hs]
  unfold srt
  generalize (l.mergeSort fun x y => decide (x ≤ y)) = z
  constructor
  · intro h
    unfold Go.Lib.compact Go.Lib.compactUpTo at h
    obtain ⟨j, hj, rfl⟩ := List.mem_map.1 h
    have hj2 := List.mem_range.1 (List.mem_filter.1 hj).1
    show z.toArray[j]! ∈ z
    rw [getElem!_pos z.toArray j (by simpa using hj2)]
    simp
  · intro hs
    obtain ⟨j, hj, e⟩ := List.getElem_of_mem hs
    have K : ∀ j, j < z.length → z.toArray[j]! = x → x ∈ Go.Lib.compact z := by
      intro j
      induction j with
      | zero =>
        intro hj e
        unfold Go.Lib.compact Go.Lib.compactUpTo
        exact List.mem_map.2 ⟨0, List.mem_filter.2 ⟨List.mem_range.2 hj, by simp [Go.Lib.keeps]⟩, e⟩
      | succ j ih =>
        intro hj e
        by_cases c : z.toArray[j]! = x
        · exact ih (by omega) c
        · unfold Go.Lib.compact Go.Lib.compactUpTo
          refine List.mem_map.2 ⟨j + 1, List.mem_filter.2 ⟨List.mem_range.2 hj, ?_⟩, e⟩
          unfold Go.Lib.keeps
          refine decide_eq_true (.inr ?_)
          rw [e]
          exact fun h => c h.symm
    exact K j hj (by rw [getElem!_pos z.toArray j (by simpa using hj)]; simpa using e)
theorem srt_up (l : List Txx) : (srt l).Pairwise (· < ·) := by
  have hp : (l.mergeSort (fun x y => decide (x ≤ y))).Pairwise (fun a b => a ≤ b) := by
    have := List.pairwise_mergeSort (le := fun x y : Txx => decide (x ≤ y)) (fun a b c h1 h2 => by
      simp only [decide_eq_true_eq] at *; exact List.le_trans h1 h2) (fun a b => by
      simp only [Bool.or_eq_true, decide_eq_true_eq]; exact List.le_total a b) l
    simpa using this
  unfold srt
  generalize (l.mergeSort fun x y => decide (x ≤ y)) = z at *
  have hle : ∀ i j, i ≤ j → j < z.length → z.toArray[i]! ≤ z.toArray[j]! := by
    intro i j hij hj
    rw [getElem!_pos z.toArray i (by simp; omega), getElem!_pos z.toArray j (by simpa using hj)]
    rcases Nat.eq_or_lt_of_le hij with rfl | h
    · exact List.le_refl _
    · have := List.pairwise_iff_getElem.1 hp i j (by omega) hj h
      simpa using this
  unfold Go.Lib.compact Go.Lib.compactUpTo
  rw [List.pairwise_map]
  have h1 : ((List.range z.length).filter (Go.Lib.keeps z.toArray)).Pairwise (· < ·) := List.Pairwise.filter _ List.pairwise_lt_range
  refine List.Pairwise.imp_of_mem (fun {i j} hi hj hlt => ?_) h1
  have kj := (List.mem_filter.1 hj).2
  have lj := List.mem_range.1 (List.mem_filter.1 hj).1
  unfold Go.Lib.keeps at kj
  have kj' := of_decide_eq_true kj
  have a1 := hle i (j - 1) (by omega) (by omega)
  have a2 := hle (j - 1) j (by omega) lj
  rcases List.le_iff_lt_or_eq.1 a2 with h | h
  · rcases List.le_iff_lt_or_eq.1 a1 with h' | h'
    · exact tlt_trans h' h
    · rw [h']; exact h
  · rcases kj' with e | e
    · omega
    · exact absurd h.symm e
theorem putAll_srt (l : List Txx) : putAll l = srt l :=
  up_ext _ _ (putAll_up _ l rfl) (srt_up l) (fun y => (putAll_mem y _ l rfl).trans (srt_mem l y).symm)
end Go.Proofs.YtblafbbnplfpjaaGreatDoor
namespace Go.Proofs.YtblafbbnplfpjaaGreatDoor
open Go.RowKit Go.Shelf
set_option linter.unusedVariables false
set_option linter.unusedSimpArgs false

theorem cellT {w w' : World} (hb : Below w.heap.size w w') {b off : Nat} {l : List (List UInt8)} {n : Nat} (h : Le elS w (some ⟨b, off, none⟩) n l) {i : Nat} (hi : i < n) : w'.cell? ⟨b, off + i, none⟩ = some (sv (l.getD i [])) := by
  have := (h.after hb).at i hi 0 (sv (l.getD i [])) rfl
  simpa [elS] using this
/-- What put has by i texts. -/
def PuS (s : List UInt8) (t : List (List UInt8)) (up : Bool) (out : List (List UInt8)) : Prop := (up = false ∧ out = t ∧ ∀ x ∈ t, ¬ s < x) ∨ (up = true ∧ out = ins s t ∧ ∃ x ∈ t, s < x)
theorem PuS.len {s : List UInt8} {t out : List (List UInt8)} {up : Bool} (h : PuS s t up out) : out.length ≤ t.length + 1 := by
  rcases h with ⟨-, rfl, -⟩ | ⟨-, rfl, -⟩
  · omega
  · rw [ins_len]; exact Nat.le_refl _
set_option maxHeartbeats 8000000 in
theorem rput_any (l : List (List UInt8)) (s : List UInt8) (a : Option Addr) (cap : Nat) (w : World) (h1 : Le elS w a l.length l) (hl : l.length ≤ 1000) :
    Calls Tryz.prog 45 #[.slice a l.length cap, sv s] w fun e w' => ∃ a' c', e = .returned (.slice a' (putT l s).length c') ∧ Le elS w' a' (putT l s).length (putT l s) ∧ Below w.heap.size w w' := by
  have H1 : Hid (Le elS w a l.length l) := h1
  have D := pamong_any l s a cap w h1 (by omega)
  clear h1
  obtain ⟨Q, hQ⟩ : ∃ q, l.contains s = q := ⟨_, rfl⟩
  rw [hQ] at D
  cases Q with
  | true =>
    have HP : Hid (putT l s = l) := by show _ = _; unfold putT; rw [if_pos hQ]
    rw [HP.out]
    clear hQ
    go_enter Tryz.func45, Tryz.ntmps45
    go_wp2_with fail
    refine D.mono ?_
    rintro e W1 ⟨rfl, hb⟩
    clear D
    go_wp2_with fail
    go_ret
    exact ⟨a, cap, rfl, H1.out.after hb, hb⟩
  | false =>
    have HP : Hid (putT l s = ins s l) := by show _ = _; unfold putT; rw [if_neg (by rw [hQ]; decide)]
    rw [HP.out]
    clear hQ
    go_enter Tryz.func45, Tryz.ntmps45
    go_wp2_with fail
    refine D.mono ?_
    rintro e W1 ⟨rfl, hb⟩
    have HB1 : Hid (Below w.heap.size w W1) := hb
    have HS0 : Hid (PuS s (l.take 0) false []) := .inl ⟨rfl, rfl, fun x hx => by simp at hx⟩
    have HG0 : Hid (Ge elS W1 w.heap.size (.slice none ([] : List (List UInt8)).length 0) []) := Ge.nil _ _
    clear D hb
    go_wp2_with fail
    go_loopw [5, 6, 7] (fun v u j wr => ∃ (i : Nat) (up : Bool) (out : List (List UInt8)) (ao : Option Addr) (co : Nat), v = .slice ao out.length co ∧ u = .bool up ∧ j = .int .i64 i ∧ i ≤ l.length ∧ Hid (PuS s (l.take i) up out) ∧ Hid (Ge elS wr w.heap.size (.slice ao out.length co) out) ∧ Hid (Below w.heap.size w wr)) (fun _ _ j _ => (l.length - (intOf j).toNat : Nat))
    case atStart => exact ⟨0, false, [], none, 0, rfl, rfl, rfl, Nat.zero_le _, HS0.out, HG0.out, HB1.out⟩
    case round =>
      clear HS0 HG0 HB1
      obtain ⟨i, up, out, ao, co, rfl, rfl, rfl, hi, HS, HGwr, HBwr⟩ := hrel
      have hol : out.length ≤ 1001 := by have h9 := HS.out.len; rw [List.length_take] at h9; omega
      have hszwr := HBwr.out.size
      rcases Nat.lt_or_ge i l.length with hlt | hge
      · have hii : (i : Int) < l.length := by omega
        obtain ⟨b1, o1, rfl⟩ := H1.out.ex (by omega)
        have HC : Hid (∀ W, Below w.heap.size w W → W.cell? ⟨b1, o1 + i, none⟩ = some (sv (l.getD i []))) := fun W hW => cellT hW H1.out hlt
        obtain ⟨x, hx⟩ : ∃ x, l.getD i [] = x := ⟨_, rfl⟩
        have hxe : l[i] = x := by rw [← hx, List.getD_eq_getElem?_getD, List.getElem?_eq_getElem hlt]; rfl
        have HTK : Hid (l.take (i + 1) = l.take i ++ [x]) := by show _ = _; rw [List.take_succ_eq_append_getElem hlt, hxe]
        rw [hx] at HC
        clear hx hxe
        have k1 := HC.out wr HBwr.out
        cases up with
        | true =>
          have HS2 : Hid (PuS s (l.take (i + 1)) true (out ++ [x])) := by
            rcases HS.out with ⟨h, -⟩ | ⟨-, rfl, h⟩
            · cases h
            · refine .inr ⟨rfl, ?_, ?_⟩
              · rw [HTK.out, ins_more s x _ h]
              · obtain ⟨z, hz, hsz⟩ := h
                exact ⟨z, by rw [HTK.out]; exact List.mem_append_left _ hz, hsz⟩
          clear HS HTK HC
          go_wp2_with (at_builtin; go_loud (refine wpList_appE rfl _ _ _ rfl elS rfl w.heap.size _ (out) rfl (HGwr.out.al _) wr.heap.size 0 1 1 [x] rfl (Le.one (Va.new wr _ _) rfl) (by omega) (by simp; omega) ?_; intro v8 W4 hg8 hgr8 hob8; have HBW4 : Hid (Below w.heap.size w W4) := (HBwr.out.alloc hszwr _).grown hgr8 (by simp; omega) (fun q hq => HGwr.out.block q hq); obtain ⟨aW4, cW4, e8, -, -, -⟩ := hg8.shape; subst e8; have HGW4 : Hid (Ge elS W4 w.heap.size (.slice aW4 (out.length + 1) cW4) (out ++ [x])) := (by have h9 : (out ++ [x]).length = out.length + 1 := (by simp); rw [← h9]; exact hg8); clear hg8 hgr8 hob8))
          go_roundw
          case rel => exact ⟨i + 1, true, out ++ [x], aW4, cW4, by simp, rfl, by go_num, by omega, HS2.out, by have h9 := HGW4.out; rw [show out.length + 1 = (out ++ [x]).length by simp] at h9; exact h9, HBW4.out⟩
          case measure => simp [intOf]; omega
        | false =>
          have hbl := bytesLess_eq s x
          by_cases hsx : s < x
          · have hb2 : Op.bytesLess s x = true := by rw [hbl]; exact decide_eq_true hsx
            have HS2 : Hid (PuS s (l.take (i + 1)) true (out ++ [s] ++ [x])) := by
              rcases HS.out with ⟨-, rfl, h⟩ | ⟨h, -⟩
              · refine .inr ⟨rfl, ?_, ⟨x, by rw [HTK.out]; simp, hsx⟩⟩
                rw [HTK.out, ins_one s x _ h hsx]
              · cases h
            clear HS HTK hbl hsx
            go_upto_region 11 with (at_builtin; go_loud (refine wpList_appE rfl _ _ _ rfl elS rfl w.heap.size _ (out) rfl (HGwr.out.al _) wr.heap.size 0 1 1 [s] rfl (Le.one (Va.new wr _ _) rfl) (by omega) (by simp; omega) ?_; intro v8 W4 hg8 hgr8 hob8; have HBW4 : Hid (Below w.heap.size w W4) := (HBwr.out.alloc hszwr _).grown hgr8 (by simp; omega) (fun q hq => HGwr.out.block q hq); obtain ⟨aW4, cW4, e8, -, -, -⟩ := hg8.shape; subst e8; have HGW4 : Hid (Ge elS W4 w.heap.size (.slice aW4 (out.length + 1) cW4) (out ++ [s])) := (by have h9 : (out ++ [s]).length = out.length + 1 := (by simp); rw [← h9]; exact hg8); clear hg8 hgr8 hob8))
            have hszW4 := HBW4.out.size
            have k2 := HC.out W4 HBW4.out
            have hl4 : (out ++ [s]).length ≤ 1002 := by simp; omega
            clear k1 HC
            go_wp2_with (at_builtin; go_loud (refine wpList_appE rfl _ _ _ rfl elS rfl w.heap.size _ (out ++ [s]) rfl (HGW4.out.al _) W4.heap.size 0 1 1 [x] rfl (Le.one (Va.new W4 _ _) rfl) (by omega) (by simp; omega) ?_; intro v8 W5 hg8 hgr8 hob8; have HBW5 : Hid (Below w.heap.size w W5) := (HBW4.out.alloc hszW4 _).grown hgr8 (by simp; omega) (fun q hq => HGW4.out.block q hq); obtain ⟨aW5, cW5, e8, -, -, -⟩ := hg8.shape; subst e8; have HGW5 : Hid (Ge elS W5 w.heap.size (.slice aW5 (out.length + 1 + 1) cW5) (out ++ [s] ++ [x])) := (by have h9 : (out ++ [s] ++ [x]).length = out.length + 1 + 1 := (by simp); rw [← h9]; exact hg8); clear hg8 hgr8 hob8))
            go_roundw
            case rel => exact ⟨i + 1, true, out ++ [s] ++ [x], aW5, cW5, by simp, rfl, by go_num, by omega, HS2.out, by have h9 := HGW5.out; rw [show out.length + 1 + 1 = (out ++ [s] ++ [x]).length by simp] at h9; exact h9, HBW5.out⟩
            case measure => simp [intOf]; omega
          · have hb2 : Op.bytesLess s x = false := by rw [hbl]; exact decide_eq_false hsx
            have HS2 : Hid (PuS s (l.take (i + 1)) false (out ++ [x])) := by
              rcases HS.out with ⟨-, rfl, h⟩ | ⟨h, -⟩
              · refine .inl ⟨rfl, HTK.out.symm, fun z hz => ?_⟩
                rw [HTK.out] at hz
                rcases List.mem_append.1 hz with hz | hz
                · exact h z hz
                · rw [List.mem_singleton] at hz; rw [hz]; exact hsx
              · cases h
            clear HS HTK HC hbl hsx
            go_wp2_with (at_builtin; go_loud (refine wpList_appE rfl _ _ _ rfl elS rfl w.heap.size _ (out) rfl (HGwr.out.al _) wr.heap.size 0 1 1 [x] rfl (Le.one (Va.new wr _ _) rfl) (by omega) (by simp; omega) ?_; intro v8 W4 hg8 hgr8 hob8; have HBW4 : Hid (Below w.heap.size w W4) := (HBwr.out.alloc hszwr _).grown hgr8 (by simp; omega) (fun q hq => HGwr.out.block q hq); obtain ⟨aW4, cW4, e8, -, -, -⟩ := hg8.shape; subst e8; have HGW4 : Hid (Ge elS W4 w.heap.size (.slice aW4 (out.length + 1) cW4) (out ++ [x])) := (by have h9 : (out ++ [x]).length = out.length + 1 := (by simp); rw [← h9]; exact hg8); clear hg8 hgr8 hob8))
            go_roundw
            case rel => exact ⟨i + 1, false, out ++ [x], aW4, cW4, by simp, rfl, by go_num, by omega, HS2.out, by have h9 := HGW4.out; rw [show out.length + 1 = (out ++ [x]).length by simp] at h9; exact h9, HBW4.out⟩
            case measure => simp [intOf]; omega
      · have hii : ¬ (i : Int) < l.length := by omega
        obtain rfl : i = l.length := by omega
        cases up with
        | true =>
          have HF : Hid (out = ins s l) := by
            rcases HS.out with ⟨h, -⟩ | ⟨-, h, -⟩
            · cases h
            · rw [List.take_length] at h; exact h
          clear hge hi HS
          go_wp2_with fail
          go_ret
          exact ⟨ao, ⟨co, by rw [← HF.out]; rfl⟩, by rw [← HF.out]; exact HGwr.out.toLe, HBwr.out⟩
        | false =>
          have HF : Hid (out ++ [s] = ins s l) := by
            rcases HS.out with ⟨-, h, h2⟩ | ⟨h, -⟩
            · rw [List.take_length] at h h2; show _ = _; rw [h, ins_end s l h2]
            · cases h
          clear hge hi HS
          go_wp2_with (at_builtin; go_loud (refine wpList_appE rfl _ _ _ rfl elS rfl w.heap.size _ (out) rfl (HGwr.out.al _) wr.heap.size 0 1 1 [s] rfl (Le.one (Va.new wr _ _) rfl) (by omega) (by simp; omega) ?_; intro v8 W4 hg8 hgr8 hob8; have HBW4 : Hid (Below w.heap.size w W4) := (HBwr.out.alloc hszwr _).grown hgr8 (by simp; omega) (fun q hq => HGwr.out.block q hq); obtain ⟨aW4, cW4, e8, -, -, -⟩ := hg8.shape; subst e8; have HGW4 : Hid (Ge elS W4 w.heap.size (.slice aW4 (out.length + 1) cW4) (out ++ [s])) := (by have h9 : (out ++ [s]).length = out.length + 1 := (by simp); rw [← h9]; exact hg8); clear hg8 hgr8 hob8))
          go_ret
          have h9 := HGW4.out.toLe
          rw [show out.length + 1 = (out ++ [s]).length by simp] at h9
          exact ⟨aW4, ⟨cW4, by rw [← HF.out]; simp⟩, by rw [← HF.out]; exact h9, HBW4.out⟩
theorem nms_up {ns : List Nd} {i : Nat} (h : i < ns.length) (c : Int) : putAll (nms c (ns.take (i + 1))) = if (ns.getD i nd0).kd = c then putT (putAll (nms c (ns.take i))) (ns.getD i nd0).nm else putAll (nms c (ns.take i)) := by
  rw [nms_drop h]
  split
  · rw [putAll_snoc]
  · rw [List.append_nil]
theorem nms_few (c : Int) (ns : List Nd) (i : Nat) : (putAll (nms c (ns.take i))).length ≤ i := by
  refine Nat.le_trans (putAll_len _ _ rfl) ?_
  unfold nms
  rw [List.length_map]
  refine Nat.le_trans (List.length_filter_le _ _) ?_
  rw [List.length_take]; omega
set_option maxHeartbeats 8000000 in
theorem rNames_any (ns : List Nd) (a : Option Addr) (cap : Nat) (w : World) (hL : Le elN w a ns.length ns) (h64 : ∀ n ∈ ns, N64 n) :
    Calls Tryz.prog 20 #[.slice a ns.length cap] w fun e w' => (Cond wdB ns ∧ ∃ a1 c1 a2 c2, e = .returned (.tuple #[.slice a1 (srt (nms 4 ns)).length c1, .slice a2 (srt (nms 5 ns)).length c2, .int .i64 0]) ∧ Le elS w' a1 (srt (nms 4 ns)).length (srt (nms 4 ns)) ∧ Le elS w' a2 (srt (nms 5 ns)).length (srt (nms 5 ns)) ∧ Below w.heap.size w w') ∨ (¬ Cond wdB ns ∧ e = .returned (.tuple #[.slice none 0 0, .slice none 0 0, .int .i64 131]) ∧ Below w.heap.size w w') := by
  have C1 := rchk13_any ns a cap w h64 hL
  have HL : Hid (Le elN w a ns.length ns) := hL
  clear hL
  by_cases hc : Cond wdB ns
  · have HC : Hid (Cond wdB ns) := hc
    have hl64 : ns.length ≤ 64 := by
      rcases hc with rfl | h
      · simp
      · exact h.1
    rw [ckE_ok hc] at C1
    clear hc
    go_enter Tryz.func20, Tryz.ntmps20
    go_wp2_with fail
    refine C1.mono ?_
    rintro e W1 ⟨rfl, hb⟩
    have HB1 : Hid (Below w.heap.size w W1) := hb
    clear C1 hb
    go_wp2_with fail
    go_loopw [5, 6, 7] (fun v u j wr => ∃ (i : Nat) (a1 : Option Addr) (c1 : Nat) (a2 : Option Addr) (c2 : Nat), v = .slice a1 (putAll (nms 4 (ns.take i))).length c1 ∧ u = .slice a2 (putAll (nms 5 (ns.take i))).length c2 ∧ j = .int .i64 i ∧ i ≤ ns.length ∧ Hid (Le elS wr a1 (putAll (nms 4 (ns.take i))).length (putAll (nms 4 (ns.take i)))) ∧ Hid (Le elS wr a2 (putAll (nms 5 (ns.take i))).length (putAll (nms 5 (ns.take i)))) ∧ Hid (Below w.heap.size w wr)) (fun _ _ j _ => (ns.length - (intOf j).toNat : Nat))
    case atStart => exact ⟨0, none, 0, none, 0, rfl, rfl, rfl, Nat.zero_le _, Le.nil _ _, Le.nil _ _, HB1.out⟩
    case round =>
      clear HB1
      obtain ⟨i, a1, c1, a2, c2, rfl, rfl, rfl, hi, HL1, HL2, HB⟩ := hrel
      rcases Nat.lt_or_ge i ns.length with hlt | hge
      · have hii : (i : Int) < ns.length := by omega
        obtain ⟨b, off, rfl⟩ := HL.out.ex (by omega)
        obtain ⟨n, hn⟩ : ∃ n, ns.getD i nd0 = n := ⟨_, rfl⟩
        have HK : Hid (∀ W, Below w.heap.size w W → W.cell? ⟨b, off + i * 6, none⟩ = some (.int .i64 n.kd) ∧ W.cell? ⟨b, off + i * 6 + 2, none⟩ = some (sv n.nm)) := fun W hW =>
          ⟨(HL.out.after hW).at i hlt 0 _ (by rw [← hn]; rfl), by rw [Nat.add_assoc]; exact (HL.out.after hW).at i hlt 2 _ (by rw [← hn]; rfl)⟩
        have HU : Hid (∀ c, putAll (nms c (ns.take (i + 1))) = if n.kd = c then putT (putAll (nms c (ns.take i))) n.nm else putAll (nms c (ns.take i))) := fun c => by rw [nms_up hlt, hn]
        have hf1 := nms_few 4 ns i
        have hf2 := nms_few 5 ns i
        clear hn
        obtain ⟨P4, hP4⟩ : ∃ p, putAll (nms 4 (ns.take i)) = p := ⟨_, rfl⟩
        obtain ⟨P5, hP5⟩ : ∃ p, putAll (nms 5 (ns.take i)) = p := ⟨_, rfl⟩
        have HE : Hid (putAll (nms 4 (ns.take (i + 1))) = (if n.kd = 4 then putT P4 n.nm else P4) ∧ putAll (nms 5 (ns.take (i + 1))) = (if n.kd = 5 then putT P5 n.nm else P5)) := ⟨by rw [HU.out 4, hP4], by rw [HU.out 5, hP5]⟩
        rw [hP4] at HL1 hf1 ⊢
        rw [hP5] at HL2 hf2 ⊢
        clear HU hP4 hP5
        obtain ⟨k0, k2⟩ := HK.out wr HB.out
        by_cases e4 : n.kd = 4
        · have q4 : (n.kd == 4) = true := by rw [e4]; rfl
          have q5 : (n.kd == 5) = false := by rw [e4]; rfl
          have HE2 : Hid (putAll (nms 4 (ns.take (i + 1))) = putT P4 n.nm ∧ putAll (nms 5 (ns.take (i + 1))) = P5) := by rw [HE.out.1, HE.out.2, e4]; exact ⟨rfl, rfl⟩
          have D := rput_any P4 n.nm a1 c1 wr HL1.out (by omega)
          clear e4 HE
          go_wp2_with fail
          refine D.mono ?_
          rintro e W2 ⟨a', c', rfl, hl', hb⟩
          have HB2 : Hid (Below w.heap.size w W2) := step HB.out hb
          have HL1' : Hid (Le elS W2 a' (putT P4 n.nm).length (putT P4 n.nm)) := hl'
          have HL2' : Hid (Le elS W2 a2 P5.length P5) := HL2.out.after hb
          obtain ⟨r0, r2⟩ := HK.out W2 HB2.out
          clear k0 k2 hb hl' D HL1 HL2
          go_wp2_with fail
          go_roundw
          case rel => exact ⟨i + 1, a', c', a2, c2, by rw [HE2.out.1], by rw [HE2.out.2], by go_num, by omega, by rw [HE2.out.1]; exact HL1'.out, by rw [HE2.out.2]; exact HL2'.out, HB2.out⟩
          case measure => simp [intOf]; omega
        · have q4 : (n.kd == 4) = false := by simpa using e4
          by_cases e5 : n.kd = 5
          · have q5 : (n.kd == 5) = true := by rw [e5]; rfl
            have HE2 : Hid (putAll (nms 4 (ns.take (i + 1))) = P4 ∧ putAll (nms 5 (ns.take (i + 1))) = putT P5 n.nm) := by rw [HE.out.1, HE.out.2, e5]; exact ⟨rfl, rfl⟩
            have D := rput_any P5 n.nm a2 c2 wr HL2.out (by omega)
            clear e4 e5 HE
            go_wp2_with fail
            refine D.mono ?_
            rintro e W2 ⟨a', c', rfl, hl', hb⟩
            have HB2 : Hid (Below w.heap.size w W2) := step HB.out hb
            have HL1' : Hid (Le elS W2 a1 P4.length P4) := HL1.out.after hb
            have HL2' : Hid (Le elS W2 a' (putT P5 n.nm).length (putT P5 n.nm)) := hl'
            clear k0 k2 hb hl' D HL1 HL2
            go_wp2_with fail
            go_roundw
            case rel => exact ⟨i + 1, a1, c1, a', c', by rw [HE2.out.1], by rw [HE2.out.2], by go_num, by omega, by rw [HE2.out.1]; exact HL1'.out, by rw [HE2.out.2]; exact HL2'.out, HB2.out⟩
            case measure => simp [intOf]; omega
          · have q5 : (n.kd == 5) = false := by simpa using e5
            have HE2 : Hid (putAll (nms 4 (ns.take (i + 1))) = P4 ∧ putAll (nms 5 (ns.take (i + 1))) = P5) := by rw [HE.out.1, HE.out.2, if_neg e4, if_neg e5]; exact ⟨rfl, rfl⟩
            clear e4 e5 HE
            go_wp2_with fail
            go_roundw
            case rel => exact ⟨i + 1, a1, c1, a2, c2, by rw [HE2.out.1], by rw [HE2.out.2], by go_num, by omega, by rw [HE2.out.1]; exact HL1.out, by rw [HE2.out.2]; exact HL2.out, HB.out⟩
            case measure => simp [intOf]; omega
      · have hii : ¬ (i : Int) < ns.length := by omega
        obtain rfl : i = ns.length := by omega
        rw [List.take_length] at HL1 HL2 ⊢
        rw [putAll_srt (nms 4 ns)] at HL1 ⊢
        rw [putAll_srt (nms 5 ns)] at HL2 ⊢
        clear hge hi
        go_wp2_with fail
        refine bodyPost_ret (results_ttt rfl) rfl ?_
        exact .inl ⟨HC.out, a1, c1, a2, ⟨c2, rfl⟩, HL1.out, HL2.out, HB.out⟩
  · have HC : Hid (¬ Cond wdB ns) := hc
    rw [ckE_no hc] at C1
    clear hc
    go_enter Tryz.func20, Tryz.ntmps20
    go_wp2_with fail
    refine C1.mono ?_
    rintro e W1 ⟨rfl, hb⟩
    have HB1 : Hid (Below w.heap.size w W1) := hb
    clear C1 hb
    go_wp2_with fail
    refine bodyPost_ret (results_ttt rfl) rfl ?_
    exact .inr ⟨HC.out, rfl, HB1.out⟩
end Go.Proofs.YtblafbbnplfpjaaGreatDoor
namespace Go.Proofs.YtblafbbnplfpjaaGreatDoor
open Go.RowKit Go.Shelf
set_option linter.unusedVariables false
set_option linter.unusedSimpArgs false

set_option maxHeartbeats 4000000 in
theorem sameTextsL (l : List (List UInt8)) (a1 : Option Addr) (c1 : Nat) (a2 : Option Addr) (c2 : Nat) (w : World) (h1 : Le elS w a1 l.length l) (h2 : Le elS w a2 l.length l) (hl : l.length ≤ 9000000000000) :
    Calls Tryz.prog 22 #[.slice a1 l.length c1, .slice a2 l.length c2] w fun e w' => e = .returned (.bool true) ∧ Below w.heap.size w w' := by
  have H1 : Hid (Le elS w a1 l.length l) := h1
  have H2 : Hid (Le elS w a2 l.length l) := h2
  clear h1 h2
  go_enter Tryz.func22, Tryz.ntmps22
  go_wp2_with fail
  go_loopw [5] (fun j wr => ∃ i : Nat, j = .int .i64 i ∧ i ≤ l.length ∧ Hid (Below w.heap.size w wr)) (fun j _ => (l.length - (intOf j).toNat : Nat))
  case atStart => exact ⟨0, rfl, Nat.zero_le _, Below.refl _ _⟩
  case round =>
    obtain ⟨i, rfl, hi, HB⟩ := hrel
    rcases Nat.lt_or_ge i l.length with hlt | hge
    · have hii : (i : Int) < l.length := by omega
      obtain ⟨b1, o1, rfl⟩ := H1.out.ex (by omega)
      obtain ⟨b2, o2, rfl⟩ := H2.out.ex (by omega)
      have k1 : wr.cell? ⟨b1, o1 + i, none⟩ = some (sv (l.getD i [])) := by have := (H1.out.after HB.out).at i hlt 0 (sv (l.getD i [])) rfl; simpa [elS] using this
      have k2 : wr.cell? ⟨b2, o2 + i, none⟩ = some (sv (l.getD i [])) := by have := (H2.out.after HB.out).at i hlt 0 (sv (l.getD i [])) rfl; simpa [elS] using this
      generalize l.getD i [] = x at *
      go_wp2_with fail
      go_quiet (fail)
      refine nameR wr _ (Q := fun W => Exit.then _ _ _ _ W) (fun wq hcell hBw hsq => ?_)
      have HBq : Hid (Below w.heap.size w wq) := step HB.out hBw
      clear hcell hBw hsq HB k1 k2
      go_wp2_with fail
      go_roundw
      case rel => exact ⟨i + 1, rfl, by omega, HBq.out⟩
      case measure => simp [intOf]; omega
    · obtain rfl : i = l.length := by omega
      clear hge hi
      go_wp2_with fail
      go_ret
      exact ⟨rfl, HB.out⟩
end Go.Proofs.YtblafbbnplfpjaaGreatDoor
namespace Go.Proofs.YtblafbbnplfpjaaGreatDoor
open Go.RowKit Go.Shelf
set_option linter.unusedVariables false

def eu9 : List UInt8 := [101, 117]
def food9 : List UInt8 := [102, 111, 111, 100]
def awK : Fo := .cons ⟨4, 0, eu9, 0, 0, 0⟩ .nil (.cons ndN (.cons ⟨5, 0, food9, 0, 0, 0⟩ .nil .nil) .nil)
def awN : List Nd := (Fo.cons ⟨2, 2, [], 0, 0, 0⟩ awK .nil).flat
theorem wd_eu : wdB eu9 = true := by decide +kernel
theorem wd_food : wdB food9 = true := by decide +kernel
theorem aw_ok : (Fo.cons ⟨2, 2, [], 0, 0, 0⟩ awK .nil).Ok wdB 0 1 := by
  refine ⟨⟨.inl ⟨.inr rfl, by decide, rfl, rfl, rfl, rfl⟩, by decide, by decide, rfl, ?_⟩, trivial⟩
  refine ⟨⟨.inr (.inr (.inl ⟨.inl rfl, rfl, wd_eu, rfl, rfl, rfl⟩)), by decide, by decide, rfl, trivial⟩, ?_⟩
  refine ⟨⟨.inr (.inl ⟨rfl, rfl, rfl, rfl, rfl, rfl⟩), by decide, by decide, rfl, ?_⟩, trivial⟩
  exact ⟨⟨.inr (.inr (.inl ⟨.inr rfl, rfl, wd_food, rfl, rfl, rfl⟩)), by decide, by decide, rfl, trivial⟩, trivial⟩
theorem aw_cond : Cond wdB awN := .inr ⟨by decide, _, _, rfl, aw_ok⟩
theorem aw_64 : ∀ n ∈ awN, N64 n := by
  intro n hn
  have : n ∈ [(⟨2, 2, [], 0, 0, 0⟩ : Nd), ⟨4, 0, eu9, 0, 0, 0⟩, ndN, ⟨5, 0, food9, 0, 0, 0⟩] := hn
  simp at this
  rcases this with rfl | rfl | rfl | rfl <;> (intro x hx; simp [ndN] at hx; omega)
theorem tr_one {s : List UInt8} (h : wdB s = true) : Trs [s] := ⟨by simp, by simp [h], fun j hj => by simp at hj⟩
theorem tr_nil : Trs [] := ⟨by simp, rfl, fun j hj => by simp at hj⟩
theorem aw_one : hoB awN ⟨[eu9], [], 0, 0, 1⟩ = true ∧ hoE awN ⟨[eu9], [], 0, 0, 1⟩ = 0 := by
  have hf : FtOk [eu9] [] 0 0 1 := ⟨tr_one wd_eu, tr_nil, by decide, by decide, by decide, by decide⟩
  have hf' : Fx.Ok ⟨[eu9], [], 0, 0, 1⟩ := hf
  refine ⟨?_, ?_⟩
  · unfold hoB
    rw [if_pos ⟨aw_cond, hf'⟩, hoV_eq (ns := awN) rfl aw_ok]
    simp [val, awK, Fo.ev, Fx.vf, vfa, ndN]
  · unfold hoE
    rw [if_pos aw_cond]; exact ftE_ok hf
theorem aw_two : hoB awN ⟨[eu9], [food9], 0, 0, 1⟩ = false ∧ hoE awN ⟨[eu9], [food9], 0, 0, 1⟩ = 0 := by
  have hf : FtOk [eu9] [food9] 0 0 1 := ⟨tr_one wd_eu, tr_one wd_food, by decide, by decide, by decide, by decide⟩
  have hf' : Fx.Ok ⟨[eu9], [food9], 0, 0, 1⟩ := hf
  refine ⟨?_, ?_⟩
  · unfold hoB
    rw [if_pos ⟨aw_cond, hf'⟩, hoV_eq (ns := awN) rfl aw_ok]
    simp [val, awK, Fo.ev, Fx.vf, vfa, ndN]
  · unfold hoE
    rw [if_pos aw_cond]; exact ftE_ok hf
def bread9 : List UInt8 := [102, 111, 111, 100, 46, 98, 114, 101, 97, 100]
theorem aw_cv : cvB food9 bread9 = true := by decide +kernel
set_option maxHeartbeats 4000000 in
theorem awake13 (w : World) (hT : Tn w) : Calls Tryz.prog 14 #[] w fun e w' => e = .returned (.bool true) ∧ Below w.heap.size w w' := by
  have HT : Hid (Tn w) := hT
  clear hT
  go_enter Tryz.func14, Tryz.ntmps14
  go_upto_region 2 with fail
  refine ent1 w _ _ (Q := fun W => Code.wp _ _ _ _ W) ?_
  intro W1 hb1 hs1 V1
  have HL1 : Hid (Le elN W1 (some ⟨w.heap.size, 0, none⟩) awN.length awN) := (Ge.of (E := elN) (xs := awN) (B := 0) V1 (Nat.zero_le _) rfl rfl (by decide)).toLe
  have HB1 : Hid (Below w.heap.size w W1) := hb1
  clear V1 hb1 hs1
  go_wp2_with fail
  refine ent1 W1 _ _ (Q := fun W => Calls Tryz.prog _ _ W _) ?_
  intro W2 hb2 hs2 V2
  have B2 := step HB1.out hb2
  have HL2 : Hid (Le elN W2 (some ⟨w.heap.size, 0, none⟩) awN.length awN) := HL1.out.after hb2
  have LF : Lf W2 (some ⟨W1.heap.size, 0, none⟩) 1 none 0 ⟨[eu9], [], 0, 0, 1⟩ := ⟨(Ge.of (E := elS) (xs := [eu9]) (B := 0) V2 (Nat.zero_le _) rfl rfl (by decide)).toLe, Le.nil _ _, by constructor <;> decide, by constructor <;> decide, by constructor <;> decide⟩
  have D1 := holds_any awN (some ⟨w.heap.size, 0, none⟩) 4 (some ⟨W1.heap.size, 0, none⟩) 1 none 0 ⟨[eu9], [], 0, 0, 1⟩ W2 HL2.out aw_64 LF (HT.out.to B2)
  rw [aw_one.1, aw_one.2] at D1
  clear LF V2 hs2 hb2
  refine Calls.mono D1 ?_
  rintro e W3 ⟨rfl, hb3⟩
  have B3 := step B2 hb3
  have HL3 : Hid (Le elN W3 (some ⟨w.heap.size, 0, none⟩) awN.length awN) := HL2.out.after hb3
  clear D1 hb3 B2 HL2 HL1 HB1
  go_wp2_with fail
  refine ent2 W3 _ _ _ _ (Q := fun W => Calls Tryz.prog _ _ W _) ?_
  intro W4 hb4 hs4 V4 V5
  have B4 := step B3 hb4
  have HL4 : Hid (Le elN W4 (some ⟨w.heap.size, 0, none⟩) awN.length awN) := HL3.out.after hb4
  have LF : Lf W4 (some ⟨W3.heap.size, 0, none⟩) 1 (some ⟨W3.heap.size + 1, 0, none⟩) 1 ⟨[eu9], [food9], 0, 0, 1⟩ := ⟨(Ge.of (E := elS) (xs := [eu9]) (B := 0) V4 (Nat.zero_le _) rfl rfl (by decide)).toLe, (Ge.of (E := elS) (xs := [food9]) (B := 0) V5 (Nat.zero_le _) rfl rfl (by decide)).toLe, by constructor <;> decide, by constructor <;> decide, by constructor <;> decide⟩
  have D2 := holds_any awN (some ⟨w.heap.size, 0, none⟩) 4 (some ⟨W3.heap.size, 0, none⟩) 1 (some ⟨W3.heap.size + 1, 0, none⟩) 1 ⟨[eu9], [food9], 0, 0, 1⟩ W4 HL4.out aw_64 LF (HT.out.to B4)
  rw [aw_two.1, aw_two.2] at D2
  clear LF V4 V5 hs4 hb4
  refine Calls.mono D2 ?_
  rintro e W5 ⟨rfl, hb5⟩
  have B5 := step B4 hb5
  have D3 := covers_any food9 bread9 W5 (by decide) (by decide)
  rw [aw_cv] at D3
  clear D2 hb5 B4 B3 HL3 HL4
  go_wp2_with fail
  refine Calls.mono D3 ?_
  rintro e W6 ⟨rfl, hb6⟩
  have B6 := step B5 hb6
  clear D3 hb6 B5
  go_wp2_with fail
  go_ret
  exact ⟨rfl, B6⟩
end Go.Proofs.YtblafbbnplfpjaaGreatDoor
