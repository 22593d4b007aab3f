/-
  numeral.Parse of at most 38 digits to the base 10.
-/
import Derived.Test.YtpfbcicjfnfpgaaReads2
import Derived.Test.YtpfbcicjfnfpgaaJoinFew
namespace Go.Proofs.Ytpfbcicjfnfpgaa
open Go.RowKit Go.Shelf
set_option linter.unusedVariables false

theorem down_map (D : Nat → Dg) : ∀ (ds : List Dg), (∀ i d, ds[i]? = some d → D i = d) → ∀ B, dsum B D (down ds.length ds.length) = pval B ds.reverse := by
  intro ds h B
  have e : (down ds.length ds.length).map D = ds.reverse := by
    apply List.ext_getElem?
    intro i
    by_cases hi : i < ds.length
    · rw [List.getElem?_reverse hi]
      have h1 : (down ds.length ds.length)[i]? = some (ds.length - 1 - i) := by
        unfold down
        rw [List.getElem?_map, List.getElem?_range hi]; rfl
      rw [List.getElem?_map, h1]
      obtain ⟨d, hd⟩ : ∃ d, ds[ds.length - 1 - i]? = some d := ⟨_, List.getElem?_eq_getElem (by omega)⟩
      rw [hd, ← h _ d hd]; rfl
    · rw [List.getElem?_eq_none (by simp [down]; omega), List.getElem?_eq_none (by simp; omega)]
  unfold dsum pval
  rw [← e, List.foldl_map]
theorem ten38_lt {n V : Nat} (h : V < 10 ^ n) (hn : n ≤ 38) : (V : Int) < pw 4096 := by
  have h1 : V < 10 ^ 38 := Nat.lt_of_lt_of_le h (Nat.pow_le_pow_right (by omega) hn)
  have h2 : ((10 ^ 38 : Nat) : Int) ≤ pw 2 := by decide
  have h3 : pw 2 ≤ pw 4096 := pw_mono (by omega)
  omega
set_option maxHeartbeats 4000000 in
set_option maxRecDepth 20000 in
theorem parse_few (s : ByteArray) (hn0 : 0 < s.size) (hn1 : s.size ≤ 38) (hd : Dig 10 s.data.toList) (w : World) :
    Calls Try.prog 29 #[.string s, .int .i64 10] w fun e W' => ∃ a l c zs, e = .returned (.tuple #[.agg #[.slice a l c], .int .i64 0, .int .i64 0]) ∧ Nt W' a l c zs ∧ num zs = tv 10 s.data.toList ∧ Below w.heap.size w W' := by
  have HD : Hid (Dig 10 s.data.toList) := hd
  clear hd
  go_enter Try.func29, Try.ntmps29
  go_wp2_with fail
  refine ent1 w _ _ (Q := fun W => Calls Try.prog _ _ W _) ?_
  intro w0 B0 hs V0
  refine (isBase_any 10 (by omega) (by omega) w0).mono ?_
  rintro e w' ⟨rfl, rfl⟩
  go_wp2_with fail
  refine (greatPower_ten _).mono ?_
  rintro e w' ⟨rfl, rfl⟩
  go_wp2_with fail
  refine (read_any s 10 19 (by omega) (by omega) (by omega) (by omega) (by decide) hn0 (by omega) _).mono ?_
  rintro e w1 ⟨hb1, h | ⟨k, hk, -, -, hbad⟩⟩
  · obtain ⟨-, g, cap, ds, rfl, -, hg, hcell, hN, hV, hcnt, -⟩ := h
    have hlen : ds.length ≤ 2 := by
      rcases Nat.lt_or_ge 2 ds.length with h | h
      · have := hcnt (fun e => by rw [e] at h; simp at h)
        omega
      · exact h
    replace V0 := Va.after hb1 V0
    replace B0 := step B0 hb1
    go_wp2_with fail
    refine (small_pos 10000000000000000000 ⟨by omega, by omega⟩ (by omega) _).mono ?_
    rintro e w2 ⟨rfl, h2, hb2⟩
    have HC : Hid (∀ j, j < ds.length → w2.cell? ⟨g, 0 + j, none⟩ = some (dv (ds.getD j d0))) := fun j hj => by
      rw [Nat.zero_add]
      refine (hb2.cell (p := ⟨g, j, none⟩) hg).trans (hcell j _ ?_)
      rw [List.getD_eq_getElem?_getD, List.getElem?_eq_getElem hj]; rfl
    have HN2 : Hid (∀ j, Nt w2 (ds.getD j d0).1 (ds.getD j d0).2.1 (ds.getD j d0).2.2.1 (ds.getD j d0).2.2.2) := fun j => by
      rw [List.getD_eq_getElem?_getD]
      cases hj : ds[j]? with
      | none => exact Nt.nil _
      | some d => exact Nt.after hb2 (hN d (List.mem_of_getElem? hj))
    have hg2 : g < w2.heap.size := Nat.lt_of_lt_of_le hg hb2.size
    replace V0 := Va.after hb2 V0
    replace B0 := step B0 hb2
    have HV : Hid (dsum (num [10000000000000000000]) (fun j => ds.getD j d0) (down ds.length ds.length) = tv 10 s.data.toList) := by
      rw [down_map _ ds (fun i d h => by rw [List.getD_eq_getElem?_getD, h]; rfl)]
      exact hV
    clear hV hcnt hN hcell hb1 hb2
    go_wp2_with fail
    refine (joined_few g 0 ds.length cap (fun j => ds.getD j d0) _ _ _ [10000000000000000000] w2 hlen hg2 HC.out HN2.out h2 (by simp [num])).mono ?_
    rintro e w3 ⟨er, a, l, c, ws, rfl, h3, hA, hb3⟩
    have hR : er = 0 ∧ num ws = tv 10 s.data.toList := by
      rcases hA.out with ⟨h, h', -⟩ | ⟨-, -, -, -, -, h⟩
      · exact ⟨h, h'.trans HV.out⟩
      · rw [HV.out] at h
        have hl := tv_lt HD.out
        rw [← Go.Lib.size_eq s] at hl
        have := ten38_lt hl hn1
        generalize pw 4096 = P at *
        omega
    obtain ⟨rfl, hw⟩ := hR
    have HW : Hid (num ws = tv 10 s.data.toList) := hw
    replace V0 := Va.after hb3 V0
    replace B0 := step B0 hb3
    clear hA h2 hw HV
    have c0 := V0.cell
    have f0 := V0.frozen 0
    have l0 := V0.lt
    have m0 := Nat.le_of_lt l0
    go_wp2_with fail
    have B1 := B0.setCell (p := ⟨w.heap.size, 0, none⟩) (Nat.le_refl _) (.slice a l c)
    refine bodyPost_ret (results_ctt rfl rfl ((V0.set _).old _)) rfl ?_
    exact ⟨a, l, c, ws, rfl, (h3.store V0 _).al' _, HW.out, B1.alloc B1.size _⟩
  · exfalso
    have := HD.out s[k] (by show s.data[k] ∈ s.data.toList; simp)
    omega
end Go.Proofs.Ytpfbcicjfnfpgaa
