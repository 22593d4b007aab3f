/-
  The walk of OrderNeeds.
-/
import Derived.Test.YtonhooaboieapaaNdW
import Derived.Test.YtonhooaboieapaaKeA
import Derived.Test.YtonhooaboieapaaOvA
import Derived.Test.YtonhooaboieapaaOdW
import Derived.Test.YtonhooaboieapaaOrF
namespace Go.Proofs.Ytonhooaboieapaa
open Go.RowKit Go.Shelf
set_option linter.unusedVariables false
set_option linter.unusedSimpArgs false

theorem NeR.bad2 {w : World} {n : Int} {xs : List Pr} {fr : List Int} {a : Option Addr} {l c : Nat} {k : Int} (h : NeR w n xs fr a l c k) (hc : ckE n xs ≠ 0) : a = none ∧ l = 0 ∧ c = 0 ∧ k = ckE n xs := by
  cases h with
  | bad h => exact ⟨rfl, rfl, rfl, rfl⟩
  | arg h hf => exact absurd h hc
  | ok h hf l hp hm a c hL => exact absurd h hc
theorem NeR.arg2 {w : World} {n : Int} {xs : List Pr} {fr : List Int} {a : Option Addr} {l c : Nat} {k : Int} (h : NeR w n xs fr a l c k) (hc : ckE n xs = 0) (hf : fr.all (ndB n) = false) : a = none ∧ l = 0 ∧ c = 0 ∧ k = 2 := by
  cases h with
  | bad h => exact absurd hc h
  | arg h hf => exact ⟨rfl, rfl, rfl, rfl⟩
  | ok h hf2 l hp hm a c hL => rw [hf] at hf2; cases hf2
theorem NeR.ok2 {w : World} {n : Int} {xs : List Pr} {fr : List Int} {a : Option Addr} {l c : Nat} {k : Int} (h : NeR w n xs fr a l c k) (hc : ckE n xs = 0) (hf : fr.all (ndB n) = true) : k = 0 ∧ ∃ o : List Nat, l = o.length ∧ o.Pairwise (· < ·) ∧ (∀ y, y ∈ o ↔ Nd (Rn (nlf xs)) (fr.map Int.toNat) y) ∧ Li w a o.length (ints o) := by
  cases h with
  | bad h => exact absurd hc h
  | arg h hf2 => rw [hf] at hf2; cases hf2
  | ok h hf2 l hp hm a c hL => exact ⟨rfl, l, rfl, hp, hm, hL⟩
theorem Li.keptB {w w' : World} {a : Option Addr} {len : Nat} {ps : List Int} (h : Li w a len ps) (hk : ∀ p, a = some p → p.block < w.heap.size → w'.heap[p.block]? = w.heap[p.block]?) : Li w' a len ps := by
  refine ⟨h.1, fun h0 => ?_⟩
  obtain ⟨b, off, e, hc⟩ := h.2 h0
  refine ⟨b, off, e, fun i hi => ?_⟩
  have c := hc i hi
  have hb := hk ⟨b, off, none⟩ e (cell_lt c)
  simp only [World.cell?] at c ⊢
  rw [show w'.heap[b]? = w.heap[b]? from hb]; exact c
/-- Two that answer so answer the same. -/
theorem NeR.same {w w' : World} {n : Int} {xs : List Pr} {fr : List Int} {a a' : Option Addr} {l l' c c' : Nat} {e e' : Int} (h : NeR w n xs fr a l c e) (h' : NeR w' n xs fr a' l' c' e') :
    e' = e ∧ ∃ o : List Int, l = o.length ∧ l' = o.length ∧ Li w a o.length o ∧ Li w' a' o.length o ∧ o.length ≤ 4096 := by
  cases h with
  | bad h =>
    obtain ⟨rfl, rfl, rfl, rfl⟩ := h'.bad2 h
    exact ⟨rfl, [], rfl, rfl, Li.nil _ _, Li.nil _ _, by simp⟩
  | arg h hf =>
    obtain ⟨rfl, rfl, rfl, rfl⟩ := h'.arg2 h hf
    exact ⟨rfl, [], rfl, rfl, Li.nil _ _, Li.nil _ _, by simp⟩
  | ok h hf o hp hm a c hL =>
    obtain ⟨rfl, o', rfl, hp', hm', hL'⟩ := h'.ok2 h hf
    have e : o' = o := lt_list_ext hp' hp (fun y => (hm' y).trans (hm y).symm)
    subst e
    obtain ⟨h0, h1, -, h3⟩ := ckE_ok h
    obtain ⟨m, rfl⟩ : ∃ m : Nat, n = m := ⟨n.toNat, by omega⟩
    have hfew : o'.length ≤ m := few_nat (hp.imp (fun h => by omega)) (fun y hy => by
      obtain ⟨x, -, h9⟩ := ((hm y).1 hy).called
      exact (nlf_ok h3 x y h9).2)
    exact ⟨rfl, ints o', by rw [ints_length], by rw [ints_length], by rw [ints_length]; exact hL, by rw [ints_length]; exact hL', by rw [ints_length]; omega⟩
set_option maxRecDepth 20000 in
set_option maxHeartbeats 16000000 in
theorem needs_walk (n : Int) (a : Option Addr) (len cap : Nat) (xs : List Pr) (af : Option Addr) (lf cf : Nat) (fr : List Int) (w : World) (h : La w a len xs) (hl8 : len ≤ 8796093021952) (hn : a = none → len = 0 ∧ cap = 0) (hF : Li w af lf fr) (hnf : af = none → lf = 0 ∧ cf = 0) (hlf : lf ≤ 17592186043904) :
    Calls Try.prog 3 #[.int .i64 n, .slice a len cap, .slice af lf cf] w fun e w' => e = .returned (.bool true) ∧ Below w.heap.size w w' := by
  have HL : Hid (La w a len xs) := h
  have HLn : Hid (xs.length = len) := h.1
  have HF : Hid (Li w af lf fr) := hF
  have HFn : Hid (fr.length = lf) := hF.1
  have hl9 : len ≤ 9000000000000 := by omega
  have hl2 : lf ≤ 20000000000000 := by omega
  have HNo : Hid ((a = none → len = 0 ∧ cap = 0) ∧ (af = none → lf = 0 ∧ cf = 0)) := ⟨hn, hnf⟩
  have hAw := awake17 w
  clear h hn hF hnf
  go_enter Try.func3, Try.ntmps3
  go_wp2_with fail
  refine hAw.mono ?_
  rintro e w1 ⟨rfl, hb1⟩
  have HB1 : Hid (Below w.heap.size w w1) := hb1
  clear hb1 hAw
  go_wp2_with fail
  refine (lentS_any a len cap xs w1 (La.ls (HL.out.after HB1.out)) HNo.out.1 hl9).mono ?_
  rintro e w2 ⟨rfl, hv2, hb2⟩
  have HV2 : Hid (Va w2 w1.heap.size 38 (rowS (xs ++ mkS 12)).toArray) := hv2
  have HB2 : Hid (Below w.heap.size w w2) := step HB1.out hb2
  have HS1 : Hid (w.heap.size ≤ w1.heap.size ∧ w1.heap.size < w2.heap.size) := ⟨HB1.out.size, hv2.lt⟩
  clear hv2 hb2 HB1
  go_wp2_with fail
  refine (lentI_any af lf cf fr w2 (HF.out.after HB2.out) HNo.out.2 hl2).mono ?_
  rintro e w3 ⟨rfl, hv3, hb3⟩
  have HI3 : Hid (OwI w3 w2.heap.size (fr ++ mkI 12)) := hv3
  have HV3 : Hid (Va w3 w1.heap.size 38 (rowS (xs ++ mkS 12)).toArray) := HV2.out.after hb3
  have HB3 : Hid (Below w.heap.size w w3) := step HB2.out hb3
  have HS2 : Hid (w2.heap.size < w3.heap.size) := hv3.lt
  clear hv3 hb3 HV2 HB2
  go_wp2_with fail
  refine (oneeds_new n (some ⟨w1.heap.size, 0, none⟩) len (len + 12) xs (some ⟨w2.heap.size, 0, none⟩) lf (lf + 12) fr w3 (by have h9 := la_pre HV3.out; rwa [HLn.out] at h9) (by have h9 := HI3.out.li; rwa [HFn.out] at h9) (by omega)).mono ?_
  rintro e w4 ⟨a4, l4, c4, k4, rfl, hR, hb4, hn4⟩
  have HR4 : Hid (NeR w4 n xs fr a4 l4 c4 k4 ∧ Nwb w3.heap.size a4) := ⟨hR, hn4⟩
  have HI4 : Hid (OwI w4 w2.heap.size (fr ++ mkI 12)) := HI3.out.after hb4
  have HV4 : Hid (Va w4 w1.heap.size 38 (rowS (xs ++ mkS 12)).toArray) := HV3.out.after hb4
  have HB4 : Hid (Below w.heap.size w w4) := step HB3.out hb4
  have HS4 : Hid (w3.heap.size ≤ w4.heap.size) := hb4.size
  clear hR hb4 hn4 HI3 HV3 HB3
  go_wp2_with fail
  refine (rneeds_any n a len cap xs af lf cf fr w4 (HL.out.after HB4.out) (HF.out.after HB4.out) hlf (fun h => (HNo.out.2 h).2)).mono ?_
  rintro e w5 ⟨a5, l5, c5, k5, rfl, hR, hb5, hn5⟩
  obtain ⟨rfl, o, rfl, rfl, hL4, hL5, ho⟩ := (HR4.out.1.after hb5).same hR
  have HLi4 : Hid (Li w5 a4 o.length o ∧ Nwb w3.heap.size a4) := ⟨hL4, HR4.out.2⟩
  have HLi5 : Hid (Li w5 a5 o.length o ∧ Nwb w3.heap.size a5) := ⟨hL5, fun p hp => Nat.le_trans HS4.out (hn5 p hp)⟩
  have HI5 : Hid (OwI w5 w2.heap.size (fr ++ mkI 12)) := HI4.out.after hb5
  have HV5 : Hid (Va w5 w1.heap.size 38 (rowS (xs ++ mkS 12)).toArray) := HV4.out.after hb5
  have HB5 : Hid (Below w.heap.size w w5) := step HB4.out hb5
  have hkk : (k5 == k5) = true := by simp
  clear hR hb5 hn5 hL4 hL5 HR4 HI4 HV4 HB4
  go_wp2_with fail
  refine (keptS_any a len cap w1.heap.size xs w5 (La.ls (HL.out.after HB5.out)) HV5.out hl9).mono ?_
  rintro e w6 ⟨rfl, hb6⟩
  have HLi4' : Hid (Li w6 a4 o.length o ∧ Nwb w3.heap.size a4) := ⟨HLi4.out.1.after hb6, HLi4.out.2⟩
  have HLi5' : Hid (Li w6 a5 o.length o ∧ Nwb w3.heap.size a5) := ⟨HLi5.out.1.after hb6, HLi5.out.2⟩
  have HI6 : Hid (OwI w6 w2.heap.size (fr ++ mkI 12)) := HI5.out.after hb6
  have HV6 : Hid (Va w6 w1.heap.size 38 (rowS (xs ++ mkS 12)).toArray) := HV5.out.after hb6
  have HB6 : Hid (Below w.heap.size w w6) := step HB5.out hb6
  clear hb6 HLi4 HLi5 HI5 HV5 HB5
  go_wp2_with fail
  refine (keptI_any af lf cf w2.heap.size fr w6 (HF.out.after HB6.out) HI6.out hl2).mono ?_
  rintro e w7 ⟨rfl, hb7⟩
  have HLi4 : Hid (Li w7 a4 o.length o ∧ Nwb w3.heap.size a4) := ⟨HLi4'.out.1.after hb7, HLi4'.out.2⟩
  have HLi5 : Hid (Li w7 a5 o.length o ∧ Nwb w3.heap.size a5) := ⟨HLi5'.out.1.after hb7, HLi5'.out.2⟩
  have HI7 : Hid (OwI w7 w2.heap.size (fr ++ mkI 12)) := HI6.out.after hb7
  have HV7 : Hid (Va w7 w1.heap.size 38 (rowS (xs ++ mkS 12)).toArray) := HV6.out.after hb7
  have HB7 : Hid (Below w.heap.size w w7) := step HB6.out hb7
  clear hb7 HLi4' HLi5' HI6 HV6 HB6
  go_wp2_with fail
  refine (overS_any len w1.heap.size (xs ++ mkS 12) w7 HV7.out (by rw [List.length_append, mkS_length, HLn.out]) hl9).mono ?_
  rintro e w8 ⟨rfl, hb8, hk8⟩
  have hfar : ∀ {a : Option Addr}, Hid (Li w7 a o.length o ∧ Nwb w3.heap.size a) → Hid (Li w8 a o.length o ∧ Nwb w3.heap.size a) := fun {a} hh => ⟨Li.keptB hh.out.1 (fun p hp hlt => hk8 p.block hlt (by have := hh.out.2 p hp; have := HS1.out; have := HS2.out; omega)), hh.out.2⟩
  have HLi4' := hfar HLi4
  have HLi5' := hfar HLi5
  have HI8 : Hid (OwI w8 w2.heap.size (fr ++ mkI 12)) := Va.keptz HI7.out (hk8 _ HI7.out.lt (by have := HS1.out; omega))
  have HB8 : Hid (Below w.heap.size w w8) := HB7.out.trans (hb8.mono HS1.out.1)
  clear hfar hb8 hk8 HLi4 HLi5 HI7 HV7 HB7
  go_wp2_with fail
  refine (overI_any w2.heap.size lf (fr ++ mkI 12) w8 HI8.out (by rw [List.length_append, mkI_length, HFn.out]) hl2).mono ?_
  rintro e w9 ⟨rfl, hb9, hk9⟩
  have hfar : ∀ {a : Option Addr}, Hid (Li w8 a o.length o ∧ Nwb w3.heap.size a) → Hid (Li w9 a o.length o) := fun {a} hh => Li.keptB hh.out.1 (fun p hp hlt => hk9 p.block hlt (by have := hh.out.2 p hp; have := HS1.out; have := HS2.out; omega))
  have HLi4 := hfar HLi4'
  have HLi5 := hfar HLi5'
  have HB9 : Hid (Below w.heap.size w w9) := HB8.out.trans (hb9.mono (by have := HS1.out; omega))
  clear hfar hb9 hk9 HLi4' HLi5' HI8 HB8
  go_wp2_with (go_at_call 14; refine (osame o a4 c4 a5 c5 w9 HLi4.out HLi5.out (by omega)).mono ?_; rintro e w10 ⟨rfl, hb10⟩; have HB10 : Hid (Below w.heap.size w w10) := step HB9.out hb10; clear hb10)
  go_ret
  exact ⟨rfl, HB10.out⟩
theorem needsAll (n : Int) (a : Option Addr) (len cap : Nat) (xs : List Pr) (af : Option Addr) (lf cf : Nat) (fr : List Int) (w : World) (hw : (Lit.int .i64 n).wf = true) (h : La w a len xs) (hc : len ≤ cap) (hb : cap ≤ 8796093021952) (hn : a = none → len = 0 ∧ cap = 0) (h64 : ∀ q ∈ xs, b64 q.1 ∧ b64 q.2) (hF : Li w af lf fr) (hcf : lf ≤ cf) (hbf : cf ≤ 17592186043904) (hnf : af = none → lf = 0 ∧ cf = 0) (h64f : ∀ z ∈ fr, b64 z) :
    Calls Try.prog 3 #[.int .i64 n, .slice a len cap, .slice af lf cf] w fun e w' => e = .returned (.bool true) ∧ Below w.heap.size w w' :=
  needs_walk n a len cap xs af lf cf fr w h (by omega) hn hF hnf (by omega)
end Go.Proofs.Ytonhooaboieapaa
