/-
  The walk of SpanAlgebra.
-/
import Derived.Test.YtfkcglfaakkjcabAlD
import Derived.Test.YtfkcglfaakkjcabSp9
import Derived.Deep.RegionHeld3
namespace Go.Proofs.Ytfkcglfaakkjcab
open Go.RowKit Go.Shelf
set_option linter.unusedVariables false
set_option linter.unusedSimpArgs false

/-- Six sets that are there. -/
structure Six (W : World) (p1 p2 p3 p4 p5 p6 : Nat) (s t u c m n : List Pr) : Prop where
  s : St W p1 s
  t : St W p2 t
  u : St W p3 u
  c : St W p4 c
  m : St W p5 m
  n : St W p6 n
theorem Six.after {W W' : World} {p1 p2 p3 p4 p5 p6 : Nat} {s t u c m n : List Pr} (h : Six W p1 p2 p3 p4 p5 p6 s t u c m n) (hb : Below W.heap.size W W') : Six W' p1 p2 p3 p4 p5 p6 s t u c m n :=
  ⟨h.s.after hb, h.t.after hb, h.u.after hb, h.c.after hb, h.m.after hb, h.n.after hb⟩
theorem one_al {w X : World} {b i : Nat} {x0 x1 : Int} {o : Obj} (h : X.cell? ⟨b, i, none⟩ = some (.int .i64 x0) ∧ X.cell? ⟨b, i + 1, none⟩ = some (.int .i64 x1) ∧ Hid (Below w.heap.size w X ∧ b < w.heap.size)) :
    (X.alloc o).cell? ⟨b, i, none⟩ = some (.int .i64 x0) ∧ (X.alloc o).cell? ⟨b, i + 1, none⟩ = some (.int .i64 x1) ∧ Hid (Below w.heap.size w (X.alloc o) ∧ b < w.heap.size) := by
  obtain ⟨h1, h2, h3, h4⟩ := h
  have hb : Below X.heap.size X (X.alloc o) := (Below.refl _ _).alloc (Nat.le_refl _) _
  exact ⟨(hb.cell (p := ⟨b, i, none⟩) (cell_lt h1)).trans h1, (hb.cell (p := ⟨b, i + 1, none⟩) (cell_lt h2)).trans h2, h3.alloc h3.size _, h4⟩
theorem one_dr {w X : World} {b i : Nat} {x0 x1 : Int} (h : X.cell? ⟨b, i, none⟩ = some (.int .i64 x0) ∧ X.cell? ⟨b, i + 1, none⟩ = some (.int .i64 x1) ∧ Hid (Below w.heap.size w X ∧ b < w.heap.size)) :
    X.drew.cell? ⟨b, i, none⟩ = some (.int .i64 x0) ∧ X.drew.cell? ⟨b, i + 1, none⟩ = some (.int .i64 x1) ∧ Hid (Below w.heap.size w X.drew ∧ b < w.heap.size) := by
  obtain ⟨h1, h2, h3, h4⟩ := h
  exact ⟨h1, h2, ⟨h3.os, h3.tape, h3.output, h3.size, h3.block⟩, h4⟩
theorem one_gr {w X w3 : World} {v : Value} {b i : Nat} {x0 x1 : Int} (h : X.cell? ⟨b, i, none⟩ = some (.int .i64 x0) ∧ X.cell? ⟨b, i + 1, none⟩ = some (.int .i64 x1) ∧ Hid (Below w.heap.size w X ∧ b < w.heap.size)) (hgr : X.grownBy w3 v.ownBlock) (hle : w.heap.size ≤ X.heap.size) (hbk : ∀ k, v.ownBlock = some k → w.heap.size ≤ k) :
    w3.cell? ⟨b, i, none⟩ = some (.int .i64 x0) ∧ w3.cell? ⟨b, i + 1, none⟩ = some (.int .i64 x1) ∧ Hid (Below w.heap.size w w3 ∧ b < w.heap.size) := by
  obtain ⟨h1, h2, h3, h4⟩ := h
  have hb : Below w.heap.size X w3 := (Below.refl _ _).grown hgr hle hbk
  exact ⟨(hb.cell (p := ⟨b, i, none⟩) h4).trans h1, (hb.cell (p := ⟨b, i + 1, none⟩) h4).trans h2, h3.trans hb, h4⟩
set_option maxRecDepth 20000 in
set_option maxHeartbeats 20000000 in
theorem alg_walk (a : Option Addr) (len cap : Nat) (ps : List Pr) (b : Option Addr) (lb cb : Nat) (qs : List Pr) (c : Option Addr) (lc cc : Nat) (zs : List Int) (w : World) (h : Ls w a len ps) (hc : len ≤ cap) (hcap : cap ≤ 8796093021952) (hn : a = none → len = 0 ∧ cap = 0) (g : ∀ q ∈ ps, b64 q.1 ∧ b64 q.2)
    (h' : Ls w b lb qs) (hc' : lb ≤ cb) (hcap' : cb ≤ 8796093021952) (hn' : b = none → lb = 0 ∧ cb = 0) (g' : ∀ q ∈ qs, b64 q.1 ∧ b64 q.2)
    (k : Ld w c lc zs) (kc : lc ≤ cc) (kcap : cc ≤ 17592186043904) (kn : c = none → lc = 0 ∧ cc = 0) (kg : ∀ z ∈ zs, b64 z) :
    Calls Try.prog 3 #[.slice a len cap, .slice b lb cb, .slice c lc cc] w fun e w' => e = .returned (.bool true) ∧ Below w.heap.size w w' := by
  obtain rfl := h.1
  obtain rfl := h'.1
  obtain rfl := k.1
  have HL : Hid (Ls w a ps.length ps) := h
  have HL' : Hid (Ls w b qs.length qs) := h'
  have HK : Hid (Ld w c zs.length zs) := k
  have HN : Hid (a = none → ps.length = 0 ∧ cap = 0) := hn
  have HN' : Hid (b = none → qs.length = 0 ∧ cb = 0) := hn'
  have HNK : Hid (c = none → zs.length = 0 ∧ cc = 0) := kn
  have aw := awake_any w
  clear h h' k g g' kg kn hn hn'
  go_enter Try.func3, Try.ntmps3
  go_wp2_with (go_at_call 7; refine aw.mono ?_; rintro e w1 ⟨rfl, hb1⟩)
  refine (small_any a ps.length cap ps w1 (HL.out.after hb1) (by omega)).mono ?_
  rintro e w2 ⟨rfl, hb2⟩
  have HB2 : Hid (Below w.heap.size w w2) := step hb1 hb2
  clear aw hb1 hb2
  by_cases hs : Sml ps
  case neg =>
    rw [smB_false hs]
    clear hs
    go_wp2_with fail
    go_ret
    exact ⟨rfl, HB2.out⟩
  rw [smB_true hs]
  have HM : Hid (∀ p ∈ ps, May p) := hs.2
  have h5 := hs.1
  clear hs
  go_wp2_with fail
  refine (small_any b qs.length cb qs w2 (HL'.out.after HB2.out) (by omega)).mono ?_
  rintro e w3 ⟨rfl, hb3⟩
  have HB3 : Hid (Below w.heap.size w w3) := step HB2.out hb3
  clear HB2 hb3
  by_cases hs : Sml qs
  case neg =>
    rw [smB_false hs]
    clear hs
    go_wp2_with fail
    go_ret
    exact ⟨rfl, HB3.out⟩
  rw [smB_true hs]
  have HM' : Hid (∀ p ∈ qs, May p) := hs.2
  have h6 := hs.1
  clear hs
  by_cases hz : zs.length ≤ 500
  case neg =>
    have hz' : (500 : Int) < zs.length := by omega
    go_wp2_with fail
    go_ret
    exact ⟨rfl, HB3.out⟩
  have hz' : ¬ (500 : Int) < zs.length := by omega
  go_wp2_with fail
  refine (copy_any a ps.length cap ps w3 (HL.out.after HB3.out) HN.out (by omega)).mono ?_
  rintro e w4 ⟨v4, rfl, hg4, hb4⟩
  have HB4 : Hid (Below w.heap.size w w4) := step HB3.out hb4
  obtain ⟨a4, c4, rfl, -, -, -⟩ := hg4.shape
  have HG4 : Hid (Ls w4 a4 ps.length ps) := hg4.ls
  clear hg4 hb4 HB3
  go_wp2_with fail
  refine (of_ok a4 ps.length c4 ps w4 HG4.out HM.out (by omega)).mono ?_
  rintro e w5 ⟨p1, s, rfl, st5, he5, hb5⟩
  have HB5 : Hid (Below w.heap.size w w5) := step HB4.out hb5
  have HS5 : Hid (St w5 p1 s) := st5
  clear hb5 HG4 HB4 st5
  go_wp2_with fail
  refine (copy_any b qs.length cb qs w5 (HL'.out.after HB5.out) HN'.out (by omega)).mono ?_
  rintro e w6 ⟨v6, rfl, hg6, hb6⟩
  have HB6 : Hid (Below w.heap.size w w6) := step HB5.out hb6
  have HS6 : Hid (St w6 p1 s) := HS5.out.after hb6
  obtain ⟨a6, c6, rfl, -, -, -⟩ := hg6.shape
  have HG6 : Hid (Ls w6 a6 qs.length qs) := hg6.ls
  clear hg6 hb6 HB5 HS5
  go_wp2_with fail
  refine (of_ok a6 qs.length c6 qs w6 HG6.out HM'.out (by omega)).mono ?_
  rintro e w7 ⟨p2, t, rfl, st7, he7, hb7⟩
  have HB7 : Hid (Below w.heap.size w w7) := step HB6.out hb7
  have HS7 : Hid (St w7 p1 s ∧ St w7 p2 t) := ⟨HS6.out.after hb7, st7⟩
  clear hb7 HG6 HB6 HS6 st7
  go_wp2_with fail
  refine (callsIn_wide.1 (union_in p1 p2 s t w7 HS7.out.1 HS7.out.2)).mono ?_
  rintro e w8 ⟨u, hu, hr, hb8⟩
  have hls : s.length ≤ 500 := by have := length_or (a := ps) (b := []) HS7.out.1.1 (fun d => by rw [he5.out]; simp [inS_nil]); simp at this; omega
  have hlt : t.length ≤ 500 := by have := length_or (a := qs) (b := []) HS7.out.2.1 (fun d => by rw [he7.out]; simp [inS_nil]); simp at this; omega
  have hlu : u.length ≤ 1000 := by have := length_or hu.out.1 hu.out.2; omega
  obtain ⟨p3, rfl, st8⟩ := hr.is (by omega)
  have HB8 : Hid (Below w.heap.size w w8) := step HB7.out hb8
  have HS8 : Hid (St w8 p1 s ∧ St w8 p2 t ∧ St w8 p3 u) := ⟨HS7.out.1.after hb8, HS7.out.2.after hb8, st8⟩
  clear hb8 HB7 HS7 st8 hr
  go_wp2_with fail
  refine (callsIn_wide.1 (cut_in p1 p2 s t w8 HS8.out.1 HS8.out.2.1)).mono ?_
  rintro e w9 ⟨x, hx, hr, hb9⟩
  have hlx : x.length ≤ 1000 := by have := length_and hx.out.1 hx.out.2; omega
  obtain ⟨p4, rfl, st9⟩ := hr.is (by omega)
  have HB9 : Hid (Below w.heap.size w w9) := step HB8.out hb9
  have HS9 : Hid (St w9 p1 s ∧ St w9 p2 t ∧ St w9 p3 u ∧ St w9 p4 x) := ⟨HS8.out.1.after hb9, HS8.out.2.1.after hb9, HS8.out.2.2.after hb9, st9⟩
  clear hb9 HB8 HS8 st9 hr
  go_wp2_with fail
  refine (callsIn_wide.1 (minus_in p1 p2 s t w9 HS9.out.1 HS9.out.2.1)).mono ?_
  rintro e w10 ⟨m, hm, hr, hb10⟩
  have hlm : m.length ≤ 1000 := by have := length_minus hm.out.1 hm.out.2; omega
  obtain ⟨p5, rfl, st10⟩ := hr.is (by omega)
  have HB10 : Hid (Below w.heap.size w w10) := step HB9.out hb10
  have HS10 : Hid (St w10 p1 s ∧ St w10 p2 t ∧ St w10 p3 u ∧ St w10 p4 x ∧ St w10 p5 m) := ⟨HS9.out.1.after hb10, HS9.out.2.1.after hb10, HS9.out.2.2.1.after hb10, HS9.out.2.2.2.after hb10, st10⟩
  clear hb10 HB9 HS9 st10 hr
  go_wp2_with fail
  refine (callsIn_wide.1 (minus_in p2 p1 t s w10 HS10.out.2.1 HS10.out.1)).mono ?_
  rintro e w11 ⟨n, hnn, hr, hb11⟩
  have hln : n.length ≤ 1000 := by have := length_minus hnn.out.1 hnn.out.2; omega
  obtain ⟨p6, rfl, st11⟩ := hr.is (by omega)
  have HB11 : Hid (Below w.heap.size w w11) := step HB10.out hb11
  have HX : Hid (Six w11 p1 p2 p3 p4 p5 p6 s t u x m n) := ⟨HS10.out.1.after hb11, HS10.out.2.1.after hb11, HS10.out.2.2.1.after hb11, HS10.out.2.2.2.1.after hb11, HS10.out.2.2.2.2.after hb11, st11⟩
  have HD : Hid (dys u + dys x = dys s + dys t ∧ dys m + dys x + dys n = dys u) := dys_id HX.out.s.1 HX.out.t.1 HX.out.u.1 HX.out.c.1 HX.out.m.1 HX.out.n.1 hu.out.2 hx.out.2 hm.out.2 hnn.out.2
  have HI : Hid (∀ d, (inS s d ↔ inS ps d) ∧ (inS t d ↔ inS qs d) ∧ (inS u d ↔ inS ps d ∨ inS qs d) ∧ (inS x d ↔ inS ps d ∧ inS qs d) ∧ (inS m d ↔ inS ps d ∧ ¬ inS qs d) ∧ (inS n d ↔ inS qs d ∧ ¬ inS ps d)) := fun d => ⟨he5.out d, he7.out d, by rw [← he5.out, ← he7.out]; exact hu.out.2 d, by rw [← he5.out, ← he7.out]; exact hx.out.2 d, by rw [← he5.out, ← he7.out]; exact hm.out.2 d, by rw [← he5.out, ← he7.out]; exact hnn.out.2 d⟩
  clear hb11 HB10 HS10 st11 hr hu hx hm hnn he5 he7
  go_wp2_with fail
  have D1 : Hid (∀ W, St W p1 s → Calls Try.prog 14 #[.pointer (some ⟨p1, 0, none⟩)] W fun e w' => e = .returned (.int .i64 (dys s)) ∧ Below W.heap.size W w') := fun W h => days_any p1 s W h
  have b1 : 0 ≤ dys s ∧ dys s ≤ 3652059000 := ⟨dys_nonneg HX.out.s.1.1, by have := dys_le HX.out.s.1.1; omega⟩
  have D2 : Hid (∀ W, St W p2 t → Calls Try.prog 14 #[.pointer (some ⟨p2, 0, none⟩)] W fun e w' => e = .returned (.int .i64 (dys t)) ∧ Below W.heap.size W w') := fun W h => days_any p2 t W h
  have b2 : 0 ≤ dys t ∧ dys t ≤ 3652059000 := ⟨dys_nonneg HX.out.t.1.1, by have := dys_le HX.out.t.1.1; omega⟩
  have D3 : Hid (∀ W, St W p3 u → Calls Try.prog 14 #[.pointer (some ⟨p3, 0, none⟩)] W fun e w' => e = .returned (.int .i64 (dys u)) ∧ Below W.heap.size W w') := fun W h => days_any p3 u W h
  have b3 : 0 ≤ dys u ∧ dys u ≤ 3652059000 := ⟨dys_nonneg HX.out.u.1.1, by have := dys_le HX.out.u.1.1; omega⟩
  have D4 : Hid (∀ W, St W p4 x → Calls Try.prog 14 #[.pointer (some ⟨p4, 0, none⟩)] W fun e w' => e = .returned (.int .i64 (dys x)) ∧ Below W.heap.size W w') := fun W h => days_any p4 x W h
  have b4 : 0 ≤ dys x ∧ dys x ≤ 3652059000 := ⟨dys_nonneg HX.out.c.1.1, by have := dys_le HX.out.c.1.1; omega⟩
  have D5 : Hid (∀ W, St W p5 m → Calls Try.prog 14 #[.pointer (some ⟨p5, 0, none⟩)] W fun e w' => e = .returned (.int .i64 (dys m)) ∧ Below W.heap.size W w') := fun W h => days_any p5 m W h
  have b5 : 0 ≤ dys m ∧ dys m ≤ 3652059000 := ⟨dys_nonneg HX.out.m.1.1, by have := dys_le HX.out.m.1.1; omega⟩
  have D6 : Hid (∀ W, St W p6 n → Calls Try.prog 14 #[.pointer (some ⟨p6, 0, none⟩)] W fun e w' => e = .returned (.int .i64 (dys n)) ∧ Below W.heap.size W w') := fun W h => days_any p6 n W h
  have b6 : 0 ≤ dys n ∧ dys n ≤ 3652059000 := ⟨dys_nonneg HX.out.n.1.1, by have := dys_le HX.out.n.1.1; omega⟩
  generalize dys s = d1 at *
  generalize dys t = d2 at *
  generalize dys u = d3 at *
  generalize dys x = d4 at *
  generalize dys m = d5 at *
  generalize dys n = d6 at *
  obtain ⟨e1, e2⟩ := HD
  have D3' : Hid (∀ W, St W p3 u → Calls Try.prog 14 #[.pointer (some ⟨p3, 0, none⟩)] W fun e w' => e = .returned (.int .i64 (d5 + d4 + d6)) ∧ Below W.heap.size W w') := by show ∀ W, _; rw [e2]; exact D3.out
  have n1 : IntKind.i64.wrap (d3 + d4) = d3 + d4 := by rw [IntKind.wrap_i64]; omega
  have n2 : IntKind.i64.wrap (d1 + d2) = d1 + d2 := by rw [IntKind.wrap_i64]; omega
  have n3 : IntKind.i64.wrap (d5 + d4) = d5 + d4 := by rw [IntKind.wrap_i64]; omega
  have n4 : IntKind.i64.wrap (d5 + d4 + d6) = d5 + d4 + d6 := by rw [IntKind.wrap_i64]; omega
  clear b1 b2 b3 b4 b5 b6 e2
  refine (D3.out w11 HX.out.u).mono ?_
  rintro e w12 ⟨rfl, hb12⟩
  replace HX : Hid (Six w12 p1 p2 p3 p4 p5 p6 s t u x m n) := HX.out.after hb12
  have HB12 : Hid (Below w.heap.size w w12) := step HB11.out hb12
  clear hb12 HB11
  go_wp2_with fail
  refine (D4.out w12 HX.out.c).mono ?_
  rintro e w13 ⟨rfl, hb13⟩
  replace HX : Hid (Six w13 p1 p2 p3 p4 p5 p6 s t u x m n) := HX.out.after hb13
  have HB13 : Hid (Below w.heap.size w w13) := step HB12.out hb13
  clear hb13 HB12
  go_wp2_with fail
  refine (D1.out w13 HX.out.s).mono ?_
  rintro e w14 ⟨rfl, hb14⟩
  replace HX : Hid (Six w14 p1 p2 p3 p4 p5 p6 s t u x m n) := HX.out.after hb14
  have HB14 : Hid (Below w.heap.size w w14) := step HB13.out hb14
  clear hb14 HB13
  go_wp2_with fail
  refine (D2.out w14 HX.out.t).mono ?_
  rintro e w15 ⟨rfl, hb15⟩
  replace HX : Hid (Six w15 p1 p2 p3 p4 p5 p6 s t u x m n) := HX.out.after hb15
  have HB15 : Hid (Below w.heap.size w w15) := step HB14.out hb15
  clear hb15 HB14
  go_wp2_with fail
  refine (D5.out w15 HX.out.m).mono ?_
  rintro e w16 ⟨rfl, hb16⟩
  replace HX : Hid (Six w16 p1 p2 p3 p4 p5 p6 s t u x m n) := HX.out.after hb16
  have HB16 : Hid (Below w.heap.size w w16) := step HB15.out hb16
  clear hb16 HB15
  go_wp2_with fail
  refine (D4.out w16 HX.out.c).mono ?_
  rintro e w17 ⟨rfl, hb17⟩
  replace HX : Hid (Six w17 p1 p2 p3 p4 p5 p6 s t u x m n) := HX.out.after hb17
  have HB17 : Hid (Below w.heap.size w w17) := step HB16.out hb17
  clear hb17 HB16
  go_wp2_with fail
  refine (D6.out w17 HX.out.n).mono ?_
  rintro e w18 ⟨rfl, hb18⟩
  replace HX : Hid (Six w18 p1 p2 p3 p4 p5 p6 s t u x m n) := HX.out.after hb18
  have HB18 : Hid (Below w.heap.size w w18) := step HB17.out hb18
  clear hb18 HB17
  go_wp2_with fail
  refine (D3'.out w18 HX.out.u).mono ?_
  rintro e w19 ⟨rfl, hb19⟩
  replace HX : Hid (Six w19 p1 p2 p3 p4 p5 p6 s t u x m n) := HX.out.after hb19
  have HB19 : Hid (Below w.heap.size w w19) := step HB18.out hb19
  clear hb19 HB18 e1
  have hy := HB19.out.size
  have HLy : Hid (Ls w19 a ps.length ps) := HL.out.after HB19.out
  have HLz : Hid (Ls w19 b qs.length qs) := HL'.out.after HB19.out
  go_wp2_with (at_builtin; refine wpList_appDn rfl _ _ rfl w19.heap.size _ _ rfl (Gd.new4 w19 _ (Nat.le_refl _) _ _ _ _) c zs.length cc zs rfl HNK.out ((HK.out.after HB19.out).after ((Below.refl _ _).alloc (Nat.le_refl _) _)) (by simp; omega) (by simp) ?_; intro v1 W1 hg1 hgr1; obtain ⟨a2, c2, rfl, -, -⟩ := hg1.shape)
  have hW1 : Hid (∃ at0 : List Int, at0.length ≤ 504 ∧ Gd W1 w19.heap.size (.slice a2 (zs.length + 1 + 1 + 1 + 1) c2) at0 ∧ Below w19.heap.size w19 W1) := ⟨[-1, 0, 3652058, 3652059] ++ zs, by simp; omega, by rw [show zs.length + 1 + 1 + 1 + 1 = ([-1, 0, 3652058, 3652059] ++ zs).length by simp]; exact hg1, ((Below.refl _ _).alloc (Nat.le_refl _) _).trans ((Below.refl _ _).grown hgr1 (by simp) (fun k hk => by cases hk; exact Nat.le_refl _))⟩
  clear n1 n2 n3 n4 hg1 hgr1
  go_loopw [19, 20] (fun s k wr => ∃ (i : Nat) (acc : List Int), i ≤ ps.length ∧ k = .int .i64 (i : Int) ∧ Hid (acc.length ≤ 504 + 4 * i) ∧ Gd wr w19.heap.size s acc ∧ Below w19.heap.size w19 wr) (fun _ k _ => ps.length - (intOf k).toNat)
  case atStart => obtain ⟨at0, h1, h2, h3⟩ := hW1; exact ⟨0, at0, Nat.zero_le _, by go_num, h1, h2, h3⟩
  case round =>
    obtain ⟨i, acc0, hi, rfl, hO0, hG0, hB0⟩ := hrel
    obtain ⟨av0, cv0, rfl, -, -⟩ := hG0.shape
    have HG0 : Hid (Gd wr w19.heap.size (.slice av0 acc0.length cv0) acc0) := hG0
    rcases Nat.lt_or_ge i ps.length with hlt | hge
    · obtain ⟨bb, off, rfl, hcc⟩ := (HLy.out.after hB0).2 (by omega)
      have c0 := (hcc i hlt).1
      have c1 := (hcc i hlt).2
      have hmj := HM.out _ (getD_mem hlt)
      have HAL : Hid (acc0.length + 4 ≤ 8796093022208) := by have := hO0.out; show _ ≤ _; omega
      have HAM : Hid (acc0.length + 4 ≤ 504 + 4 * (i + 1)) := by have := hO0.out; show _ ≤ _; omega
      unfold May at hmj
      generalize (ps.getD i (0, 0)).1 = x0 at *
      generalize (ps.getD i (0, 0)).2 = x1 at *
      obtain ⟨q1, q2, q3⟩ := hmj
      have hjl : (i : Int) < ps.length := by omega
      have hj0 : ¬ ((i : Int) < 0) := by omega
      have wn : IntKind.i64.wrap (x0 - 1) = x0 - 1 := by rw [IntKind.wrap_i64]; omega
      have wn1 : IntKind.i64.wrap (x1 - 1) = x1 - 1 := by rw [IntKind.wrap_i64]; omega
      have hsw := hB0.size
      have hbb : bb < w19.heap.size := HLy.out.low (by omega) bb off rfl
      clear hcc hG0 hO0
      go_wp2_with fail
      go_region_held3 (fun W => W.cell? ⟨bb, off + i * 2, none⟩ = some (.int .i64 x0) ∧ W.cell? ⟨bb, off + i * 2 + 1, none⟩ = some (.int .i64 x1) ∧ Hid (Below w19.heap.size w19 W ∧ bb < w19.heap.size))
        (first | exact ⟨c0, c1, hB0, hbb⟩ | exact one_dr ⟨c0, c1, hB0, hbb⟩ | exact one_al ⟨c0, c1, hB0, hbb⟩ | exact one_dr (one_al ⟨c0, c1, hB0, hbb⟩) | exact one_gr (one_dr (one_al ⟨c0, c1, hB0, hbb⟩)) hgr3 (by simp; omega) HG0.out.block | exact one_gr (one_al ⟨c0, c1, hB0, hbb⟩) hgr3 (by simp; omega) HG0.out.block)
        ((refine step_appD rfl _ _ rfl w19.heap.size _ acc0 rfl (HG0.out.al _) ⟨wr.heap.size, 0, none⟩ 4 4 [x0 - 1, x0, x1 - 1, x1] rfl (ld_new4 wr _ _ _ _) HAL.out (by simp; omega) ?_; intro v' w3 hg3 hgr3))
      have hgB := (one_gr (one_dr (one_al ⟨c0, c1, hB0, hbb⟩)) hgr3 (by simp; omega) HG0.out.block).2.2.1
      obtain ⟨a3, c3, rfl, -, -⟩ := hg3.shape
      go_wp2_with fail
      exact ⟨⟨i + 1, acc0 ++ [x0 - 1, x0, x1 - 1, x1], by omega, by go_num, by show _ ≤ _; rw [List.length_append]; exact HAM.out, by first | exact hg3 | (rw [List.length_append] at hg3; exact hg3), hgB⟩, by simp [intOf] <;> omega⟩
    · have hkz : ¬ (i : Int) < ps.length := by omega
      obtain rfl : i = ps.length := by omega
      clear hge hi
      go_wp2_with fail
      clear hW1 hG0
      go_loopw [19, 21] (fun s k wr => ∃ (i : Nat) (acc : List Int), i ≤ qs.length ∧ k = .int .i64 (i : Int) ∧ Hid (acc.length ≤ 2504 + 4 * i) ∧ Gd wr w19.heap.size s acc ∧ Below w19.heap.size w19 wr) (fun _ k _ => qs.length - (intOf k).toNat)
      case atStart => exact ⟨0, acc0, Nat.zero_le _, by go_num, by have := hO0.out; show _ ≤ _; omega, HG0.out, hB0⟩
      case round =>
        obtain ⟨i, acc, hi, rfl, hO, hG, hB⟩ := hrel
        obtain ⟨av, cv, rfl, -, -⟩ := hG.shape
        have HG : Hid (Gd wr w19.heap.size (.slice av acc.length cv) acc) := hG
        rcases Nat.lt_or_ge i qs.length with hlt | hge
        · obtain ⟨bb, off, rfl, hcc⟩ := (HLz.out.after hB).2 (by omega)
          have c0 := (hcc i hlt).1
          have c1 := (hcc i hlt).2
          have hmj := HM'.out _ (getD_mem hlt)
          have HAL : Hid (acc.length + 4 ≤ 8796093022208) := by have := hO.out; show _ ≤ _; omega
          have HAM : Hid (acc.length + 4 ≤ 2504 + 4 * (i + 1)) := by have := hO.out; show _ ≤ _; omega
          unfold May at hmj
          generalize (qs.getD i (0, 0)).1 = x0 at *
          generalize (qs.getD i (0, 0)).2 = x1 at *
          obtain ⟨q1, q2, q3⟩ := hmj
          have hjl : (i : Int) < qs.length := by omega
          have hj0 : ¬ ((i : Int) < 0) := by omega
          have wn : IntKind.i64.wrap (x0 - 1) = x0 - 1 := by rw [IntKind.wrap_i64]; omega
          have wn1 : IntKind.i64.wrap (x1 - 1) = x1 - 1 := by rw [IntKind.wrap_i64]; omega
          have hsw := hB.size
          have hbb : bb < w19.heap.size := HLz.out.low (by omega) bb off rfl
          clear hcc hG hO
          go_wp2_with fail
          go_region_held3 (fun W => W.cell? ⟨bb, off + i * 2, none⟩ = some (.int .i64 x0) ∧ W.cell? ⟨bb, off + i * 2 + 1, none⟩ = some (.int .i64 x1) ∧ Hid (Below w19.heap.size w19 W ∧ bb < w19.heap.size))
            (first | exact ⟨c0, c1, hB, hbb⟩ | exact one_dr ⟨c0, c1, hB, hbb⟩ | exact one_al ⟨c0, c1, hB, hbb⟩ | exact one_dr (one_al ⟨c0, c1, hB, hbb⟩) | exact one_gr (one_dr (one_al ⟨c0, c1, hB, hbb⟩)) hgr3 (by simp; omega) HG.out.block | exact one_gr (one_al ⟨c0, c1, hB, hbb⟩) hgr3 (by simp; omega) HG.out.block)
            ((refine step_appD rfl _ _ rfl w19.heap.size _ acc rfl (HG.out.al _) ⟨wr.heap.size, 0, none⟩ 4 4 [x0 - 1, x0, x1 - 1, x1] rfl (ld_new4 wr _ _ _ _) HAL.out (by simp; omega) ?_; intro v' w3 hg3 hgr3))
          have hgB := (one_gr (one_dr (one_al ⟨c0, c1, hB, hbb⟩)) hgr3 (by simp; omega) HG.out.block).2.2.1
          obtain ⟨a3, c3, rfl, -, -⟩ := hg3.shape
          go_wp2_with fail
          exact ⟨⟨i + 1, acc ++ [x0 - 1, x0, x1 - 1, x1], by omega, by go_num, by show _ ≤ _; rw [List.length_append]; exact HAM.out, by first | exact hg3 | (rw [List.length_append] at hg3; exact hg3), hgB⟩, by simp [intOf] <;> omega⟩
        · have hkz : ¬ (i : Int) < qs.length := by omega
          obtain rfl : i = qs.length := by omega
          clear hge hi
          go_wp2_with fail
          have HGF : Hid (Gd wr w19.heap.size (.slice av acc.length cv) acc) := HG
          have hal : acc.length ≤ 5000 := by have := hO.out; omega
          clear hO0 HG0 hO
          go_loopw [22] (fun k wr => ∃ (i : Nat), i ≤ acc.length ∧ k = .int .i64 (i : Int) ∧ Gd wr w19.heap.size (.slice av acc.length cv) acc ∧ Below w19.heap.size w19 wr) (fun k _ => acc.length - (intOf k).toNat)
          case atStart => exact ⟨0, Nat.zero_le _, by go_num, HGF.out, hB⟩
          case round =>
            obtain ⟨i, hi, rfl, hG3, hB3⟩ := hrel
            rcases Nat.lt_or_ge i acc.length with hlt | hge
            · obtain ⟨gg, oo, rfl, hcc⟩ := hG3.ld.2 (by omega)
              have c0 := hcc i hlt
              generalize acc.getD i 0 = d at *
              have hjl : (i : Int) < acc.length := by omega
              have hj0 : ¬ ((i : Int) < 0) := by omega
              have HG3 : Hid (Gd wr w19.heap.size (.slice (some ⟨gg, oo, none⟩) acc.length cv) acc) := hG3
              have X3 := HX.out.after hB3
              have hS0 : wr.drew.cell? ⟨gg, oo + i, none⟩ = some (.int .i64 d) ∧ Hid (Below wr.heap.size wr wr.drew) := ⟨c0, below_drew wr⟩
              have hI := HI.out d
              clear hcc hG3 c0
              by_cases hp : inS ps d
              · by_cases hq : inS qs d
                · have j1 : InC wr d (.slice a ps.length cap) true := ⟨_, _, _, ps, _, HLy.out.after hB3, by omega, inB_true hp⟩
                  have j2 : InC wr d (.slice b qs.length cb) true := ⟨_, _, _, qs, _, HLz.out.after hB3, by omega, inB_true hq⟩
                  have k1 : HsC wr d (.pointer (some ⟨p1, 0, none⟩)) true := ⟨_, _, _, X3.s, inB_true (by rw [hI.1]; simp [hp, hq])⟩
                  have k2 : HsC wr d (.pointer (some ⟨p2, 0, none⟩)) true := ⟨_, _, _, X3.t, inB_true (by rw [hI.2.1]; simp [hp, hq])⟩
                  have k3 : HsC wr d (.pointer (some ⟨p3, 0, none⟩)) true := ⟨_, _, _, X3.u, inB_true (by rw [hI.2.2.1]; simp [hp, hq])⟩
                  have k4 : HsC wr d (.pointer (some ⟨p4, 0, none⟩)) true := ⟨_, _, _, X3.c, inB_true (by rw [hI.2.2.2.1]; simp [hp, hq])⟩
                  have k5 : HsC wr d (.pointer (some ⟨p5, 0, none⟩)) false := ⟨_, _, _, X3.m, inB_false (by rw [hI.2.2.2.2.1]; simp [hp, hq])⟩
                  have k6 : HsC wr d (.pointer (some ⟨p6, 0, none⟩)) false := ⟨_, _, _, X3.n, inB_false (by rw [hI.2.2.2.2.2]; simp [hp, hq])⟩
                  clear hI X3 hp hq
                  go_wp2_with fail
                  go_region_held3 (fun X => X.cell? ⟨gg, oo + i, none⟩ = some (.int .i64 d) ∧ Hid (Below wr.heap.size wr X))
                    (first | assumption)
                    ((go_at_call 15; refine (in_c _ _ _ (by assumption) (by assumption)).mono ?_; rintro e y ⟨rfl, hSy⟩))
                  have cy := hSy.1
                  go_wp2_with fail
                  refine (has_c _ _ _ k1 hSy).mono ?_
                  rintro e y1 ⟨rfl, hS1⟩
                  have cy1 := hS1.1
                  go_wp2_with fail
                  refine (has_c _ _ _ k2 hS1).mono ?_
                  rintro e y2 ⟨rfl, hS2⟩
                  have cy2 := hS2.1
                  go_wp2_with fail
                  refine (has_c _ _ _ k3 hS2).mono ?_
                  rintro e y3 ⟨rfl, hS3⟩
                  have cy3 := hS3.1
                  go_wp2_with fail
                  refine (has_c _ _ _ k4 hS3).mono ?_
                  rintro e y4 ⟨rfl, hS4⟩
                  have cy4 := hS4.1
                  go_wp2_with fail
                  refine (has_c _ _ _ k5 hS4).mono ?_
                  rintro e y5 ⟨rfl, hS5⟩
                  have cy5 := hS5.1
                  go_wp2_with fail
                  refine (has_c _ _ _ k6 hS5).mono ?_
                  rintro e y6 ⟨rfl, hS6⟩
                  have cy6 := hS6.1
                  go_wp2_with fail
                  exact ⟨⟨i + 1, by omega, by go_num, HG3.out.after hS6.2.out, step hB3 hS6.2.out⟩, by simp [intOf] <;> omega⟩
                · have j1 : InC wr d (.slice a ps.length cap) true := ⟨_, _, _, ps, _, HLy.out.after hB3, by omega, inB_true hp⟩
                  have j2 : InC wr d (.slice b qs.length cb) false := ⟨_, _, _, qs, _, HLz.out.after hB3, by omega, inB_false hq⟩
                  have k1 : HsC wr d (.pointer (some ⟨p1, 0, none⟩)) true := ⟨_, _, _, X3.s, inB_true (by rw [hI.1]; simp [hp, hq])⟩
                  have k2 : HsC wr d (.pointer (some ⟨p2, 0, none⟩)) false := ⟨_, _, _, X3.t, inB_false (by rw [hI.2.1]; simp [hp, hq])⟩
                  have k3 : HsC wr d (.pointer (some ⟨p3, 0, none⟩)) true := ⟨_, _, _, X3.u, inB_true (by rw [hI.2.2.1]; simp [hp, hq])⟩
                  have k4 : HsC wr d (.pointer (some ⟨p4, 0, none⟩)) false := ⟨_, _, _, X3.c, inB_false (by rw [hI.2.2.2.1]; simp [hp, hq])⟩
                  have k5 : HsC wr d (.pointer (some ⟨p5, 0, none⟩)) true := ⟨_, _, _, X3.m, inB_true (by rw [hI.2.2.2.2.1]; simp [hp, hq])⟩
                  have k6 : HsC wr d (.pointer (some ⟨p6, 0, none⟩)) false := ⟨_, _, _, X3.n, inB_false (by rw [hI.2.2.2.2.2]; simp [hp, hq])⟩
                  clear hI X3 hp hq
                  go_wp2_with fail
                  go_region_held3 (fun X => X.cell? ⟨gg, oo + i, none⟩ = some (.int .i64 d) ∧ Hid (Below wr.heap.size wr X))
                    (first | assumption)
                    ((go_at_call 15; refine (in_c _ _ _ (by assumption) (by assumption)).mono ?_; rintro e y ⟨rfl, hSy⟩))
                  have cy := hSy.1
                  go_wp2_with fail
                  refine (has_c _ _ _ k1 hSy).mono ?_
                  rintro e y1 ⟨rfl, hS1⟩
                  have cy1 := hS1.1
                  go_wp2_with fail
                  refine (has_c _ _ _ k2 hS1).mono ?_
                  rintro e y2 ⟨rfl, hS2⟩
                  have cy2 := hS2.1
                  go_wp2_with fail
                  refine (has_c _ _ _ k3 hS2).mono ?_
                  rintro e y3 ⟨rfl, hS3⟩
                  have cy3 := hS3.1
                  go_wp2_with fail
                  refine (has_c _ _ _ k4 hS3).mono ?_
                  rintro e y4 ⟨rfl, hS4⟩
                  have cy4 := hS4.1
                  go_wp2_with fail
                  refine (has_c _ _ _ k5 hS4).mono ?_
                  rintro e y5 ⟨rfl, hS5⟩
                  have cy5 := hS5.1
                  go_wp2_with fail
                  refine (has_c _ _ _ k6 hS5).mono ?_
                  rintro e y6 ⟨rfl, hS6⟩
                  have cy6 := hS6.1
                  go_wp2_with fail
                  exact ⟨⟨i + 1, by omega, by go_num, HG3.out.after hS6.2.out, step hB3 hS6.2.out⟩, by simp [intOf] <;> omega⟩
              · by_cases hq : inS qs d
                · have j1 : InC wr d (.slice a ps.length cap) false := ⟨_, _, _, ps, _, HLy.out.after hB3, by omega, inB_false hp⟩
                  have j2 : InC wr d (.slice b qs.length cb) true := ⟨_, _, _, qs, _, HLz.out.after hB3, by omega, inB_true hq⟩
                  have k1 : HsC wr d (.pointer (some ⟨p1, 0, none⟩)) false := ⟨_, _, _, X3.s, inB_false (by rw [hI.1]; simp [hp, hq])⟩
                  have k2 : HsC wr d (.pointer (some ⟨p2, 0, none⟩)) true := ⟨_, _, _, X3.t, inB_true (by rw [hI.2.1]; simp [hp, hq])⟩
                  have k3 : HsC wr d (.pointer (some ⟨p3, 0, none⟩)) true := ⟨_, _, _, X3.u, inB_true (by rw [hI.2.2.1]; simp [hp, hq])⟩
                  have k4 : HsC wr d (.pointer (some ⟨p4, 0, none⟩)) false := ⟨_, _, _, X3.c, inB_false (by rw [hI.2.2.2.1]; simp [hp, hq])⟩
                  have k5 : HsC wr d (.pointer (some ⟨p5, 0, none⟩)) false := ⟨_, _, _, X3.m, inB_false (by rw [hI.2.2.2.2.1]; simp [hp, hq])⟩
                  have k6 : HsC wr d (.pointer (some ⟨p6, 0, none⟩)) true := ⟨_, _, _, X3.n, inB_true (by rw [hI.2.2.2.2.2]; simp [hp, hq])⟩
                  clear hI X3 hp hq
                  go_wp2_with fail
                  go_region_held3 (fun X => X.cell? ⟨gg, oo + i, none⟩ = some (.int .i64 d) ∧ Hid (Below wr.heap.size wr X))
                    (first | assumption)
                    ((go_at_call 15; refine (in_c _ _ _ (by assumption) (by assumption)).mono ?_; rintro e y ⟨rfl, hSy⟩))
                  have cy := hSy.1
                  go_wp2_with fail
                  refine (has_c _ _ _ k1 hSy).mono ?_
                  rintro e y1 ⟨rfl, hS1⟩
                  have cy1 := hS1.1
                  go_wp2_with fail
                  refine (has_c _ _ _ k2 hS1).mono ?_
                  rintro e y2 ⟨rfl, hS2⟩
                  have cy2 := hS2.1
                  go_wp2_with fail
                  refine (has_c _ _ _ k3 hS2).mono ?_
                  rintro e y3 ⟨rfl, hS3⟩
                  have cy3 := hS3.1
                  go_wp2_with fail
                  refine (has_c _ _ _ k4 hS3).mono ?_
                  rintro e y4 ⟨rfl, hS4⟩
                  have cy4 := hS4.1
                  go_wp2_with fail
                  refine (has_c _ _ _ k5 hS4).mono ?_
                  rintro e y5 ⟨rfl, hS5⟩
                  have cy5 := hS5.1
                  go_wp2_with fail
                  refine (has_c _ _ _ k6 hS5).mono ?_
                  rintro e y6 ⟨rfl, hS6⟩
                  have cy6 := hS6.1
                  go_wp2_with fail
                  exact ⟨⟨i + 1, by omega, by go_num, HG3.out.after hS6.2.out, step hB3 hS6.2.out⟩, by simp [intOf] <;> omega⟩
                · have j1 : InC wr d (.slice a ps.length cap) false := ⟨_, _, _, ps, _, HLy.out.after hB3, by omega, inB_false hp⟩
                  have j2 : InC wr d (.slice b qs.length cb) false := ⟨_, _, _, qs, _, HLz.out.after hB3, by omega, inB_false hq⟩
                  have k1 : HsC wr d (.pointer (some ⟨p1, 0, none⟩)) false := ⟨_, _, _, X3.s, inB_false (by rw [hI.1]; simp [hp, hq])⟩
                  have k2 : HsC wr d (.pointer (some ⟨p2, 0, none⟩)) false := ⟨_, _, _, X3.t, inB_false (by rw [hI.2.1]; simp [hp, hq])⟩
                  have k3 : HsC wr d (.pointer (some ⟨p3, 0, none⟩)) false := ⟨_, _, _, X3.u, inB_false (by rw [hI.2.2.1]; simp [hp, hq])⟩
                  have k4 : HsC wr d (.pointer (some ⟨p4, 0, none⟩)) false := ⟨_, _, _, X3.c, inB_false (by rw [hI.2.2.2.1]; simp [hp, hq])⟩
                  have k5 : HsC wr d (.pointer (some ⟨p5, 0, none⟩)) false := ⟨_, _, _, X3.m, inB_false (by rw [hI.2.2.2.2.1]; simp [hp, hq])⟩
                  have k6 : HsC wr d (.pointer (some ⟨p6, 0, none⟩)) false := ⟨_, _, _, X3.n, inB_false (by rw [hI.2.2.2.2.2]; simp [hp, hq])⟩
                  clear hI X3 hp hq
                  go_wp2_with fail
                  go_region_held3 (fun X => X.cell? ⟨gg, oo + i, none⟩ = some (.int .i64 d) ∧ Hid (Below wr.heap.size wr X))
                    (first | assumption)
                    ((go_at_call 15; refine (in_c _ _ _ (by assumption) (by assumption)).mono ?_; rintro e y ⟨rfl, hSy⟩))
                  have cy := hSy.1
                  go_wp2_with fail
                  refine (has_c _ _ _ k1 hSy).mono ?_
                  rintro e y1 ⟨rfl, hS1⟩
                  have cy1 := hS1.1
                  go_wp2_with fail
                  refine (has_c _ _ _ k2 hS1).mono ?_
                  rintro e y2 ⟨rfl, hS2⟩
                  have cy2 := hS2.1
                  go_wp2_with fail
                  refine (has_c _ _ _ k3 hS2).mono ?_
                  rintro e y3 ⟨rfl, hS3⟩
                  have cy3 := hS3.1
                  go_wp2_with fail
                  refine (has_c _ _ _ k4 hS3).mono ?_
                  rintro e y4 ⟨rfl, hS4⟩
                  have cy4 := hS4.1
                  go_wp2_with fail
                  refine (has_c _ _ _ k5 hS4).mono ?_
                  rintro e y5 ⟨rfl, hS5⟩
                  have cy5 := hS5.1
                  go_wp2_with fail
                  refine (has_c _ _ _ k6 hS5).mono ?_
                  rintro e y6 ⟨rfl, hS6⟩
                  have cy6 := hS6.1
                  go_wp2_with fail
                  exact ⟨⟨i + 1, by omega, by go_num, HG3.out.after hS6.2.out, step hB3 hS6.2.out⟩, by simp [intOf] <;> omega⟩
            · have hkz : ¬ (i : Int) < acc.length := by omega
              obtain rfl : i = acc.length := by omega
              clear hge hi
              have X5 := HX.out.after hB3
              have hB5 : Hid (Below w.heap.size w wr) := step HB19.out hB3
              clear hG3 HGF
              go_wp2_with fail
              refine ent1 wr _ _ (Q := fun W => Code.wp Try.prog _ _ _ W) ?_
              intro X4 hX4 hs4 V4
              have X6 := X5.after hX4
              have HP : Hid (∀ i : Nat, i < 6 → ∃ p l, X4.cell? ⟨wr.heap.size, i, none⟩ = some (.pointer (some ⟨p, 0, none⟩)) ∧ St X4 p l ∧ l.length ≤ 1000) := fun i hi => by
                match i, hi with
                | 0, _ => exact ⟨p1, s, V4.cellAt 0, X6.s, by omega⟩
                | 1, _ => exact ⟨p2, t, V4.cellAt 1, X6.t, by omega⟩
                | 2, _ => exact ⟨p3, u, V4.cellAt 2, X6.u, by omega⟩
                | 3, _ => exact ⟨p4, x, V4.cellAt 3, X6.c, by omega⟩
                | 4, _ => exact ⟨p5, m, V4.cellAt 4, X6.m, by omega⟩
                | 5, _ => exact ⟨p6, n, V4.cellAt 5, X6.n, by omega⟩
                | k + 6, h => exact absurd h (by omega)
              have hB6 : Hid (Below w.heap.size w X4) := step hB5.out hX4
              clear X5 X6 hX4 V4 hs4 hB5
              generalize wr.heap.size = L at HP ⊢
              go_loopw [26] (fun k wr => ∃ (i : Nat), i ≤ 6 ∧ k = .int .i64 (i : Int) ∧ Below X4.heap.size X4 wr) (fun k _ => 6 - (intOf k).toNat)
              case atStart => exact ⟨0, Nat.zero_le _, by go_num, Below.refl _ _⟩
              case round =>
                obtain ⟨i, hi, rfl, hB7⟩ := hrel
                rcases Nat.lt_or_ge i 6 with hlt | hge
                · obtain ⟨p, l, hcp, hst, hll⟩ := HP.out i hlt
                  have c0 := (hB7.cell (cell_lt hcp)).trans hcp
                  have hst1 := hst.after hB7
                  have HST : Hid (St wr p l) := hst1
                  obtain ⟨hf, -, a5, c5, V5, hc5, L5, -⟩ := hst1
                  have HF : Hid (Few l) := hf
                  have hjl : (i : Int) < 6 := by omega
                  have hj0 : ¬ ((i : Int) < 0) := by omega
                  clear hcp hst hf
                  go_wp2_with fail
                  refine (spans_any p a5 l.length c5 true wr V5).mono ?_
                  rintro e w6 ⟨rfl, rfl⟩
                  have t6 := told_st wr.heap.size a5 l.length c5 l (by omega) _ (Va.new wr _ _) (L5.after ((Below.refl _ _).alloc (Nat.le_refl _) _))
                  unfold itv at *
                  go_wp2_with fail
                  refine t6.mono ?_
                  rintro e w7 ⟨v7, rfl, hg7, hb7⟩
                  have hb57 : Below wr.heap.size wr w7 := ((Below.refl _ _).alloc (Nat.le_refl _) _).trans (hb7.mono (by simp))
                  obtain ⟨a7, c7, rfl, -, -, -⟩ := hg7.shape
                  have HG7 : Hid (Ls w7 a7 l.length l) := hg7.ls
                  have HB7 : Hid (Below wr.heap.size wr w7) := hb57
                  clear hg7 hb7 hb57 t6 V5 L5
                  go_wp2_with fail
                  refine (lfew_any a7 l.length c7 l w7 HG7.out HF.out (by omega)).mono ?_
                  rintro e w8 ⟨rfl, hb8⟩
                  have HG8 : Hid (Ls w8 a7 l.length l) := HG7.out.after hb8
                  have HB8 : Hid (Below wr.heap.size wr w8) := step HB7.out hb8
                  clear hb8 HG7 HB7
                  go_wp2_with fail
                  refine (of_ok a7 l.length c7 l w8 HG8.out HF.out.1 (by omega)).mono ?_
                  rintro e w9 ⟨p9, l9, rfl, st9, he9, hb9⟩
                  obtain rfl : l = l9 := few_unique HF.out st9.1 (fun d => (he9.out d).symm)
                  have HS9 : Hid (St w9 p9 l) := st9
                  have HG9 : Hid (Ls w9 a7 l.length l) := HG8.out.after hb9
                  have HB9 : Hid (Below wr.heap.size wr w9) := step HB8.out hb9
                  clear hb9 HG8 HB8 st9 he9
                  have c9 := (HB9.out.cell (cell_lt c0)).trans c0
                  have hS0 : w9.drew.cell? ⟨L, i, none⟩ = some (.pointer (some ⟨p, 0, none⟩)) ∧ Hid (Below w9.heap.size w9 w9.drew) := ⟨c9, below_drew w9⟩
                  have k1 : DyC w9 (.pointer (some ⟨p9, 0, none⟩)) (dys l) := ⟨_, _, _, HS9.out, rfl⟩
                  have k2 : DyC w9 (.pointer (some ⟨p, 0, none⟩)) (dys l) := ⟨_, _, _, HST.out.after HB9.out, rfl⟩
                  have HIS : Hid (∀ X, X.cell? ⟨L, i, none⟩ = some (.pointer (some ⟨p, 0, none⟩)) ∧ Hid (Below w9.heap.size w9 X) → Calls Try.prog 20 #[.pointer (some ⟨p9, 0, none⟩), .slice a7 l.length c7] X fun e y => e = .returned (.bool true) ∧ y.cell? ⟨L, i, none⟩ = some (.pointer (some ⟨p, 0, none⟩)) ∧ Hid (Below w9.heap.size w9 y)) := fun X hX => (is_ok p9 a7 c7 l X (HS9.out.after hX.2) (HG9.out.after hX.2)).mono (fun e y ⟨h1, h2⟩ => ⟨h1, s4_keep hX h2⟩)
                  generalize dys l = dd at k1 k2
                  clear HS9 HG9 HST HF c0
                  go_wp2_with fail
                  go_region_held3 (fun X => X.cell? ⟨L, i, none⟩ = some (.pointer (some ⟨p, 0, none⟩)) ∧ Hid (Below w9.heap.size w9 X))
                    (first | assumption)
                    (first
                      | (go_at_call 20; refine (HIS.out _ (by assumption)).mono ?_; rintro e y ⟨rfl, hSy⟩)
                      | (go_at_call 14; refine (days_c _ _ _ (by assumption) (by assumption)).mono ?_; rintro e y ⟨rfl, hSy⟩))
                  have hB12 : Below X4.heap.size X4 y := step (step hB7 HB9.out) hSy.2.out
                  clear hSy hS0
                  go_wp2_with fail
                  exact ⟨⟨i + 1, by omega, by go_num, hB12⟩, by simp [intOf] <;> omega⟩
                · have hkz : ¬ (i : Int) < 6 := by omega
                  obtain rfl : i = 6 := by omega
                  go_wp2_with fail
                  go_ret
                  exact ⟨rfl, step hB6.out hB7⟩
end Go.Proofs.Ytfkcglfaakkjcab
