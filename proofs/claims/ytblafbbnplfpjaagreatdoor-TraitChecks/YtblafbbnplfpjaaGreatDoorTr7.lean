/-
  traits: fold at bool, Fit.
-/
import Derived.Test.YtblafbbnplfpjaaGreatDoorTr6
namespace Go.Proofs.YtblafbbnplfpjaaGreatDoor
open Go.RowKit Go.Shelf
set_option linter.unusedVariables false

set_option maxHeartbeats 4000000 in
theorem foldB (ns : List Nd) (a : Option Addr) (cap : Nat) (w : World) (hL : Le elN w a ns.length ns) (h64 : ∀ n ∈ ns, N64 n) (h1 : ns.length ≤ 64) (n : Nd) (k : Fo) (hns : ns = (Fo.cons n k .nil).flat) (hok : (Fo.cons n k .nil).Ok wdB 0 1)
    (bf ba bq : Nat) (by1 ln1 : List (List UInt8)) (A Q : Rat) (hF : Fa w bf ba bq by1 ln1 A Q) :
    Calls Tryz.prog 34 #[.slice a ns.length cap, .func (.func 35) #[] #[pt1 bf, pt1 ba, pt1 bq]] w fun e w' => e = .returned (.bool (val (vfa by1 ln1 A Q) n (k.ev (vfa by1 ln1 A Q)))) ∧ Below w.heap.size w w' := by
  have h0 : 0 < ns.length := by rw [hns]; simp [Fo.flat]
  have HL : Hid (Le elN w a ns.length ns) := hL
  have H6 : Hid (∀ n ∈ ns, N64 n) := h64
  have HN : Hid (ns = (Fo.cons n k .nil).flat) := hns
  have HOK : Hid ((Fo.cons n k .nil).Ok wdB 0 1) := hok
  have HF : Hid (Fa w bf ba bq by1 ln1 A Q) := hF
  have HJ : Hid (JnB w.heap.size w bf ba bq (vfa by1 ln1 A Q)) := fun n k o d ok n6 kl W B kv hb hg => join_any w bf ba bq by1 ln1 A Q HF.out n n6 k ⟨o, d, ok⟩ W B kv hb hg kl
  obtain ⟨R, hR⟩ : ∃ R, val (vfa by1 ln1 A Q) n (k.ev (vfa by1 ln1 A Q)) = R := ⟨_, rfl⟩
  have HR : Hid (val (vfa by1 ln1 A Q) n (k.ev (vfa by1 ln1 A Q)) = R) := hR
  rw [hR]
  clear hL h64 hns hok hF hR
  have B0 : Below w.heap.size w w := Below.refl _ _
  go_enter Tryz.func34, Tryz.ntmps34
  go_upto_region 2 with fail
  refine ent3 w _ _ _ _ _ _ (Q := fun W => Code.wp _ _ _ _ W) ?_
  intro W1 hb hs V0 V1 V2
  replace B0 := step B0 hb
  have L1 := HL.out.after hb
  have hlt := fun b off (h : a = some ⟨b, off, none⟩) => (by subst h; exact HL.out.lt h0 : b < w.heap.size)
  clear hb
  go_upto_region 3 with fail
  refine ent1 W1 _ _ (Q := fun W => Code.wp _ _ _ _ W) ?_
  intro W2 hb hs2 V3
  rw [hs] at V3 hs2
  replace V0 := V0.after hb
  replace V1 := V1.after hb
  replace V2 := V2.after hb
  replace L1 := L1.after hb
  replace B0 := step B0 hb
  clear hb
  have c3 := V3.cell
  have f3 := V3.frozen 0
  go_upto_region 4 with fail
  refine st1 V3 _ (Q := fun W => Code.wp _ _ _ _ W) ?_
  intro W3 hv hg hs3
  have C3 : DsB ns a cap w.heap.size (w.heap.size + 1 + 1) (w.heap.size + 3) (w.heap.size + 1) (.func (.func 35) #[] #[pt1 bf, pt1 ba, pt1 bq]) W3 0 :=
    ⟨V0.gr hg (by omega), V2.gr hg (by omega), hv, V1.gr hg (by omega), L1.grown hg (fun _ b off h => by have := hlt b off h; omega), by omega, by omega, fun b off h => by have := hlt b off h; omega, by omega, h1, Nat.zero_le _⟩
  have B3 : Below w.heap.size w W3 := B0.trans (gr_to hg (by omega) (by omega))
  have HB3 : Hid (Below w.heap.size w W3) := B3
  have d3 := hv.cell
  have hs4 : w.heap.size + 4 ≤ W3.heap.size := by omega
  clear V0 V1 V2 V3 c3 f3 L1 hv hg hs hs2 hs3 B0 hlt
  have C9 : Calls Tryz.prog 58 #[pt1 w.heap.size, pt1 (w.heap.size + 1 + 1), pt1 (w.heap.size + 3), pt1 (w.heap.size + 1)] W3 (DnE ns (w.heap.size + 1 + 1) R (0 + (Fo.cons n k .nil).flat.length) W3) := by
    have := (allD_of (downB w.heap.size w ns a cap w.heap.size (w.heap.size + 1 + 1) (w.heap.size + 3) (w.heap.size + 1) bf ba bq (vfa by1 ln1 A Q) (by omega) H6.out HJ) (.cons n k .nil)).1 0 1 HOK.out 0 W3 [] C3 B3 (by omega) (by rw [List.drop_zero, List.append_nil]; exact HN.out)
    rw [HR.out] at this
    exact this
  clear C3 B3
  go_wp2_with fail
  refine C9.mono ?_
  rintro e W4 ⟨rfl, -, -, hg⟩
  have B4 : Below w.heap.size w W4 := HB3.out.trans (gr_to hg (by omega) (by omega))
  clear hg C9 HB3
  go_wp2_with fail
  go_ret
  exact ⟨rfl, B4⟩
end Go.Proofs.YtblafbbnplfpjaaGreatDoor
