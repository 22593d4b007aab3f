/-
  The walk of SpanJoins.
-/
import Derived.Test.YtiabjlaganmloaaPt3
namespace Go.Proofs.Ytiabjlaganmloaa
open Go.RowKit Go.Shelf
set_option linter.unusedVariables false
set_option linter.unusedSimpArgs false

theorem SetR.after {cs : List Pr} {e : Ending} {w w' : World} (hb : Below w.heap.size w w') (h : SetR cs e w) : SetR cs e w' := by
  rcases h with ⟨h1, p, e, hs⟩ | h
  · exact .inl ⟨h1, p, e, hs.after hb⟩
  · exact .inr h
theorem SetR.tup {cs : List Pr} {e : Ending} {w : World} (h : SetR cs e w) : ∃ u v, e = .returned (.tuple #[u, v]) ∧ SetR cs (.returned (.tuple #[u, v])) w := by
  rcases h with ⟨h1, p, rfl, hs⟩ | ⟨h1, rfl⟩
  · exact ⟨_, _, rfl, .inl ⟨h1, p, rfl, hs⟩⟩
  · exact ⟨_, _, rfl, .inr ⟨h1, rfl⟩⟩
theorem Gs.slice {w : World} {B : Nat} {v : Value} {ps : List Pr} (h : Gs w B v ps) : ∃ a cap, v = .slice a ps.length cap ∧ Ls w a ps.length ps := by
  obtain ⟨a, cap, rfl, -, -, -⟩ := h.shape
  exact ⟨a, cap, rfl, h.ls⟩
theorem rof_gen (a : Option Addr) (len cap : Nat) (ps : List Pr) (w : World) (h : Ls w a len ps) (hl : len ≤ 9000000000000) :
    Calls Try.prog 16 #[.slice a len cap] w fun e w' => ∃ (u : Value) (x : Int), e = .returned (.tuple #[u, .int .i64 x]) ∧ Below w.heap.size w w' := by
  by_cases ht : Tks ps
  · refine (rof_ok a len cap ps w h ht).mono ?_
    rintro e w' ⟨v, out, rfl, -, -, hb⟩
    exact ⟨_, _, rfl, hb⟩
  · refine (rof_no a len cap ps w h hl ht).mono ?_
    rintro e w' ⟨x, -, rfl, hb⟩
    exact ⟨_, _, rfl, hb⟩
set_option maxRecDepth 20000 in
set_option maxHeartbeats 8000000 in
theorem joi_walk (a : Option Addr) (len cap : Nat) (ps : List Pr) (b : Option Addr) (lb cb : Nat) (qs : List Pr) (w : World) (h : Ls w a len ps) (hc : len ≤ cap) (hcap : cap ≤ 8796093021952) (hn : a = none → len = 0 ∧ cap = 0) (g : ∀ q ∈ ps, b64 q.1 ∧ b64 q.2)
    (h' : Ls w b lb qs) (hc' : lb ≤ cb) (hcap' : cb ≤ 8796093021952) (hn' : b = none → lb = 0 ∧ cb = 0) (g' : ∀ q ∈ qs, b64 q.1 ∧ b64 q.2) :
    Calls Try.prog 5 #[.slice a len cap, .slice b lb cb] w fun e w' => e = .returned (.bool true) ∧ Below w.heap.size w w' := by
  obtain rfl := h.1
  obtain rfl := h'.1
  have HL : Hid (Ls w a ps.length ps) := h
  have HL' : Hid (Ls w b qs.length qs) := h'
  have HN : Hid ((a = none → ps.length = 0 ∧ cap = 0) ∧ (b = none → qs.length = 0 ∧ cb = 0)) := ⟨hn, hn'⟩
  have hl9 : ps.length ≤ 9000000000000 := by omega
  have hl9' : qs.length ≤ 9000000000000 := by omega
  clear h h' g g' hn hn'
  go_enter Try.func5, Try.ntmps5
  go_wp2_with fail
  refine (awake_any w).mono ?_
  rintro e w1 ⟨rfl, hb1⟩
  have HB1 : Hid (Below w.heap.size w w1) := hb1
  clear hb1
  go_wp2_with fail
  by_cases ta : Tks ps
  · refine (rof_ok a ps.length cap ps w1 (HL.out.after HB1.out) ta).mono ?_
    rintro e w2 ⟨vx, xs, rfl, hgx, hfx, hb2⟩
    obtain ⟨ax, cx, rfl, -⟩ := hgx.slice
    have HGX : Hid (Gs w2 w1.heap.size (.slice ax xs.length cx) xs) := hgx
    have HFX : Hid (Few xs ∧ ∀ d, inS xs d ↔ inS ps d) := hfx.out
    have HB2 : Hid (Below w.heap.size w w2) := step HB1.out hb2
    clear hgx hfx hb2 HB1
    go_wp2_with fail
    by_cases tb : Tks qs
    · refine (rof_ok b qs.length cb qs w2 (HL'.out.after HB2.out) tb).mono ?_
      rintro e w3 ⟨vy, ys, rfl, hgy, hfy, hb3⟩
      obtain ⟨ay, cy, rfl, -⟩ := hgy.slice
      have HGY : Hid (Gs w3 w2.heap.size (.slice ay ys.length cy) ys) := hgy
      have HGX3 : Hid (Gs w3 w1.heap.size (.slice ax xs.length cx) xs) := HGX.out.after hb3
      have HFY : Hid (Few ys ∧ ∀ d, inS ys d ↔ inS qs d) := hfy.out
      have HB3 : Hid (Below w.heap.size w w3) := step HB2.out hb3
      have HTA : Hid (Tks ps ∧ Tks qs) := ⟨ta, tb⟩
      clear hgy hfy hb3 HB2 HGX ta tb
      go_wp2_with fail
      refine (copy_any a ps.length cap ps w3 (HL.out.after HB3.out) HN.out.1 (by omega)).mono ?_
      rintro e w4 ⟨va, rfl, hga, hb4⟩
      obtain ⟨aa, ca, rfl, hla⟩ := hga.slice
      have HB4 : Hid (Below w.heap.size w w4) := step HB3.out hb4
      have HLA : Hid (Ls w4 aa ps.length ps) := hla
      have HGX4 : Hid (Gs w4 w1.heap.size (.slice ax xs.length cx) xs) := HGX3.out.after hb4
      have HGY4 : Hid (Gs w4 w2.heap.size (.slice ay ys.length cy) ys) := HGY.out.after hb4
      clear hga hla hb4 HB3 HGX3 HGY
      go_wp2_with fail
      refine (of_ok aa ps.length ca ps w4 HLA.out HTA.out.1.2 HTA.out.1.1).mono ?_
      rintro e w5 ⟨p, cs, rfl, hst, hds, hb5⟩
      have ecs : cs = xs := few_unique hst.1 HFX.out.1 (fun d => (hds.out d).trans (HFX.out.2 d).symm)
      subst ecs
      have HSP : Hid (St w5 p cs) := hst
      have HB5 : Hid (Below w.heap.size w w5) := step HB4.out hb5
      have HGX5 : Hid (Gs w5 w1.heap.size (.slice ax cs.length cx) cs) := HGX4.out.after hb5
      have HGY5 : Hid (Gs w5 w2.heap.size (.slice ay ys.length cy) ys) := HGY4.out.after hb5
      clear hst hds hb5 HB4 HGX4 HGY4 HLA
      go_wp2_with fail
      refine (copy_any b qs.length cb qs w5 (HL'.out.after HB5.out) HN.out.2 (by omega)).mono ?_
      rintro e w6 ⟨vb, rfl, hgb, hb6⟩
      obtain ⟨ab, cbb, rfl, hlb⟩ := hgb.slice
      have HB6 : Hid (Below w.heap.size w w6) := step HB5.out hb6
      have HLB : Hid (Ls w6 ab qs.length qs) := hlb
      have HSP6 : Hid (St w6 p cs) := HSP.out.after hb6
      have HGX6 : Hid (Gs w6 w1.heap.size (.slice ax cs.length cx) cs) := HGX5.out.after hb6
      have HGY6 : Hid (Gs w6 w2.heap.size (.slice ay ys.length cy) ys) := HGY5.out.after hb6
      clear hgb hlb hb6 HB5 HGX5 HGY5 HSP
      go_wp2_with fail
      refine (of_ok ab qs.length cbb qs w6 HLB.out HTA.out.2.2 HTA.out.2.1).mono ?_
      rintro e w7 ⟨q, ds, rfl, hst, hds, hb7⟩
      have eds : ds = ys := few_unique hst.1 HFY.out.1 (fun d => (hds.out d).trans (HFY.out.2 d).symm)
      subst eds
      have HSQ : Hid (St w7 q ds) := hst
      have HSP7 : Hid (St w7 p cs) := HSP6.out.after hb7
      have HB7 : Hid (Below w.heap.size w w7) := step HB6.out hb7
      have HGX7 : Hid (Gs w7 w1.heap.size (.slice ax cs.length cx) cs) := HGX6.out.after hb7
      have HGY7 : Hid (Gs w7 w2.heap.size (.slice ay ds.length cy) ds) := HGY6.out.after hb7
      have hcl : cs.length ≤ 4096 := HSP7.out.2.1
      have hdl : ds.length ≤ 4096 := HSQ.out.2.1
      clear hst hds hb7 HB6 HGX6 HGY6 HLB HSP6
      go_wp2_with fail
      refine (callsIn_wide.1 (union_in p q cs ds w7 HSP7.out HSQ.out)).mono ?_
      rintro e w8 ⟨us, hus, hsr, hb8⟩
      obtain ⟨u1, u2, rfl, hsr'⟩ := hsr.tup
      have HU : Hid (Few us ∧ ∀ d, inS us d ↔ inS cs d ∨ inS ds d) := hus.out
      have HRU : Hid (SetR us (.returned (.tuple #[u1, u2])) w8) := hsr'
      have HSP8 : Hid (St w8 p cs) := HSP7.out.after hb8
      have HSQ8 : Hid (St w8 q ds) := HSQ.out.after hb8
      have HB8 : Hid (Below w.heap.size w w8) := step HB7.out hb8
      have HGX8 : Hid (Gs w8 w1.heap.size (.slice ax cs.length cx) cs) := HGX7.out.after hb8
      have HGY8 : Hid (Gs w8 w2.heap.size (.slice ay ds.length cy) ds) := HGY7.out.after hb8
      clear hus hsr hsr' hb8 HSP7 HSQ HB7 HGX7 HGY7
      go_wp2_with fail
      refine (callsIn_wide.1 (cut_in p q cs ds w8 HSP8.out HSQ8.out)).mono ?_
      rintro e w9 ⟨ks, hks, hsr, hb9⟩
      obtain ⟨k1, k2, rfl, hsr'⟩ := hsr.tup
      have HK : Hid (Few ks ∧ ∀ d, inS ks d ↔ inS cs d ∧ inS ds d) := hks.out
      have HRK : Hid (SetR ks (.returned (.tuple #[k1, k2])) w9) := hsr'
      have HRU9 : Hid (SetR us (.returned (.tuple #[u1, u2])) w9) := HRU.out.after hb9
      have HSP9 : Hid (St w9 p cs) := HSP8.out.after hb9
      have HSQ9 : Hid (St w9 q ds) := HSQ8.out.after hb9
      have HB9 : Hid (Below w.heap.size w w9) := step HB8.out hb9
      have HGX9 : Hid (Gs w9 w1.heap.size (.slice ax cs.length cx) cs) := HGX8.out.after hb9
      have HGY9 : Hid (Gs w9 w2.heap.size (.slice ay ds.length cy) ds) := HGY8.out.after hb9
      clear hks hsr hsr' hb9 HSP8 HSQ8 HB8 HGX8 HGY8 HRU
      go_wp2_with fail
      refine (callsIn_wide.1 (minus_in p q cs ds w9 HSP9.out HSQ9.out)).mono ?_
      rintro e wa ⟨ms, hms, hsr, hba⟩
      obtain ⟨m1, m2, rfl, hsr'⟩ := hsr.tup
      have HM : Hid (Few ms ∧ ∀ d, inS ms d ↔ inS cs d ∧ ¬ inS ds d) := hms.out
      have HRMa : Hid (SetR ms (.returned (.tuple #[m1, m2])) wa) := hsr'
      have HRUa : Hid (SetR us (.returned (.tuple #[u1, u2])) wa) := HRU9.out.after hba
      have HRKa : Hid (SetR ks (.returned (.tuple #[k1, k2])) wa) := HRK.out.after hba
      have HSPa : Hid (St wa p cs) := HSP9.out.after hba
      have HSQa : Hid (St wa q ds) := HSQ9.out.after hba
      have HBa : Hid (Below w.heap.size w wa) := step HB9.out hba
      have HGXa : Hid (Gs wa w1.heap.size (.slice ax cs.length cx) cs) := HGX9.out.after hba
      have HGYa : Hid (Gs wa w2.heap.size (.slice ay ds.length cy) ds) := HGY9.out.after hba
      clear hms hsr hsr' hba HSP9 HSQ9 HB9 HGX9 HGY9 HRU9 HRK
      go_wp2_with fail
      refine (put_any 1 (.inl rfl) ax cs.length cx cs ay ds.length cy ds wa HGXa.out.ls HGYa.out.ls (by omega) (by omega) HSPa.out.1.1 HSQa.out.1.1).mono ?_
      rintro e wb ⟨vo, os, rfl, hgo, hfo, hbo⟩
      have eo : os = us := few_unique hfo.out.1 HU.out.1 (fun d => (hfo.out.2 d).trans (by rw [HU.out.2 d]; unfold wP; simp))
      subst eo
      obtain ⟨ao, co, rfl, -⟩ := hgo.slice
      have hlo : os.length ≤ 1000000 := by have := length_or HU.out.1 HU.out.2; omega
      have HGO : Hid (Gs wb wa.heap.size (.slice ao os.length co) os) := hgo
      clear hgo hfo
      have HSPb : Hid (St wb p cs) := HSPa.out.after hbo
      have HSQb : Hid (St wb q ds) := HSQa.out.after hbo
      have HGXb : Hid (Gs wb w1.heap.size (.slice ax cs.length cx) cs) := HGXa.out.after hbo
      have HGYb : Hid (Gs wb w2.heap.size (.slice ay ds.length cy) ds) := HGYa.out.after hbo
      have HRUb : Hid (SetR os (.returned (.tuple #[u1, u2])) wb) := HRUa.out.after hbo
      have HRKb : Hid (SetR ks (.returned (.tuple #[k1, k2])) wb) := HRKa.out.after hbo
      have HRMb : Hid (SetR ms (.returned (.tuple #[m1, m2])) wb) := HRMa.out.after hbo
      have HBb : Hid (Below w.heap.size w wb) := step HBa.out hbo
      clear hbo HSPa HSQa HGXa HGYa HRUa HRKa HRMa HBa
      go_wp2_with fail
      refine (agrees_any os u1 u2 ao co wb HRUb.out HGO.out.ls hlo).mono ?_
      rintro e wc ⟨rfl, hbg⟩
      clear HGO
      have HSPc : Hid (St wc p cs) := HSPb.out.after hbg
      have HSQc : Hid (St wc q ds) := HSQb.out.after hbg
      have HGXc : Hid (Gs wc w1.heap.size (.slice ax cs.length cx) cs) := HGXb.out.after hbg
      have HGYc : Hid (Gs wc w2.heap.size (.slice ay ds.length cy) ds) := HGYb.out.after hbg
      have HRKc : Hid (SetR ks (.returned (.tuple #[k1, k2])) wc) := HRKb.out.after hbg
      have HRMc : Hid (SetR ms (.returned (.tuple #[m1, m2])) wc) := HRMb.out.after hbg
      have HBc : Hid (Below w.heap.size w wc) := step HBb.out hbg
      clear hbg HSPb HSQb HGXb HGYb HRUb HRKb HRMb HBb
      clear hlo
      go_wp2_with fail
      refine (put_any 2 (.inr (.inl rfl)) ax cs.length cx cs ay ds.length cy ds wc HGXc.out.ls HGYc.out.ls (by omega) (by omega) HSPc.out.1.1 HSQc.out.1.1).mono ?_
      rintro e wd ⟨vo, os, rfl, hgo, hfo, hbo⟩
      have eo : os = ks := few_unique hfo.out.1 HK.out.1 (fun d => (hfo.out.2 d).trans (by rw [HK.out.2 d]; unfold wP; simp))
      subst eo
      obtain ⟨ao, co, rfl, -⟩ := hgo.slice
      have hlo : os.length ≤ 1000000 := by have := length_and HK.out.1 HK.out.2; omega
      have HGO : Hid (Gs wd wc.heap.size (.slice ao os.length co) os) := hgo
      clear hgo hfo
      have HSPd : Hid (St wd p cs) := HSPc.out.after hbo
      have HSQd : Hid (St wd q ds) := HSQc.out.after hbo
      have HGXd : Hid (Gs wd w1.heap.size (.slice ax cs.length cx) cs) := HGXc.out.after hbo
      have HGYd : Hid (Gs wd w2.heap.size (.slice ay ds.length cy) ds) := HGYc.out.after hbo
      have HRKd : Hid (SetR os (.returned (.tuple #[k1, k2])) wd) := HRKc.out.after hbo
      have HRMd : Hid (SetR ms (.returned (.tuple #[m1, m2])) wd) := HRMc.out.after hbo
      have HBd : Hid (Below w.heap.size w wd) := step HBc.out hbo
      clear hbo HSPc HSQc HGXc HGYc HRKc HRMc HBc
      go_wp2_with fail
      refine (agrees_any os k1 k2 ao co wd HRKd.out HGO.out.ls hlo).mono ?_
      rintro e we ⟨rfl, hbg⟩
      clear HGO
      have HSPe : Hid (St we p cs) := HSPd.out.after hbg
      have HSQe : Hid (St we q ds) := HSQd.out.after hbg
      have HGXe : Hid (Gs we w1.heap.size (.slice ax cs.length cx) cs) := HGXd.out.after hbg
      have HGYe : Hid (Gs we w2.heap.size (.slice ay ds.length cy) ds) := HGYd.out.after hbg
      have HRMe : Hid (SetR ms (.returned (.tuple #[m1, m2])) we) := HRMd.out.after hbg
      have HBe : Hid (Below w.heap.size w we) := step HBd.out hbg
      clear hbg HSPd HSQd HGXd HGYd HRKd HRMd HBd
      clear hlo
      go_wp2_with fail
      refine (put_any 3 (.inr (.inr rfl)) ax cs.length cx cs ay ds.length cy ds we HGXe.out.ls HGYe.out.ls (by omega) (by omega) HSPe.out.1.1 HSQe.out.1.1).mono ?_
      rintro e wf ⟨vo, os, rfl, hgo, hfo, hbo⟩
      have eo : os = ms := few_unique hfo.out.1 HM.out.1 (fun d => (hfo.out.2 d).trans (by rw [HM.out.2 d]; unfold wP; simp))
      subst eo
      obtain ⟨ao, co, rfl, -⟩ := hgo.slice
      have hlo : os.length ≤ 1000000 := by have := length_minus HM.out.1 HM.out.2; omega
      have HGO : Hid (Gs wf we.heap.size (.slice ao os.length co) os) := hgo
      clear hgo hfo
      have HSPf : Hid (St wf p cs) := HSPe.out.after hbo
      have HSQf : Hid (St wf q ds) := HSQe.out.after hbo
      have HGXf : Hid (Gs wf w1.heap.size (.slice ax cs.length cx) cs) := HGXe.out.after hbo
      have HGYf : Hid (Gs wf w2.heap.size (.slice ay ds.length cy) ds) := HGYe.out.after hbo
      have HRMf : Hid (SetR os (.returned (.tuple #[m1, m2])) wf) := HRMe.out.after hbo
      have HBf : Hid (Below w.heap.size w wf) := step HBe.out hbo
      clear hbo HSPe HSQe HGXe HGYe HRMe HBe
      go_wp2_with fail
      refine (agrees_any os m1 m2 ao co wf HRMf.out HGO.out.ls hlo).mono ?_
      rintro e wg ⟨rfl, hbg⟩
      clear HGO
      have HSPg : Hid (St wg p cs) := HSPf.out.after hbg
      have HSQg : Hid (St wg q ds) := HSQf.out.after hbg
      have HGXg : Hid (Gs wg w1.heap.size (.slice ax cs.length cx) cs) := HGXf.out.after hbg
      have HGYg : Hid (Gs wg w2.heap.size (.slice ay ds.length cy) ds) := HGYf.out.after hbg
      have HBg : Hid (Below w.heap.size w wg) := step HBf.out hbg
      clear hbg HSPf HSQf HGXf HGYf HRMf HBf
      clear hlo
      go_wp2_with fail
      refine (is_ok p ax cx cs wg HSPg.out HGXg.out.ls).mono ?_
      rintro e wi ⟨rfl, hbi⟩
      have HSQi : Hid (St wi q ds) := HSQg.out.after hbi
      have HGYi : Hid (Gs wi w2.heap.size (.slice ay ds.length cy) ds) := HGYg.out.after hbi
      have HBi : Hid (Below w.heap.size w wi) := step HBg.out hbi
      clear hbi HSPg HSQg HGXg HGYg HBg
      go_wp2_with fail
      refine (is_ok q ay cy ds wi HSQi.out HGYi.out.ls).mono ?_
      rintro e wj ⟨rfl, hbj⟩
      go_wp2_with fail
      go_ret
      exact ⟨rfl, step HBi.out hbj⟩
    · refine (rof_no b qs.length cb qs w2 (HL'.out.after HB2.out) hl9' tb).mono ?_
      rintro e w3 ⟨x, hx, rfl, hb3⟩
      have hxb : (x == 0) = false := by simpa using hx
      have HB3 : Hid (Below w.heap.size w w3) := step HB2.out hb3
      clear hb3 HB2
      go_wp2_with fail
      go_ret
      exact ⟨rfl, HB3.out⟩
  · refine (rof_no a ps.length cap ps w1 (HL.out.after HB1.out) hl9 ta).mono ?_
    rintro e w2 ⟨x, hx, rfl, hb2⟩
    have hxb : (x == 0) = false := by simpa using hx
    have HB2 : Hid (Below w.heap.size w w2) := step HB1.out hb2
    clear hb2 HB1
    go_wp2_with fail
    refine (rof_gen b qs.length cb qs w2 (HL'.out.after HB2.out) hl9').mono ?_
    rintro e w3 ⟨u, y, rfl, hb3⟩
    have HB3 : Hid (Below w.heap.size w w3) := step HB2.out hb3
    clear hb3 HB2
    go_wp2_with fail
    go_ret
    exact ⟨rfl, HB3.out⟩
end Go.Proofs.Ytiabjlaganmloaa
