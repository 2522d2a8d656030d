/- Which message may be: the document, of a piece. -/
import Derived.Test.YtiiollgipfggmaaNRefChkG
import Derived.Deep.DeepCutAuto
namespace Go.Proofs.Ytiiollgipfggmaa
set_option linter.unusedVariables false
set_option linter.unusedSimpArgs false
open Go.RowKit

set_option maxRecDepth 200000 in
set_option maxHeartbeats 4000000 in
theorem refCheck5_any {w : World} {m : Ms} {ve vv vd : Value} (h : MsV w m ve vv vd) (hk : m.k = 5) : Calls Try.prog 45 #[msA m ve vv vd] w fun e w' => e = .returned (.int .i64 (chkM m)) ∧ Below w.heap.size w w' := by
  obtain ⟨pe, ne, ce, rfl⟩ := h.es.sl
  obtain ⟨pv, nv, cv, rfl⟩ := h.vs.sl
  obtain ⟨pd, nd, cd, rfl⟩ := h.d.sl
  have hf_ix : fits m.ix := h.fits _ (by simp [Ms.nums])
  have hle := h.es.len
  have hld := h.d.len
  have he0 := nilL_len h.es.len.1
  have hv0 := nilL_len h.vs.len.1
  have hd0 := nilL_len h.d.len.1
  have HCK := hide (fun W (hW : Below w.heap.size w W) => refCheck_any (h.vs.below hW))
  have HGO : Hid (okM m = (refHead m && carM m)) := hide (by unfold okM; rw [refHead_eq])
  have HAP : Hid (refHead m = true → m.k = 3 → carM m = (refApp m && allT m.es m.tm)) := hide (fun a b => by
    rw [refHead_eq, Bool.and_eq_true] at a
    rw [carM_3 b, refApp_eq a.2])
  have hcb := carM_bare (m := m)
  have hc5 := carM_5 (m := m)
  have hcn := carM_no (m := m)
  have HG : Hid (chkM m = if (refHead m && carM m) then 0 else 122) := hide (by unfold chkM; rw [HGO.out])
  obtain ⟨qc, hqc⟩ : ∃ q, carM m = q := ⟨_, rfl⟩
  obtain ⟨g, hg⟩ : ∃ g, chkM m = g := ⟨_, rfl⟩
  unfold bareM at hcb
  rw [he0, hv0, hd0] at hcb
  rw [he0] at hc5
  rw [hg] at HG ⊢
  rw [hqc] at HG HAP hcb hc5 hcn
  clear hg hqc HGO he0
  obtain ⟨k, f, t, tm, ix, lt, cm, rd, ys, dn, es, vs, d⟩ := m
  have HM := hide h
  clear h
  unfold msA
  dsimp only
  have HB0 := hide ((Below.refl w.heap.size w).alloc (Nat.le_refl _) (.cells #[.int .i64 k, .int .i64 f, .int .i64 t, .int .i64 tm, .int .i64 ix, .int .i64 lt, .int .i64 cm, .int .i64 rd, .bool ys, .bool dn, .slice pe ne ce, .slice pv nv cv, .slice pd nd cd] 26))
  have HX0 := hide (Box13.new w 26 (.int .i64 k) (.int .i64 f) (.int .i64 t) (.int .i64 tm) (.int .i64 ix) (.int .i64 lt) (.int .i64 cm) (.int .i64 rd) (.bool ys) (.bool dn) (.slice pe ne ce) (.slice pv nv cv) (.slice pd nd cd))
  dsimp only at hk hcb hc5 hcn HAP hle hld hv0 hd0 hf_ix
  obtain ⟨hne, hlc, hcm⟩ := hle
  have hcm' : (ne : Int) ≤ 9223372036854775807 := by unfold maxLen at hcm; omega
  have HNE := hide hne
  have HFX := hide hf_ix
  clear hlc hcm hf_ix
  obtain ⟨q0, hq0⟩ : ∃ q, refHead ⟨k, f, t, tm, ix, lt, cm, rd, ys, dn, es, vs, d⟩ = q := ⟨_, rfl⟩
  have HQ0 := hq0
  unfold refHead at HQ0
  dsimp only at HQ0
  have G_f := hide (good12_any f 0)
  obtain ⟨p_f, h_f⟩ : ∃ p, goodI f 0 = p := ⟨_, rfl⟩
  rw [h_f] at G_f HQ0
  clear h_f
  obtain ⟨p_f7, e_f7⟩ : ∃ p, decide (f < 7) = p := ⟨_, rfl⟩
  rw [e_f7] at HQ0
  have G_t := hide (good12_any t 0)
  obtain ⟨p_t, h_t⟩ : ∃ p, goodI t 0 = p := ⟨_, rfl⟩
  rw [h_t] at G_t HQ0
  clear h_t
  obtain ⟨p_t7, e_t7⟩ : ∃ p, decide (t < 7) = p := ⟨_, rfl⟩
  rw [e_t7] at HQ0
  obtain ⟨p_ft, e_ft⟩ : ∃ p, (f != t) = p := ⟨_, rfl⟩
  rw [e_ft] at HQ0
  have G_tm := hide (good12_any tm 1)
  obtain ⟨p_tm, h_tm⟩ : ∃ p, goodI tm 1 = p := ⟨_, rfl⟩
  rw [h_tm] at G_tm HQ0
  clear h_tm
  have G_ix := hide (good12_any ix 0)
  obtain ⟨p_ix, h_ix⟩ : ∃ p, goodI ix 0 = p := ⟨_, rfl⟩
  rw [h_ix] at G_ix HQ0
  clear h_ix
  have G_lt := hide (good12_any lt 0)
  obtain ⟨p_lt, h_lt⟩ : ∃ p, goodI lt 0 = p := ⟨_, rfl⟩
  rw [h_lt] at G_lt HQ0
  clear h_lt
  have G_cm := hide (good12_any cm 0)
  obtain ⟨p_cm, h_cm⟩ : ∃ p, goodI cm 0 = p := ⟨_, rfl⟩
  rw [h_cm] at G_cm HQ0
  clear h_cm
  have G_rd := hide (good12_any rd 0)
  obtain ⟨p_rd, h_rd⟩ : ∃ p, goodI rd 0 = p := ⟨_, rfl⟩
  rw [h_rd] at G_rd HQ0
  clear h_rd
  have HQ := hide HQ0
  rw [hq0] at HG HAP
  obtain ⟨q1, e1⟩ : ∃ q, ((ne : Int) == 0) = q := ⟨_, rfl⟩
  obtain ⟨q2, e2⟩ : ∃ q, ((nv : Int) == 0) = q := ⟨_, rfl⟩
  obtain ⟨q3, e3⟩ : ∃ q, ((nd : Int) == 0) = q := ⟨_, rfl⟩
  rw [e1, e2, e3] at hcb
  rw [e1] at hc5
  have HCB := hide hcb
  have HC5 := hide hc5
  have HCN := hide hcn
  have HAPP : Hid (refApp ⟨k, f, t, tm, ix, lt, cm, rd, ys, dn, es, vs, d⟩ = (decide ((ne : Int) ≤ 8) && q2 && q3 && (decide (0 < ix) == decide (0 < lt)) && decide (lt ≤ tm) && rises ix lt es)) := hide (by
    unfold refApp
    dsimp only
    rw [hv0, hd0, e2, e3]
    congr 5
    rw [decide_eq_decide]
    omega)
  have HINS : Hid (insM ⟨k, f, t, tm, ix, lt, cm, rd, ys, dn, es, vs, d⟩ = (decide (0 < ix) && decide (0 < lt) && decide (lt ≤ tm) && okR vs && decide ((nd : Int) ≤ 512))) := hide (by
    unfold insM
    dsimp only
    congr 1
    rw [decide_eq_decide]
    omega)
  clear hcb hc5 hcn HQ0 hq0 hne hld hv0 hd0
  go_enter Try.func45, Try.ntmps45
  have HK := hide hk
  clear hk
  go_upto_region 1 with fail
  go_cut [3] (fun s3 wx => s3 = .bool q0 ∧ wx = (w.alloc (.cells #[.int .i64 k, .int .i64 f, .int .i64 t, .int .i64 tm, .int .i64 ix, .int .i64 lt, .int .i64 cm, .int .i64 rd, .bool ys, .bool dn, .slice pe ne ce, .slice pv nv cv, .slice pd nd cd] 26)))
  case first =>
    clear e1 e2 e3
    go_wp2_with fail
    refine (G_f.out _).mono ?_
    rintro e w' ⟨rfl, rfl⟩
    cases p_f
    · go_wp2_with fail
      go_meet
      exact ⟨congrArg Value.bool (by rw [← HQ.out]; rfl), rfl⟩
    · cases p_f7
      · go_wp2_with fail
        go_meet
        exact ⟨congrArg Value.bool (by rw [← HQ.out]; rfl), rfl⟩
      · go_wp2_with fail
        refine (G_t.out _).mono ?_
        rintro e w' ⟨rfl, rfl⟩
        cases p_t
        · go_wp2_with fail
          go_meet
          exact ⟨congrArg Value.bool (by rw [← HQ.out]; rfl), rfl⟩
        · cases p_t7
          · go_wp2_with fail
            go_meet
            exact ⟨congrArg Value.bool (by rw [← HQ.out]; rfl), rfl⟩
          · cases p_ft
            · go_wp2_with fail
              go_meet
              exact ⟨congrArg Value.bool (by rw [← HQ.out]; rfl), rfl⟩
            · go_wp2_with fail
              refine (G_tm.out _).mono ?_
              rintro e w' ⟨rfl, rfl⟩
              cases p_tm
              · go_wp2_with fail
                go_meet
                exact ⟨congrArg Value.bool (by rw [← HQ.out]; rfl), rfl⟩
              · go_wp2_with fail
                refine (G_ix.out _).mono ?_
                rintro e w' ⟨rfl, rfl⟩
                cases p_ix
                · go_wp2_with fail
                  go_meet
                  exact ⟨congrArg Value.bool (by rw [← HQ.out]; rfl), rfl⟩
                · go_wp2_with fail
                  refine (G_lt.out _).mono ?_
                  rintro e w' ⟨rfl, rfl⟩
                  cases p_lt
                  · go_wp2_with fail
                    go_meet
                    exact ⟨congrArg Value.bool (by rw [← HQ.out]; rfl), rfl⟩
                  · go_wp2_with fail
                    refine (G_cm.out _).mono ?_
                    rintro e w' ⟨rfl, rfl⟩
                    cases p_cm
                    · go_wp2_with fail
                      go_meet
                      exact ⟨congrArg Value.bool (by rw [← HQ.out]; rfl), rfl⟩
                    · go_wp2_with fail
                      refine (G_rd.out _).mono ?_
                      rintro e w' ⟨rfl, rfl⟩
                      cases p_rd
                      · go_wp2_with fail
                        go_meet
                        exact ⟨congrArg Value.bool (by rw [← HQ.out]; rfl), rfl⟩
                      · go_wp2_with fail
                        go_meet
                        exact ⟨congrArg Value.bool (by rw [← HQ.out]; rfl), rfl⟩
  case rest =>
    obtain ⟨rfl, rfl⟩ := hcut
    clear e_f7 e_t7 e_ft HQ
    have h5 := HK.out
    have hb : True := trivial
    have h3 : True := trivial
    clear HK
    have HC5B := hide (HC5.out h5)
    subst h5
    clear HCB HC5 HCN HAP HAPP hb h3 e2 e3
    obtain ⟨a2, i2⟩ : ∃ p, decide ((nd : Int) ≤ 512) = p := ⟨_, rfl⟩
    obtain ⟨a3, i3⟩ : ∃ p, decide (0 < ix) = p := ⟨_, rfl⟩
    obtain ⟨a4, i4⟩ : ∃ p, decide (0 < lt) = p := ⟨_, rfl⟩
    obtain ⟨a5, i5⟩ : ∃ p, decide (lt ≤ tm) = p := ⟨_, rfl⟩
    have HQ6 : Hid ((chkI vs == 0) = okR vs) := hide (by
      unfold chkI
      cases okR vs <;> rfl)
    obtain ⟨c6, hc6⟩ : ∃ c, chkI vs = c := ⟨_, rfl⟩
    obtain ⟨a6, i6⟩ : ∃ q, okR vs = q := ⟨_, rfl⟩
    rw [i6] at HINS HQ6
    rw [hc6] at HQ6
    unfold Chk at HCK
    simp only [hc6] at HCK
    rw [i2, i3, i4, i5] at HINS
    have HG2 : Hid (g = if (q0 && (q1 && (a3 && a4 && a5 && a6 && a2))) then 0 else 122) := hide (by rw [HG.out, HC5B.out, HINS.out])
    clear hc6 i6 HINS HC5B HG
    cases q0
    · go_wp2
      go_ret
      exact ⟨ret_i (by rw [HG2.out]; first | rfl | simp), HB0.out⟩
    · cases q1
      · go_wp2
        go_ret
        exact ⟨ret_i (by rw [HG2.out]; first | rfl | simp), HB0.out⟩
      · cases a2
        · go_wp2
          go_ret
          exact ⟨ret_i (by rw [HG2.out]; first | rfl | simp), HB0.out⟩
        · cases a3
          · go_wp2
            go_ret
            exact ⟨ret_i (by rw [HG2.out]; first | rfl | simp), HB0.out⟩
          · cases a4
            · go_wp2
              go_ret
              exact ⟨ret_i (by rw [HG2.out]; first | rfl | simp), HB0.out⟩
            · cases a5
              · go_wp2
                go_ret
                exact ⟨ret_i (by rw [HG2.out]; first | rfl | simp), HB0.out⟩
              · go_wp2_with fail
                refine (HCK.out _ HB0.out).mono ?_
                rintro e w' ⟨rfl, rfl⟩
                have t6 := HQ6.out
                cases a6
                · go_wp2
                  go_ret
                  exact ⟨ret_i (by rw [HG2.out]; first | rfl | simp), HB0.out⟩
                · go_wp2
                  go_ret
                  exact ⟨ret_i (by rw [HG2.out]; first | rfl | simp), HB0.out⟩
end Go.Proofs.Ytiiollgipfggmaa
