/- Which message may be: the program. -/
import Derived.Test.YtiiollgipfggmaaNMem
namespace Go.Proofs.Ytiiollgipfggmaa
set_option linter.unusedVariables false
set_option linter.unusedSimpArgs false
open Go.RowKit

set_option maxRecDepth 200000 in
set_option maxHeartbeats 4000000 in
theorem mayGo_any {w : World} {m : Ms} {ve vv vd : Value} (h : MsV w m ve vv vd) : Calls Try.prog 63 #[msA m ve vv vd] w fun e w' => e = .returned (.bool (goM m)) ∧ Below w.heap.size w w' := by
  obtain ⟨pe, ne, ce, rfl⟩ := h.es.sl
  obtain ⟨pv, nv, cv, rfl⟩ := h.vs.sl
  obtain ⟨pd, nd, cd, rfl⟩ := h.d.sl
  have hf_f : fits m.f := h.fits _ (by simp [Ms.nums])
  have hf_t : fits m.t := h.fits _ (by simp [Ms.nums])
  obtain ⟨k, f, t, tm, ix, lt, cm, rd, ys, dn, es, vs, d⟩ := m
  have HM := hide h
  clear h
  unfold msA
  dsimp only
  have HB0 := hide ((Below.refl w.heap.size w).alloc (Nat.le_refl _) (.cells #[.int .i64 k, .int .i64 f, .int .i64 t, .int .i64 tm, .int .i64 ix, .int .i64 lt, .int .i64 cm, .int .i64 rd, .bool ys, .bool dn, .slice pe ne ce, .slice pv nv cv, .slice pd nd cd] 26))
  have HX0 := hide (Box13.new w 26 (.int .i64 k) (.int .i64 f) (.int .i64 t) (.int .i64 tm) (.int .i64 ix) (.int .i64 lt) (.int .i64 cm) (.int .i64 rd) (.bool ys) (.bool dn) (.slice pe ne ce) (.slice pv nv cv) (.slice pd nd cd))
  dsimp only at hf_f hf_t
  have H1 := hide (isNode_any f hf_f)
  have H2 := hide (isNode_any t hf_t)
  have HG : Hid (goM ⟨k, f, t, tm, ix, lt, cm, rd, ys, dn, es, vs, d⟩ = (isN f && isN t && (f != t))) := hide (by
    unfold goM
    dsimp only
    congr 1)
  obtain ⟨g, hg⟩ : ∃ g, goM ⟨k, f, t, tm, ix, lt, cm, rd, ys, dn, es, vs, d⟩ = g := ⟨_, rfl⟩
  rw [hg] at HG ⊢
  obtain ⟨q1, hq1⟩ : ∃ q, isN f = q := ⟨_, rfl⟩
  obtain ⟨q2, hq2⟩ : ∃ q, isN t = q := ⟨_, rfl⟩
  obtain ⟨q3, hq3⟩ : ∃ q, (f != t) = q := ⟨_, rfl⟩
  rw [hq1, hq2, hq3] at HG
  rw [hq1] at H1
  rw [hq2] at H2
  clear hg hq1 hq2 hf_f hf_t
  go_enter Try.func63, Try.ntmps63
  go_wp2_with fail
  refine (H1.out _).mono ?_
  rintro e w1 ⟨rfl, hb1⟩
  obtain ⟨y0, y1, y2, y3, y4, y5, y6, y7, y8, y9, y10, y11, y12⟩ := HX0.out.below hb1
  have HB1 := hide (HB0.out.trans (hb1.mono HB0.out.size))
  have HX1 := hide (HX0.out.below hb1)
  clear hb1
  cases q1
  · go_wp2
    go_ret
    exact ⟨ret_b HG.out, HB1.out⟩
  · go_wp2_with fail
    refine (H2.out _).mono ?_
    rintro e w2 ⟨rfl, hb2⟩
    clear y0 y1 y2 y3 y4 y5 y6 y7 y8 y9 y10 y11 y12
    obtain ⟨y0, y1, y2, y3, y4, y5, y6, y7, y8, y9, y10, y11, y12⟩ := HX1.out.below hb2
    have HB2 := hide (HB1.out.trans (hb2.mono HB1.out.size))
    clear hb2
    cases q2
    · go_wp2
      go_ret
      exact ⟨ret_b HG.out, HB2.out⟩
    · cases q3
      all_goals
        go_wp2
        go_ret
        exact ⟨ret_b HG.out, HB2.out⟩

set_option maxRecDepth 200000 in
set_option maxHeartbeats 4000000 in
theorem mayCount_any {w : World} {m : Ms} {ve vv vd : Value} (h : MsV w m ve vv vd) : Calls Try.prog 64 #[msA m ve vv vd] w fun e w' => e = .returned (.bool (cntM m)) ∧ Below w.heap.size w w' := by
  obtain ⟨pe, ne, ce, rfl⟩ := h.es.sl
  obtain ⟨pv, nv, cv, rfl⟩ := h.vs.sl
  obtain ⟨pd, nd, cd, rfl⟩ := h.d.sl
  obtain ⟨k, f, t, tm, ix, lt, cm, rd, ys, dn, es, vs, d⟩ := m
  have HM := hide h
  clear h
  unfold msA
  dsimp only
  have HB0 := hide (((Below.refl w.heap.size w).alloc (Nat.le_refl _) (.cells #[.int .i64 k, .int .i64 f, .int .i64 t, .int .i64 tm, .int .i64 ix, .int .i64 lt, .int .i64 cm, .int .i64 rd, .bool ys, .bool dn, .slice pe ne ce, .slice pv nv cv, .slice pd nd cd] 26)).alloc (by simp) (.cells #[.int .i64 tm, .int .i64 ix, .int .i64 lt, .int .i64 cm, .int .i64 rd] 3))
  have HG : Hid (cntM ⟨k, f, t, tm, ix, lt, cm, rd, ys, dn, es, vs, d⟩ = (!decide (tm < 0) && !decide (1099511627776 < tm) && !decide (ix < 0) && !decide (1099511627776 < ix) && !decide (lt < 0) && !decide (1099511627776 < lt) && !decide (cm < 0) && !decide (1099511627776 < cm) && !decide (rd < 0) && !decide (1099511627776 < rd) && decide (0 < tm))) := hide (by
    unfold cntM cnt0
    dsimp only
    rw [Bool.eq_iff_iff]
    simp only [Bool.and_eq_true, Bool.not_eq_true', decide_eq_true_eq, decide_eq_false_iff_not]
    omega)
  obtain ⟨g, hg⟩ : ∃ g, cntM ⟨k, f, t, tm, ix, lt, cm, rd, ys, dn, es, vs, d⟩ = g := ⟨_, rfl⟩
  rw [hg] at HG ⊢
  clear hg
  go_enter Try.func64, Try.ntmps64
  go_wp2
  refine wp_loop_rounds 7 ?_
  rw [rounds_succ]
  rcases Bool.eq_false_or_eq_true (decide (tm < 0)) with t0 | t0
  · go_wp2
    go_ret
    exact ⟨ret_b (by rw [HG.out]; simp [*]), HB0.out⟩
  rcases Bool.eq_false_or_eq_true (decide (1099511627776 < tm)) with u0 | u0
  · go_wp2
    go_ret
    exact ⟨ret_b (by rw [HG.out]; simp [*]), HB0.out⟩
  go_wp2
  rw [rounds_succ]
  rcases Bool.eq_false_or_eq_true (decide (ix < 0)) with t1 | t1
  · go_wp2
    go_ret
    exact ⟨ret_b (by rw [HG.out]; simp [*]), HB0.out⟩
  rcases Bool.eq_false_or_eq_true (decide (1099511627776 < ix)) with u1 | u1
  · go_wp2
    go_ret
    exact ⟨ret_b (by rw [HG.out]; simp [*]), HB0.out⟩
  go_wp2
  rw [rounds_succ]
  rcases Bool.eq_false_or_eq_true (decide (lt < 0)) with t2 | t2
  · go_wp2
    go_ret
    exact ⟨ret_b (by rw [HG.out]; simp [*]), HB0.out⟩
  rcases Bool.eq_false_or_eq_true (decide (1099511627776 < lt)) with u2 | u2
  · go_wp2
    go_ret
    exact ⟨ret_b (by rw [HG.out]; simp [*]), HB0.out⟩
  go_wp2
  rw [rounds_succ]
  rcases Bool.eq_false_or_eq_true (decide (cm < 0)) with t3 | t3
  · go_wp2
    go_ret
    exact ⟨ret_b (by rw [HG.out]; simp [*]), HB0.out⟩
  rcases Bool.eq_false_or_eq_true (decide (1099511627776 < cm)) with u3 | u3
  · go_wp2
    go_ret
    exact ⟨ret_b (by rw [HG.out]; simp [*]), HB0.out⟩
  go_wp2
  rw [rounds_succ]
  rcases Bool.eq_false_or_eq_true (decide (rd < 0)) with t4 | t4
  · go_wp2
    go_ret
    exact ⟨ret_b (by rw [HG.out]; simp [*]), HB0.out⟩
  rcases Bool.eq_false_or_eq_true (decide (1099511627776 < rd)) with u4 | u4
  · go_wp2
    go_ret
    exact ⟨ret_b (by rw [HG.out]; simp [*]), HB0.out⟩
  go_wp2
  rw [rounds_succ]
  go_wp2
  go_ret
  exact ⟨ret_b (by rw [HG.out, t0, t1, t2, t3, t4, u0, u1, u2, u3, u4]; rfl), HB0.out⟩

set_option maxRecDepth 200000 in
set_option maxHeartbeats 4000000 in
theorem mayAppend_any {w : World} {m : Ms} {ve vv vd : Value} (h : MsV w m ve vv vd) : Calls Try.prog 90 #[msA m ve vv vd] w fun e w' => e = .returned (.bool (appM m)) ∧ Below w.heap.size w w' := by
  obtain ⟨pe, ne, ce, rfl⟩ := h.es.sl
  obtain ⟨pv, nv, cv, rfl⟩ := h.vs.sl
  obtain ⟨pd, nd, cd, rfl⟩ := h.d.sl
  have hf_ix : fits m.ix := h.fits _ (by simp [Ms.nums])
  have hle := h.es.len
  obtain ⟨k, f, t, tm, ix, lt, cm, rd, ys, dn, es, vs, d⟩ := m
  have HM := hide h
  clear h
  unfold msA
  dsimp only
  have HB0 := hide ((Below.refl w.heap.size w).alloc (Nat.le_refl _) (.cells #[.int .i64 k, .int .i64 f, .int .i64 t, .int .i64 tm, .int .i64 ix, .int .i64 lt, .int .i64 cm, .int .i64 rd, .bool ys, .bool dn, .slice pe ne ce, .slice pv nv cv, .slice pd nd cd] 26))
  have HX0 := hide (Box13.new w 26 (.int .i64 k) (.int .i64 f) (.int .i64 t) (.int .i64 tm) (.int .i64 ix) (.int .i64 lt) (.int .i64 cm) (.int .i64 rd) (.bool ys) (.bool dn) (.slice pe ne ce) (.slice pv nv cv) (.slice pd nd cd))
  dsimp only at hf_ix hle
  obtain ⟨hne, hlc, hcm⟩ := hle
  have hcm' : (ne : Int) ≤ 9223372036854775807 := by unfold maxLen at hcm; omega
  clear hlc hcm
  have HG : Hid (appM ⟨k, f, t, tm, ix, lt, cm, rd, ys, dn, es, vs, d⟩ = (!decide (8 < (ne : Int)) && (good ix lt && goOn ix lt es) && decide ((Lg.mk ix lt es).end_.2 ≤ tm))) := hide (by
    unfold appM
    dsimp only
    congr 2
    rw [Bool.eq_iff_iff]
    simp only [Bool.not_eq_true', decide_eq_true_eq, decide_eq_false_iff_not]
    omega)
  obtain ⟨g, hg⟩ : ∃ g, appM ⟨k, f, t, tm, ix, lt, cm, rd, ys, dn, es, vs, d⟩ = g := ⟨_, rfl⟩
  rw [hg] at HG ⊢
  have HNE := hide hne
  have HFX := hide hf_ix
  clear hg hne hf_ix
  go_enter Try.func90, Try.ntmps90
  rcases Bool.eq_false_or_eq_true (decide (8 < (ne : Int))) with t0 | t0
  · go_wp2
    go_ret
    exact ⟨ret_b (by rw [HG.out, t0]; rfl), HB0.out⟩
  · have H8 : Hid (es.length ≤ 100000) := hide (by have := HNE.out; have := of_decide_eq_false t0; omega)
    go_wp2_with fail
    refine (new_any (HM.out.es.below HB0.out) HFX.out H8.out).mono ?_
    unfold NewPost NewE
    rintro e w1 ⟨hb1, hr⟩
    obtain ⟨y0, y1, y2, y3, y4, y5, y6, y7, y8, y9, y10, y11, y12⟩ := HX0.out.below hb1
    have HB1 := hide (HB0.out.trans (hb1.mono HB0.out.size))
    have HX1 := hide (HX0.out.below hb1)
    clear hb1
    rcases Bool.eq_false_or_eq_true (good ix lt && goOn ix lt es) with t1 | t1
    · rw [if_pos t1] at hr
      obtain ⟨gl, rfl, hlg⟩ := hr
      have HLG := hide hlg.is
      clear hlg
      have HGL : Hid (g = decide ((Lg.mk ix lt es).end_.2 ≤ tm)) := hide (by rw [HG.out, t0, t1]; rfl)
      clear t0 t1 HG
      go_wp2_with fail
      refine (last_any HLG.out).mono ?_
      rintro e w2 ⟨rfl, hb2⟩
      clear y0 y1 y2 y3 y4 y5 y6 y7 y8 y9 y10 y11 y12
      obtain ⟨y0, y1, y2, y3, y4, y5, y6, y7, y8, y9, y10, y11, y12⟩ := HX1.out.below hb2
      have HB2 := hide (HB1.out.trans (hb2.mono HB1.out.size))
      clear hb2
      obtain ⟨z, hz⟩ : ∃ z, (Lg.mk ix lt es).end_ = z := ⟨_, rfl⟩
      rw [hz] at HGL ⊢
      obtain ⟨z1, z2⟩ := z
      dsimp only at HGL ⊢
      clear hz
      rcases Bool.eq_false_or_eq_true (decide (z2 ≤ tm)) with t2 | t2
      all_goals
        go_wp2
        go_ret
        exact ⟨ret_b (by rw [HGL.out, t2]), HB2.out⟩
    · rw [if_neg (by rw [t1]; simp)] at hr
      subst hr
      have HGL : Hid (g = false) := hide (by rw [HG.out, t0, t1]; rfl)
      clear t0 t1 HG
      go_wp2
      go_ret
      exact ⟨ret_b HGL.out, HB1.out⟩

set_option maxRecDepth 200000 in
set_option maxHeartbeats 4000000 in
theorem mayInstall_any {w : World} {m : Ms} {ve vv vd : Value} (h : MsV w m ve vv vd) : Calls Try.prog 91 #[msA m ve vv vd] w fun e w' => e = .returned (.bool (insM m)) ∧ Below w.heap.size w w' := by
  obtain ⟨pe, ne, ce, rfl⟩ := h.es.sl
  obtain ⟨pv, nv, cv, rfl⟩ := h.vs.sl
  obtain ⟨pd, nd, cd, rfl⟩ := h.d.sl
  have hld := h.d.len
  have hmd := h.d.lenMax
  obtain ⟨k, f, t, tm, ix, lt, cm, rd, ys, dn, es, vs, d⟩ := m
  have HM := hide h
  clear h
  unfold msA
  dsimp only
  have HB0 := hide ((Below.refl w.heap.size w).alloc (Nat.le_refl _) (.cells #[.int .i64 k, .int .i64 f, .int .i64 t, .int .i64 tm, .int .i64 ix, .int .i64 lt, .int .i64 cm, .int .i64 rd, .bool ys, .bool dn, .slice pe ne ce, .slice pv nv cv, .slice pd nd cd] 26))
  have HX0 := hide (Box13.new w 26 (.int .i64 k) (.int .i64 f) (.int .i64 t) (.int .i64 tm) (.int .i64 ix) (.int .i64 lt) (.int .i64 cm) (.int .i64 rd) (.bool ys) (.bool dn) (.slice pe ne ce) (.slice pv nv cv) (.slice pd nd cd))
  dsimp only at hld
  have HG : Hid (insM ⟨k, f, t, tm, ix, lt, cm, rd, ys, dn, es, vs, d⟩ = (decide (0 < ix) && decide (0 < lt) && decide (lt ≤ tm) && okR vs && decide ((nd : Int) ≤ 512))) := hide (by
    unfold insM
    dsimp only
    congr 1
    rw [decide_eq_decide]
    omega)
  obtain ⟨g, hg⟩ : ∃ g, insM ⟨k, f, t, tm, ix, lt, cm, rd, ys, dn, es, vs, d⟩ = g := ⟨_, rfl⟩
  rw [hg] at HG ⊢
  have HCK := hide (fun W (hW : Below w.heap.size w W) => check_any (HM.out.vs.below hW))
  have HQ4 : Hid ((chkI vs == 0) = okR vs) := hide (by
    unfold chkI
    cases okR vs <;> rfl)
  obtain ⟨c4, hc4⟩ : ∃ c, chkI vs = c := ⟨_, rfl⟩
  obtain ⟨q4, hq4⟩ : ∃ q, okR vs = q := ⟨_, rfl⟩
  rw [hq4] at HG HQ4
  rw [hc4] at HQ4
  unfold Chk at HCK
  simp only [hc4] at HCK
  clear hg hc4 hq4 hld
  go_enter Try.func91, Try.ntmps91
  rcases Bool.eq_false_or_eq_true (decide (0 < ix)) with t0 | t0
  · rcases Bool.eq_false_or_eq_true (decide (0 < lt)) with t1 | t1
    · rcases Bool.eq_false_or_eq_true (decide (lt ≤ tm)) with t2 | t2
      · go_wp2_with fail
        refine (HCK.out _ HB0.out).mono ?_
        rintro e w1 ⟨rfl, rfl⟩
        have t4 := HQ4.out
        cases q4
        · go_wp2
          go_ret
          exact ⟨ret_b (by rw [HG.out, t0, t1, t2]; rfl), HB0.out⟩
        · rcases Bool.eq_false_or_eq_true (decide ((nd : Int) ≤ 512)) with t5 | t5
          all_goals
            go_wp2
            go_ret
            exact ⟨ret_b (by rw [HG.out, t0, t1, t2, t5]; rfl), HB0.out⟩
      · go_wp2
        go_ret
        exact ⟨ret_b (by rw [HG.out, t0, t1, t2]; rfl), HB0.out⟩
    · go_wp2
      go_ret
      exact ⟨ret_b (by rw [HG.out, t0, t1]; rfl), HB0.out⟩
  · go_wp2
    go_ret
    exact ⟨ret_b (by rw [HG.out, t0]; rfl), HB0.out⟩

theorem nilL_len {α : Type} {l : List α} {n : Nat} (h : n = l.length) : nilL l = ((n : Int) == 0) := by
  unfold nilL
  rw [Bool.eq_iff_iff, decide_eq_true_eq, beq_iff_eq]
  omega

set_option maxRecDepth 200000 in
set_option maxHeartbeats 4000000 in
theorem mayCarry_any {w : World} {m : Ms} {ve vv vd : Value} (h : MsV w m ve vv vd) : Calls Try.prog 65 #[msA m ve vv vd] w fun e w' => e = .returned (.bool (carM m)) ∧ Below w.heap.size w w' := by
  obtain ⟨pe, ne, ce, rfl⟩ := h.es.sl
  obtain ⟨pv, nv, cv, rfl⟩ := h.vs.sl
  obtain ⟨pd, nd, cd, rfl⟩ := h.d.sl
  have he0 := nilL_len h.es.len.1
  have hv0 := nilL_len h.vs.len.1
  have hd0 := nilL_len h.d.len.1
  have HAP := hide (fun W (hW : Below w.heap.size w W) => mayAppend_any (h.below hW))
  have HIN := hide (fun W (hW : Below w.heap.size w W) => mayInstall_any (h.below hW))
  have hcb := carM_bare (m := m)
  have hc3 := carM_3 (m := m)
  have hc5 := carM_5 (m := m)
  have hcn := carM_no (m := m)
  obtain ⟨qa, hqa⟩ : ∃ q, appM m = q := ⟨_, rfl⟩
  obtain ⟨qi, hqi⟩ : ∃ q, insM m = q := ⟨_, rfl⟩
  obtain ⟨g, hg⟩ : ∃ g, carM m = g := ⟨_, rfl⟩
  unfold bareM at hcb
  rw [he0, hv0, hd0] at hcb
  rw [hv0, hd0, hqa] at hc3
  rw [he0, hqi] at hc5
  rw [hqa] at HAP
  rw [hqi] at HIN
  rw [hg] at hcb hc3 hc5 hcn ⊢
  clear he0 hv0 hd0 hqa hqi hg
  unfold msA at HAP HIN
  obtain ⟨k, f, t, tm, ix, lt, cm, rd, ys, dn, es, vs, d⟩ := m
  have HM := hide h
  clear h
  unfold msA
  dsimp only
  have HB0 := hide ((Below.refl w.heap.size w).alloc (Nat.le_refl _) (.cells #[.int .i64 k, .int .i64 f, .int .i64 t, .int .i64 tm, .int .i64 ix, .int .i64 lt, .int .i64 cm, .int .i64 rd, .bool ys, .bool dn, .slice pe ne ce, .slice pv nv cv, .slice pd nd cd] 26))
  have HX0 := hide (Box13.new w 26 (.int .i64 k) (.int .i64 f) (.int .i64 t) (.int .i64 tm) (.int .i64 ix) (.int .i64 lt) (.int .i64 cm) (.int .i64 rd) (.bool ys) (.bool dn) (.slice pe ne ce) (.slice pv nv cv) (.slice pd nd cd))
  dsimp only at hcb hc3 hc5 hcn HAP HIN
  obtain ⟨q1, e1⟩ : ∃ q, ((ne : Int) == 0) = q := ⟨_, rfl⟩
  obtain ⟨q2, e2⟩ : ∃ q, ((nv : Int) == 0) = q := ⟨_, rfl⟩
  obtain ⟨q3, e3⟩ : ∃ q, ((nd : Int) == 0) = q := ⟨_, rfl⟩
  rw [e1, e2, e3] at hcb
  rw [e2, e3] at hc3
  rw [e1] at hc5
  have HCB := hide hcb
  have HC3 := hide hc3
  have HC5 := hide hc5
  have HCN := hide hcn
  clear hcb hc3 hc5 hcn
  go_enter Try.func65, Try.ntmps65
  by_cases hb : k = 1 ∨ k = 2 ∨ k = 4 ∨ k = 6
  · have HG : Hid (g = (q1 && q2 && q3)) := hide (HCB.out (by simp [bare]; omega))
    clear HCB HC3 HC5 HCN HAP HIN
    rcases hb with rfl | rfl | rfl | rfl
    all_goals
      cases q1
      · go_wp2
        go_ret
        exact ⟨ret_b HG.out, HB0.out⟩
      · cases q2
        · go_wp2
          go_ret
          exact ⟨ret_b HG.out, HB0.out⟩
        · cases q3
          all_goals
            go_wp2
            go_ret
            exact ⟨ret_b HG.out, HB0.out⟩
  · by_cases h3 : k = 3
    · have HG := hide (HC3.out h3)
      subst h3
      clear HCB HC3 HC5 HCN HIN hb e1
      cases q2
      · go_wp2
        go_ret
        exact ⟨ret_b HG.out, HB0.out⟩
      · cases q3
        · go_wp2
          go_ret
          exact ⟨ret_b HG.out, HB0.out⟩
        · go_wp2_with fail
          refine (HAP.out _ HB0.out).mono ?_
          rintro e w1 ⟨rfl, hb1⟩
          have HB1 := hide (HB0.out.trans (hb1.mono HB0.out.size))
          clear hb1 HX0
          cases qa
          all_goals
            go_wp2
            go_ret
            exact ⟨ret_b HG.out, HB1.out⟩
    · by_cases h5 : k = 5
      · have HG := hide (HC5.out h5)
        subst h5
        clear HCB HC3 HC5 HCN HAP hb e2 e3 h3
        cases q1
        · go_wp2
          go_ret
          exact ⟨ret_b HG.out, HB0.out⟩
        · go_wp2_with fail
          refine (HIN.out _ HB0.out).mono ?_
          rintro e w1 ⟨rfl, hb1⟩
          have HB1 := hide (HB0.out.trans (hb1.mono HB0.out.size))
          clear hb1 HX0
          cases qi
          all_goals
            go_wp2
            go_ret
            exact ⟨ret_b HG.out, HB1.out⟩
      · have HG := hide (HCN.out (by simp [bare]; omega) h3 h5)
        have f1 : (k == 1) = false := by simp; omega
        have f2 : (k == 2) = false := by simp; omega
        have f3 : (k == 3) = false := by simp; omega
        have f4 : (k == 4) = false := by simp; omega
        have f5 : (k == 5) = false := by simp; omega
        have f6 : (k == 6) = false := by simp; omega
        clear HCB HC3 HC5 HCN HAP HIN hb h3 h5 e1 e2 e3
        go_wp2
        go_ret
        exact ⟨ret_b HG.out, HB0.out⟩

set_option maxRecDepth 200000 in
set_option maxHeartbeats 4000000 in
theorem checkM_any {w : World} {m : Ms} {ve vv vd : Value} (h : MsV w m ve vv vd) : Calls Try.prog 42 #[msA m ve vv vd] w fun e w' => e = .returned (.int .i64 (chkM m)) ∧ Below w.heap.size w w' := by
  obtain ⟨pe, ne, ce, rfl⟩ := h.es.sl
  obtain ⟨pv, nv, cv, rfl⟩ := h.vs.sl
  obtain ⟨pd, nd, cd, rfl⟩ := h.d.sl
  have H1 := hide (fun W (hW : Below w.heap.size w W) => mayGo_any (h.below hW))
  have H2 := hide (fun W (hW : Below w.heap.size w W) => mayCount_any (h.below hW))
  have H3 := hide (fun W (hW : Below w.heap.size w W) => mayCarry_any (h.below hW))
  obtain ⟨q1, hq1⟩ : ∃ q, goM m = q := ⟨_, rfl⟩
  obtain ⟨q2, hq2⟩ : ∃ q, cntM m = q := ⟨_, rfl⟩
  obtain ⟨q3, hq3⟩ : ∃ q, carM m = q := ⟨_, rfl⟩
  have HG : Hid (chkM m = if (q1 && q2 && q3) then 0 else 122) := hide (by unfold chkM okM; rw [hq1, hq2, hq3])
  obtain ⟨g, hg⟩ : ∃ g, chkM m = g := ⟨_, rfl⟩
  rw [hg] at HG ⊢
  rw [hq1] at H1
  rw [hq2] at H2
  rw [hq3] at H3
  clear hq1 hq2 hq3 hg
  unfold msA at H1 H2 H3
  obtain ⟨k, f, t, tm, ix, lt, cm, rd, ys, dn, es, vs, d⟩ := m
  have HM := hide h
  clear h
  unfold msA
  dsimp only
  have HB0 := hide ((Below.refl w.heap.size w).alloc (Nat.le_refl _) (.cells #[.int .i64 k, .int .i64 f, .int .i64 t, .int .i64 tm, .int .i64 ix, .int .i64 lt, .int .i64 cm, .int .i64 rd, .bool ys, .bool dn, .slice pe ne ce, .slice pv nv cv, .slice pd nd cd] 26))
  have HX0 := hide (Box13.new w 26 (.int .i64 k) (.int .i64 f) (.int .i64 t) (.int .i64 tm) (.int .i64 ix) (.int .i64 lt) (.int .i64 cm) (.int .i64 rd) (.bool ys) (.bool dn) (.slice pe ne ce) (.slice pv nv cv) (.slice pd nd cd))
  dsimp only at H1 H2 H3
  go_enter Try.func42, Try.ntmps42
  go_wp2_with fail
  refine (H1.out _ HB0.out).mono ?_
  rintro e w1 ⟨rfl, hb1⟩
  obtain ⟨y0, y1, y2, y3, y4, y5, y6, y7, y8, y9, y10, y11, y12⟩ := HX0.out.below hb1
  have HB1 := hide (HB0.out.trans (hb1.mono HB0.out.size))
  have HX1 := hide (HX0.out.below hb1)
  clear hb1
  cases q1
  · go_wp2
    go_ret
    exact ⟨ret_i HG.out, HB1.out⟩
  · go_wp2_with fail
    refine (H2.out _ HB1.out).mono ?_
    rintro e w2 ⟨rfl, hb2⟩
    clear y0 y1 y2 y3 y4 y5 y6 y7 y8 y9 y10 y11 y12
    obtain ⟨y0, y1, y2, y3, y4, y5, y6, y7, y8, y9, y10, y11, y12⟩ := HX1.out.below hb2
    have HB2 := hide (HB1.out.trans (hb2.mono HB1.out.size))
    clear hb2
    cases q2
    · go_wp2
      go_ret
      exact ⟨ret_i HG.out, HB2.out⟩
    · go_wp2_with fail
      refine (H3.out _ HB2.out).mono ?_
      rintro e w3 ⟨rfl, hb3⟩
      have HB3 := hide (HB2.out.trans (hb3.mono HB2.out.size))
      clear hb3 y0 y1 y2 y3 y4 y5 y6 y7 y8 y9 y10 y11 y12
      cases q3
      all_goals
        go_wp2
        go_ret
        exact ⟨ret_i HG.out, HB3.out⟩
end Go.Proofs.Ytiiollgipfggmaa
