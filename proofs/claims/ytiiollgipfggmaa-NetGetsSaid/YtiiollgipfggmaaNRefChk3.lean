/- Which message may be: the document, of entries. -/
import Derived.Test.YtiiollgipfggmaaNRefChkG
import Derived.Deep.DeepCutAuto
namespace Go.Proofs.Ytiiollgipfggmaa
set_option linter.unusedVariables false
set_option linter.unusedSimpArgs false
open Go.RowKit

set_option maxRecDepth 200000 in
set_option maxHeartbeats 4000000 in
theorem refCheck3_any {w : World} {m : Ms} {ve vv vd : Value} (h : MsV w m ve vv vd) (hk : m.k = 3) : Calls Try.prog 45 #[msA m ve vv vd] w fun e w' => e = .returned (.int .i64 (chkM m)) ∧ Below w.heap.size w w' := by
  obtain ⟨pe, ne, ce, rfl⟩ := h.es.sl
  obtain ⟨pv, nv, cv, rfl⟩ := h.vs.sl
  obtain ⟨pd, nd, cd, rfl⟩ := h.d.sl
  have hf_ix : fits m.ix := h.fits _ (by simp [Ms.nums])
  have hle := h.es.len
  have hld := h.d.len
  have he0 := nilL_len h.es.len.1
  have hv0 := nilL_len h.vs.len.1
  have hd0 := nilL_len h.d.len.1
  have HCK := hide (fun W (hW : Below w.heap.size w W) => refCheck_any (h.vs.below hW))
  have HGO : Hid (okM m = (refHead m && carM m)) := hide (by unfold okM; rw [refHead_eq])
  have HAP : Hid (refHead m = true → m.k = 3 → carM m = (refApp m && allT m.es m.tm)) := hide (fun a b => by
    rw [refHead_eq, Bool.and_eq_true] at a
    rw [carM_3 b, refApp_eq a.2])
  have hcb := carM_bare (m := m)
  have hc5 := carM_5 (m := m)
  have hcn := carM_no (m := m)
  have HG : Hid (chkM m = if (refHead m && carM m) then 0 else 122) := hide (by unfold chkM; rw [HGO.out])
  obtain ⟨qc, hqc⟩ : ∃ q, carM m = q := ⟨_, rfl⟩
  obtain ⟨g, hg⟩ : ∃ g, chkM m = g := ⟨_, rfl⟩
  unfold bareM at hcb
  rw [he0, hv0, hd0] at hcb
  rw [he0] at hc5
  rw [hg] at HG ⊢
  rw [hqc] at HG HAP hcb hc5 hcn
  clear hg hqc HGO he0
  obtain ⟨k, f, t, tm, ix, lt, cm, rd, ys, dn, es, vs, d⟩ := m
  have HM := hide h
  clear h
  unfold msA
  dsimp only
  have HB0 := hide ((Below.refl w.heap.size w).alloc (Nat.le_refl _) (.cells #[.int .i64 k, .int .i64 f, .int .i64 t, .int .i64 tm, .int .i64 ix, .int .i64 lt, .int .i64 cm, .int .i64 rd, .bool ys, .bool dn, .slice pe ne ce, .slice pv nv cv, .slice pd nd cd] 26))
  have HX0 := hide (Box13.new w 26 (.int .i64 k) (.int .i64 f) (.int .i64 t) (.int .i64 tm) (.int .i64 ix) (.int .i64 lt) (.int .i64 cm) (.int .i64 rd) (.bool ys) (.bool dn) (.slice pe ne ce) (.slice pv nv cv) (.slice pd nd cd))
  dsimp only at hk hcb hc5 hcn HAP hle hld hv0 hd0 hf_ix
  obtain ⟨hne, hlc, hcm⟩ := hle
  have hcm' : (ne : Int) ≤ 9223372036854775807 := by unfold maxLen at hcm; omega
  have HNE := hide hne
  have HFX := hide hf_ix
  clear hlc hcm hf_ix
  obtain ⟨q0, hq0⟩ : ∃ q, refHead ⟨k, f, t, tm, ix, lt, cm, rd, ys, dn, es, vs, d⟩ = q := ⟨_, rfl⟩
  have HQ0 := hq0
  unfold refHead at HQ0
  dsimp only at HQ0
  have G_f := hide (good12_any f 0)
  obtain ⟨p_f, h_f⟩ : ∃ p, goodI f 0 = p := ⟨_, rfl⟩
  rw [h_f] at G_f HQ0
  clear h_f
  obtain ⟨p_f7, e_f7⟩ : ∃ p, decide (f < 7) = p := ⟨_, rfl⟩
  rw [e_f7] at HQ0
  have G_t := hide (good12_any t 0)
  obtain ⟨p_t, h_t⟩ : ∃ p, goodI t 0 = p := ⟨_, rfl⟩
  rw [h_t] at G_t HQ0
  clear h_t
  obtain ⟨p_t7, e_t7⟩ : ∃ p, decide (t < 7) = p := ⟨_, rfl⟩
  rw [e_t7] at HQ0
  obtain ⟨p_ft, e_ft⟩ : ∃ p, (f != t) = p := ⟨_, rfl⟩
  rw [e_ft] at HQ0
  have G_tm := hide (good12_any tm 1)
  obtain ⟨p_tm, h_tm⟩ : ∃ p, goodI tm 1 = p := ⟨_, rfl⟩
  rw [h_tm] at G_tm HQ0
  clear h_tm
  have G_ix := hide (good12_any ix 0)
  obtain ⟨p_ix, h_ix⟩ : ∃ p, goodI ix 0 = p := ⟨_, rfl⟩
  rw [h_ix] at G_ix HQ0
  clear h_ix
  have G_lt := hide (good12_any lt 0)
  obtain ⟨p_lt, h_lt⟩ : ∃ p, goodI lt 0 = p := ⟨_, rfl⟩
  rw [h_lt] at G_lt HQ0
  clear h_lt
  have G_cm := hide (good12_any cm 0)
  obtain ⟨p_cm, h_cm⟩ : ∃ p, goodI cm 0 = p := ⟨_, rfl⟩
  rw [h_cm] at G_cm HQ0
  clear h_cm
  have G_rd := hide (good12_any rd 0)
  obtain ⟨p_rd, h_rd⟩ : ∃ p, goodI rd 0 = p := ⟨_, rfl⟩
  rw [h_rd] at G_rd HQ0
  clear h_rd
  have HQ := hide HQ0
  rw [hq0] at HG HAP
  obtain ⟨q1, e1⟩ : ∃ q, ((ne : Int) == 0) = q := ⟨_, rfl⟩
  obtain ⟨q2, e2⟩ : ∃ q, ((nv : Int) == 0) = q := ⟨_, rfl⟩
  obtain ⟨q3, e3⟩ : ∃ q, ((nd : Int) == 0) = q := ⟨_, rfl⟩
  rw [e1, e2, e3] at hcb
  rw [e1] at hc5
  have HCB := hide hcb
  have HC5 := hide hc5
  have HCN := hide hcn
  have HAPP : Hid (refApp ⟨k, f, t, tm, ix, lt, cm, rd, ys, dn, es, vs, d⟩ = (decide ((ne : Int) ≤ 8) && q2 && q3 && (decide (0 < ix) == decide (0 < lt)) && decide (lt ≤ tm) && rises ix lt es)) := hide (by
    unfold refApp
    dsimp only
    rw [hv0, hd0, e2, e3]
    congr 5
    rw [decide_eq_decide]
    omega)
  have HINS : Hid (insM ⟨k, f, t, tm, ix, lt, cm, rd, ys, dn, es, vs, d⟩ = (decide (0 < ix) && decide (0 < lt) && decide (lt ≤ tm) && okR vs && decide ((nd : Int) ≤ 512))) := hide (by
    unfold insM
    dsimp only
    congr 1
    rw [decide_eq_decide]
    omega)
  clear hcb hc5 hcn HQ0 hq0 hne hld hv0 hd0
  go_enter Try.func45, Try.ntmps45
  have HK := hide hk
  clear hk
  go_upto_region 1 with fail
  go_cut [3] (fun s3 wx => s3 = .bool q0 ∧ wx = (w.alloc (.cells #[.int .i64 k, .int .i64 f, .int .i64 t, .int .i64 tm, .int .i64 ix, .int .i64 lt, .int .i64 cm, .int .i64 rd, .bool ys, .bool dn, .slice pe ne ce, .slice pv nv cv, .slice pd nd cd] 26)))
  case first =>
    clear e1 e2 e3
    go_wp2_with fail
    refine (G_f.out _).mono ?_
    rintro e w' ⟨rfl, rfl⟩
    cases p_f
    · go_wp2_with fail
      go_meet
      exact ⟨congrArg Value.bool (by rw [← HQ.out]; rfl), rfl⟩
    · cases p_f7
      · go_wp2_with fail
        go_meet
        exact ⟨congrArg Value.bool (by rw [← HQ.out]; rfl), rfl⟩
      · go_wp2_with fail
        refine (G_t.out _).mono ?_
        rintro e w' ⟨rfl, rfl⟩
        cases p_t
        · go_wp2_with fail
          go_meet
          exact ⟨congrArg Value.bool (by rw [← HQ.out]; rfl), rfl⟩
        · cases p_t7
          · go_wp2_with fail
            go_meet
            exact ⟨congrArg Value.bool (by rw [← HQ.out]; rfl), rfl⟩
          · cases p_ft
            · go_wp2_with fail
              go_meet
              exact ⟨congrArg Value.bool (by rw [← HQ.out]; rfl), rfl⟩
            · go_wp2_with fail
              refine (G_tm.out _).mono ?_
              rintro e w' ⟨rfl, rfl⟩
              cases p_tm
              · go_wp2_with fail
                go_meet
                exact ⟨congrArg Value.bool (by rw [← HQ.out]; rfl), rfl⟩
              · go_wp2_with fail
                refine (G_ix.out _).mono ?_
                rintro e w' ⟨rfl, rfl⟩
                cases p_ix
                · go_wp2_with fail
                  go_meet
                  exact ⟨congrArg Value.bool (by rw [← HQ.out]; rfl), rfl⟩
                · go_wp2_with fail
                  refine (G_lt.out _).mono ?_
                  rintro e w' ⟨rfl, rfl⟩
                  cases p_lt
                  · go_wp2_with fail
                    go_meet
                    exact ⟨congrArg Value.bool (by rw [← HQ.out]; rfl), rfl⟩
                  · go_wp2_with fail
                    refine (G_cm.out _).mono ?_
                    rintro e w' ⟨rfl, rfl⟩
                    cases p_cm
                    · go_wp2_with fail
                      go_meet
                      exact ⟨congrArg Value.bool (by rw [← HQ.out]; rfl), rfl⟩
                    · go_wp2_with fail
                      refine (G_rd.out _).mono ?_
                      rintro e w' ⟨rfl, rfl⟩
                      cases p_rd
                      · go_wp2_with fail
                        go_meet
                        exact ⟨congrArg Value.bool (by rw [← HQ.out]; rfl), rfl⟩
                      · go_wp2_with fail
                        go_meet
                        exact ⟨congrArg Value.bool (by rw [← HQ.out]; rfl), rfl⟩
  case rest =>
    obtain ⟨rfl, rfl⟩ := hcut
    clear e_f7 e_t7 e_ft HQ
    have h3 := HK.out
    have hb : True := trivial
    clear HK
    have HAP2 := hide (fun a => HAP.out a h3)
    subst h3
    clear HCB HC5 HCN HAP HCK HINS hb e1
    obtain ⟨a1, i1⟩ : ∃ p, decide ((ne : Int) ≤ 8) = p := ⟨_, rfl⟩
    obtain ⟨a4, i4⟩ : ∃ p, decide (0 < ix) = p := ⟨_, rfl⟩
    obtain ⟨a5, i5⟩ : ∃ p, decide (0 < lt) = p := ⟨_, rfl⟩
    obtain ⟨a6, i6⟩ : ∃ p, (a4 == a5) = p := ⟨_, rfl⟩
    obtain ⟨a7, i7⟩ : ∃ p, decide (lt ≤ tm) = p := ⟨_, rfl⟩
    have H8 : Hid (a1 = true → es.length ≤ 100000) := hide (fun a => by
      rw [a] at i1
      have := of_decide_eq_true i1
      have := HNE.out
      omega)
    have HRI := hide (fun W (hW : Below w.heap.size w W) (hl : es.length ≤ 100000) => refRises_any (ix := ix) (tm := lt) (HM.out.es.below hW) HFX.out hl)
    obtain ⟨a8, i8⟩ : ∃ p, rises ix lt es = p := ⟨_, rfl⟩
    rw [i8] at HRI HAPP
    rw [i1, i4, i5, i6, i7] at HAPP
    obtain ⟨qr, hqr⟩ : ∃ q, refApp ⟨3, f, t, tm, ix, lt, cm, rd, ys, dn, es, vs, d⟩ = q := ⟨_, rfl⟩
    rw [hqr] at HAPP HAP2
    obtain ⟨qa, hqa⟩ : ∃ q, (q0 && qr) = q := ⟨_, rfl⟩
    have HQA0 := hqa
    rw [HAPP.out] at HQA0
    have HQA : Hid ((q0 && (a1 && q2 && q3 && a6 && a7 && a8)) = qa) := hide HQA0
    have HG2 : Hid (g = if (qa && allT es tm) then 0 else 122) := hide (by
      rw [HG.out, ← hqa]
      cases q0
      · rfl
      · rw [HAP2.out rfl]
        simp)
    clear HQA0 hqa hqr i8 HAPP HAP2 HG
    go_upto_region 10 with fail
    go_cut [3] (fun s3 wx => s3 = .bool qa ∧ Hid (Below w.heap.size w wx ∧ Box13 wx w.heap.size (.int .i64 3) (.int .i64 f) (.int .i64 t) (.int .i64 tm) (.int .i64 ix) (.int .i64 lt) (.int .i64 cm) (.int .i64 rd) (.bool ys) (.bool dn) (.slice pe ne ce) (.slice pv nv cv) (.slice pd nd cd)))
    case first =>
      cases q0
      · go_wp2_with fail
        go_meet
        exact ⟨congrArg Value.bool (by rw [← HQA.out]; rfl), hide ⟨HB0.out, HX0.out⟩⟩
      · cases a1
        · go_wp2_with fail
          go_meet
          exact ⟨congrArg Value.bool (by rw [← HQA.out]; rfl), hide ⟨HB0.out, HX0.out⟩⟩
        · cases q2
          · go_wp2_with fail
            go_meet
            exact ⟨congrArg Value.bool (by rw [← HQA.out]; rfl), hide ⟨HB0.out, HX0.out⟩⟩
          · cases q3
            · go_wp2_with fail
              go_meet
              exact ⟨congrArg Value.bool (by rw [← HQA.out]; rfl), hide ⟨HB0.out, HX0.out⟩⟩
            · cases a6
              · go_wp2_with fail
                go_meet
                exact ⟨congrArg Value.bool (by rw [← HQA.out]; rfl), hide ⟨HB0.out, HX0.out⟩⟩
              · cases a7
                · go_wp2_with fail
                  go_meet
                  exact ⟨congrArg Value.bool (by rw [← HQA.out]; rfl), hide ⟨HB0.out, HX0.out⟩⟩
                · have HR8 := hide (H8.out rfl)
                  go_wp2_with fail
                  refine (HRI.out _ HB0.out HR8.out).mono ?_
                  rintro e w1 ⟨rfl, hb1⟩
                  have HX1 := hide (HX0.out.below hb1)
                  have HB1 := hide (HB0.out.trans (hb1.mono HB0.out.size))
                  clear hb1
                  cases a8
                  · go_wp2_with fail
                    go_meet
                    exact ⟨congrArg Value.bool (by rw [← HQA.out]; rfl), hide ⟨HB1.out, HX1.out⟩⟩
                  · go_wp2_with fail
                    go_meet
                    exact ⟨congrArg Value.bool (by rw [← HQA.out]; rfl), hide ⟨HB1.out, HX1.out⟩⟩
    case rest =>
      obtain ⟨rfl, HW⟩ := hcut
      clear i1 i4 i5 i6 i7 e2 e3 HX0 HRI H8
      have HEN := hide (fun (wr : World) (hW : Below w.heap.size w wr) => HM.out.es.below hW)
      have HB10 := hide HW.out.1
      obtain ⟨y0, y1, y2, y3, y4, y5, y6, y7, y8, y9, y10, y11, y12⟩ := HW.out.2
      go_wp2_with fail
      go_loopw [3, 5, 131] (fun s3 _ i wr => ∃ kk : Nat, kk ≤ es.length ∧ i = .int .i64 kk ∧ s3 = .bool (qa && allT (es.take kk) tm) ∧ Hid (Below w.heap.size w wr ∧ Box13 wr w.heap.size (.int .i64 3) (.int .i64 f) (.int .i64 t) (.int .i64 tm) (.int .i64 ix) (.int .i64 lt) (.int .i64 cm) (.int .i64 rd) (.bool ys) (.bool dn) (.slice pe ne ce) (.slice pv nv cv) (.slice pd nd cd))) (fun _ _ i _ => es.length - (intOf i).toNat)
      case atStart => exact ⟨0, by omega, rfl, by simp [allT], HW⟩
      case round =>
        obtain ⟨kk, hkk, rfl, rfl, HR⟩ := hrel
        have hnn := HNE.out
        clear y0 y1 y2 y3 y4 y5 y6 y7 y8 y9 y10 y11 y12
        by_cases hlt : kk < es.length
        · have he := List.getElem?_eq_getElem hlt
          obtain ⟨e, hee⟩ : ∃ e, es[kk] = e := ⟨_, rfl⟩
          rw [hee] at he
          have HT : Hid (es.take (kk + 1) = es.take kk ++ [e]) := hide (by rw [List.take_add_one, he]; rfl)
          have hlt' : (kk : Int) < (ne : Int) := by omega
          obtain ⟨g2, o2, p2, n2, c2, rfl, hat, hby, hnd⟩ := (HEN.out wr HR.out.1).at_ he
          obtain ⟨oo, hoo⟩ : ∃ oo, o2 + kk * 3 = oo := ⟨_, rfl⟩
          rw [hoo] at hat
          have c0 := hat.c0
          have c1 := hat.c1
          have cc2 := hat.c2
          dsimp only at c0 c1 cc2
          obtain ⟨ei, hei⟩ : ∃ ei, e.i = ei := ⟨_, rfl⟩
          obtain ⟨et, het⟩ : ∃ et, e.t = et := ⟨_, rfl⟩
          rw [hei] at c0
          rw [het] at c1
          have hZ0 := (Below.refl wr.heap.size wr).alloc (Nat.le_refl _) (.cells #[.int .i64 ei, .int .i64 et, .slice p2 n2 c2] 70)
          have hN0 : EcAt (wr.alloc (.cells #[.int .i64 ei, .int .i64 et, .slice p2 n2 c2] 70)) wr.heap.size 0 ⟨ei, et, p2, n2, c2⟩ := fun j u hj => by
            rw [Nat.zero_add, cell_of_row _ wr.heap.size _ _ _ (0, 0) (heap_alloc_new wr _)]
            simpa [ecC] using hj
          obtain ⟨Z, hZ⟩ : ∃ Z, wr.alloc (.cells #[.int .i64 ei, .int .i64 et, .slice p2 n2 c2] 70) = Z := ⟨_, rfl⟩
          rw [hZ] at hZ0 hN0
          have z0 := hN0.c0
          have z1 := hN0.c1
          have z2 := hN0.c2
          rw [Nat.zero_add] at z1 z2
          dsimp only at z0 z1 z2
          have HZX := hide (HR.out.2.below hZ0)
          have HZB := hide (HR.out.1.trans (hZ0.mono HR.out.1.size))
          have yz := HZX.out.c3
          have HET := hide het
          obtain ⟨qk, hqk⟩ : ∃ q, (qa && allT (es.take kk) tm) = q := ⟨_, rfl⟩
          have HS : Hid ((qa && allT (es.take (kk + 1)) tm) = (qk && decide (et ≤ tm))) := hide (by
            rw [HT.out, allT_snoc, ← hqk, het, Bool.and_assoc])
          rw [hqk]
          clear hZ0 hN0 he hee hat hby hnd hei het hqk hnn
          cases qk
          · go_wp2
            go_roundw
            case rel => exact ⟨kk + 1, by omega, by go_num, by rw [HS.out]; rfl, hide ⟨HZB.out, HZX.out⟩⟩
            case measure => simp [intOf]; omega
          · rcases Bool.eq_false_or_eq_true (decide (et ≤ tm)) with i9 | i9
            all_goals
              go_wp2
              go_roundw
              case rel => exact ⟨kk + 1, by omega, by go_num, by rw [HS.out, i9]; rfl, hide ⟨HZB.out, HZX.out⟩⟩
              case measure => simp [intOf]; omega
        · have HT : Hid (es.take kk = es) := hide (List.take_of_length_le (by omega))
          have hlt' : ¬ (kk : Int) < (ne : Int) := by omega
          rw [HT.out]
          have HBR := hide HR.out.1
          clear hlt hnn
          obtain ⟨qk, hqk⟩ : ∃ q, (qa && allT es tm) = q := ⟨_, rfl⟩
          rw [hqk] at HG2 ⊢
          clear hqk
          cases qk
          all_goals
            go_wp2
            go_ret
            exact ⟨ret_i HG2.out, HBR.out⟩
end Go.Proofs.Ytiiollgipfggmaa
