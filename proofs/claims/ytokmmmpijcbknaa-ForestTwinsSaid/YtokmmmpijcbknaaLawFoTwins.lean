/- The law ForestTwins. -/
import Derived.Test.YtokmmmpijcbknaaFLight
namespace Go.Proofs.Ytokmmmpijcbknaa
set_option linter.unusedVariables false
set_option linter.unusedSimpArgs false
open Go.RowKit

set_option maxRecDepth 200000 in
set_option maxHeartbeats 4000000 in
theorem lawFoTwins_any {w : World} {v1 v2 v3 : Value} {l1 l2 l3 : List Sp} (hv1 : Sps w v1 l1) (hn1 : ∀ x ∈ l1, x.n.size ≤ maxLen) (hv2 : Sps w v2 l2) (hn2 : ∀ x ∈ l2, x.n.size ≤ maxLen) (hv3 : Sps w v3 l3) (hn3 : ∀ x ∈ l3, x.n.size ≤ maxLen) : Calls Try.prog 10 #[v1, v2, v3] w fun e w' => e = .returned (.bool true) ∧ Below w.heap.size w w' := by
  obtain ⟨q1, m1, c1, rfl⟩ := hv1.sl
  obtain ⟨q2, m2, c2, rfl⟩ := hv2.sl
  obtain ⟨q3, m3, c3, rfl⟩ := hv3.sl
  have HL1 := hide (light_any hv1 hn1)
  have HL2 := hide (light_any hv2 hn2)
  have HL3 := hide (light_any hv3 hn3)
  have HA := hide awake_any
  have HS1 := hide hv1
  have HS2 := hide hv2
  have HS3 := hide hv3
  clear hv1 hn1 hv2 hn2 hv3 hn3
  cases h1 : lightL l1 with
  | false =>
    rw [h1] at HL1
    go_enter Try.func10, Try.ntmps10
    go_wp2_with fail
    refine HL1.out.mono ?_
    rintro e1 w1 ⟨rfl, hw1⟩
    have hw1 := hw1.symm
    subst hw1
    go_wp2_with fail
    refine (HA.out _).mono ?_
    rintro e2 w2 ⟨rfl, hb2⟩
    have HBf := hide ((Below.refl w.heap.size w).trans (hb2.mono (Below.refl w.heap.size w).size))
    clear hb2
    go_wp2
    go_ret
    exact ⟨rfl, HBf.out⟩
  | true =>
    rw [h1] at HL1
    have HG1 := hide (light_len h1)
    cases h2 : lightL l2 with
    | false =>
      rw [h2] at HL2
      go_enter Try.func10, Try.ntmps10
      go_wp2_with fail
      refine HL1.out.mono ?_
      rintro e1 w1 ⟨rfl, hw1⟩
      have hw1 := hw1.symm
      subst hw1
      go_wp2_with fail
      refine HL2.out.mono ?_
      rintro e2 w2 ⟨rfl, hw2⟩
      have hw2 := hw2.symm
      subst hw2
      go_wp2_with fail
      refine (HA.out _).mono ?_
      rintro e3 w3 ⟨rfl, hb3⟩
      have HBf := hide ((Below.refl w.heap.size w).trans (hb3.mono (Below.refl w.heap.size w).size))
      clear hb3
      go_wp2
      go_ret
      exact ⟨rfl, HBf.out⟩
    | true =>
      rw [h2] at HL2
      have HG2 := hide (light_len h2)
      cases h3 : lightL l3 with
      | false =>
        rw [h3] at HL3
        go_enter Try.func10, Try.ntmps10
        go_wp2_with fail
        refine HL1.out.mono ?_
        rintro e1 w1 ⟨rfl, hw1⟩
        have hw1 := hw1.symm
        subst hw1
        go_wp2_with fail
        refine HL2.out.mono ?_
        rintro e2 w2 ⟨rfl, hw2⟩
        have hw2 := hw2.symm
        subst hw2
        go_wp2_with fail
        refine HL3.out.mono ?_
        rintro e3 w3 ⟨rfl, hw3⟩
        have hw3 := hw3.symm
        subst hw3
        go_wp2_with fail
        refine (HA.out _).mono ?_
        rintro e4 w4 ⟨rfl, hb4⟩
        have HBf := hide ((Below.refl w.heap.size w).trans (hb4.mono (Below.refl w.heap.size w).size))
        clear hb4
        go_wp2
        go_ret
        exact ⟨rfl, HBf.out⟩
      | true =>
        rw [h3] at HL3
        have HG3 := hide (light_len h3)
        clear h1 h2 h3
        go_enter Try.func10, Try.ntmps10
        go_wp2_with fail
        refine HL1.out.mono ?_
        rintro e1 w1 ⟨rfl, hw1⟩
        have hw1 := hw1.symm
        subst hw1
        go_wp2_with fail
        refine HL2.out.mono ?_
        rintro e2 w2 ⟨rfl, hw2⟩
        have hw2 := hw2.symm
        subst hw2
        go_wp2_with fail
        refine HL3.out.mono ?_
        rintro e3 w3 ⟨rfl, hw3⟩
        have hw3 := hw3.symm
        subst hw3
        go_wp2_with fail
        refine (grown_any HS1.out (by have := HG1.out.1; omega) HG1.out.2).mono ?_
        rintro e4 w4 ⟨gf, bf, rfl, hf4, hg4, hbb4, hb4⟩
        have hlt4 : gf < w4.heap.size ∧ bf < w4.heap.size := ⟨lt_of_cell hf4.c0, by obtain ⟨D, hD⟩ := hf4.bag; exact hD.map.lt⟩
        have HOf := hide (And.intro hg4 (And.intro hbb4 hlt4))
        have HZf : Hid (w.heap.size ≤ gf ∧ w.heap.size ≤ bf) := hide (by have := (Below.refl w.heap.size w).size; omega)
        have HB5 : Hid (RowKit.Below w.heap.size w w4) := hide ((Below.refl w.heap.size w).trans (hb4.mono (Below.refl w.heap.size w).size))
        have HS1_5 := hide (HS1.out.below hb4)
        have HS2_5 := hide (HS2.out.below hb4)
        have HS3_5 := hide (HS3.out.below hb4)
        have HFf := hide hf4
        clear hf4 hb4 hg4 hbb4 hlt4
        go_wp2_with fail
        refine (grown_any HS1_5.out (by have := HG1.out.1; omega) HG1.out.2).mono ?_
        rintro e6 w6 ⟨gg, bg, rfl, hf6, hg6, hbb6, hb6⟩
        have hlt6 : gg < w6.heap.size ∧ bg < w6.heap.size := ⟨lt_of_cell hf6.c0, by obtain ⟨D, hD⟩ := hf6.bag; exact hD.map.lt⟩
        have HOg := hide (And.intro hg6 (And.intro hbb6 hlt6))
        have HZg : Hid (w.heap.size ≤ gg ∧ w.heap.size ≤ bg) := hide (by have := HB5.out.size; omega)
        have HB7 : Hid (RowKit.Below w.heap.size w w6) := hide (HB5.out.trans (hb6.mono HB5.out.size))
        have HFf_7 := hide (HFf.out.below hb6)
        have HS1_7 := hide (HS1_5.out.below hb6)
        have HS2_7 := hide (HS2_5.out.below hb6)
        have HS3_7 := hide (HS3_5.out.below hb6)
        have HFg := hide hf6
        clear hf6 hb6 hg6 hbb6 hlt6
        go_wp2_with fail
        refine (grown_any HS1_7.out (by have := HG1.out.1; omega) HG1.out.2).mono ?_
        rintro e8 w8 ⟨gh, bh, rfl, hf8, hg8, hbb8, hb8⟩
        have hlt8 : gh < w8.heap.size ∧ bh < w8.heap.size := ⟨lt_of_cell hf8.c0, by obtain ⟨D, hD⟩ := hf8.bag; exact hD.map.lt⟩
        have HOh := hide (And.intro hg8 (And.intro hbb8 hlt8))
        have HZh : Hid (w.heap.size ≤ gh ∧ w.heap.size ≤ bh) := hide (by have := HB7.out.size; omega)
        have HB9 : Hid (RowKit.Below w.heap.size w w8) := hide (HB7.out.trans (hb8.mono HB7.out.size))
        have HFf_9 := hide (HFf_7.out.below hb8)
        have HFg_9 := hide (HFg.out.below hb8)
        have HS1_9 := hide (HS1_7.out.below hb8)
        have HS2_9 := hide (HS2_7.out.below hb8)
        have HS3_9 := hide (HS3_7.out.below hb8)
        have HFh := hide hf8
        clear hf8 hb8 hg8 hbb8 hlt8
        go_wp2_with fail
        refine (fclone_any HFf_9.out).mono ?_
        rintro e10 w10 ⟨gc, bc, rfl, hf10, hg10, hbb10, hb10⟩
        have hlt10 : gc < w10.heap.size ∧ bc < w10.heap.size := ⟨lt_of_cell hf10.c0, by obtain ⟨D, hD⟩ := hf10.bag; exact hD.map.lt⟩
        have HOc := hide (And.intro hg10 (And.intro hbb10 hlt10))
        have HZc : Hid (w.heap.size ≤ gc ∧ w.heap.size ≤ bc) := hide (by have := HB9.out.size; omega)
        have HB11 : Hid (RowKit.Below w.heap.size w w10) := hide (HB9.out.trans (hb10.mono HB9.out.size))
        have HFf_11 := hide (HFf_9.out.below hb10)
        have HFg_11 := hide (HFg_9.out.below hb10)
        have HFh_11 := hide (HFh.out.below hb10)
        have HS1_11 := hide (HS1_9.out.below hb10)
        have HS2_11 := hide (HS2_9.out.below hb10)
        have HS3_11 := hide (HS3_9.out.below hb10)
        have HFc := hide hf10
        clear hf10 hb10 hg10 hbb10 hlt10
        go_wp2_with fail
        refine (add_any HFf_11.out HS2_11.out (by have := HG2.out.1; omega) HG2.out.2).mono ?_
        rintro e12 w12 ⟨rfl, hf12, hc12⟩
        have HB12 : Hid (RowKit.Below w.heap.size w w12) := hide (Chg.to_below HB11.out hc12 (fun k hk => by have := HZf.out; omega))
        have HFg_12 := hide (HFg_11.out.chg hc12 (by have := HOf.out; have := HOg.out; have := HOh.out; have := HOc.out; have := HZf.out; have := HZg.out; have := HZh.out; have := HZc.out; omega) (by have := HOf.out; have := HOg.out; have := HOh.out; have := HOc.out; have := HZf.out; have := HZg.out; have := HZh.out; have := HZc.out; omega))
        have HFh_12 := hide (HFh_11.out.chg hc12 (by have := HOf.out; have := HOg.out; have := HOh.out; have := HOc.out; have := HZf.out; have := HZg.out; have := HZh.out; have := HZc.out; omega) (by have := HOf.out; have := HOg.out; have := HOh.out; have := HOc.out; have := HZf.out; have := HZg.out; have := HZh.out; have := HZc.out; omega))
        have HFc_12 := hide (HFc.out.chg hc12 (by have := HOf.out; have := HOg.out; have := HOh.out; have := HOc.out; have := HZf.out; have := HZg.out; have := HZh.out; have := HZc.out; omega) (by have := HOf.out; have := HOg.out; have := HOh.out; have := HOc.out; have := HZf.out; have := HZg.out; have := HZh.out; have := HZc.out; omega))
        have HS1_12 := hide (HS1.out.below HB12.out)
        have HS2_12 := hide (HS2.out.below HB12.out)
        have HS3_12 := hide (HS3.out.below HB12.out)
        have HFf_12 := hide hf12
        clear hf12 hc12
        go_wp2_with fail
        refine (add_any HFc_12.out HS3_12.out (by have := HG3.out.1; omega) HG3.out.2).mono ?_
        rintro e13 w13 ⟨rfl, hf13, hc13⟩
        have HB13 : Hid (RowKit.Below w.heap.size w w13) := hide (Chg.to_below HB12.out hc13 (fun k hk => by have := HZc.out; omega))
        have HFf_13 := hide (HFf_12.out.chg hc13 (by have := HOf.out; have := HOg.out; have := HOh.out; have := HOc.out; have := HZf.out; have := HZg.out; have := HZh.out; have := HZc.out; omega) (by have := HOf.out; have := HOg.out; have := HOh.out; have := HOc.out; have := HZf.out; have := HZg.out; have := HZh.out; have := HZc.out; omega))
        have HFg_13 := hide (HFg_12.out.chg hc13 (by have := HOf.out; have := HOg.out; have := HOh.out; have := HOc.out; have := HZf.out; have := HZg.out; have := HZh.out; have := HZc.out; omega) (by have := HOf.out; have := HOg.out; have := HOh.out; have := HOc.out; have := HZf.out; have := HZg.out; have := HZh.out; have := HZc.out; omega))
        have HFh_13 := hide (HFh_12.out.chg hc13 (by have := HOf.out; have := HOg.out; have := HOh.out; have := HOc.out; have := HZf.out; have := HZg.out; have := HZh.out; have := HZc.out; omega) (by have := HOf.out; have := HOg.out; have := HOh.out; have := HOc.out; have := HZf.out; have := HZg.out; have := HZh.out; have := HZc.out; omega))
        have HS1_13 := hide (HS1.out.below HB13.out)
        have HS2_13 := hide (HS2.out.below HB13.out)
        have HS3_13 := hide (HS3.out.below HB13.out)
        have HFc_13 := hide hf13
        clear hf13 hc13
        go_wp2_with fail
        refine (add_any HFg_13.out HS2_13.out (by have := HG2.out.1; omega) HG2.out.2).mono ?_
        rintro e14 w14 ⟨rfl, hf14, hc14⟩
        have HB14 : Hid (RowKit.Below w.heap.size w w14) := hide (Chg.to_below HB13.out hc14 (fun k hk => by have := HZg.out; omega))
        have HFf_14 := hide (HFf_13.out.chg hc14 (by have := HOf.out; have := HOg.out; have := HOh.out; have := HOc.out; have := HZf.out; have := HZg.out; have := HZh.out; have := HZc.out; omega) (by have := HOf.out; have := HOg.out; have := HOh.out; have := HOc.out; have := HZf.out; have := HZg.out; have := HZh.out; have := HZc.out; omega))
        have HFh_14 := hide (HFh_13.out.chg hc14 (by have := HOf.out; have := HOg.out; have := HOh.out; have := HOc.out; have := HZf.out; have := HZg.out; have := HZh.out; have := HZc.out; omega) (by have := HOf.out; have := HOg.out; have := HOh.out; have := HOc.out; have := HZf.out; have := HZg.out; have := HZh.out; have := HZc.out; omega))
        have HFc_14 := hide (HFc_13.out.chg hc14 (by have := HOf.out; have := HOg.out; have := HOh.out; have := HOc.out; have := HZf.out; have := HZg.out; have := HZh.out; have := HZc.out; omega) (by have := HOf.out; have := HOg.out; have := HOh.out; have := HOc.out; have := HZf.out; have := HZg.out; have := HZh.out; have := HZc.out; omega))
        have HS1_14 := hide (HS1.out.below HB14.out)
        have HS2_14 := hide (HS2.out.below HB14.out)
        have HS3_14 := hide (HS3.out.below HB14.out)
        have HFg_14 := hide hf14
        clear hf14 hc14
        go_wp2_with fail
        refine (add_any HFh_14.out HS3_14.out (by have := HG3.out.1; omega) HG3.out.2).mono ?_
        rintro e15 w15 ⟨rfl, hf15, hc15⟩
        have HB15 : Hid (RowKit.Below w.heap.size w w15) := hide (Chg.to_below HB14.out hc15 (fun k hk => by have := HZh.out; omega))
        have HFf_15 := hide (HFf_14.out.chg hc15 (by have := HOf.out; have := HOg.out; have := HOh.out; have := HOc.out; have := HZf.out; have := HZg.out; have := HZh.out; have := HZc.out; omega) (by have := HOf.out; have := HOg.out; have := HOh.out; have := HOc.out; have := HZf.out; have := HZg.out; have := HZh.out; have := HZc.out; omega))
        have HFg_15 := hide (HFg_14.out.chg hc15 (by have := HOf.out; have := HOg.out; have := HOh.out; have := HOc.out; have := HZf.out; have := HZg.out; have := HZh.out; have := HZc.out; omega) (by have := HOf.out; have := HOg.out; have := HOh.out; have := HOc.out; have := HZf.out; have := HZg.out; have := HZh.out; have := HZc.out; omega))
        have HFc_15 := hide (HFc_14.out.chg hc15 (by have := HOf.out; have := HOg.out; have := HOh.out; have := HOc.out; have := HZf.out; have := HZg.out; have := HZh.out; have := HZc.out; omega) (by have := HOf.out; have := HOg.out; have := HOh.out; have := HOc.out; have := HZf.out; have := HZg.out; have := HZh.out; have := HZc.out; omega))
        have HS1_15 := hide (HS1.out.below HB15.out)
        have HS2_15 := hide (HS2.out.below HB15.out)
        have HS3_15 := hide (HS3.out.below HB15.out)
        have HFh_15 := hide hf15
        clear hf15 hc15
        go_wp2_with fail
        refine (branches_any HFf_15.out).mono ?_
        rintro e16 w16 ⟨v16, rfl, ho16, hb16⟩
        obtain ⟨p16, n16, c16, rfl⟩ := ho16.brs.sl
        have HB17 : Hid (RowKit.Below w.heap.size w w16) := hide (HB15.out.trans (hb16.mono HB15.out.size))
        have HFf_17 := hide (HFf_15.out.below hb16)
        have HFg_17 := hide (HFg_15.out.below hb16)
        have HFh_17 := hide (HFh_15.out.below hb16)
        have HFc_17 := hide (HFc_15.out.below hb16)
        have HS1_17 := hide (HS1_15.out.below hb16)
        have HS2_17 := hide (HS2_15.out.below hb16)
        have HS3_17 := hide (HS3_15.out.below hb16)
        have HRbf := hide ho16.brs
        clear ho16 hb16
        go_wp2_with fail
        refine (branches_any HFg_17.out).mono ?_
        rintro e18 w18 ⟨v18, rfl, ho18, hb18⟩
        obtain ⟨p18, n18, c18, rfl⟩ := ho18.brs.sl
        have HB19 : Hid (RowKit.Below w.heap.size w w18) := hide (HB17.out.trans (hb18.mono HB17.out.size))
        have HFf_19 := hide (HFf_17.out.below hb18)
        have HFg_19 := hide (HFg_17.out.below hb18)
        have HFh_19 := hide (HFh_17.out.below hb18)
        have HFc_19 := hide (HFc_17.out.below hb18)
        have HS1_19 := hide (HS1_17.out.below hb18)
        have HS2_19 := hide (HS2_17.out.below hb18)
        have HS3_19 := hide (HS3_17.out.below hb18)
        have HRbf_19 := hide (HRbf.out.below hb18)
        have HRbg := hide ho18.brs
        clear ho18 hb18
        go_wp2_with fail
        refine (equalBr_any HRbf_19.out HRbg.out).mono ?_
        rintro e20 w20 ⟨rfl, q20, rfl⟩
        rw [decide_eq_true (rfl)]
        have hbq20 : RowKit.Below w18.heap.size w18 (w18.drewN q20) := bdrew _ _
        have HB21 : Hid (RowKit.Below w.heap.size w (w18.drewN q20)) := hide (HB19.out.trans (hbq20.mono HB19.out.size))
        have HFf_21 := hide (HFf_19.out.below hbq20)
        have HFg_21 := hide (HFg_19.out.below hbq20)
        have HFh_21 := hide (HFh_19.out.below hbq20)
        have HFc_21 := hide (HFc_19.out.below hbq20)
        have HS1_21 := hide (HS1_19.out.below hbq20)
        have HS2_21 := hide (HS2_19.out.below hbq20)
        have HS3_21 := hide (HS3_19.out.below hbq20)
        have HRbf_21 := hide (HRbf_19.out.below hbq20)
        have HRbg_21 := hide (HRbg.out.below hbq20)
        clear hbq20
        go_wp2_with fail
        refine (branches_any HFc_21.out).mono ?_
        rintro e22 w22 ⟨v22, rfl, ho22, hb22⟩
        obtain ⟨p22, n22, c22, rfl⟩ := ho22.brs.sl
        have HB23 : Hid (RowKit.Below w.heap.size w w22) := hide (HB21.out.trans (hb22.mono HB21.out.size))
        have HFf_23 := hide (HFf_21.out.below hb22)
        have HFg_23 := hide (HFg_21.out.below hb22)
        have HFh_23 := hide (HFh_21.out.below hb22)
        have HFc_23 := hide (HFc_21.out.below hb22)
        have HS1_23 := hide (HS1_21.out.below hb22)
        have HS2_23 := hide (HS2_21.out.below hb22)
        have HS3_23 := hide (HS3_21.out.below hb22)
        have HRbf_23 := hide (HRbf_21.out.below hb22)
        have HRbg_23 := hide (HRbg_21.out.below hb22)
        have HRbc := hide ho22.brs
        clear ho22 hb22
        go_wp2_with fail
        refine (branches_any HFh_23.out).mono ?_
        rintro e24 w24 ⟨v24, rfl, ho24, hb24⟩
        obtain ⟨p24, n24, c24, rfl⟩ := ho24.brs.sl
        have HB25 : Hid (RowKit.Below w.heap.size w w24) := hide (HB23.out.trans (hb24.mono HB23.out.size))
        have HFf_25 := hide (HFf_23.out.below hb24)
        have HFg_25 := hide (HFg_23.out.below hb24)
        have HFh_25 := hide (HFh_23.out.below hb24)
        have HFc_25 := hide (HFc_23.out.below hb24)
        have HS1_25 := hide (HS1_23.out.below hb24)
        have HS2_25 := hide (HS2_23.out.below hb24)
        have HS3_25 := hide (HS3_23.out.below hb24)
        have HRbf_25 := hide (HRbf_23.out.below hb24)
        have HRbg_25 := hide (HRbg_23.out.below hb24)
        have HRbc_25 := hide (HRbc.out.below hb24)
        have HRbh := hide ho24.brs
        clear ho24 hb24
        go_wp2_with fail
        refine (equalBr_any HRbc_25.out HRbh.out).mono ?_
        rintro e26 w26 ⟨rfl, q26, rfl⟩
        rw [decide_eq_true (rfl)]
        have hbq26 : RowKit.Below w24.heap.size w24 (w24.drewN q26) := bdrew _ _
        have HB27 : Hid (RowKit.Below w.heap.size w (w24.drewN q26)) := hide (HB25.out.trans (hbq26.mono HB25.out.size))
        have HFf_27 := hide (HFf_25.out.below hbq26)
        have HFg_27 := hide (HFg_25.out.below hbq26)
        have HFh_27 := hide (HFh_25.out.below hbq26)
        have HFc_27 := hide (HFc_25.out.below hbq26)
        have HS1_27 := hide (HS1_25.out.below hbq26)
        have HS2_27 := hide (HS2_25.out.below hbq26)
        have HS3_27 := hide (HS3_25.out.below hbq26)
        have HRbf_27 := hide (HRbf_25.out.below hbq26)
        have HRbg_27 := hide (HRbg_25.out.below hbq26)
        have HRbc_27 := hide (HRbc_25.out.below hbq26)
        have HRbh_27 := hide (HRbh.out.below hbq26)
        clear hbq26
        go_wp2_with fail
        refine (HA.out _).mono ?_
        rintro e28 w28 ⟨rfl, hb28⟩
        have HBf := hide (HB27.out.trans (hb28.mono HB27.out.size))
        clear hb28
        go_wp2
        go_ret
        exact ⟨rfl, HBf.out⟩
end Go.Proofs.Ytokmmmpijcbknaa
