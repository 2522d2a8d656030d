/- The law ForestParts. -/
import Derived.Test.YtokmmmpijcbknaaFConcat
namespace Go.Proofs.Ytokmmmpijcbknaa
set_option linter.unusedVariables false
set_option linter.unusedSimpArgs false
open Go.RowKit

set_option maxRecDepth 200000 in
set_option maxHeartbeats 4000000 in
theorem lawFoParts_any {w : World} {v1 v2 : Value} {l1 l2 : List Sp} (hv1 : Sps w v1 l1) (hn1 : ∀ x ∈ l1, x.n.size ≤ maxLen) (hv2 : Sps w v2 l2) (hn2 : ∀ x ∈ l2, x.n.size ≤ maxLen) : Calls Try.prog 8 #[v1, v2] w fun e w' => e = .returned (.bool true) ∧ Below w.heap.size w w' := by
  obtain ⟨q1, m1, c1, rfl⟩ := hv1.sl
  obtain ⟨q2, m2, c2, rfl⟩ := hv2.sl
  have HL1 := hide (light_any hv1 hn1)
  have HL2 := hide (light_any hv2 hn2)
  have HA := hide awake_any
  have HS1 := hide hv1
  have HS2 := hide hv2
  clear hv1 hn1 hv2 hn2
  cases h1 : lightL l1 with
  | false =>
    rw [h1] at HL1
    go_enter Try.func8, Try.ntmps8
    go_wp2_with fail
    refine HL1.out.mono ?_
    rintro e1 w1 ⟨rfl, hw1⟩
    have hw1 := hw1.symm
    subst hw1
    go_wp2_with fail
    refine (HA.out _).mono ?_
    rintro e2 w2 ⟨rfl, hb2⟩
    have HBf := hide ((Below.refl w.heap.size w).trans (hb2.mono (Below.refl w.heap.size w).size))
    clear hb2
    go_wp2
    go_ret
    exact ⟨rfl, HBf.out⟩
  | true =>
    rw [h1] at HL1
    have HG1 := hide (light_len h1)
    cases h2 : lightL l2 with
    | false =>
      rw [h2] at HL2
      go_enter Try.func8, Try.ntmps8
      go_wp2_with fail
      refine HL1.out.mono ?_
      rintro e1 w1 ⟨rfl, hw1⟩
      have hw1 := hw1.symm
      subst hw1
      go_wp2_with fail
      refine HL2.out.mono ?_
      rintro e2 w2 ⟨rfl, hw2⟩
      have hw2 := hw2.symm
      subst hw2
      go_wp2_with fail
      refine (HA.out _).mono ?_
      rintro e3 w3 ⟨rfl, hb3⟩
      have HBf := hide ((Below.refl w.heap.size w).trans (hb3.mono (Below.refl w.heap.size w).size))
      clear hb3
      go_wp2
      go_ret
      exact ⟨rfl, HBf.out⟩
    | true =>
      rw [h2] at HL2
      have HG2 := hide (light_len h2)
      clear h1 h2
      go_enter Try.func8, Try.ntmps8
      go_wp2_with fail
      refine HL1.out.mono ?_
      rintro e1 w1 ⟨rfl, hw1⟩
      have hw1 := hw1.symm
      subst hw1
      go_wp2_with fail
      refine HL2.out.mono ?_
      rintro e2 w2 ⟨rfl, hw2⟩
      have hw2 := hw2.symm
      subst hw2
      go_wp2_with fail
      refine (new_any (tr := 1) (by decide) (by decide)).mono ?_
      rintro e3 w3 ⟨rfl, hf3, hb3⟩
      obtain ⟨gf, hg3⟩ : ∃ g, w.heap.size + 1 = g := ⟨_, rfl⟩
      obtain ⟨bf, hb3'⟩ : ∃ g, w.heap.size = g := ⟨_, rfl⟩
      have hlt3 : gf < w3.heap.size ∧ bf < w3.heap.size := by have h1 := lt_of_cell hf3.c0; dsimp only at h1; omega
      have HOf := hide (show w.heap.size ≤ gf ∧ w.heap.size ≤ bf ∧ gf < w3.heap.size ∧ bf < w3.heap.size from ⟨by omega, by omega, hlt3⟩)
      have HZf : Hid (w.heap.size ≤ gf ∧ w.heap.size ≤ bf) := hide (by have := (Below.refl w.heap.size w).size; omega)
      have HB4 : Hid (RowKit.Below w.heap.size w w3) := hide ((Below.refl w.heap.size w).trans (hb3.mono (Below.refl w.heap.size w).size))
      have HS1_4 := hide (HS1.out.below hb3)
      have HS2_4 := hide (HS2.out.below hb3)
      have hgb3 := hb3'
      rw [hg3]
      rw [hg3, hb3'] at hf3
      have HFf := hide hf3
      clear hf3 hb3 hg3 hb3' hlt3 hgb3
      go_wp2_with fail
      refine (new_any (tr := 1) (by decide) (by decide)).mono ?_
      rintro e5 w5 ⟨rfl, hf5, hb5⟩
      obtain ⟨gg, hg5⟩ : ∃ g, w3.heap.size + 1 = g := ⟨_, rfl⟩
      obtain ⟨bg, hb5'⟩ : ∃ g, w3.heap.size = g := ⟨_, rfl⟩
      have hlt5 : gg < w5.heap.size ∧ bg < w5.heap.size := by have h1 := lt_of_cell hf5.c0; dsimp only at h1; omega
      have HOg := hide (show w3.heap.size ≤ gg ∧ w3.heap.size ≤ bg ∧ gg < w5.heap.size ∧ bg < w5.heap.size from ⟨by omega, by omega, hlt5⟩)
      have HZg : Hid (w.heap.size ≤ gg ∧ w.heap.size ≤ bg) := hide (by have := HB4.out.size; omega)
      have HB6 : Hid (RowKit.Below w.heap.size w w5) := hide (HB4.out.trans (hb5.mono HB4.out.size))
      have HFf_6 := hide (HFf.out.below hb5)
      have HS1_6 := hide (HS1_4.out.below hb5)
      have HS2_6 := hide (HS2_4.out.below hb5)
      have hgb5 := hb5'
      rw [hg5]
      rw [hg5, hb5'] at hf5
      have HFg := hide hf5
      clear hf5 hb5 hg5 hb5' hlt5 hgb5
      go_wp2_with fail
      have hss := sss_two HS1_6.out HS2_6.out
      have hb7 := (Below.refl w5.heap.size w5).alloc (Nat.le_refl _) (.cells #[.slice q1 m1 c1, .slice q2 m2 c2] 27)
      have hln : lensS [l1, l2] ≤ 1000000 := by have := HG1.out.1; have := HG2.out.1; simp [lensS]; omega
      have HCC := hide (concatS_any hss hln)
      have HB8 : Hid (RowKit.Below w.heap.size w (w5.alloc (.cells #[.slice q1 m1 c1, .slice q2 m2 c2] 27))) := hide (HB6.out.trans (hb7.mono HB6.out.size))
      have HFf_8 := hide (HFf_6.out.below hb7)
      have HFg_8 := hide (HFg.out.below hb7)
      have HS1_8 := hide (HS1_6.out.below hb7)
      have HS2_8 := hide (HS2_6.out.below hb7)
      clear hss hln hb7
      refine HCC.out.mono ?_
      rintro e9 w9 ⟨v9, rfl, ho9, hb9⟩
      obtain ⟨pc, nc, cc, rfl⟩ := ho9.sps.sl
      have HB10 : Hid (RowKit.Below w.heap.size w w9) := hide (HB8.out.trans (hb9.mono HB8.out.size))
      have HFf_10 := hide (HFf_8.out.below hb9)
      have HFg_10 := hide (HFg_8.out.below hb9)
      have HS1_10 := hide (HS1_8.out.below hb9)
      have HS2_10 := hide (HS2_8.out.below hb9)
      have HSc : Hid (Sps w9 (.slice pc nc cc) (l1 ++ l2)) := hide (by have := ho9.sps; simpa using this)
      clear ho9 hb9
      have hnc : ∀ x ∈ l1 ++ l2, x.n.size ≤ 1000000 := fun x hx => by rcases List.mem_append.1 hx with hx | hx; exact HG1.out.2 x hx; exact HG2.out.2 x hx
      have hlc : (l1 ++ l2).length ≤ 100000 := by have := HG1.out.1; have := HG2.out.1; rw [List.length_append]; omega
      have HNC := hide (And.intro hnc hlc)
      clear hnc hlc
      by_cases hall : (l1 ++ l2).all (fun x => x.ok && decide (x.t = 1)) = true
      · have ha1 : l1.all (fun x => x.ok && decide (x.t = 1)) = true := by rw [List.all_append, Bool.and_eq_true] at hall; exact hall.1
        have ha2 : l2.all (fun x => x.ok && decide (x.t = 1)) = true := by rw [List.all_append, Bool.and_eq_true] at hall; exact hall.2
        obtain ⟨G1, hG1⟩ : ∃ G, (putsP [] cn0 l1).1 = G := ⟨_, rfl⟩
        obtain ⟨C1, hC1⟩ : ∃ C, (putsP [] cn0 l1).2 = C := ⟨_, rfl⟩
        obtain ⟨G2, hG2⟩ : ∃ G, (putsP G1 cn0 l2).1 = G := ⟨_, rfl⟩
        obtain ⟨C2, hC2⟩ : ∃ C, (putsP G1 cn0 l2).2 = C := ⟨_, rfl⟩
        have hall2 : putsP [] cn0 (l1 ++ l2) = (G2, C1.plus C2) := by
          rw [putsP_app, putsP_from, hG1, hC1, hG2, hC2]
        have hv : addV 1 [] (l1 ++ l2) = .tuple #[.agg #[.int .i64 ((C1.add : Int) + (C2.add : Int)), .int .i64 ((C1.same : Int) + (C2.same : Int)), .int .i64 ((C1.other : Int) + (C2.other : Int)), .int .i64 ((C1.cyc : Int) + (C2.cyc : Int)), .int .i64 ((C1.full : Int) + (C2.full : Int))], .int .i64 0] := by unfold addV; rw [if_pos hall, hall2]; rfl
        have hp : addP 1 [] (l1 ++ l2) = G2 := by unfold addP; rw [if_pos hall, hall2]
        have hv1 : addV 1 [] l1 = .tuple #[.agg #[.int .i64 (C1.add : Nat), .int .i64 (C1.same : Nat), .int .i64 (C1.other : Nat), .int .i64 (C1.cyc : Nat), .int .i64 (C1.full : Nat)], .int .i64 0] := by unfold addV; rw [if_pos ha1, hC1]; rfl
        have hp1 : addP 1 [] l1 = G1 := by unfold addP; rw [if_pos ha1, hG1]
        have hv2 : addV 1 G1 l2 = .tuple #[.agg #[.int .i64 (C2.add : Nat), .int .i64 (C2.same : Nat), .int .i64 (C2.other : Nat), .int .i64 (C2.cyc : Nat), .int .i64 (C2.full : Nat)], .int .i64 0] := by unfold addV; rw [if_pos ha2, hC2]; rfl
        have hp2 : addP 1 G1 l2 = G2 := by unfold addP; rw [if_pos ha2, hG2]
        have hs1 := putsP_sum l1 [] cn0
        have hs2 := putsP_sum l2 G1 cn0
        rw [hC1] at hs1
        rw [hC2] at hs2
        have HV := hide (And.intro (And.intro hv hp) (And.intro (And.intro hv1 hp1) (And.intro hv2 hp2)))
        have hbd : C1.add ≤ 200 ∧ C1.same ≤ 200 ∧ C1.other ≤ 200 ∧ C1.cyc ≤ 200 ∧ C1.full ≤ 200 ∧ C2.add ≤ 200 ∧ C2.same ≤ 200 ∧ C2.other ≤ 200 ∧ C2.cyc ≤ 200 ∧ C2.full ≤ 200 := by
          have h1 := HG1.out.1
          have h2 := HG2.out.1
          simp only [Cn.sum, cn0] at hs1 hs2
          omega
        have HBD := hide hbd
        clear hall ha1 ha2 hG1 hC1 hG2 hC2 hall2 hv hp hv1 hp1 hv2 hp2 hs1 hs2 hbd
        obtain ⟨na, ns, no, ny, nf⟩ := C1
        obtain ⟨ma, ms, mo, my, mf⟩ := C2
        dsimp only at *
        go_wp2_with fail
        refine (add_any HFf_10.out HSc.out HNC.out.2 HNC.out.1).mono ?_
        rintro e11 w11 ⟨rfl, hf11, hc11⟩
        rw [HV.out.1.1]
        rw [HV.out.1.2] at hf11
        have HB11 : Hid (RowKit.Below w.heap.size w w11) := hide (Chg.to_below HB10.out hc11 (fun k hk => by have := HZf.out; omega))
        have HFg_11 := hide (HFg_10.out.chg hc11 (by have := HOf.out; have := HOg.out; have := HZf.out; have := HZg.out; omega) (by have := HOf.out; have := HOg.out; have := HZf.out; have := HZg.out; omega))
        have HS1_11 := hide (HS1.out.below HB11.out)
        have HS2_11 := hide (HS2.out.below HB11.out)
        have HSc_11 := hide (HSc.out.chg hc11 (fun g i u hu => by obtain ⟨D, hD⟩ := HFf_10.out.bag; exact hD.ne_cell hu))
        have HFf_11 := hide hf11
        clear hf11 hc11
        have hlf12 : gf < w11.heap.size ∧ bf < w11.heap.size := ⟨lt_of_cell HFf_11.out.c0, by obtain ⟨D, hD⟩ := HFf_11.out.bag; exact hD.map.lt⟩
        have hlg12 : gg < w11.heap.size ∧ bg < w11.heap.size := ⟨lt_of_cell HFg_11.out.c0, by obtain ⟨D, hD⟩ := HFg_11.out.bag; exact hD.map.lt⟩
        have HLT12 := hide (And.intro hlf12 hlg12)
        clear hlf12 hlg12
        have hb12 := (Below.refl w11.heap.size w11).alloc (Nat.le_refl _) (.cells #[.int .i64 ((na : Int) + (ma : Int)), .int .i64 ((ns : Int) + (ms : Int)), .int .i64 ((no : Int) + (mo : Int)), .int .i64 ((ny : Int) + (my : Int)), .int .i64 ((nf : Int) + (mf : Int))] 36)
        have hr12 := heap_alloc_new w11 (.cells #[.int .i64 ((na : Int) + (ma : Int)), .int .i64 ((ns : Int) + (ms : Int)), .int .i64 ((no : Int) + (mo : Int)), .int .i64 ((ny : Int) + (my : Int)), .int .i64 ((nf : Int) + (mf : Int))] 36)
        have HB13 : Hid (RowKit.Below w.heap.size w (w11.alloc (.cells #[.int .i64 ((na : Int) + (ma : Int)), .int .i64 ((ns : Int) + (ms : Int)), .int .i64 ((no : Int) + (mo : Int)), .int .i64 ((ny : Int) + (my : Int)), .int .i64 ((nf : Int) + (mf : Int))] 36))) := hide (HB11.out.trans (hb12.mono HB11.out.size))
        have HFf_13 := hide (HFf_11.out.below hb12)
        have HFg_13 := hide (HFg_11.out.below hb12)
        have HS1_13 := hide (HS1_11.out.below hb12)
        have HS2_13 := hide (HS2_11.out.below hb12)
        have HSc_13 := hide (HSc_11.out.below hb12)
        have hsz12 : w11.heap.size < (w11.alloc (.cells #[.int .i64 ((na : Int) + (ma : Int)), .int .i64 ((ns : Int) + (ms : Int)), .int .i64 ((no : Int) + (mo : Int)), .int .i64 ((ny : Int) + (my : Int)), .int .i64 ((nf : Int) + (mf : Int))] 36)).heap.size := by simp
        go_wp2_with fail
        obtain ⟨Y12, hY12⟩ : ∃ Y, w11.alloc (.cells #[.int .i64 ((na : Int) + (ma : Int)), .int .i64 ((ns : Int) + (ms : Int)), .int .i64 ((no : Int) + (mo : Int)), .int .i64 ((ny : Int) + (my : Int)), .int .i64 ((nf : Int) + (mf : Int))] 36) = Y := ⟨_, rfl⟩
        obtain ⟨gn, hg12⟩ : ∃ g, w11.heap.size = g := ⟨_, rfl⟩
        rw [hY12, hg12] at hr12
        rw [hY12, hg12]
        rw [hY12] at HFf_13
        rw [hY12] at HFg_13
        rw [hY12] at HS1_13
        rw [hY12] at HS2_13
        rw [hY12] at HSc_13
        rw [hY12] at HB13
        have HBn : Hid ((gf < gn ∧ bf < gn) ∧ gg < gn ∧ bg < gn) := hide (by have := HLT12.out; omega)
        have HKn := hide hr12
        clear hb12 hr12 hsz12 hY12 hg12
        go_wp2_with fail
        refine (add_any HFg_13.out HS1_13.out (by have := HG1.out.1; omega) HG1.out.2).mono ?_
        rintro e14 w14 ⟨rfl, hf14, hc14⟩
        rw [HV.out.2.1.1]
        rw [HV.out.2.1.2] at hf14
        have HKn_14 := hide ((hc14.block gn (Array.getElem?_eq_some_iff.1 HKn.out).1 (by have := HBn.out; have := HOf.out; have := HOg.out; have := HZf.out; have := HZg.out; omega)).trans HKn.out)
        have HB14 : Hid (RowKit.Below w.heap.size w w14) := hide (Chg.to_below HB13.out hc14 (fun k hk => by have := HZg.out; omega))
        have HFf_14 := hide (HFf_13.out.chg hc14 (by have := HOf.out; have := HOg.out; have := HZf.out; have := HZg.out; omega) (by have := HOf.out; have := HOg.out; have := HZf.out; have := HZg.out; omega))
        have HS1_14 := hide (HS1.out.below HB14.out)
        have HS2_14 := hide (HS2.out.below HB14.out)
        have HSc_14 := hide (HSc_13.out.chg hc14 (fun g i u hu => by obtain ⟨D, hD⟩ := HFg_13.out.bag; exact hD.ne_cell hu))
        have HFg_14 := hide hf14
        clear hf14 hc14
        have hlf15 : gf < w14.heap.size ∧ bf < w14.heap.size := ⟨lt_of_cell HFf_14.out.c0, by obtain ⟨D, hD⟩ := HFf_14.out.bag; exact hD.map.lt⟩
        have hlg15 : gg < w14.heap.size ∧ bg < w14.heap.size := ⟨lt_of_cell HFg_14.out.c0, by obtain ⟨D, hD⟩ := HFg_14.out.bag; exact hD.map.lt⟩
        have HLT15 := hide (And.intro hlf15 hlg15)
        clear hlf15 hlg15
        have hb15 := (Below.refl w14.heap.size w14).alloc (Nat.le_refl _) (.cells #[.int .i64 (na : Nat), .int .i64 (ns : Nat), .int .i64 (no : Nat), .int .i64 (ny : Nat), .int .i64 (nf : Nat)] 36)
        have hr15 := heap_alloc_new w14 (.cells #[.int .i64 (na : Nat), .int .i64 (ns : Nat), .int .i64 (no : Nat), .int .i64 (ny : Nat), .int .i64 (nf : Nat)] 36)
        have HKn_15 := hide ((hb15.block gn (Array.getElem?_eq_some_iff.1 HKn_14.out).1).trans HKn_14.out)
        have HB16 : Hid (RowKit.Below w.heap.size w (w14.alloc (.cells #[.int .i64 (na : Nat), .int .i64 (ns : Nat), .int .i64 (no : Nat), .int .i64 (ny : Nat), .int .i64 (nf : Nat)] 36))) := hide (HB14.out.trans (hb15.mono HB14.out.size))
        have HFf_16 := hide (HFf_14.out.below hb15)
        have HFg_16 := hide (HFg_14.out.below hb15)
        have HS1_16 := hide (HS1_14.out.below hb15)
        have HS2_16 := hide (HS2_14.out.below hb15)
        have HSc_16 := hide (HSc_14.out.below hb15)
        have hsz15 : w14.heap.size < (w14.alloc (.cells #[.int .i64 (na : Nat), .int .i64 (ns : Nat), .int .i64 (no : Nat), .int .i64 (ny : Nat), .int .i64 (nf : Nat)] 36)).heap.size := by simp
        go_wp2_with fail
        obtain ⟨Y15, hY15⟩ : ∃ Y, w14.alloc (.cells #[.int .i64 (na : Nat), .int .i64 (ns : Nat), .int .i64 (no : Nat), .int .i64 (ny : Nat), .int .i64 (nf : Nat)] 36) = Y := ⟨_, rfl⟩
        obtain ⟨ga, hg15⟩ : ∃ g, w14.heap.size = g := ⟨_, rfl⟩
        rw [hY15, hg15] at hr15
        rw [hY15, hg15]
        rw [hY15] at HFf_16
        rw [hY15] at HFg_16
        rw [hY15] at HS1_16
        rw [hY15] at HS2_16
        rw [hY15] at HSc_16
        rw [hY15] at HKn_15
        rw [hY15] at HB16
        have HBa : Hid ((gf < ga ∧ bf < ga) ∧ gg < ga ∧ bg < ga) := hide (by have := HLT15.out; omega)
        have HKa := hide hr15
        clear hb15 hr15 hsz15 hY15 hg15
        go_wp2_with fail
        refine (add_any HFg_16.out HS2_16.out (by have := HG2.out.1; omega) HG2.out.2).mono ?_
        rintro e17 w17 ⟨rfl, hf17, hc17⟩
        rw [HV.out.2.2.1]
        rw [HV.out.2.2.2] at hf17
        have HKn_17 := hide ((hc17.block gn (Array.getElem?_eq_some_iff.1 HKn_15.out).1 (by have := HBn.out; have := HOf.out; have := HOg.out; have := HZf.out; have := HZg.out; omega)).trans HKn_15.out)
        have HKa_17 := hide ((hc17.block ga (Array.getElem?_eq_some_iff.1 HKa.out).1 (by have := HBa.out; have := HOf.out; have := HOg.out; have := HZf.out; have := HZg.out; omega)).trans HKa.out)
        have HB17 : Hid (RowKit.Below w.heap.size w w17) := hide (Chg.to_below HB16.out hc17 (fun k hk => by have := HZg.out; omega))
        have HFf_17 := hide (HFf_16.out.chg hc17 (by have := HOf.out; have := HOg.out; have := HZf.out; have := HZg.out; omega) (by have := HOf.out; have := HOg.out; have := HZf.out; have := HZg.out; omega))
        have HS1_17 := hide (HS1.out.below HB17.out)
        have HS2_17 := hide (HS2.out.below HB17.out)
        have HSc_17 := hide (HSc_16.out.chg hc17 (fun g i u hu => by obtain ⟨D, hD⟩ := HFg_16.out.bag; exact hD.ne_cell hu))
        have HFg_17 := hide hf17
        clear hf17 hc17
        have hlf18 : gf < w17.heap.size ∧ bf < w17.heap.size := ⟨lt_of_cell HFf_17.out.c0, by obtain ⟨D, hD⟩ := HFf_17.out.bag; exact hD.map.lt⟩
        have hlg18 : gg < w17.heap.size ∧ bg < w17.heap.size := ⟨lt_of_cell HFg_17.out.c0, by obtain ⟨D, hD⟩ := HFg_17.out.bag; exact hD.map.lt⟩
        have HLT18 := hide (And.intro hlf18 hlg18)
        clear hlf18 hlg18
        have hb18 := (Below.refl w17.heap.size w17).alloc (Nat.le_refl _) (.cells #[.int .i64 (ma : Nat), .int .i64 (ms : Nat), .int .i64 (mo : Nat), .int .i64 (my : Nat), .int .i64 (mf : Nat)] 36)
        have hr18 := heap_alloc_new w17 (.cells #[.int .i64 (ma : Nat), .int .i64 (ms : Nat), .int .i64 (mo : Nat), .int .i64 (my : Nat), .int .i64 (mf : Nat)] 36)
        have HKn_18 := hide ((hb18.block gn (Array.getElem?_eq_some_iff.1 HKn_17.out).1).trans HKn_17.out)
        have HKa_18 := hide ((hb18.block ga (Array.getElem?_eq_some_iff.1 HKa_17.out).1).trans HKa_17.out)
        have HB19 : Hid (RowKit.Below w.heap.size w (w17.alloc (.cells #[.int .i64 (ma : Nat), .int .i64 (ms : Nat), .int .i64 (mo : Nat), .int .i64 (my : Nat), .int .i64 (mf : Nat)] 36))) := hide (HB17.out.trans (hb18.mono HB17.out.size))
        have HFf_19 := hide (HFf_17.out.below hb18)
        have HFg_19 := hide (HFg_17.out.below hb18)
        have HS1_19 := hide (HS1_17.out.below hb18)
        have HS2_19 := hide (HS2_17.out.below hb18)
        have HSc_19 := hide (HSc_17.out.below hb18)
        have HKb := hide hr18
        clear hb18 hr18
        have a0 := cell_of_row (w17.alloc (.cells #[.int .i64 (ma : Nat), .int .i64 (ms : Nat), .int .i64 (mo : Nat), .int .i64 (my : Nat), .int .i64 (mf : Nat)] 36)) ga 0 _ 36 (0, 0) HKa_18.out
        have a1 := cell_of_row (w17.alloc (.cells #[.int .i64 (ma : Nat), .int .i64 (ms : Nat), .int .i64 (mo : Nat), .int .i64 (my : Nat), .int .i64 (mf : Nat)] 36)) ga 1 _ 36 (0, 0) HKa_18.out
        have a2 := cell_of_row (w17.alloc (.cells #[.int .i64 (ma : Nat), .int .i64 (ms : Nat), .int .i64 (mo : Nat), .int .i64 (my : Nat), .int .i64 (mf : Nat)] 36)) ga 2 _ 36 (0, 0) HKa_18.out
        have a3 := cell_of_row (w17.alloc (.cells #[.int .i64 (ma : Nat), .int .i64 (ms : Nat), .int .i64 (mo : Nat), .int .i64 (my : Nat), .int .i64 (mf : Nat)] 36)) ga 3 _ 36 (0, 0) HKa_18.out
        have a4 := cell_of_row (w17.alloc (.cells #[.int .i64 (ma : Nat), .int .i64 (ms : Nat), .int .i64 (mo : Nat), .int .i64 (my : Nat), .int .i64 (mf : Nat)] 36)) ga 4 _ 36 (0, 0) HKa_18.out
        have b0 := cell_of_row (w17.alloc (.cells #[.int .i64 (ma : Nat), .int .i64 (ms : Nat), .int .i64 (mo : Nat), .int .i64 (my : Nat), .int .i64 (mf : Nat)] 36)) w17.heap.size 0 _ 36 (0, 0) HKb.out
        have b1 := cell_of_row (w17.alloc (.cells #[.int .i64 (ma : Nat), .int .i64 (ms : Nat), .int .i64 (mo : Nat), .int .i64 (my : Nat), .int .i64 (mf : Nat)] 36)) w17.heap.size 1 _ 36 (0, 0) HKb.out
        have b2 := cell_of_row (w17.alloc (.cells #[.int .i64 (ma : Nat), .int .i64 (ms : Nat), .int .i64 (mo : Nat), .int .i64 (my : Nat), .int .i64 (mf : Nat)] 36)) w17.heap.size 2 _ 36 (0, 0) HKb.out
        have b3 := cell_of_row (w17.alloc (.cells #[.int .i64 (ma : Nat), .int .i64 (ms : Nat), .int .i64 (mo : Nat), .int .i64 (my : Nat), .int .i64 (mf : Nat)] 36)) w17.heap.size 3 _ 36 (0, 0) HKb.out
        have b4 := cell_of_row (w17.alloc (.cells #[.int .i64 (ma : Nat), .int .i64 (ms : Nat), .int .i64 (mo : Nat), .int .i64 (my : Nat), .int .i64 (mf : Nat)] 36)) w17.heap.size 4 _ 36 (0, 0) HKb.out
        have n0 := cell_of_row (w17.alloc (.cells #[.int .i64 (ma : Nat), .int .i64 (ms : Nat), .int .i64 (mo : Nat), .int .i64 (my : Nat), .int .i64 (mf : Nat)] 36)) gn 0 _ 36 (0, 0) HKn_18.out
        have n1 := cell_of_row (w17.alloc (.cells #[.int .i64 (ma : Nat), .int .i64 (ms : Nat), .int .i64 (mo : Nat), .int .i64 (my : Nat), .int .i64 (mf : Nat)] 36)) gn 1 _ 36 (0, 0) HKn_18.out
        have n2 := cell_of_row (w17.alloc (.cells #[.int .i64 (ma : Nat), .int .i64 (ms : Nat), .int .i64 (mo : Nat), .int .i64 (my : Nat), .int .i64 (mf : Nat)] 36)) gn 2 _ 36 (0, 0) HKn_18.out
        have n3 := cell_of_row (w17.alloc (.cells #[.int .i64 (ma : Nat), .int .i64 (ms : Nat), .int .i64 (mo : Nat), .int .i64 (my : Nat), .int .i64 (mf : Nat)] 36)) gn 3 _ 36 (0, 0) HKn_18.out
        have n4 := cell_of_row (w17.alloc (.cells #[.int .i64 (ma : Nat), .int .i64 (ms : Nat), .int .i64 (mo : Nat), .int .i64 (my : Nat), .int .i64 (mf : Nat)] 36)) gn 4 _ 36 (0, 0) HKn_18.out
        simp only [List.getElem?_toArray, List.getElem?_cons_zero, List.getElem?_cons_succ] at a0 a1 a2 a3 a4 b0 b1 b2 b3 b4 n0 n1 n2 n3 n4
        have nn0 := Lib.cell?_alloc_some (.cells #[.int .i64 ((na : Int) + (ma : Int)), .int .i64 ((ns : Int) + (ms : Int)), .int .i64 ((no : Int) + (mo : Int)), .int .i64 ((ny : Int) + (my : Int)), .int .i64 ((nf : Int) + (mf : Int))] 36) n0
        have nn1 := Lib.cell?_alloc_some (.cells #[.int .i64 ((na : Int) + (ma : Int)), .int .i64 ((ns : Int) + (ms : Int)), .int .i64 ((no : Int) + (mo : Int)), .int .i64 ((ny : Int) + (my : Int)), .int .i64 ((nf : Int) + (mf : Int))] 36) n1
        have nn2 := Lib.cell?_alloc_some (.cells #[.int .i64 ((na : Int) + (ma : Int)), .int .i64 ((ns : Int) + (ms : Int)), .int .i64 ((no : Int) + (mo : Int)), .int .i64 ((ny : Int) + (my : Int)), .int .i64 ((nf : Int) + (mf : Int))] 36) n2
        have nn3 := Lib.cell?_alloc_some (.cells #[.int .i64 ((na : Int) + (ma : Int)), .int .i64 ((ns : Int) + (ms : Int)), .int .i64 ((no : Int) + (mo : Int)), .int .i64 ((ny : Int) + (my : Int)), .int .i64 ((nf : Int) + (mf : Int))] 36) n3
        have nn4 := Lib.cell?_alloc_some (.cells #[.int .i64 ((na : Int) + (ma : Int)), .int .i64 ((ns : Int) + (ms : Int)), .int .i64 ((no : Int) + (mo : Int)), .int .i64 ((ny : Int) + (my : Int)), .int .i64 ((nf : Int) + (mf : Int))] 36) n4
        obtain ⟨d0, d1, d2, d3, d4, d5, d6, d7, d8, d9⟩ := HBD.out
        have hz : w17.heap.size < (w17.alloc (.cells #[.int .i64 (ma : Nat), .int .i64 (ms : Nat), .int .i64 (mo : Nat), .int .i64 (my : Nat), .int .i64 (mf : Nat)] 36)).heap.size := by simp
        have hgn9 : gn < (w17.alloc (.cells #[.int .i64 (ma : Nat), .int .i64 (ms : Nat), .int .i64 (mo : Nat), .int .i64 (my : Nat), .int .i64 (mf : Nat)] 36)).heap.size := lt_of_cell n0
        have hga9 : ga < (w17.alloc (.cells #[.int .i64 (ma : Nat), .int .i64 (ms : Nat), .int .i64 (mo : Nat), .int .i64 (my : Nat), .int .i64 (mf : Nat)] 36)).heap.size := lt_of_cell a0
        have hgn8 : gn ≠ (w17.alloc (.cells #[.int .i64 (ma : Nat), .int .i64 (ms : Nat), .int .i64 (mo : Nat), .int .i64 (my : Nat), .int .i64 (mf : Nat)] 36)).heap.size := by omega
        have hbs := (Below.refl (w17.alloc (.cells #[.int .i64 (ma : Nat), .int .i64 (ms : Nat), .int .i64 (mo : Nat), .int .i64 (my : Nat), .int .i64 (mf : Nat)] 36)).heap.size (w17.alloc (.cells #[.int .i64 (ma : Nat), .int .i64 (ms : Nat), .int .i64 (mo : Nat), .int .i64 (my : Nat), .int .i64 (mf : Nat)] 36))).alloc (Nat.le_refl _) (.cells #[.int .i64 ((na : Int) + (ma : Int)), .int .i64 ((ns : Int) + (ms : Int)), .int .i64 ((no : Int) + (mo : Int)), .int .i64 ((ny : Int) + (my : Int)), .int .i64 ((nf : Int) + (mf : Int))] 36)
        have HB20 : Hid (RowKit.Below w.heap.size w ((w17.alloc (.cells #[.int .i64 (ma : Nat), .int .i64 (ms : Nat), .int .i64 (mo : Nat), .int .i64 (my : Nat), .int .i64 (mf : Nat)] 36)).alloc (.cells #[.int .i64 ((na : Int) + (ma : Int)), .int .i64 ((ns : Int) + (ms : Int)), .int .i64 ((no : Int) + (mo : Int)), .int .i64 ((ny : Int) + (my : Int)), .int .i64 ((nf : Int) + (mf : Int))] 36))) := hide (HB19.out.trans (hbs.mono HB19.out.size))
        have HFf_20 := hide (HFf_19.out.below hbs)
        have HFg_20 := hide (HFg_19.out.below hbs)
        have HS1_20 := hide (HS1_19.out.below hbs)
        have HS2_20 := hide (HS2_19.out.below hbs)
        have HSc_20 := hide (HSc_19.out.below hbs)
        clear hbs
        go_wp2_with fail
        refine (branches_any HFf_20.out).mono ?_
        rintro e21 w21 ⟨v21, rfl, ho21, hb21⟩
        obtain ⟨p21, n21, c21, rfl⟩ := ho21.brs.sl
        have HB22 : Hid (RowKit.Below w.heap.size w w21) := hide (HB20.out.trans (hb21.mono HB20.out.size))
        have HFf_22 := hide (HFf_20.out.below hb21)
        have HFg_22 := hide (HFg_20.out.below hb21)
        have HS1_22 := hide (HS1_20.out.below hb21)
        have HS2_22 := hide (HS2_20.out.below hb21)
        have HSc_22 := hide (HSc_20.out.below hb21)
        have HRbf := hide ho21.brs
        clear ho21 hb21
        go_wp2_with fail
        refine (branches_any HFg_22.out).mono ?_
        rintro e23 w23 ⟨v23, rfl, ho23, hb23⟩
        obtain ⟨p23, n23, c23, rfl⟩ := ho23.brs.sl
        have HB24 : Hid (RowKit.Below w.heap.size w w23) := hide (HB22.out.trans (hb23.mono HB22.out.size))
        have HFf_24 := hide (HFf_22.out.below hb23)
        have HFg_24 := hide (HFg_22.out.below hb23)
        have HS1_24 := hide (HS1_22.out.below hb23)
        have HS2_24 := hide (HS2_22.out.below hb23)
        have HSc_24 := hide (HSc_22.out.below hb23)
        have HRbf_24 := hide (HRbf.out.below hb23)
        have HRbg := hide ho23.brs
        clear ho23 hb23
        go_wp2_with fail
        refine (equalBr_any HRbf_24.out HRbg.out).mono ?_
        rintro e25 w25 ⟨rfl, q25, rfl⟩
        rw [decide_eq_true (rfl)]
        have hbq25 : RowKit.Below w23.heap.size w23 (w23.drewN q25) := bdrew _ _
        have HB26 : Hid (RowKit.Below w.heap.size w (w23.drewN q25)) := hide (HB24.out.trans (hbq25.mono HB24.out.size))
        have HFf_26 := hide (HFf_24.out.below hbq25)
        have HFg_26 := hide (HFg_24.out.below hbq25)
        have HS1_26 := hide (HS1_24.out.below hbq25)
        have HS2_26 := hide (HS2_24.out.below hbq25)
        have HSc_26 := hide (HSc_24.out.below hbq25)
        have HRbf_26 := hide (HRbf_24.out.below hbq25)
        have HRbg_26 := hide (HRbg.out.below hbq25)
        clear hbq25
        go_wp2_with fail
        refine (HA.out _).mono ?_
        rintro e27 w27 ⟨rfl, hb27⟩
        have HBf := hide (HB26.out.trans (hb27.mono HB26.out.size))
        clear hb27
        go_wp2
        go_ret
        exact ⟨rfl, HBf.out⟩
      · have hva : addV 1 [] (l1 ++ l2) = .tuple #[.agg #[.int .i64 0, .int .i64 0, .int .i64 0, .int .i64 0, .int .i64 0], .int .i64 30] := by
          unfold addV
          rw [if_neg hall]
          rfl
        have hpa : addP 1 [] (l1 ++ l2) = [] := by unfold addP; rw [if_neg hall]
        have HVA := hide (And.intro hva hpa)
        clear hall hva hpa
        go_wp2_with fail
        refine (add_any HFf_10.out HSc.out HNC.out.2 HNC.out.1).mono ?_
        rintro e11 w11 ⟨rfl, hf11, hc11⟩
        rw [HVA.out.1]
        rw [HVA.out.2] at hf11
        have HB11 : Hid (RowKit.Below w.heap.size w w11) := hide (Chg.to_below HB10.out hc11 (fun k hk => by have := HZf.out; omega))
        have HFg_11 := hide (HFg_10.out.chg hc11 (by have := HOf.out; have := HOg.out; have := HZf.out; have := HZg.out; omega) (by have := HOf.out; have := HOg.out; have := HZf.out; have := HZg.out; omega))
        have HS1_11 := hide (HS1.out.below HB11.out)
        have HS2_11 := hide (HS2.out.below HB11.out)
        have HSc_11 := hide (HSc.out.chg hc11 (fun g i u hu => by obtain ⟨D, hD⟩ := HFf_10.out.bag; exact hD.ne_cell hu))
        have HFf_11 := hide hf11
        clear hf11 hc11
        have hlf12 : gf < w11.heap.size ∧ bf < w11.heap.size := ⟨lt_of_cell HFf_11.out.c0, by obtain ⟨D, hD⟩ := HFf_11.out.bag; exact hD.map.lt⟩
        have hlg12 : gg < w11.heap.size ∧ bg < w11.heap.size := ⟨lt_of_cell HFg_11.out.c0, by obtain ⟨D, hD⟩ := HFg_11.out.bag; exact hD.map.lt⟩
        have HLT12 := hide (And.intro hlf12 hlg12)
        clear hlf12 hlg12
        have hb12 := (Below.refl w11.heap.size w11).alloc (Nat.le_refl _) (.cells #[.int .i64 0, .int .i64 0, .int .i64 0, .int .i64 0, .int .i64 0] 36)
        have hr12 := heap_alloc_new w11 (.cells #[.int .i64 0, .int .i64 0, .int .i64 0, .int .i64 0, .int .i64 0] 36)
        have HB13 : Hid (RowKit.Below w.heap.size w (w11.alloc (.cells #[.int .i64 0, .int .i64 0, .int .i64 0, .int .i64 0, .int .i64 0] 36))) := hide (HB11.out.trans (hb12.mono HB11.out.size))
        have HFf_13 := hide (HFf_11.out.below hb12)
        have HFg_13 := hide (HFg_11.out.below hb12)
        have HS1_13 := hide (HS1_11.out.below hb12)
        have HS2_13 := hide (HS2_11.out.below hb12)
        have HSc_13 := hide (HSc_11.out.below hb12)
        have hsz12 : w11.heap.size < (w11.alloc (.cells #[.int .i64 0, .int .i64 0, .int .i64 0, .int .i64 0, .int .i64 0] 36)).heap.size := by simp
        go_wp2_with fail
        obtain ⟨Y12, hY12⟩ : ∃ Y, w11.alloc (.cells #[.int .i64 0, .int .i64 0, .int .i64 0, .int .i64 0, .int .i64 0] 36) = Y := ⟨_, rfl⟩
        obtain ⟨gn, hg12⟩ : ∃ g, w11.heap.size = g := ⟨_, rfl⟩
        rw [hY12, hg12] at hr12
        rw [hY12, hg12]
        rw [hY12] at HFf_13
        rw [hY12] at HFg_13
        rw [hY12] at HS1_13
        rw [hY12] at HS2_13
        rw [hY12] at HSc_13
        rw [hY12] at HB13
        have HBn : Hid ((gf < gn ∧ bf < gn) ∧ gg < gn ∧ bg < gn) := hide (by have := HLT12.out; omega)
        have HKn := hide hr12
        clear hb12 hr12 hsz12 hY12 hg12
        have n0 := cell_of_row Y12 gn 0 _ 36 (0, 0) HKn.out
        have n1 := cell_of_row Y12 gn 1 _ 36 (0, 0) HKn.out
        have n2 := cell_of_row Y12 gn 2 _ 36 (0, 0) HKn.out
        have n3 := cell_of_row Y12 gn 3 _ 36 (0, 0) HKn.out
        have n4 := cell_of_row Y12 gn 4 _ 36 (0, 0) HKn.out
        simp only [List.getElem?_toArray, List.getElem?_cons_zero, List.getElem?_cons_succ] at n0 n1 n2 n3 n4
        go_wp2_with fail
        refine (len_any HFf_13.out).mono ?_
        rintro e90 w90 ⟨rfl, q90, rfl⟩
        have hb90 : RowKit.Below Y12.heap.size Y12 (Y12.drewN q90) := bdrew _ _
        have HB14 : Hid (RowKit.Below w.heap.size w (Y12.drewN q90)) := hide (HB13.out.trans (hb90.mono HB13.out.size))
        have HFf_14 := hide (HFf_13.out.below hb90)
        have HFg_14 := hide (HFg_13.out.below hb90)
        have HS1_14 := hide (HS1_13.out.below hb90)
        have HS2_14 := hide (HS2_13.out.below hb90)
        have HSc_14 := hide (HSc_13.out.below hb90)
        clear hb90 n0 n1 n2 n3 n4
        go_wp2_with fail
        refine (HA.out _).mono ?_
        rintro e15 w15 ⟨rfl, hb15⟩
        have HBf := hide (HB14.out.trans (hb15.mono HB14.out.size))
        clear hb15
        go_wp2
        go_ret
        exact ⟨rfl, HBf.out⟩
end Go.Proofs.Ytokmmmpijcbknaa
