/- The law ForestOrder. -/
import Derived.Test.YtokmmmpijcbknaaFSwap
namespace Go.Proofs.Ytokmmmpijcbknaa
set_option linter.unusedVariables false
set_option linter.unusedSimpArgs false
open Go.RowKit

set_option maxRecDepth 200000 in
set_option maxHeartbeats 4000000 in
theorem lawFoOrder_any {w : World} {v u : Value} {l1 : List Sp} {zs : List Int} (hv1 : Sps w v l1) (hn1 : ∀ x ∈ l1, x.n.size ≤ maxLen) (hz : Ints w u zs) : Calls Try.prog 6 #[v, u] w fun e w' => e = .returned (.bool true) ∧ Below w.heap.size w w' := by
  obtain ⟨q1, m1, c1, rfl⟩ := hv1.sl
  obtain ⟨pz, cz, rfl, hzm, hzc⟩ := hz
  obtain ⟨nz, hnz⟩ : ∃ nz, zs.length = nz := ⟨_, rfl⟩
  rw [hnz] at hzm ⊢
  have hzm' : (nz : Int) ≤ 9223372036854775807 := by unfold maxLen at hzm; omega
  have HL1 := hide (light_any hv1 hn1)
  have HA := hide awake_any
  have HS1 := hide hv1
  have HZ := hide hzc
  have HNZ := hide hnz
  clear hv1 hn1 hzc hzm
  have hsad : (lightL l1 = false ∨ lightL l1 = true ∧ (1000 : Int) < nz) ∨ (lightL l1 = true ∧ ¬ (1000 : Int) < nz) := by
    cases lightL l1
    · exact .inl (.inl rfl)
    · by_cases h : (1000 : Int) < nz
      · exact .inl (.inr ⟨rfl, h⟩)
      · exact .inr ⟨rfl, h⟩
  clear hnz
  rcases hsad with (hl | ⟨hl, hbig⟩) | ⟨hl, hbig⟩
  · rw [hl] at HL1
    go_enter Try.func6, Try.ntmps6
    go_wp2_with fail
    refine HL1.out.mono ?_
    rintro e1 w1 ⟨rfl, hw1⟩
    have hw1 := hw1.symm
    subst hw1
    go_wp2_with fail
    refine (HA.out _).mono ?_
    rintro e2 w2 ⟨rfl, hb2⟩
    have HBf := hide ((Below.refl w.heap.size w).trans (hb2.mono (Below.refl w.heap.size w).size))
    clear hb2
    go_wp2
    go_ret
    exact ⟨rfl, HBf.out⟩
  · rw [hl] at HL1
    go_enter Try.func6, Try.ntmps6
    go_wp2_with fail
    refine HL1.out.mono ?_
    rintro e1 w1 ⟨rfl, hw1⟩
    have hw1 := hw1.symm
    subst hw1
    go_wp2_with fail
    refine (HA.out _).mono ?_
    rintro e2 w2 ⟨rfl, hb2⟩
    have HBf := hide ((Below.refl w.heap.size w).trans (hb2.mono (Below.refl w.heap.size w).size))
    clear hb2
    go_wp2
    go_ret
    exact ⟨rfl, HBf.out⟩
  · rw [hl] at HL1
    have HG1 := hide (light_len hl)
    clear hl
    go_enter Try.func6, Try.ntmps6
    go_wp2_with fail
    refine HL1.out.mono ?_
    rintro e1 w1 ⟨rfl, hw1⟩
    have hw1 := hw1.symm
    subst hw1
    go_wp2_with fail
    refine (grown_any HS1.out (by have := HG1.out.1; omega) HG1.out.2).mono ?_
    rintro e2 w2 ⟨gf, bf, rfl, hf2, hg2, hbb2, hb2⟩
    have hlt2 : gf < w2.heap.size ∧ bf < w2.heap.size := ⟨lt_of_cell hf2.c0, by obtain ⟨D, hD⟩ := hf2.bag; exact hD.map.lt⟩
    have HOf := hide (And.intro hg2 (And.intro hbb2 hlt2))
    have HZf : Hid (w.heap.size ≤ gf ∧ w.heap.size ≤ bf) := hide (by have := (Below.refl w.heap.size w).size; omega)
    have HB3 : Hid (RowKit.Below w.heap.size w w2) := hide ((Below.refl w.heap.size w).trans (hb2.mono (Below.refl w.heap.size w).size))
    have HS1_3 := hide (HS1.out.below hb2)
    have HFf := hide hf2
    clear hf2 hb2 hg2 hbb2 hlt2
    have HB0 := HB3
    have HF0 := HFf
    go_wp2_with fail
    refine (spans_any HFf.out).mono ?_
    rintro e4 w4 ⟨v4, rfl, ho4, hb4⟩
    obtain ⟨pm, nm, cm, rfl⟩ := ho4.sps.sl
    have HB5 : Hid (RowKit.Below w.heap.size w w4) := hide (HB3.out.trans (hb4.mono HB3.out.size))
    have HFf_5 := hide (HFf.out.below hb4)
    have HS1_5 := hide (HS1_3.out.below hb4)
    have HSm := hide ho4.sps
    have HOWNm := hide ho4
    have HBSPm := hide hb4
    clear ho4 hb4
    have HBX0 := HBSPm
    have HF := HFf_5
    have HB := HB5
    go_wp2_with fail
    obtain ⟨G, hG⟩ : ∃ G, growP l1 = G := ⟨_, rfl⟩
    have hok : FoOk 1 G := by rw [← hG]; exact growP_ok l1
    rw [hG] at HF HOWNm
    obtain ⟨S, hS⟩ : ∃ S, sortS G = S := ⟨_, rfl⟩
    have hokS : FoOk 1 S := by rw [← hS]; exact hok.sort
    have hSG : S.Perm G := by rw [← hS]; exact sortS_perm G
    rw [hS] at HOWNm
    have hl : S.length ≤ 200 := by have := hokS.len; omega
    obtain ⟨q2, hq2⟩ : ∃ q, pm = q := ⟨_, rfl⟩
    obtain ⟨m2, hm2⟩ : ∃ q, nm = q := ⟨_, rfl⟩
    obtain ⟨c2, hc2⟩ : ∃ q, cm = q := ⟨_, rfl⟩
    obtain ⟨X0, hX0⟩ : ∃ X0, w2 = X0 := ⟨_, rfl⟩
    obtain ⟨X, hX⟩ : ∃ X, w4 = X := ⟨_, rfl⟩
    rw [hq2, hm2, hc2, hX0, hX] at HOWNm
    rw [hX0, hX] at HBX0
    rw [hG] at HF0
    rw [hX0] at HF0 HB0
    rw [hX] at HB
    rw [hq2, hm2, hc2, hX]
    have HN : Hid (0 ≤ 200 ∧ S.length ≤ 200) := hide ⟨by omega, hl⟩
    have HOKS := hide (And.intro hokS hSG)
    have HZX : Hid (∀ (i : Nat) z, zs[i]? = some z → -9223372036854775808 ≤ z ∧ z ≤ 9223372036854775807 ∧ ∃ g o, pz = some ⟨g, o, none⟩ ∧ X0.cell? ⟨g, o + i, none⟩ = some (.int .i64 z)) := hide (fun i z hi => by
      obtain ⟨a1, a2, g, o, e, hc⟩ := HZ.out i z hi
      exact ⟨a1, a2, g, o, e, (HB0.out.cell (lt_of_cell hc)).trans hc⟩)
    have HO2 := HOWNm
    have HB2 : Hid (RowKit.Below X0.heap.size X0 X) := HBX0
    clear hG hok hokS hSG hS hl hX0 hX hq2 hm2 hc2
    go_loopw [7, 8, 9, 10, 11, 30] (fun _ _ _ _ _ c wr => ∃ k : Nat, k ≤ nz ∧ c = .int .i64 k ∧ Hid (∃ lm : List Sp, lm.Perm S ∧ OwnS X0.heap.size wr (.slice q2 m2 c2) lm ∧ RowKit.Below X0.heap.size X0 wr)) (fun _ _ _ _ _ c _ => nz - (intOf c).toNat)
    case atStart => exact ⟨0, by omega, rfl, hide ⟨S, List.Perm.refl _, HO2.out, HB2.out⟩⟩
    case round =>
      obtain ⟨k, hk, rfl, H⟩ := hrel
      obtain ⟨lm, hpm, hom, hbm⟩ := H.out
      have hlm : lm.length = S.length := hpm.length_eq
      have hm2 := hom.sps.len.1
      have HPM := hide hpm
      have HOM := hide hom
      have HBM := hide hbm
      clear hpm hom hbm H
      by_cases hlt : (k : Int) < (nz : Int)
      · obtain ⟨z, hz⟩ : ∃ z, zs[k]? = some z := ⟨_, List.getElem?_eq_getElem (by have := HNZ.out; omega)⟩
        obtain ⟨z1, z2, g, o, rfl, hcz⟩ := HZX.out k z hz
        have hcz := (HBM.out.cell (lt_of_cell hcz)).trans hcz
        have HLM := hide (And.intro hlm hm2)
        clear hlm hm2 hz
        by_cases h0 : m2 = 0
        · subst h0
          go_wp2
          go_roundw
          case rel => exact ⟨k + 1, by omega, by go_num, hide ⟨lm, HPM.out, HOM.out, HBM.out⟩⟩
          case measure => simp [intOf]; omega
        · have hpos : 0 < m2 := by omega
          have hpos2 : (0 : Int) < (m2 : Int) := by omega
          have hm200 : (m2 : Int) ≤ 200 := by have := HLM.out; have := HN.out; omega
          obtain ⟨zu, hzu⟩ : ∃ zu : Nat, IntKind.u64.wrap z = (zu : Int) := ⟨(IntKind.u64.wrap z).toNat, by rw [IntKind.wrap_u64]; omega⟩
          have hzb : (zu : Int) ≤ 18446744073709551615 := by rw [← hzu, IntKind.wrap_u64]; omega
          have hwm : IntKind.u64.wrap (m2 : Int) = (m2 : Int) := by rw [IntKind.wrap_u64]; omega
          obtain ⟨bi, hbi⟩ : ∃ bi, zu % m2 = bi := ⟨_, rfl⟩
          obtain ⟨ai, hai⟩ : ∃ ai, k % m2 = ai := ⟨_, rfl⟩
          have hblt : bi < m2 := by rw [← hbi]; exact Nat.mod_lt _ hpos
          have halt : ai < m2 := by rw [← hai]; exact Nat.mod_lt _ hpos
          have ht1 : Int.tmod (zu : Int) (m2 : Int) = (bi : Int) := by rw [← hbi]; rfl
          have ht2 : Int.tmod (k : Int) (m2 : Int) = (ai : Int) := by rw [← hai]; rfl
          have hwb : IntKind.i64.wrap (bi : Int) = (bi : Int) := by rw [IntKind.wrap_i64]; omega
          clear hbi hai
          go_wp2_with fail
          go_quiet (fail)
          obtain ⟨g2, rfl⟩ : ∃ g2, q2 = some ⟨g2, 0, none⟩ := by
            have hh := HOM.out
            obtain ⟨_, ⟨e, _⟩ | ⟨g2, cap, cur, e, _⟩⟩ := hh
            · injection e with e1 e2 e3
              omega
            · injection e with e1 e2 e3
              exact ⟨g2, e1⟩
          obtain ⟨V, hV⟩ : ∃ V, wr.drewN nq = V := ⟨_, rfl⟩
          have hom : OwnS X0.heap.size V (.slice (some ⟨g2, 0, none⟩) m2 c2) lm := by rw [← hV]; exact HOM.out
          obtain ⟨x1, hx1⟩ : ∃ x, lm[ai]? = some x := ⟨_, List.getElem?_eq_getElem (by have := HLM.out; omega)⟩
          obtain ⟨x2, hx2⟩ : ∃ x, lm[bi]? = some x := ⟨_, List.getElem?_eq_getElem (by have := HLM.out; omega)⟩
          have HS := hide (sps_at hom)
          obtain ⟨a0, a1, a2, a3, a4, a5⟩ := (HS.out ai x1 hx1).six
          have hfl := hom.lt g2 rfl
          obtain ⟨V2, hV2⟩ : ∃ V2, V.alloc (.cells #[.int .i64 x1.t, .int .i64 x1.i, .int .i64 x1.p, .int .i64 x1.s, .int .i64 x1.e, .string x1.n] 33) = V2 := ⟨_, rfl⟩
          have hB2 : Below V.heap.size V V2 := by rw [← hV2]; exact (Below.refl _ _).alloc (Nat.le_refl _) _
          have hbox : SpAt V2 V.heap.size 0 x1 := by rw [← hV2]; exact spAt_new V x1
          have hom2 := hom.below hB2
          obtain ⟨b0, b1, b2, b3, b4, b5⟩ := (sps_at hom2 bi x2 hx2).six
          obtain ⟨e0, e1, e2, e3, e4, e5⟩ := (sps_at hom2 ai x1 hx1).six
          obtain ⟨f0, f1, f2, f3, f4, f5⟩ := fr_six hom2 (ai * 6)
          have hail : ai < lm.length := by have := HLM.out; omega
          have hbil : bi < (lm.set ai x2).length := by have := HLM.out; rw [List.length_set]; omega
          obtain ⟨hom3, hg3⟩ := own_put6 hom2 hail x2
          obtain ⟨V3, hV3⟩ : ∃ V3, put6 V2 g2 (ai * 6) x2 = V3 := ⟨_, rfl⟩
          rw [hV3] at hom3 hg3
          unfold put6 at hV3
          have hbox3 := hbox.grown hg3 (by intro e; injection e with e; omega)
          obtain ⟨k0, k1, k2, k3, k4, k5⟩ := hbox3.z
          obtain ⟨y, hy⟩ : ∃ y, (lm.set ai x2)[bi]? = some y := ⟨_, List.getElem?_eq_getElem hbil⟩
          obtain ⟨h0, h1, h2, h3, h4, h5⟩ := (sps_at hom3 bi y hy).six
          obtain ⟨j0, j1, j2, j3, j4, j5⟩ := fr_six hom3 (bi * 6)
          obtain ⟨hom4, hg4⟩ := own_put6 hom3 hbil x1
          obtain ⟨V4, hV4⟩ : ∃ V4, put6 V3 g2 (bi * 6) x1 = V4 := ⟨_, rfl⟩
          rw [hV4] at hom4 hg4
          unfold put6 at hV4
          have HOM4 := hide hom4
          have HPM4 := hide ((swap_perm hx1 hx2).trans HPM.out)
          have HB4 := hide (show RowKit.Below X0.heap.size X0 V4 from by
            have q0 : RowKit.Below X0.heap.size X0 V := by rw [← hV]; exact HBM.out.trans (bdrew _ nq)
            have q1 := q0.trans (hB2.mono q0.size)
            have q2 := q1.grown hg3 q1.size (fun k hk => by injection hk with hk; omega)
            exact q2.grown hg4 q2.size (fun k hk => by injection hk with hk; omega))
          have halt2 : (ai : Int) < (m2 : Int) := by omega
          have hblt2 : (bi : Int) < (m2 : Int) := by omega
          rw [hV]
          clear hom hx1 hx2 hV hom2 hom3 hom4 hg3 hg4 hbox hbox3 hB2 hail hbil hy hfl
          go_wp2_with fail
          go_roundw
          case rel => exact ⟨k + 1, by omega, by go_num, hide ⟨_, HPM4.out, HOM4.out, HB4.out⟩⟩
          case measure => simp [intOf]; omega
      · have hlm2 : m2 = lm.length := hm2
        have hm200' : m2 ≤ 200 := by have := HN.out; omega
        have hokM : FoOk 1 lm := HOKS.out.1.perm HPM.out
        have hall := adds_all lm [] cn0 hokM
        have hallb : lm.all (fun x => x.ok && decide (x.t = 1)) = true := by
          rw [List.all_eq_true]
          intro x hx
          have := hokM.ok x hx
          rw [this.1, decide_eq_true this.2]
          rfl
        have hva : addV 1 [] lm = .tuple #[.agg #[.int .i64 (m2 : Nat), .int .i64 0, .int .i64 0, .int .i64 0, .int .i64 0], .int .i64 0] := by
          unfold addV
          rw [if_pos hallb, hall, hlm2]
          simp [cnV, cn0]
        have hpa : addP 1 [] lm = lm := by
          unfold addP
          rw [if_pos hallb, hall]
          rfl
        have hnames : ∀ x ∈ lm, x.n.size ≤ 1000000 := fun x hx => by
          have h1 := ((Sp.ok_iff x).1 (hokM.ok x hx).1).n2
          have h2 : x.nl.length = x.n.size := rfl
          omega
        have hsort : brs (sortS lm) = brs (sortS G) := by rw [sortS_of_perm (HPM.out.trans HOKS.out.2)]
        have HVA := hide hva
        have HPA := hide (And.intro hpa hsort)
        have HNMS := hide hnames
        have HFF := hide (HF0.out.below HBM.out)
        have HSM := hide HOM.out.sps
        have HBW := hide (HB0.out.trans (HBM.out.mono HB0.out.size))
        have hl100 : lm.length ≤ 100000 := by omega
        have HL100 := hide hl100
        clear hlm hm2 hokM hall hallb hva hpa hnames hsort hlm2 hl100
        go_wp2_with fail
        refine (new_any (tr := 1) (by decide) (by decide)).mono ?_
        rintro e50 w50 ⟨rfl, hf50, hb50⟩
        have HOh : Hid (wr.heap.size ≤ wr.heap.size + 1 ∧ wr.heap.size ≤ wr.heap.size) := hide (by omega)
        have hltf : gf < wr.heap.size ∧ bf < wr.heap.size := ⟨lt_of_cell HFF.out.c0, by obtain ⟨D, hD⟩ := HFF.out.bag; exact hD.map.lt⟩
        have HLTF := hide hltf
        clear hltf
        obtain ⟨gh, hgh⟩ : ∃ g, wr.heap.size + 1 = g := ⟨_, rfl⟩
        obtain ⟨bh, hbh⟩ : ∃ g, wr.heap.size = g := ⟨_, rfl⟩
        have HZh : Hid (w.heap.size ≤ gh ∧ w.heap.size ≤ bh) := hide (by have := HBW.out.size; omega)
        have HAP : Hid (gf ≠ bh ∧ bf ≠ bh ∧ gh ≠ bf) := hide (by have := HLTF.out; omega)
        have HB101 : Hid (RowKit.Below w.heap.size w w50) := hide (HBW.out.trans (hb50.mono HBW.out.size))
        have HFf_101 := hide (HFF.out.below hb50)
        have HSm_101 := hide (HSM.out.below hb50)
        rw [hgh, hbh] at hf50
        rw [hgh]
        have HFh := hide hf50
        clear hf50 hb50 hgh hbh
        go_wp2_with fail
        refine (add_any HFh.out HSm_101.out HL100.out HNMS.out).mono ?_
        rintro e102 w102 ⟨rfl, hf102, hc102⟩
        rw [HVA.out]
        rw [HPA.out.1] at hf102
        have HB102 : Hid (RowKit.Below w.heap.size w w102) := hide (Chg.to_below HB101.out hc102 (fun k hk => by have := HZh.out; omega))
        have HFf_102 := hide (HFf_101.out.chg hc102 (by have := HAP.out; omega) (by have := HAP.out; omega))
        have HSm_102 := hide (HSm_101.out.chg hc102 (fun g i u hu => by obtain ⟨D, hD⟩ := HFh.out.bag; exact hD.ne_cell hu))
        have HFh_102 := hide hf102
        clear hf102 hc102
        have hbn := (Below.refl w102.heap.size w102).alloc (Nat.le_refl _) (.cells #[.int .i64 (m2 : Nat), .int .i64 0, .int .i64 0, .int .i64 0, .int .i64 0] 36)
        have HB103 : Hid (RowKit.Below w.heap.size w (w102.alloc (.cells #[.int .i64 (m2 : Nat), .int .i64 0, .int .i64 0, .int .i64 0, .int .i64 0] 36))) := hide (HB102.out.trans (hbn.mono HB102.out.size))
        have HFf_103 := hide (HFf_102.out.below hbn)
        have HFh_103 := hide (HFh_102.out.below hbn)
        have HSm_103 := hide (HSm_102.out.below hbn)
        clear hbn
        go_wp2_with fail
        refine (branches_any HFf_103.out).mono ?_
        rintro e104 w104 ⟨v104, rfl, ho104, hb104⟩
        obtain ⟨p104, n104, c104, rfl⟩ := ho104.brs.sl
        have HB105 : Hid (RowKit.Below w.heap.size w w104) := hide (HB103.out.trans (hb104.mono HB103.out.size))
        have HFf_105 := hide (HFf_103.out.below hb104)
        have HFh_105 := hide (HFh_103.out.below hb104)
        have HSm_105 := hide (HSm_103.out.below hb104)
        have HRbf := hide ho104.brs
        clear ho104 hb104
        go_wp2_with fail
        refine (branches_any HFh_105.out).mono ?_
        rintro e106 w106 ⟨v106, rfl, ho106, hb106⟩
        obtain ⟨p106, n106, c106, rfl⟩ := ho106.brs.sl
        have HB107 : Hid (RowKit.Below w.heap.size w w106) := hide (HB105.out.trans (hb106.mono HB105.out.size))
        have HFf_107 := hide (HFf_105.out.below hb106)
        have HFh_107 := hide (HFh_105.out.below hb106)
        have HSm_107 := hide (HSm_105.out.below hb106)
        have HRbf_107 := hide (HRbf.out.below hb106)
        have HRbh := hide ho106.brs
        clear ho106 hb106
        go_wp2_with fail
        refine (equalBr_any HRbf_107.out HRbh.out).mono ?_
        rintro e108 w108 ⟨rfl, q108, rfl⟩
        rw [decide_eq_true (HPA.out.2.symm)]
        have hbq108 : RowKit.Below w106.heap.size w106 (w106.drewN q108) := bdrew _ _
        have HB109 : Hid (RowKit.Below w.heap.size w (w106.drewN q108)) := hide (HB107.out.trans (hbq108.mono HB107.out.size))
        have HFf_109 := hide (HFf_107.out.below hbq108)
        have HFh_109 := hide (HFh_107.out.below hbq108)
        have HSm_109 := hide (HSm_107.out.below hbq108)
        have HRbf_109 := hide (HRbf_107.out.below hbq108)
        have HRbh_109 := hide (HRbh.out.below hbq108)
        clear hbq108
        go_wp2_with fail
        refine (HA.out _).mono ?_
        rintro e110 w110 ⟨rfl, hb110⟩
        have HBf := hide (HB109.out.trans (hb110.mono HB109.out.size))
        clear hb110
        go_wp2
        go_ret
        exact ⟨rfl, HBf.out⟩
end Go.Proofs.Ytokmmmpijcbknaa
