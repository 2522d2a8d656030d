/- The law LedgerMerged. -/
import Derived.Test.YtmalhdiholblgaaLWh2
import Derived.Test.YtmalhdiholblgaaLLaw
namespace Go.Proofs.Ytmalhdiholblgaa
set_option linter.unusedVariables false
set_option linter.unusedSimpArgs false
open Go.RowKit

set_option maxRecDepth 200000 in
set_option maxHeartbeats 4000000 in
theorem lawMerged_any {w : World} {ix tm : Int} {p : Option Addr} {n c : Nat} {L : List En} (hv : Ens w (.slice p n c) L) (hix : fits ix) (hsz : L.length * 40 ≤ 140737488351232) {pm : Option Addr} {nm cm : Nat} {Lm : List En} (hm : Ens w (.slice pm nm cm) Lm) (sm : Lm.length * 40 ≤ 140737488351232) (index term : Int) (hif : fits index) : Calls Try.prog 4 #[.agg #[.int .i64 ix, .int .i64 tm, .slice p n c], .int .i64 index, .int .i64 term, .slice pm nm cm] w (Good w) := by
  have HAW := hide awake_any
  have HIF := hide hif
  have b1 : Below w.heap.size w (w.alloc (.cells #[.int .i64 ix, .int .i64 tm, .slice p n c] 24)) := (Below.refl _ _).alloc (Nat.le_refl _) _
  have hcs := box3 w (.int .i64 ix) (.int .i64 tm) (.slice p n c) 24
  have HFI := hide hix
  obtain ⟨X, hX⟩ : ∃ X, w.alloc (.cells #[.int .i64 ix, .int .i64 tm, .slice p n c] 24) = X := ⟨_, rfl⟩
  rw [hX] at b1 hcs
  have b2 : Below X.heap.size X (X.alloc (.cells #[.slice p n c, .slice pm nm cm] 22)) := (Below.refl _ _).alloc (Nat.le_refl _) _
  have HL := hide (light2 (hv.below b1) (hm.below b1) hsz sm)
  have HV := hide ((hv.below b1).below b2)
  have HVm := hide ((hm.below b1).below b2)
  have HBW := hide (b1.trans (b2.mono b1.size))
  have HXY0 := b2
  obtain ⟨z0, z1, z2⟩ := hcs
  have HZ := hide (And.intro z0 (And.intro z1 z2))
  obtain ⟨Y, hY⟩ : ∃ Y, X.alloc (.cells #[.slice p n c, .slice pm nm cm] 22) = Y := ⟨_, rfl⟩
  obtain ⟨q, hq⟩ : ∃ q, lightL [L, Lm] = q := ⟨_, rfl⟩
  rw [hY] at HL HV HBW b2 HVm HXY0
  have HXY := hide HXY0
  clear HXY0
  have y0 := (b2.cell (lt_of_cell z0)).trans z0
  have y1 := (b2.cell (lt_of_cell z1)).trans z1
  have y2 := (b2.cell (lt_of_cell z2)).trans z2
  rw [hq] at HL
  have HQ := hide hq
  clear b1 b2 hq hv hix hsz hm sm
  go_enter Try.func4, Try.ntmps4
  cases q
  · go_wp2_with fail
    refine HL.out.mono ?_
    rintro e w9 ⟨rfl, rfl⟩
    go_wp2_with fail
    refine (HAW.out _).mono ?_
    rintro e wz ⟨rfl, hbz⟩
    have HBZ := hide (HBW.out.trans (hbz.mono HBW.out.size))
    clear hbz
    go_wp2
    go_ret
    exact ⟨rfl, HBZ.out⟩
  · go_wp2_with fail
    refine HL.out.mono ?_
    rintro e w9 ⟨rfl, rfl⟩
    have HFEW : Hid (L.length ≤ 200) := hide (lightL_few HQ.out (by simp))
    have HMD := hide (made2_any (tm := tm) HV.out HFI.out (Nat.le_trans HFEW.out (by decide)))
    obtain ⟨r, hr⟩ : ∃ r, (good ix tm && goOn ix tm L) = r := ⟨_, rfl⟩
    rw [hr] at HMD
    have HRR := hide hr
    clear hr
    go_wp2_with fail
    refine HMD.out.mono ?_
    rintro e w2 ⟨hb2, hq2⟩
    have HB2 := hide hb2
    have HBY2 := hide hb2
    have HBW2 := hide (HBW.out.trans (hb2.mono HBW.out.size))
    clear hb2
    cases r
    · rw [if_neg (by simp)] at hq2
      subst hq2
      go_wp2_with fail
      refine (HAW.out _).mono ?_
      rintro e wz ⟨rfl, hbz⟩
      have HBZ := hide (HBW2.out.trans (hbz.mono HBW2.out.size))
      clear hbz
      go_wp2
      go_ret
      exact ⟨rfl, HBZ.out⟩
    · rw [if_pos rfl] at hq2
      obtain ⟨gl, gx, rfl, hl2, hx2⟩ := hq2
      have HLO := hide hl2
      have HL2 := hide hl2.is
      clear hl2 hx2
      have HMW : Hid (Lm.length ≤ 100000) := hide (Nat.le_trans (lightL_few HQ.out (l := Lm) (by simp)) (by decide))
      have hVm2 := HVm.out.below (HBY2.out)
      have HM1 := hide (merge_any (i := index) (t := term) HL2.out hVm2 HIF.out HMW.out)
      obtain ⟨R, hR⟩ : ∃ R, mergeI ⟨ix, tm, L⟩ index term Lm = R := ⟨_, rfl⟩
      rw [hR] at HM1
      obtain ⟨a, S, f⟩ := R
      have HRR := hide hR
      clear hR hVm2
      go_wp2_with fail
      refine HM1.out.mono ?_
      rintro e w3 ⟨⟨v3, rfl, ho3⟩, hb3⟩
      dsimp only at ho3 ⊢
      obtain ⟨p3, n3, c3, rfl⟩ := ho3.ens.sl
      have HO3 := hide ho3
      have HB3 : Hid (Below w2.heap.size w2 w3) := hide hb3
      have HBW3 := hide (HBW2.out.trans (hb3.mono HBW2.out.size))
      clear ho3 hb3 HM1
      cases f
      · obtain ⟨rfl, rfl⟩ := merge_no HRR.out
        have hn3 := HO3.out.ens.len.1
        simp only [List.length_nil] at hn3
        subst hn3
        go_wp2_with fail
        refine (HAW.out _).mono ?_
        rintro e wz ⟨rfl, hbz⟩
        have HBZ := hide (HBW3.out.trans (hbz.mono HBW3.out.size))
        clear hbz
        go_wp2
        go_ret
        exact ⟨rfl, HBZ.out⟩
      · obtain ⟨x1, x2, hmg⟩ := merged_fits HLO.out.ok HRR.out
        have HMG := hide hmg
        have HLO3 := hide (HLO.out.below HB3.out)
        clear hmg
        have HSL : Hid (S.length ≤ 200) := hide (by
          have h1 := (merge_cases HRR.out).2
          have h2 : Lm.length ≤ 200 := lightL_few HQ.out (l := Lm) (by simp)
          rcases h1 with ⟨_, rfl, _⟩ | ⟨k, _, _, _, _, _, _, rfl⟩
          · simp
          · rw [List.length_drop]
            omega)
        have HSL : Hid (S.length ≤ 200) := hide (by
          have h1 := (merge_cases HRR.out).2
          have h2 : Lm.length ≤ 200 := lightL_few HQ.out (l := Lm) (by simp)
          rcases h1 with ⟨_, rfl, _⟩ | ⟨k, _, _, _, _, _, _, rfl⟩
          · simp
          · rw [List.length_drop]
            omega)
        have HSL : Hid (S.length ≤ 200) := hide (by
          have h1 := (merge_cases HRR.out).2
          have h2 : Lm.length ≤ 200 := lightL_few HQ.out (l := Lm) (by simp)
          rcases h1 with ⟨_, rfl, _⟩ | ⟨k, _, _, _, _, _, _, rfl⟩
          · simp
          · rw [List.length_drop]
            omega)
        have HSL : Hid (S.length ≤ 200) := hide (by
          have h1 := (merge_cases HRR.out).2
          have h2 : Lm.length ≤ 200 := lightL_few HQ.out (l := Lm) (by simp)
          rcases h1 with ⟨_, rfl, _⟩ | ⟨k, _, _, _, _, _, _, rfl⟩
          · simp
          · rw [List.length_drop]
            omega)
        by_cases h0 : 0 < a
        · have hc := cutF_any HLO3.out a (by have := HB3.out.size; have := HBY2.out.size; omega)
          have h1 := HMG.out.one
          rw [if_pos h0] at h1
          rw [h1] at hc
          have HC := hide hc
          clear hc h1
          go_wp2_with fail
          refine HC.out.mono ?_
          rintro e w4 ⟨rfl, hl4, hf4⟩
          have HL4 := hide hl4
          have HO4 := hide (OwnEns.frame HLO.out HB3.out hf4 HO3.out)
          have HB4 : Hid (Below Y.heap.size Y w4) := hide ((HBY2.out.trans (HB3.out.mono HBY2.out.size)).trans (HLO3.out.fr_below hf4))
          clear hl4 hf4 HC
          have HC2 := hide (addF_any HL4.out HO4.out.ens (by have h1 := HMG.out.few; have h2 := HFEW.out; have h3 := HSL.out; dsimp only at h1 h2 h3 ⊢; omega) HB4.out.size)
          rw [HMG.out.two] at HC2
          go_wp2_with fail
          refine HC2.out.mono ?_
          rintro e w5 ⟨rfl, hl5, hf5⟩
          have HB5 := hide (HB4.out.trans (HL4.out.fr_below hf5))
          have HL5 := hide hl5.is
          have HBW5 : Hid (Below w.heap.size w w5) := hide (HBW.out.trans (HB5.out.mono HBW.out.size))
          have HV5 := hide (HVm.out.below HB5.out)
          have hlm := HV5.out.len.1
          subst hlm
          clear hl5 hf5 HC2
          have HIX := hide HMG.out.ix
          have HAT := hide HMG.out.at_
          have HDN := hide HMG.out.done
          clear y0 y1 y2
          have HZ5 : Hid (∀ V, Below w5.heap.size w5 V → V.cell? ⟨w.heap.size, 0, none⟩ = some (.int .i64 ix)) := hide fun V hV => by
            have h1 := (HXY.out.trans (HB5.out.mono HXY.out.size)).trans (hV.mono (Nat.le_trans HXY.out.size HB5.out.size))
            exact (h1.cell (lt_of_cell HZ.out.1)).trans HZ.out.1
          have hz5 := HZ5.out w5 (Below.refl _ _)
          go_wp2_with fail
          have hl9 : (Lm.length : Int) ≤ 9223372036854775807 := by have := HMW.out; omega
          go_loopw [15, 16, 17, 71] (fun _ _ _ i wr => ∃ k : Nat, k ≤ Lm.length ∧ i = .int .i64 k ∧ Hid (Below w5.heap.size w5 wr)) (fun _ _ _ i _ => Lm.length - (intOf i).toNat)
          case atStart => exact ⟨0, by omega, rfl, hide (Below.refl _ _)⟩
          case round =>
            obtain ⟨k, hk, rfl, HR⟩ := hrel
            by_cases hlt : k < Lm.length
            · have he := List.getElem?_eq_getElem hlt
              obtain ⟨e, hee⟩ : ∃ e, Lm[k] = e := ⟨_, rfl⟩
              rw [hee] at he
              have HAE : Hid (ix < e.i → x2.at_ e.i = (e.t, true)) := hide (HAT.out e (List.mem_of_getElem? he))
              have HEF : Hid (e.fits) := hide (HV5.out.fits e (List.mem_of_getElem? he))
              obtain ⟨g, o, pd, nd, cd, rfl, hat0, hby0, hnd⟩ := HV5.out.at_ he
              have hat := hat0.below HR.out
              obtain ⟨oo, hoo⟩ : ∃ oo, o + k * 3 = oo := ⟨_, rfl⟩
              rw [hoo] at hat
              have c0 := hat.c0
              have c1 := hat.c1
              have c2 := hat.c2
              dsimp only at c0 c1 c2
              obtain ⟨ei, hei⟩ : ∃ ei, e.i = ei := ⟨_, rfl⟩
              obtain ⟨et, het⟩ : ∃ et, e.t = et := ⟨_, rfl⟩
              rw [hei] at c0 HAE
              rw [het] at c1 HAE
              have bN : Below wr.heap.size wr (wr.alloc (.cells #[.int .i64 ei, .int .i64 et, .slice pd nd cd] 48)) := (Below.refl _ _).alloc (Nat.le_refl _) _
              have hB3 := box3 wr (.int .i64 ei) (.int .i64 et) (.slice pd nd cd) 48
              obtain ⟨Z, hZ⟩ : ∃ Z, wr.alloc (.cells #[.int .i64 ei, .int .i64 et, .slice pd nd cd] 48) = Z := ⟨_, rfl⟩
              rw [hZ] at bN hB3
              obtain ⟨z0, z1, z2⟩ := hB3
              have HBZ5 : Hid (Below w5.heap.size w5 Z) := hide (HR.out.trans (bN.mono HR.out.size))
              have hz5 := HZ5.out Z HBZ5.out
              have HZB := hide (And.intro z0 z1)
              have HTM : Hid (Calls Try.prog 21 #[.pointer (some ⟨gl, 0, none⟩), .int .i64 ei] Z fun e w' => e = .returned (.tuple #[.int .i64 (x2.at_ ei).1, .bool (x2.at_ ei).2]) ∧ Below Z.heap.size Z w') := hide (term_any (HL5.out.below HBZ5.out) ei)
              clear he hee hat0 hat hby0 hnd hei het bN
              by_cases hle : ei ≤ ix
              · have e1 : decide (ei ≤ ix) = true := decide_eq_true hle
                go_wp2_with fail
                go_roundw
                case rel => exact ⟨k + 1, by omega, by go_num, hide HBZ5.out⟩
                case measure => simp [intOf]; omega
              · have e1 : decide (ei ≤ ix) = false := decide_eq_false hle
                have h9 := HAE.out (by omega)
                rw [h9] at HTM
                clear h9
                go_wp2_with fail
                refine HTM.out.mono ?_
                rintro e w6 ⟨rfl, hb6⟩
                have HB6 : Hid (Below w5.heap.size w5 w6) := hide (HBZ5.out.trans (hb6.mono HBZ5.out.size))
                clear z0 z1 z2 c0 c1 c2 hz5 hoo
                have z0 := (hb6.cell (lt_of_cell HZB.out.1)).trans HZB.out.1
                have z1 := (hb6.cell (lt_of_cell HZB.out.2)).trans HZB.out.2
                clear hb6
                have e2 : (et == et) = true := by simp
                have e3 : (et != et) = false := by simp
                go_wp2_with fail
                go_roundw
                case rel => exact ⟨k + 1, by omega, by go_num, hide HB6.out⟩
                case measure => simp [intOf]; omega
            · have HM2 := hide (merge_any (i := index) (t := term) (HL5.out.below HR.out) (HV5.out.below HR.out) HIF.out (Nat.le_trans (lightL_few HQ.out (l := Lm) (by simp)) (by decide)))
              rw [HDN.out] at HM2
              go_wp2_with fail
              refine HM2.out.mono ?_
              rintro e w7 ⟨⟨v7, rfl, ho7⟩, hb7⟩
              dsimp only at ho7 ⊢
              obtain ⟨p7, n7, c7, rfl⟩ := ho7.ens.sl
              have hn7 := ho7.ens.len.1
              simp only [List.length_nil] at hn7
              subst hn7
              have HBW7 : Hid (Below w.heap.size w w7) := hide (HBW5.out.trans ((HR.out.trans (hb7.mono HR.out.size)).mono HBW5.out.size))
              clear ho7 hb7 HM2
              go_wp2_with fail
              refine (HAW.out _).mono ?_
              rintro e wz ⟨rfl, hbz⟩
              have HBZ := hide (HBW7.out.trans (hbz.mono HBW7.out.size))
              clear hbz
              go_wp2
              go_ret
              exact ⟨rfl, HBZ.out⟩
        · have h1 := HMG.out.one
          rw [if_neg h0] at h1
          injection h1 with _ h1
          have HL4 : Hid (LgOwn Y.heap.size w3 gl x1) := hide (by rw [← h1]; exact HLO3.out)
          have HO4 := HO3
          have HB4 : Hid (Below Y.heap.size Y w3) := hide (HBY2.out.trans (HB3.out.mono HBY2.out.size))
          clear h1
          have HC2 := hide (addF_any HL4.out HO4.out.ens (by have h1 := HMG.out.few; have h2 := HFEW.out; have h3 := HSL.out; dsimp only at h1 h2 h3 ⊢; omega) HB4.out.size)
          rw [HMG.out.two] at HC2
          go_wp2_with fail
          refine HC2.out.mono ?_
          rintro e w5 ⟨rfl, hl5, hf5⟩
          have HB5 := hide (HB4.out.trans (HL4.out.fr_below hf5))
          have HL5 := hide hl5.is
          have HBW5 : Hid (Below w.heap.size w w5) := hide (HBW.out.trans (HB5.out.mono HBW.out.size))
          have HV5 := hide (HVm.out.below HB5.out)
          have hlm := HV5.out.len.1
          subst hlm
          clear hl5 hf5 HC2
          have HIX := hide HMG.out.ix
          have HAT := hide HMG.out.at_
          have HDN := hide HMG.out.done
          clear y0 y1 y2
          have HZ5 : Hid (∀ V, Below w5.heap.size w5 V → V.cell? ⟨w.heap.size, 0, none⟩ = some (.int .i64 ix)) := hide fun V hV => by
            have h1 := (HXY.out.trans (HB5.out.mono HXY.out.size)).trans (hV.mono (Nat.le_trans HXY.out.size HB5.out.size))
            exact (h1.cell (lt_of_cell HZ.out.1)).trans HZ.out.1
          have hz5 := HZ5.out w5 (Below.refl _ _)
          go_wp2_with fail
          have hl9 : (Lm.length : Int) ≤ 9223372036854775807 := by have := HMW.out; omega
          go_loopw [15, 16, 17, 71] (fun _ _ _ i wr => ∃ k : Nat, k ≤ Lm.length ∧ i = .int .i64 k ∧ Hid (Below w5.heap.size w5 wr)) (fun _ _ _ i _ => Lm.length - (intOf i).toNat)
          case atStart => exact ⟨0, by omega, rfl, hide (Below.refl _ _)⟩
          case round =>
            obtain ⟨k, hk, rfl, HR⟩ := hrel
            by_cases hlt : k < Lm.length
            · have he := List.getElem?_eq_getElem hlt
              obtain ⟨e, hee⟩ : ∃ e, Lm[k] = e := ⟨_, rfl⟩
              rw [hee] at he
              have HAE : Hid (ix < e.i → x2.at_ e.i = (e.t, true)) := hide (HAT.out e (List.mem_of_getElem? he))
              have HEF : Hid (e.fits) := hide (HV5.out.fits e (List.mem_of_getElem? he))
              obtain ⟨g, o, pd, nd, cd, rfl, hat0, hby0, hnd⟩ := HV5.out.at_ he
              have hat := hat0.below HR.out
              obtain ⟨oo, hoo⟩ : ∃ oo, o + k * 3 = oo := ⟨_, rfl⟩
              rw [hoo] at hat
              have c0 := hat.c0
              have c1 := hat.c1
              have c2 := hat.c2
              dsimp only at c0 c1 c2
              obtain ⟨ei, hei⟩ : ∃ ei, e.i = ei := ⟨_, rfl⟩
              obtain ⟨et, het⟩ : ∃ et, e.t = et := ⟨_, rfl⟩
              rw [hei] at c0 HAE
              rw [het] at c1 HAE
              have bN : Below wr.heap.size wr (wr.alloc (.cells #[.int .i64 ei, .int .i64 et, .slice pd nd cd] 48)) := (Below.refl _ _).alloc (Nat.le_refl _) _
              have hB3 := box3 wr (.int .i64 ei) (.int .i64 et) (.slice pd nd cd) 48
              obtain ⟨Z, hZ⟩ : ∃ Z, wr.alloc (.cells #[.int .i64 ei, .int .i64 et, .slice pd nd cd] 48) = Z := ⟨_, rfl⟩
              rw [hZ] at bN hB3
              obtain ⟨z0, z1, z2⟩ := hB3
              have HBZ5 : Hid (Below w5.heap.size w5 Z) := hide (HR.out.trans (bN.mono HR.out.size))
              have hz5 := HZ5.out Z HBZ5.out
              have HZB := hide (And.intro z0 z1)
              have HTM : Hid (Calls Try.prog 21 #[.pointer (some ⟨gl, 0, none⟩), .int .i64 ei] Z fun e w' => e = .returned (.tuple #[.int .i64 (x2.at_ ei).1, .bool (x2.at_ ei).2]) ∧ Below Z.heap.size Z w') := hide (term_any (HL5.out.below HBZ5.out) ei)
              clear he hee hat0 hat hby0 hnd hei het bN
              by_cases hle : ei ≤ ix
              · have e1 : decide (ei ≤ ix) = true := decide_eq_true hle
                go_wp2_with fail
                go_roundw
                case rel => exact ⟨k + 1, by omega, by go_num, hide HBZ5.out⟩
                case measure => simp [intOf]; omega
              · have e1 : decide (ei ≤ ix) = false := decide_eq_false hle
                have h9 := HAE.out (by omega)
                rw [h9] at HTM
                clear h9
                go_wp2_with fail
                refine HTM.out.mono ?_
                rintro e w6 ⟨rfl, hb6⟩
                have HB6 : Hid (Below w5.heap.size w5 w6) := hide (HBZ5.out.trans (hb6.mono HBZ5.out.size))
                clear z0 z1 z2 c0 c1 c2 hz5 hoo
                have z0 := (hb6.cell (lt_of_cell HZB.out.1)).trans HZB.out.1
                have z1 := (hb6.cell (lt_of_cell HZB.out.2)).trans HZB.out.2
                clear hb6
                have e2 : (et == et) = true := by simp
                have e3 : (et != et) = false := by simp
                go_wp2_with fail
                go_roundw
                case rel => exact ⟨k + 1, by omega, by go_num, hide HB6.out⟩
                case measure => simp [intOf]; omega
            · have HM2 := hide (merge_any (i := index) (t := term) (HL5.out.below HR.out) (HV5.out.below HR.out) HIF.out (Nat.le_trans (lightL_few HQ.out (l := Lm) (by simp)) (by decide)))
              rw [HDN.out] at HM2
              go_wp2_with fail
              refine HM2.out.mono ?_
              rintro e w7 ⟨⟨v7, rfl, ho7⟩, hb7⟩
              dsimp only at ho7 ⊢
              obtain ⟨p7, n7, c7, rfl⟩ := ho7.ens.sl
              have hn7 := ho7.ens.len.1
              simp only [List.length_nil] at hn7
              subst hn7
              have HBW7 : Hid (Below w.heap.size w w7) := hide (HBW5.out.trans ((HR.out.trans (hb7.mono HR.out.size)).mono HBW5.out.size))
              clear ho7 hb7 HM2
              go_wp2_with fail
              refine (HAW.out _).mono ?_
              rintro e wz ⟨rfl, hbz⟩
              have HBZ := hide (HBW7.out.trans (hbz.mono HBW7.out.size))
              clear hbz
              go_wp2
              go_ret
              exact ⟨rfl, HBZ.out⟩
end Go.Proofs.Ytmalhdiholblgaa
