/- The law LedgerMerges. -/
import Derived.Test.YtfbkgnkgpbpphaaLLaw
import Derived.Test.YtfbkgnkgpbpphaaLRefM
namespace Go.Proofs.Ytfbkgnkgpbpphaa
set_option linter.unusedVariables false
set_option linter.unusedSimpArgs false
open Go.RowKit

set_option maxRecDepth 200000 in
set_option maxHeartbeats 4000000 in
theorem lawMerges_any {w : World} {ix tm : Int} {p : Option Addr} {n c : Nat} {L : List En} (hv : Ens w (.slice p n c) L) (hix : fits ix) (hsz : L.length * 40 ≤ 140737488351232) {pm : Option Addr} {nm cm : Nat} {Lm : List En} (hm : Ens w (.slice pm nm cm) Lm) (sm : Lm.length * 40 ≤ 140737488351232) (index term : Int) (hif : fits index) : Calls Try.prog 7 #[.agg #[.int .i64 ix, .int .i64 tm, .slice p n c], .int .i64 index, .int .i64 term, .slice pm nm cm] w (Good w) := by
  have HAW := hide awake_any
  have HIF := hide hif
  have b1 : Below w.heap.size w (w.alloc (.cells #[.int .i64 ix, .int .i64 tm, .slice p n c] 24)) := (Below.refl _ _).alloc (Nat.le_refl _) _
  have hcs := box3 w (.int .i64 ix) (.int .i64 tm) (.slice p n c) 24
  have HFI := hide hix
  obtain ⟨X, hX⟩ : ∃ X, w.alloc (.cells #[.int .i64 ix, .int .i64 tm, .slice p n c] 24) = X := ⟨_, rfl⟩
  rw [hX] at b1 hcs
  have b2 : Below X.heap.size X (X.alloc (.cells #[.slice p n c, .slice pm nm cm] 22)) := (Below.refl _ _).alloc (Nat.le_refl _) _
  have HL := hide (light2 (hv.below b1) (hm.below b1) hsz sm)
  have HV := hide ((hv.below b1).below b2)
  have HVm := hide ((hm.below b1).below b2)
  have HBW := hide (b1.trans (b2.mono b1.size))
  obtain ⟨z0, z1, z2⟩ := hcs
  have HZ := hide (And.intro z0 (And.intro z1 z2))
  obtain ⟨Y, hY⟩ : ∃ Y, X.alloc (.cells #[.slice p n c, .slice pm nm cm] 22) = Y := ⟨_, rfl⟩
  obtain ⟨q, hq⟩ : ∃ q, lightL [L, Lm] = q := ⟨_, rfl⟩
  rw [hY] at HL HV HBW b2 HVm
  have y0 := (b2.cell (lt_of_cell z0)).trans z0
  have y1 := (b2.cell (lt_of_cell z1)).trans z1
  have y2 := (b2.cell (lt_of_cell z2)).trans z2
  rw [hq] at HL
  have HQ := hide hq
  clear b1 b2 hq hv hix hsz hm sm
  go_enter Try.func7, Try.ntmps7
  cases q
  · go_wp2_with fail
    refine HL.out.mono ?_
    rintro e w9 ⟨rfl, rfl⟩
    go_wp2_with fail
    refine (HAW.out _).mono ?_
    rintro e wz ⟨rfl, hbz⟩
    have HBZ := hide (HBW.out.trans (hbz.mono HBW.out.size))
    clear hbz
    go_wp2
    go_ret
    exact ⟨rfl, HBZ.out⟩
  · go_wp2_with fail
    refine HL.out.mono ?_
    rintro e w9 ⟨rfl, rfl⟩
    have HFEW : Hid (L.length ≤ 200) := hide (lightL_few HQ.out (by simp))
    have HMD := hide (made2_any (tm := tm) HV.out HFI.out (Nat.le_trans HFEW.out (by decide)))
    obtain ⟨r, hr⟩ : ∃ r, (good ix tm && goOn ix tm L) = r := ⟨_, rfl⟩
    rw [hr] at HMD
    have HRR := hide hr
    clear hr
    go_wp2_with fail
    refine HMD.out.mono ?_
    rintro e w2 ⟨hb2, hq2⟩
    have HB2 := hide hb2
    have HBY2 := hide hb2
    have HBW2 := hide (HBW.out.trans (hb2.mono HBW.out.size))
    clear hb2
    cases r
    · rw [if_neg (by simp)] at hq2
      subst hq2
      go_wp2_with fail
      refine (HAW.out _).mono ?_
      rintro e wz ⟨rfl, hbz⟩
      have HBZ := hide (HBW2.out.trans (hbz.mono HBW2.out.size))
      clear hbz
      go_wp2
      go_ret
      exact ⟨rfl, HBZ.out⟩
    · rw [if_pos rfl] at hq2
      obtain ⟨gl, gx, rfl, hl2, hx2⟩ := hq2
      have HL2 := hide hl2.is
      have HX2 := hide hx2
      clear hl2 hx2
      have HMW : Hid (Lm.length ≤ 100000) := hide (Nat.le_trans (lightL_few HQ.out (l := Lm) (by simp)) (by decide))
      have hVm2 := HVm.out.below (HBY2.out)
      have HM1 := hide (merge_any (i := index) (t := term) HL2.out hVm2 HIF.out HMW.out)
      have HM2 := hide (fun V (hV : Below w2.heap.size w2 V) => refMerge_any (i := index) (t := term) (HX2.out.below hV) (hVm2.below hV) HIF.out HMW.out)
      obtain ⟨R, hR⟩ : ∃ R, mergeI ⟨ix, tm, L⟩ index term Lm = R := ⟨_, rfl⟩
      rw [hR] at HM1
      simp only [hR] at HM2
      obtain ⟨a, S, f⟩ := R
      clear hR hVm2
      go_wp2_with fail
      refine HM1.out.mono ?_
      rintro e w3 ⟨⟨v3, rfl, ho3⟩, hb3⟩
      dsimp only at ho3 ⊢
      obtain ⟨p3, n3, c3, rfl⟩ := ho3.ens.sl
      have HO3 := hide ho3
      have HB3 : Hid (Below w2.heap.size w2 w3) := hide hb3
      clear ho3 hb3
      cases f
      all_goals
        go_wp2_with fail
        refine (HM2.out _ HB3.out).mono ?_
        rintro e w4 ⟨⟨v4, rfl, he4⟩, hb4⟩
        dsimp only at he4 ⊢
        obtain ⟨p4, n4, c4, rfl⟩ := he4.sl
        have HB4 : Hid (Below w2.heap.size w2 w4) := hide (HB3.out.trans (hb4.mono HB3.out.size))
        have HSM := hide (same_any (HO3.out.ens.below hb4) he4)
        have HO4 := hide (HO3.out.below hb4)
        clear he4 hb4
        go_wp2_with fail
        refine HSM.out.mono ?_
        rintro e w5 ⟨rfl, hb5⟩
        have HB5 : Hid (Below w2.heap.size w2 w5) := hide (HB4.out.trans (hb5.mono HB4.out.size))
        have HO5 := hide (HO4.out.below hb5)
        have HTE1 := hide (tells_any (HL2.out.below HB5.out) (HX2.out.below HB5.out) (Nat.le_trans HFEW.out (by decide)))
        clear hb5
        go_wp2_with fail
        refine HTE1.out.mono ?_
        rintro e w6 ⟨rfl, hb6⟩
        have HB6 : Hid (Below w2.heap.size w2 w6) := hide (HB5.out.trans (hb6.mono HB5.out.size))
        have HO6 := hide (HO5.out.below hb6)
        clear hb6 HM1 HM2 HSM HTE1
        rcases Mut.of HO6.out with h0 | ⟨ge, ce, E, hv, hEl, hM, hNl⟩
        · subst h0
          have hn3 := HO6.out.ens.len.1
          simp only [List.length_nil] at hn3
          subst hn3
          go_wp2_with fail
          go_loopw [18, 19, 74, 83] (fun _ _ i _ wr => i = .int .i64 0 ∧ Hid (wr = w6)) (fun _ _ _ _ _ => 0)
          case atStart => exact ⟨rfl, hide rfl⟩
          case round =>
            obtain ⟨rfl, HR⟩ := hrel
            have hw := HR.out
            subst wr
            have HRB := hide HB6.out
            have HTE := hide (tells_any (HL2.out.below HRB.out) (HX2.out.below HRB.out) (Nat.le_trans HFEW.out (by decide)))
            go_wp2_with fail
            refine HTE.out.mono ?_
            rintro e w8 ⟨rfl, hb8⟩
            have HB8 := hide (HBW2.out.trans ((HRB.out.trans (hb8.mono HRB.out.size)).mono HBW2.out.size))
            clear hb8
            go_wp2_with fail
            refine (HAW.out _).mono ?_
            rintro e wz ⟨rfl, hbz⟩
            have HBZ := hide (HB8.out.trans (hbz.mono HB8.out.size))
            clear hbz
            go_wp2
            go_ret
            exact ⟨rfl, HBZ.out⟩
        · injection hv with hv1 hv2 hv3
          subst hv1 hv2 hv3
          have HM := hide hM
          have HEL := hide hEl
          have HNL : Hid (∀ (k : Nat) e, E[k]? = some e → (e.n : Int) ≤ 9223372036854775807) := hide fun k e he => hNl k e he
          have hl9 : (S.length : Int) ≤ 9223372036854775807 := by
            have := HO6.out.ens.len
            unfold maxLen at this
            omega
          clear hM hEl hNl
          go_wp2_with fail
          go_loopw [18, 19, 74, 83] (fun _ _ i _ wr => ∃ k : Nat, k ≤ S.length ∧ i = .int .i64 k ∧ Hid (Mut w2.heap.size wr ge E ∧ Below w2.heap.size w2 wr)) (fun _ _ i _ _ => S.length - (intOf i).toNat)
          case atStart => exact ⟨0, by omega, rfl, hide ⟨HM.out, HB6.out⟩⟩
          case round =>
            obtain ⟨k, hk, rfl, HR⟩ := hrel
            by_cases hlt : k < S.length
            · obtain ⟨e, he⟩ : ∃ e, E[k]? = some e := ⟨_, List.getElem?_eq_getElem (by rw [HEL.out]; exact hlt)⟩
              have HEK := hide he
              obtain ⟨_, _, _, x2, _, hdt⟩ := HR.out.1.2 k e he
              have HDT := hide hdt
              have hdtl : (e.n : Int) ≤ 9223372036854775807 := HNL.out k e he
              obtain ⟨ei, et, ep, en, ec⟩ := e
              dsimp only at x2 hdtl
              have j0 : (0 : Int) ≤ (k : Int) := by omega
              have j1 : (k : Int) < (S.length : Int) := by omega
              clear he hdt
              by_cases hen : en = 0
              · subst hen
                go_wp2_with fail
                go_loopw [19, 83] (fun _ i wi => i = .int .i64 0 ∧ Hid (wi = wr)) (fun _ _ _ => 0)
                case atStart => exact ⟨rfl, hide rfl⟩
                case round =>
                  obtain ⟨rfl, HR3⟩ := hrel
                  have hw := HR3.out
                  have HR2 := HR
                  subst hw
                  obtain ⟨⟨t1, x1⟩, xf, _, x2, _, _⟩ := HR2.out.1.2 k _ HEK.out
                  have HT := hide (HR2.out.1.set (g := ge) (j := k * 3) (u := .int .i64 (-7)) (.inr ⟨t1, -7, x1, rfl, rfl, by omega⟩))
                  have HTB : Hid (Below w2.heap.size w2 (wr.setCell ⟨ge, k * 3, none⟩ (.int .i64 (-7)))) := hide (HR2.out.2.grown (grown_set _ _ _ _) HR2.out.2.size fun b hb => by cases hb; exact HR2.out.1.1)
                  go_wp2
                  go_roundw
                  case rel => exact ⟨k + 1, by omega, by go_num, hide ⟨HT.out, HTB.out⟩⟩
                  case measure => simp [intOf]; omega
              · obtain ⟨gb, hgb, hne, _, _, _⟩ := HDT.out 0 (by simp only; omega)
                dsimp only at hgb
                subst hgb
                have HNE := hide hne
                clear hne hen
                go_wp2_with fail
                go_loopw [19, 83] (fun _ i wi => ∃ j : Nat, j ≤ en ∧ i = .int .i64 j ∧ Hid (Mut w2.heap.size wi ge E ∧ Below w2.heap.size w2 wi)) (fun _ i _ => en - (intOf i).toNat)
                case atStart => exact ⟨0, by omega, rfl, HR⟩
                case round =>
                  obtain ⟨j, hj, rfl, HR2⟩ := hrel
                  by_cases hjl : j < en
                  · obtain ⟨_, _, _, x2, _, hdt⟩ := HR2.out.1.2 k _ HEK.out
                    obtain ⟨gb2, hgb2, _, hB2, ⟨z, hz⟩, hfz⟩ := hdt j hjl
                    dsimp only at hgb2 x2
                    injection hgb2 with hgb2
                    injection hgb2 with hgb2 _
                    subst hgb2
                    have HZ := hide (fun z' => HR2.out.1.set (g := gb) (j := j) (u := .int .u8 z') (.inl ⟨z, z', hz, rfl, HNE.out⟩))
                    have HZB := hide (fun z' => (HR2.out.2.grown (grown_set wr gb j (.int .u8 z')) HR2.out.2.size fun b hb => by cases hb; exact hB2 : Below w2.heap.size w2 (wr.setCell ⟨gb, j, none⟩ (.int .u8 z'))))
                    have i0 : (0 : Int) ≤ (j : Int) := by omega
                    have i1 : (j : Int) < (en : Int) := by omega
                    clear hdt
                    go_wp2
                    go_roundw
                    case rel => exact ⟨j + 1, by omega, by go_num, hide ⟨HZ.out _, HZB.out _⟩⟩
                    case measure => simp [intOf]; omega
                  · clear x2
                    obtain ⟨⟨t1, x1⟩, xf, _, x2, _, _⟩ := HR2.out.1.2 k _ HEK.out
                    have HT := hide (HR2.out.1.set (g := ge) (j := k * 3) (u := .int .i64 (-7)) (.inr ⟨t1, -7, x1, rfl, rfl, by omega⟩))
                    have HTB : Hid (Below w2.heap.size w2 (wr.setCell ⟨ge, k * 3, none⟩ (.int .i64 (-7)))) := hide (HR2.out.2.grown (grown_set _ _ _ _) HR2.out.2.size fun b hb => by cases hb; exact HR2.out.1.1)
                    go_wp2
                    go_roundw
                    case rel => exact ⟨k + 1, by omega, by go_num, hide ⟨HT.out, HTB.out⟩⟩
                    case measure => simp [intOf]; omega
            · have HRB := hide HR.out.2
              have HTE := hide (tells_any (HL2.out.below HRB.out) (HX2.out.below HRB.out) (Nat.le_trans HFEW.out (by decide)))
              go_wp2_with fail
              refine HTE.out.mono ?_
              rintro e w8 ⟨rfl, hb8⟩
              have HB8 := hide (HBW2.out.trans ((HRB.out.trans (hb8.mono HRB.out.size)).mono HBW2.out.size))
              clear hb8
              go_wp2_with fail
              refine (HAW.out _).mono ?_
              rintro e wz ⟨rfl, hbz⟩
              have HBZ := hide (HB8.out.trans (hbz.mono HB8.out.size))
              clear hbz
              go_wp2
              go_ret
              exact ⟨rfl, HBZ.out⟩
end Go.Proofs.Ytfbkgnkgpbpphaa
