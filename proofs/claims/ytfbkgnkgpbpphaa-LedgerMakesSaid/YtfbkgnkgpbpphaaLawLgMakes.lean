/- The law LedgerMakes. -/
import Derived.Test.YtfbkgnkgpbpphaaLLaw
import Derived.Test.YtfbkgnkgpbpphaaLRefF
namespace Go.Proofs.Ytfbkgnkgpbpphaa
set_option linter.unusedVariables false
set_option linter.unusedSimpArgs false
open Go.RowKit

set_option maxRecDepth 200000 in
set_option maxHeartbeats 4000000 in
theorem lawMakes_any {w : World} {ix tm : Int} {p : Option Addr} {n c : Nat} {L : List En} (hv : Ens w (.slice p n c) L) (hix : fits ix) (hsz : L.length * 40 ≤ 140737488351232) (index most : Int) (hmf : fits most) : Calls Try.prog 3 #[.agg #[.int .i64 ix, .int .i64 tm, .slice p n c], .int .i64 index, .int .i64 most] w (Good w) := by
  have HAW := hide awake_any
  have HMF := hide hmf
  have b1 : Below w.heap.size w (w.alloc (.cells #[.int .i64 ix, .int .i64 tm, .slice p n c] 24)) := (Below.refl _ _).alloc (Nat.le_refl _) _
  have hcs := box3 w (.int .i64 ix) (.int .i64 tm) (.slice p n c) 24
  have HFI := hide hix
  obtain ⟨X, hX⟩ : ∃ X, w.alloc (.cells #[.int .i64 ix, .int .i64 tm, .slice p n c] 24) = X := ⟨_, rfl⟩
  rw [hX] at b1 hcs
  have b2 : Below X.heap.size X (X.alloc (.cells #[.slice p n c] 22)) := (Below.refl _ _).alloc (Nat.le_refl _) _
  have HL := hide (light1 (hv.below b1)  hsz )
  have HX2 := hide b2
  have HV := hide ((hv.below b1).below b2)
  have HBW := hide (b1.trans (b2.mono b1.size))
  obtain ⟨z0, z1, z2⟩ := hcs
  have HZ := hide (And.intro z0 (And.intro z1 z2))
  obtain ⟨Y, hY⟩ : ∃ Y, X.alloc (.cells #[.slice p n c] 22) = Y := ⟨_, rfl⟩
  obtain ⟨q, hq⟩ : ∃ q, lightL [L] = q := ⟨_, rfl⟩
  rw [hY] at HL HV HBW HX2 b2 
  have y0 := (b2.cell (lt_of_cell z0)).trans z0
  have y1 := (b2.cell (lt_of_cell z1)).trans z1
  have y2 := (b2.cell (lt_of_cell z2)).trans z2
  rw [hq] at HL
  have HQ := hide hq
  clear b1 b2 hq hv hix hsz 
  go_enter Try.func3, Try.ntmps3
  cases q
  · go_wp2_with fail
    refine HL.out.mono ?_
    rintro e w9 ⟨rfl, rfl⟩
    go_wp2_with fail
    refine (HAW.out _).mono ?_
    rintro e wz ⟨rfl, hbz⟩
    have HBZ := hide (HBW.out.trans (hbz.mono HBW.out.size))
    clear hbz
    go_wp2
    go_ret
    exact ⟨rfl, HBZ.out⟩
  · go_wp2_with fail
    refine HL.out.mono ?_
    rintro e w9 ⟨rfl, rfl⟩
    have HFEW : Hid (L.length ≤ 200) := hide (lightL_few HQ.out (by simp))
    have HN := hide (new_any (tm := tm) HV.out HFI.out (Nat.le_trans HFEW.out (by decide)))
    have HRN := hide (fun W (hb : Below Y.heap.size Y W) => refNew_any (tm := tm) (HV.out.below hb) HFI.out (Nat.le_trans HFEW.out (by decide)))
    unfold NewPost at HN
    obtain ⟨r, hr⟩ : ∃ r, (good ix tm && goOn ix tm L) = r := ⟨_, rfl⟩
    rw [hr] at HN
    simp only [hr] at HRN
    clear hr
    go_wp2_with fail
    refine HN.out.mono ?_
    rintro e w2 ⟨hb2, hq2⟩
    have HB2 : Hid (Below Y.heap.size Y w2) := hide hb2
    have HBW2 : Hid (Below w.heap.size w w2) := hide (HBW.out.trans (hb2.mono HBW.out.size))
    clear y0 y1 y2
    have y0 := (hb2.cell (lt_of_cell ((HX2.out.cell (lt_of_cell HZ.out.1)).trans HZ.out.1))).trans ((HX2.out.cell (lt_of_cell HZ.out.1)).trans HZ.out.1)
    have y1 := (hb2.cell (lt_of_cell ((HX2.out.cell (lt_of_cell HZ.out.2.1)).trans HZ.out.2.1))).trans ((HX2.out.cell (lt_of_cell HZ.out.2.1)).trans HZ.out.2.1)
    have y2 := (hb2.cell (lt_of_cell ((HX2.out.cell (lt_of_cell HZ.out.2.2)).trans HZ.out.2.2))).trans ((HX2.out.cell (lt_of_cell HZ.out.2.2)).trans HZ.out.2.2)
    clear hb2
    have HR := hide (HRN.out w2 HB2.out)
    cases r
    · rw [if_neg (by simp)] at hq2
      subst hq2
      go_wp2_with fail
      refine HR.out.mono ?_
      rintro e w3 ⟨hb3, hq3⟩
      rw [if_neg (by simp)] at hq3
      subst hq3
      have HB3 := hide (HBW2.out.trans (hb3.mono HBW2.out.size))
      clear hb3
      go_wp2_with fail
      refine (HAW.out _).mono ?_
      rintro e wz ⟨rfl, hbz⟩
      have HBZ := hide (HB3.out.trans (hbz.mono HB3.out.size))
      clear hbz
      go_wp2
      go_ret
      exact ⟨rfl, HBZ.out⟩
    · rw [if_pos rfl] at hq2
      obtain ⟨gl, rfl, hl2⟩ := hq2
      have HL2 := hide hl2
      clear hl2
      go_wp2_with fail
      refine HR.out.mono ?_
      rintro e w3 ⟨hb3, hq3⟩
      rw [if_pos rfl] at hq3
      obtain ⟨gx, rfl, hx3⟩ := hq3
      have hl3 := (HL2.out.below hb3).is
      have HB3 : Hid (Below w.heap.size w w3) := hide (HBW2.out.trans (hb3.mono HBW2.out.size))
      have HL3 := hide hl3
      have HX3 := hide hx3
      have HT1 := hide (term_any hl3 index)
      have HT2 := hide (fun V (hV : Below w3.heap.size w3 V) => refAt_any (hx3.below hV) index)
      have HF1 := hide (fun V (hV : Below w3.heap.size w3 V) => from_any (hl3.below hV) (Nat.le_trans HFEW.out (by decide)) index most HMF.out)
      have HF2 := hide (fun V (hV : Below w3.heap.size w3 V) => refFrom_any (hx3.below hV) index most)
      obtain ⟨T, hT⟩ : ∃ T, (⟨ix, tm, L⟩ : Lg).at_ index = T := ⟨_, rfl⟩
      rw [hT] at HT1
      simp only [hT] at HT2
      obtain ⟨F, hF⟩ : ∃ F, (⟨ix, tm, L⟩ : Lg).from_ index most = F := ⟨_, rfl⟩
      simp only [hF] at HF1 HF2
      obtain ⟨ta, tb⟩ := T
      dsimp only at HT1 HT2
      clear hb3 hl3 hx3 hT hF
      go_wp2_with fail
      refine HT1.out.mono ?_
      rintro e w4 ⟨rfl, hb4⟩
      have HB4 : Hid (Below w3.heap.size w3 w4) := hide hb4
      clear hb4
      go_wp2_with fail
      refine (HT2.out _ HB4.out).mono ?_
      rintro e w5 ⟨rfl, hb5⟩
      have HB5 : Hid (Below w3.heap.size w3 w5) := hide (HB4.out.trans (hb5.mono HB4.out.size))
      clear hb5
      go_wp2_with fail
      refine (HF1.out _ HB5.out).mono ?_
      rintro e w6 ⟨v6, rfl, ho6, hb6⟩
      have HB6 : Hid (Below w3.heap.size w3 w6) := hide (HB5.out.trans (hb6.mono HB5.out.size))
      have HO6 := hide ho6.ens
      clear ho6 hb6
      go_wp2_with fail
      refine (HF2.out _ HB6.out).mono ?_
      rintro e w7 ⟨⟨v7, rfl, he7⟩, hb7⟩
      have HB7 : Hid (Below w3.heap.size w3 w7) := hide (HB6.out.trans (hb7.mono HB6.out.size))
      have HSM := hide (same_any (HO6.out.below hb7) he7)
      clear he7 hb7
      go_wp2_with fail
      refine HSM.out.mono ?_
      rintro e w8 ⟨rfl, hb8⟩
      have HB8 : Hid (Below w3.heap.size w3 w8) := hide (HB7.out.trans (hb8.mono HB7.out.size))
      have HTE := hide (tells_any (HL3.out.below HB8.out) (HX3.out.below HB8.out) (Nat.le_trans HFEW.out (by decide)))
      clear hb8
      go_wp2_with fail
      refine HTE.out.mono ?_
      rintro e w9 ⟨rfl, hb9⟩
      have HB9 : Hid (Below w.heap.size w w9) := hide (HB3.out.trans ((HB8.out.trans (hb9.mono HB8.out.size)).mono HB3.out.size))
      clear hb9
      go_wp2_with fail
      refine (HAW.out _).mono ?_
      rintro e wz ⟨rfl, hbz⟩
      have HBZ := hide (HB9.out.trans (hbz.mono HB9.out.size))
      clear hbz
      go_wp2
      go_ret
      exact ⟨rfl, HBZ.out⟩
end Go.Proofs.Ytfbkgnkgpbpphaa
