/- The law LedgerRefused. -/
import Derived.Test.YtfbkgnkgpbpphaaLRebW
import Derived.Test.YtfbkgnkgpbpphaaLawLgNobody
namespace Go.Proofs.Ytfbkgnkgpbpphaa
set_option linter.unusedVariables false
set_option linter.unusedSimpArgs false
open Go.RowKit

set_option maxRecDepth 200000 in
set_option maxHeartbeats 4000000 in
theorem lawRefused_any {w : World} {ix tm : Int} {p : Option Addr} {n c : Nat} {L : List En} (hv : Ens w (.slice p n c) L) (hix : fits ix) (hsz : L.length * 40 ≤ 140737488351232) {op nn tt : Int} {pm : Option Addr} {nm cm : Nat} {Lm : List En} (hm : Ens w (.slice pm nm cm) Lm) (sm : Lm.length * 40 ≤ 140737488351232) : Calls Try.prog 10 #[.agg #[.int .i64 ix, .int .i64 tm, .slice p n c], .agg #[.int .i64 op, .int .i64 nn, .int .i64 tt, .slice pm nm cm]] w (Good w) := by
  have HAW := hide awake_any
  have b0 : Below w.heap.size w (w.alloc (.cells #[.int .i64 ix, .int .i64 tm, .slice p n c] 24)) := (Below.refl _ _).alloc (Nat.le_refl _) _
  have hcs0 := box3 w (.int .i64 ix) (.int .i64 tm) (.slice p n c) 24
  obtain ⟨V0, hV0⟩ : ∃ V0, w.alloc (.cells #[.int .i64 ix, .int .i64 tm, .slice p n c] 24) = V0 := ⟨_, rfl⟩
  rw [hV0] at b0 hcs0
  have b1 : Below V0.heap.size V0 (V0.alloc (.cells #[.int .i64 op, .int .i64 nn, .int .i64 tt, .slice pm nm cm] 45)) := (Below.refl _ _).alloc (Nat.le_refl _) _
  have hcs1 := box4 V0 (.int .i64 op) (.int .i64 nn) (.int .i64 tt) (.slice pm nm cm) 45
  obtain ⟨X, hX⟩ : ∃ X, V0.alloc (.cells #[.int .i64 op, .int .i64 nn, .int .i64 tt, .slice pm nm cm] 45) = X := ⟨_, rfl⟩
  rw [hX] at b1 hcs1
  have b01 := b0.trans (b1.mono b0.size)
  have b2 : Below X.heap.size X (X.alloc (.cells #[.slice p n c, .slice pm nm cm] 22)) := (Below.refl _ _).alloc (Nat.le_refl _) _
  have HL := hide (light2 (hv.below b01) (hm.below b01) hsz sm)
  have HV := hide ((hv.below b01).below b2)
  have HVm := hide ((hm.below b01).below b2)
  have HFI := hide hix
  have HBW := hide (b01.trans (b2.mono b01.size))
  have HK : Hid (∀ V, Below X.heap.size X V → (V.cell? ⟨w.heap.size, 0, none⟩ = some (.int .i64 ix) ∧ V.cell? ⟨w.heap.size, 1, none⟩ = some (.int .i64 tm) ∧ V.cell? ⟨w.heap.size, 2, none⟩ = some (.slice p n c)) ∧ V.cell? ⟨V0.heap.size, 0, none⟩ = some (.int .i64 op) ∧ V.cell? ⟨V0.heap.size, 1, none⟩ = some (.int .i64 nn) ∧ V.cell? ⟨V0.heap.size, 2, none⟩ = some (.int .i64 tt) ∧ V.cell? ⟨V0.heap.size, 3, none⟩ = some (.slice pm nm cm)) := hide fun V hV => by
    have k : ∀ {a u}, V0.cell? a = some u → V.cell? a = some u := fun {a u} h => (hV.cell (lt_of_cell ((b1.cell (lt_of_cell h)).trans h))).trans ((b1.cell (lt_of_cell h)).trans h)
    have k2 : ∀ {a u}, X.cell? a = some u → V.cell? a = some u := fun {a u} h => (hV.cell (lt_of_cell h)).trans h
    exact ⟨⟨k hcs0.1, k hcs0.2.1, k hcs0.2.2⟩, k2 hcs1.1, k2 hcs1.2.1, k2 hcs1.2.2.1, k2 hcs1.2.2.2⟩
  obtain ⟨⟨z0, z1, z2⟩, z3, z4, z5, z6⟩ := HK.out X (Below.refl _ _)
  obtain ⟨Y, hY⟩ : ∃ Y, X.alloc (.cells #[.slice p n c, .slice pm nm cm] 22) = Y := ⟨_, rfl⟩
  obtain ⟨q, hq⟩ : ∃ q, lightL [L, Lm] = q := ⟨_, rfl⟩
  rw [hY] at HL HV HVm HBW b2
  rw [hq] at HL
  have HX2 := hide b2
  have HQ := hide hq
  obtain ⟨⟨y0, y1, y2⟩, y3, y4, y5, y6⟩ := HK.out Y HX2.out
  clear b0 b1 b01 b2 hq hv hm hsz sm hcs0 hcs1 hix
  go_enter Try.func10, Try.ntmps10
  cases q
  · go_wp2_with fail
    refine HL.out.mono ?_
    rintro e w9 ⟨rfl, rfl⟩
    go_wp2_with fail
    refine (HAW.out _).mono ?_
    rintro e wz ⟨rfl, hbz⟩
    have HBZ := hide (HBW.out.trans (hbz.mono HBW.out.size))
    clear hbz
    go_wp2
    go_ret
    exact ⟨rfl, HBZ.out⟩
  · go_wp2_with fail
    refine HL.out.mono ?_
    rintro e w9 ⟨rfl, rfl⟩
    have HFEW : Hid (L.length ≤ 200) := hide (lightL_few HQ.out (by simp))
    have HMD := hide (made2_any (tm := tm) HV.out HFI.out (Nat.le_trans HFEW.out (by decide)))
    obtain ⟨r, hr⟩ : ∃ r, (good ix tm && goOn ix tm L) = r := ⟨_, rfl⟩
    rw [hr] at HMD
    clear hr
    go_wp2_with fail
    refine HMD.out.mono ?_
    rintro e w2 ⟨hb2, hq2⟩
    have HB2 : Hid (Below Y.heap.size Y w2) := hide hb2
    have HBW2 : Hid (Below w.heap.size w w2) := hide (HBW.out.trans (hb2.mono HBW.out.size))
    clear hb2
    cases r
    · rw [if_neg (by simp)] at hq2
      subst hq2
      go_wp2_with fail
      refine (HAW.out _).mono ?_
      rintro e wz ⟨rfl, hbz⟩
      have HBZ := hide (HBW2.out.trans (hbz.mono HBW2.out.size))
      clear hbz
      go_wp2
      go_ret
      exact ⟨rfl, HBZ.out⟩
    · rw [if_pos rfl] at hq2
      obtain ⟨gl, gx, rfl, hl2, hx2⟩ := hq2
      have HLO := hide hl2
      have HXO := hide hx2
      clear hl2 hx2
      clear y0 y1 y2 y3 y4 y5 y6
      obtain ⟨_, y3, y4, y5, y6⟩ := HK.out w2 (HX2.out.trans (HB2.out.mono HX2.out.size))
      have HEND : Hid (fits ((⟨ix, tm, L⟩ : Lg).end_.1)) := hide (by
        have h1 := Lg.end_1 HLO.out.ok
        have h2 := HLO.out.is.bounds
        have h3 := HLO.out.few
        dsimp only at h1 h2 h3
        rw [h1]
        unfold fits
        omega)
      have HVM2 := hide (HVm.out.below HB2.out)
      by_cases h0 : (wrap64 ((IntKind.u64.wrap op).tmod 3) == 0) = true
      · obtain ⟨f, hf⟩ : ∃ f, goOn (⟨ix, tm, L⟩ : Lg).end_.1 (⟨ix, tm, L⟩ : Lg).end_.2 Lm = f := ⟨_, rfl⟩
        cases f
        · have HC := hide (addErr_any HLO.out.is HVM2.out hf HEND.out)
          clear hf
          go_wp2_with fail
          refine HC.out.mono ?_
          rintro e w3 ⟨rfl, hb3⟩
          have HB3 : Hid (Below w2.heap.size w2 w3) := hide hb3
          have HTE := hide (tells_any (HLO.out.is.below hb3) (HXO.out.below hb3) (Nat.le_trans HFEW.out (by decide)))
          clear hb3
          go_wp2_with fail
          refine HTE.out.mono ?_
          rintro e w4 ⟨rfl, hb4⟩
          have HBE := hide (HBW2.out.trans ((HB3.out.trans (hb4.mono HB3.out.size)).mono HBW2.out.size))
          clear hb4
          go_wp2_with fail
          refine (HAW.out _).mono ?_
          rintro e wz ⟨rfl, hbz⟩
          have HBZ := hide (HBE.out.trans (hbz.mono HBE.out.size))
          clear hbz
          go_wp2
          go_ret
          exact ⟨rfl, HBZ.out⟩
        · have HC := hide (addOk_any HLO.out HVM2.out hf HEND.out (Nat.le_trans (lightL_few HQ.out (l := Lm) (by simp)) (by decide)) HB2.out.size)
          clear hf
          go_wp2_with fail
          refine HC.out.mono ?_
          rintro e w3 ⟨rfl, hb3⟩
          have HBE := hide (HBW2.out.trans (hb3.mono HBW.out.size))
          clear hb3
          go_wp2_with fail
          refine (HAW.out _).mono ?_
          rintro e wz ⟨rfl, hbz⟩
          have HBZ := hide (HBE.out.trans (hbz.mono HBE.out.size))
          clear hbz
          go_wp2
          go_ret
          exact ⟨rfl, HBZ.out⟩
      · replace h0 : (wrap64 ((IntKind.u64.wrap op).tmod 3) == 0) = false := by simpa using h0
        by_cases h1 : (wrap64 ((IntKind.u64.wrap op).tmod 3) == 1) = true
        · obtain ⟨f, hf⟩ : ∃ f, hasI (⟨ix, tm, L⟩ : Lg) nn = f := ⟨_, rfl⟩
          cases f
          · have HC := hide (cutErr_any HLO.out.is hf)
            clear hf
            go_wp2_with fail
            refine HC.out.mono ?_
            rintro e w3 ⟨rfl, hb3⟩
            have HB3 : Hid (Below w2.heap.size w2 w3) := hide hb3
            have HTE := hide (tells_any (HLO.out.is.below hb3) (HXO.out.below hb3) (Nat.le_trans HFEW.out (by decide)))
            clear hb3
            go_wp2_with fail
            refine HTE.out.mono ?_
            rintro e w4 ⟨rfl, hb4⟩
            have HBE := hide (HBW2.out.trans ((HB3.out.trans (hb4.mono HB3.out.size)).mono HBW2.out.size))
            clear hb4
            go_wp2_with fail
            refine (HAW.out _).mono ?_
            rintro e wz ⟨rfl, hbz⟩
            have HBZ := hide (HBE.out.trans (hbz.mono HBE.out.size))
            clear hbz
            go_wp2
            go_ret
            exact ⟨rfl, HBZ.out⟩
          · have HC := hide (cutOk_any HLO.out hf HB2.out.size)
            clear hf
            go_wp2_with fail
            refine HC.out.mono ?_
            rintro e w3 ⟨rfl, hb3⟩
            have HBE := hide (HBW2.out.trans (hb3.mono HBW.out.size))
            clear hb3
            go_wp2_with fail
            refine (HAW.out _).mono ?_
            rintro e wz ⟨rfl, hbz⟩
            have HBZ := hide (HBE.out.trans (hbz.mono HBE.out.size))
            clear hbz
            go_wp2
            go_ret
            exact ⟨rfl, HBZ.out⟩
        · replace h1 : (wrap64 ((IntKind.u64.wrap op).tmod 3) == 1) = false := by simpa using h1
          obtain ⟨f, hf⟩ : ∃ f, (good nn tt && decide ((⟨ix, tm, L⟩ : Lg).ix ≤ nn)) = f := ⟨_, rfl⟩
          cases f
          · have HC := hide (rebErr_any HLO.out.is hf)
            clear hf
            go_wp2_with fail
            refine HC.out.mono ?_
            rintro e w3 ⟨rfl, hb3⟩
            have HB3 : Hid (Below w2.heap.size w2 w3) := hide hb3
            have HTE := hide (tells_any (HLO.out.is.below hb3) (HXO.out.below hb3) (Nat.le_trans HFEW.out (by decide)))
            clear hb3
            go_wp2_with fail
            refine HTE.out.mono ?_
            rintro e w4 ⟨rfl, hb4⟩
            have HBE := hide (HBW2.out.trans ((HB3.out.trans (hb4.mono HB3.out.size)).mono HBW2.out.size))
            clear hb4
            go_wp2_with fail
            refine (HAW.out _).mono ?_
            rintro e wz ⟨rfl, hbz⟩
            have HBZ := hide (HBE.out.trans (hbz.mono HBE.out.size))
            clear hbz
            go_wp2
            go_ret
            exact ⟨rfl, HBZ.out⟩
          · have HC := hide (rebOk_any HLO.out hf HB2.out.size)
            clear hf
            go_wp2_with fail
            refine HC.out.mono ?_
            rintro e w3 ⟨rfl, hb3⟩
            have HBE := hide (HBW2.out.trans (hb3.mono HBW.out.size))
            clear hb3
            go_wp2_with fail
            refine (HAW.out _).mono ?_
            rintro e wz ⟨rfl, hbz⟩
            have HBZ := hide (HBE.out.trans (hbz.mono HBE.out.size))
            clear hbz
            go_wp2
            go_ret
            exact ⟨rfl, HBZ.out⟩
end Go.Proofs.Ytfbkgnkgpbpphaa
