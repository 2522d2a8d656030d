/- The law LedgerHints. -/
import Derived.Test.YtfbkgnkgpbpphaaLLaw
import Derived.Test.YtfbkgnkgpbpphaaLRefH
namespace Go.Proofs.Ytfbkgnkgpbpphaa
set_option linter.unusedVariables false
set_option linter.unusedSimpArgs false
open Go.RowKit

theorem hint_bounds (x : Lg) (index : Int) : x.ix < hintI x index ∧ hintI x index ≤ x.ix + x.l.length + 1 := by
  unfold hintI
  split
  · omega
  · have := back_le x.l (max index (x.ix + 1) - x.ix - 1).toNat
    omega
set_option maxRecDepth 200000 in
set_option maxHeartbeats 4000000 in
theorem lawHints_any {w : World} {ix tm : Int} {p : Option Addr} {n c : Nat} {L : List En} (hv : Ens w (.slice p n c) L) (hix : fits ix) (hsz : L.length * 40 ≤ 140737488351232) (index : Int) (hif : fits index) : Calls Try.prog 9 #[.agg #[.int .i64 ix, .int .i64 tm, .slice p n c], .int .i64 index] w (Good w) := by
  have HAW := hide awake_any
  have HIF := hide hif
  have b1 : Below w.heap.size w (w.alloc (.cells #[.int .i64 ix, .int .i64 tm, .slice p n c] 24)) := (Below.refl _ _).alloc (Nat.le_refl _) _
  have hcs := box3 w (.int .i64 ix) (.int .i64 tm) (.slice p n c) 24
  have HFI := hide hix
  obtain ⟨X, hX⟩ : ∃ X, w.alloc (.cells #[.int .i64 ix, .int .i64 tm, .slice p n c] 24) = X := ⟨_, rfl⟩
  rw [hX] at b1 hcs
  have b2 : Below X.heap.size X (X.alloc (.cells #[.slice p n c] 22)) := (Below.refl _ _).alloc (Nat.le_refl _) _
  have HL := hide (light1 (hv.below b1)  hsz )
  have HV := hide ((hv.below b1).below b2)
  have HBW := hide (b1.trans (b2.mono b1.size))
  obtain ⟨z0, z1, z2⟩ := hcs
  have HZ := hide (And.intro z0 (And.intro z1 z2))
  obtain ⟨Y, hY⟩ : ∃ Y, X.alloc (.cells #[.slice p n c] 22) = Y := ⟨_, rfl⟩
  obtain ⟨q, hq⟩ : ∃ q, lightL [L] = q := ⟨_, rfl⟩
  rw [hY] at HL HV HBW b2 
  have y0 := (b2.cell (lt_of_cell z0)).trans z0
  have y1 := (b2.cell (lt_of_cell z1)).trans z1
  have y2 := (b2.cell (lt_of_cell z2)).trans z2
  rw [hq] at HL
  have HQ := hide hq
  clear b1 b2 hq hv hix hsz 
  go_enter Try.func9, Try.ntmps9
  cases q
  · go_wp2_with fail
    refine HL.out.mono ?_
    rintro e w9 ⟨rfl, rfl⟩
    go_wp2_with fail
    refine (HAW.out _).mono ?_
    rintro e wz ⟨rfl, hbz⟩
    have HBZ := hide (HBW.out.trans (hbz.mono HBW.out.size))
    clear hbz
    go_wp2
    go_ret
    exact ⟨rfl, HBZ.out⟩
  · go_wp2_with fail
    refine HL.out.mono ?_
    rintro e w9 ⟨rfl, rfl⟩
    have HFEW : Hid (L.length ≤ 200) := hide (lightL_few HQ.out (by simp))
    have HMD := hide (made2_any (tm := tm) HV.out HFI.out (Nat.le_trans HFEW.out (by decide)))
    obtain ⟨r, hr⟩ : ∃ r, (good ix tm && goOn ix tm L) = r := ⟨_, rfl⟩
    rw [hr] at HMD
    have HRR := hide hr
    clear hr
    go_wp2_with fail
    refine HMD.out.mono ?_
    rintro e w2 ⟨hb2, hq2⟩
    have HB2 := hide hb2
    have HBW2 := hide (HBW.out.trans (hb2.mono HBW.out.size))
    clear hb2
    cases r
    · rw [if_neg (by simp)] at hq2
      subst hq2
      go_wp2_with fail
      refine (HAW.out _).mono ?_
      rintro e wz ⟨rfl, hbz⟩
      have HBZ := hide (HBW2.out.trans (hbz.mono HBW2.out.size))
      clear hbz
      go_wp2
      go_ret
      exact ⟨rfl, HBZ.out⟩
    · rw [if_pos rfl] at hq2
      obtain ⟨gl, gx, rfl, hl2, hx2⟩ := hq2
      have HL2 := hide hl2.is
      have HX2 := hide hx2
      clear hl2 hx2
      have HF1 := hide (hint_any HL2.out index HIF.out)
      have HF2 := hide (fun w' => fun hb : Below w2.heap.size w2 w' => last_any (HL2.out.below hb))
      have HF3 := hide (fun w' => fun hb : Below w2.heap.size w2 w' => refHint_any (HX2.out.below hb) index HIF.out)
      have hbd := HL2.out.bounds
      have hfew := HL2.out.few
      have HHB := hide (hint_bounds ⟨ix, tm, L⟩ index)
      have hend := Lg.end_1 HL2.out.ok
      obtain ⟨b, hb⟩ : ∃ b, (Lg.mk ix tm L).end_.2 = b := ⟨_, rfl⟩
      simp only [hend, hb] at HF2
      obtain ⟨f, hf⟩ : ∃ f, hintI ⟨ix, tm, L⟩ index = f := ⟨_, rfl⟩
      rw [hf] at HF1 HF3 HHB
      obtain ⟨a, ha⟩ : ∃ a, ix + (L.length : Int) = a := ⟨_, rfl⟩
      simp only [ha] at HF2
      have h1 : ix < f := HHB.out.1
      have h2 : f ≤ a + 1 := by have := HHB.out.2; simp only at this; omega
      obtain ⟨i0, i1, _, _⟩ := hbd
      simp only at i0 i1 hfew
      have a0 : 0 ≤ a := by omega
      have a1 : a ≤ 1099512627776 := by omega
      have e1 : decide (ix < f) = true := by simpa using h1
      have e2 : decide (f ≤ a + 1) = true := by simpa using h2
      have x0 := (HB2.out.cell (lt_of_cell y0)).trans y0
      have HX0 := hide x0
      clear hf hb hend ha h1 h2 hfew x0
      go_wp2_with fail
      refine HF1.out.mono ?_
      rintro e w3 ⟨rfl, hb3⟩
      have HB3 := hide hb3
      clear hb3
      go_wp2_with fail
      refine (HF2.out _ HB3.out).mono ?_
      rintro e w4 ⟨rfl, hb4⟩
      have HB4 := hide (HB3.out.trans (hb4.mono HB3.out.size))
      clear hb4
      go_wp2_with fail
      refine (HF3.out _ HB4.out).mono ?_
      rintro e w5 ⟨rfl, hb5⟩
      have HB5 := hide (HB4.out.trans (hb5.mono HB4.out.size))
      have x0 := (HB5.out.cell (lt_of_cell HX0.out)).trans HX0.out
      have HB5W := hide (HBW2.out.trans (HB5.out.mono HBW2.out.size))
      clear hb5
      go_wp2_with fail
      refine (HAW.out _).mono ?_
      rintro e wz ⟨rfl, hbz⟩
      have HBZ := hide (HB5W.out.trans (hbz.mono HB5W.out.size))
      clear hbz
      go_wp2
      go_ret
      exact ⟨rfl, HBZ.out⟩
end Go.Proofs.Ytfbkgnkgpbpphaa
