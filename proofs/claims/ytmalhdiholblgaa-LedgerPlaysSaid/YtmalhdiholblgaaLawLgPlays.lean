/- The law LedgerPlays. -/
import Derived.Test.YtmalhdiholblgaaLPl
namespace Go.Proofs.Ytmalhdiholblgaa
set_option linter.unusedVariables false
set_option linter.unusedSimpArgs false
open Go.RowKit

set_option maxRecDepth 200000 in
set_option maxHeartbeats 40000000 in
theorem lawPlays_any {w : World} {ix tm : Int} {p : Option Addr} {n c : Nat} {L : List En} (hv : Ens w (.slice p n c) L) (hix : fits ix) (hsz : L.length * 40 ≤ 140737488351232) {pd : Option Addr} {nd cd : Nat} {D : List Dp} (hd : Dts w pd nd cd D) (hz : ∀ d ∈ D, d.l.length * 40 ≤ 140737488351232) : Calls Try.prog 3 #[.agg #[.int .i64 ix, .int .i64 tm, .slice p n c], .slice pd nd cd] w (Good w) := by
  have HAW := hide awake_any
  have b1 : Below w.heap.size w (w.alloc (.cells #[.int .i64 ix, .int .i64 tm, .slice p n c] 24)) := (Below.refl _ _).alloc (Nat.le_refl _) _
  have hcs := box3 w (.int .i64 ix) (.int .i64 tm) (.slice p n c) 24
  have HFI := hide hix
  obtain ⟨X, hX⟩ : ∃ X, w.alloc (.cells #[.int .i64 ix, .int .i64 tm, .slice p n c] 24) = X := ⟨_, rfl⟩
  rw [hX] at b1 hcs
  have b2 : Below X.heap.size X (X.alloc (.cells #[.slice p n c] 22)) := (Below.refl _ _).alloc (Nat.le_refl _) _
  have HL := hide (light1 (hv.below b1) hsz)
  have HV0 := hide hv
  have HD0 := hide hd
  have HDZ := hide hz
  have HBW := hide (b1.trans (b2.mono b1.size))
  obtain ⟨z0, z1, z2⟩ := hcs
  obtain ⟨Y, hY⟩ : ∃ Y, X.alloc (.cells #[.slice p n c] 22) = Y := ⟨_, rfl⟩
  obtain ⟨q, hq⟩ : ∃ q, lightL [L] = q := ⟨_, rfl⟩
  rw [hY] at HL HBW b2
  have y0 := (b2.cell (lt_of_cell z0)).trans z0
  have y1 := (b2.cell (lt_of_cell z1)).trans z1
  have y2 := (b2.cell (lt_of_cell z2)).trans z2
  have HKY : Hid (∀ V, Below Y.heap.size Y V → V.cell? ⟨w.heap.size, 0, none⟩ = some (.int .i64 ix) ∧ V.cell? ⟨w.heap.size, 1, none⟩ = some (.int .i64 tm) ∧ V.cell? ⟨w.heap.size, 2, none⟩ = some (.slice p n c)) := hide fun V hV => ⟨(hV.cell (lt_of_cell y0)).trans y0, (hV.cell (lt_of_cell y1)).trans y1, (hV.cell (lt_of_cell y2)).trans y2⟩
  rw [hq] at HL
  have HQ := hide hq
  have HSH := hide (fun V (hV : Below w.heap.size w V) => short_any (hd.below hV) hz)
  obtain ⟨sq, hsq⟩ : ∃ q, shortD D = q := ⟨_, rfl⟩
  simp only [hsq] at HSH
  have HSQ := hide hsq
  clear b1 b2 hq hv hix hsz hd hz hsq
  go_enter Try.func3, Try.ntmps3
  cases q
  · go_wp2_with fail
    refine HL.out.mono ?_
    rintro e w9 ⟨rfl, rfl⟩
    go_wp2_with fail
    refine (HAW.out _).mono ?_
    rintro e wz ⟨rfl, hbz⟩
    have HBZ := hide (HBW.out.trans (hbz.mono HBW.out.size))
    clear hbz
    go_wp2
    go_ret
    exact ⟨rfl, HBZ.out⟩
  · go_wp2_with fail
    refine HL.out.mono ?_
    rintro e w9 ⟨rfl, rfl⟩
    clear z0 z1 z2
    go_wp2_with fail
    refine (HSH.out Y HBW.out).mono ?_
    rintro e w1 ⟨rfl, hb1⟩
    have HB1 := hide hb1
    have HBW1 : Hid (Below w.heap.size w w1) := hide (HBW.out.trans (hb1.mono HBW.out.size))
    clear hb1 y0 y1 y2
    cases sq
    · go_wp2_with fail
      refine (HAW.out _).mono ?_
      rintro e wz ⟨rfl, hbz⟩
      have HBZ := hide (HBW1.out.trans (hbz.mono HBW1.out.size))
      clear hbz
      go_wp2
      go_ret
      exact ⟨rfl, HBZ.out⟩
    · have HFEW : Hid (L.length ≤ 200) := hide (lightL_few HQ.out (by simp))
      have HMD := hide (made2F_any (w0 := w) (tm := tm) HV0.out HBW1.out HFI.out (Nat.le_trans HFEW.out (by decide)))
      obtain ⟨r, hr⟩ : ∃ r, (good ix tm && goOn ix tm L) = r := ⟨_, rfl⟩
      rw [hr] at HMD
      have HRR := hide hr
      obtain ⟨y0, y1, y2⟩ := HKY.out w1 HB1.out
      clear hr
      go_wp2_with fail
      refine HMD.out.mono ?_
      rintro e w2 ⟨hb2, hq2⟩
      have HB2 := hide hb2
      have HBW2 : Hid (Below w.heap.size w w2) := hide (HBW1.out.trans (hb2.mono HBW1.out.size))
      clear hb2 y0 y1 y2
      cases r
      · rw [if_neg (by simp)] at hq2
        subst hq2
        go_wp2_with fail
        refine (HAW.out _).mono ?_
        rintro e wz ⟨rfl, hbz⟩
        have HBZ := hide (HBW2.out.trans (hbz.mono HBW2.out.size))
        clear hbz
        go_wp2
        go_ret
        exact ⟨rfl, HBZ.out⟩
      · rw [if_pos rfl] at hq2
        obtain ⟨gl, gx, rfl, hpl⟩ := hq2
        have HPL := hide hpl
        clear hpl
        have HL60 := hide (rem_short HSQ.out)
        have hn := HD0.out.1
        subst hn
        have hl9 : (D.length : Int) ≤ 60 := by have := HL60.out.1; omega
        obtain ⟨B, hBB⟩ : ∃ B, w1.heap.size = B := ⟨_, rfl⟩
        rw [hBB] at HPL
        clear hBB
        go_wp2_with fail
        go_loopw [5, 9, 10, 11, 12, 13, 14, 15, 16, 17, 18, 41] (fun lp _ _ _ _ _ _ _ _ _ _ j wr => ∃ (k gl : Nat) (x : Lg), k ≤ D.length ∧ j = .int .i64 k ∧ lp = .pointer (some ⟨gl, 0, none⟩) ∧ Hid (Pl w B wr gl gx x x ∧ x.l.length + rem D k ≤ 400)) (fun _ _ _ _ _ _ _ _ _ _ _ j _ => D.length - (intOf j).toNat)
        case atStart => exact ⟨0, gl, _, by omega, rfl, rfl, hide ⟨HPL.out, by have h1 := HFEW.out; have h2 := HL60.out.2; dsimp only; omega⟩⟩
        case round =>
          clear HPL
          obtain ⟨k, gl, x, hk, rfl, rfl, HR⟩ := hrel
          by_cases hlt : k < D.length
          · obtain ⟨d, hdk⟩ : ∃ d, D[k]? = some d := ⟨_, List.getElem?_eq_getElem hlt⟩
            obtain ⟨g, o, rfl, hat⟩ := (HD0.out.below HR.out.1.b0).2.2.2.1 k d hdk
            have HOKD := hide (HD0.out.2.2.2.2 d (List.mem_of_getElem? hdk))
            have HEN : Hid (Ens w (.slice d.p d.nl d.c) d.l) := hide HOKD.out.ens
            have HDF : Hid (fits d.n) := hide HOKD.out.f1
            have HRM := hide (rem_succ hdk)
            have HLE := hide HR.out.2
            obtain ⟨kk, hkk⟩ : ∃ kk, k * 4 = kk := ⟨_, rfl⟩
            rw [hkk] at hat
            obtain ⟨oo, hoo⟩ : ∃ oo, o + kk = oo := ⟨_, rfl⟩
            rw [hoo] at hat
            have c0 := hat 0 _ rfl
            have c1 := hat 1 _ rfl
            have c2 := hat 2 _ rfl
            have c3 := hat 3 _ rfl
            rw [Nat.add_zero] at c0
            have hpz := PlB.new HR.out.1 d
            obtain ⟨Z, hZ⟩ : ∃ Z, wr.alloc (.cells #[.int .i64 d.op, .int .i64 d.n, .int .i64 d.t, .slice d.p d.nl d.c] 34) = Z := ⟨_, rfl⟩
            rw [hZ] at hpz
            obtain ⟨bz, hbz⟩ : ∃ bz, wr.heap.size = bz := ⟨_, rfl⟩
            rw [hbz] at hpz
            have PZ := hide hpz
            have PD : Hid (PlB w B (Z.drewN 1) gl gx x x bz d) := hide (hpz.below (bel_drewN (Below.refl _ _) 1))
            obtain ⟨y0, y1, y2, y3⟩ := hpz.cells
            have j0 : (0 : Int) ≤ (k : Int) := by omega
            have j1 : (k : Int) < (D.length : Int) := by omega
            have HKK := hide hkk
            clear hat hdk hpz
            by_cases h2 : (wrap64 ((IntKind.u64.wrap d.op).tmod 6) == 2) = true
            · obtain ⟨c1, y, hR⟩ : ∃ c1 y, cutR x d.n = (c1, y) := ⟨_, _, rfl⟩
              have HO : Hid (∀ V, PlB w B V gl gx x x bz d → Calls Try.prog 10 #[.pointer (some ⟨gl, 0, none⟩), .int .i64 d.n] V (RetF B gl (c1, y) V)) := hide fun V hV => by
                rw [← hR]
                exact cutF_any hV.pl.l d.n hV.pl.hBw
              have HX : Hid (∀ V, PlB w B V gl gx y x bz d → Calls Try.prog 11 #[.pointer (some ⟨gx, 0, none⟩), .int .i64 d.n] V (RetG w B gx (c1, y) V)) := hide fun V hV => by
                rw [← hR]
                exact refCutF_any hV.pl.x hV.pl.b0 d.n
              have XA : Hid (∀ V xl xx, PlB w B V gl gx xl xx bz d → V.cell? ⟨bz, 1, none⟩ = some (.int .i64 d.n)) := hide fun V xl xx hV => hV.cells.2.1
              have HYL : Hid (y.l.length ≤ x.l.length) := hide (by have h := cutR_len x d.n; rw [hR] at h; exact h)
              have e5 : (c1 == c1) = true := by simp
              have e6 : (c1 != c1) = false := by simp
              clear hR
              go_wp2_with fail
              go_region_held3 (fun W => W.cell? ⟨bz, 1, none⟩ = some (.int .i64 d.n)) (first | exact XA.out _ _ _ PD.out | exact XA.out _ _ _ P7.out | exact XA.out _ _ _ P8.out)
                (first
                  | (go_at_call 10; refine (HO.out _ PD.out).mono ?_; rintro e7 w7 ⟨rfl, hl7, hf7⟩; have P7 := hide (PD.out.lcall hf7 hl7); clear hl7 hf7)
                  | (go_at_call 11; refine (HX.out _ P7.out).mono ?_; rintro e8 w8 ⟨rfl, hx8, hc8, hr8⟩; have P8 := hide (P7.out.gcall hx8 hc8 hr8); clear hx8 hc8 hr8))
              clear y0 y1 y2 y3
              have P8L := hide P8.out.pl
              have HLE9 : Hid (y.l.length + rem D (k + 1) ≤ 400) := hide (by have h1 := HYL.out; have h2 := HLE.out; have h3 := HRM.out; omega)
              have HTE := hide (P8L.out.tells (by have := HLE9.out; omega))
              go_wp2_with fail
              refine HTE.out.mono ?_
              rintro e w9 ⟨rfl, hb9⟩
              have P9 := hide (P8L.out.below hb9)
              clear hb9
              go_wp2_with fail
              go_roundw
              case rel => exact ⟨k + 1, gl, y, by omega, by go_num, rfl, hide ⟨P9.out, HLE9.out⟩⟩
              case measure => simp [intOf]; omega
            · replace h2 : (wrap64 ((IntKind.u64.wrap d.op).tmod 6) == 2) = false := by simpa using h2
              by_cases h3 : (wrap64 ((IntKind.u64.wrap d.op).tmod 6) == 3) = true
              · obtain ⟨c1, y, hR⟩ : ∃ c1 y, rebR x d.n d.t = (c1, y) := ⟨_, _, rfl⟩
                have HO : Hid (∀ V, PlB w B V gl gx x x bz d → Calls Try.prog 12 #[.pointer (some ⟨gl, 0, none⟩), .int .i64 d.n, .int .i64 d.t] V (RetF B gl (c1, y) V)) := hide fun V hV => by
                  rw [← hR]
                  exact rebF_any hV.pl.l d.n d.t hV.pl.hBw
                have HX : Hid (∀ V, PlB w B V gl gx y x bz d → Calls Try.prog 13 #[.pointer (some ⟨gx, 0, none⟩), .int .i64 d.n, .int .i64 d.t] V (RetG w B gx (c1, y) V)) := hide fun V hV => by
                  rw [← hR]
                  exact refRebF_any hV.pl.x hV.pl.b0 hV.pl.hBw d.n d.t
                have XA : Hid (∀ V xl xx, PlB w B V gl gx xl xx bz d → V.cell? ⟨bz, 1, none⟩ = some (.int .i64 d.n) ∧ V.cell? ⟨bz, 2, none⟩ = some (.int .i64 d.t)) := hide fun V xl xx hV => ⟨hV.cells.2.1, hV.cells.2.2.1⟩
                have HYL : Hid (y.l.length ≤ x.l.length) := hide (by have h := rebR_len x d.n d.t; rw [hR] at h; exact h)
                have e5 : (c1 == c1) = true := by simp
                have e6 : (c1 != c1) = false := by simp
                clear hR
                go_wp2_with fail
                go_region_held3 (fun W => W.cell? ⟨bz, 1, none⟩ = some (.int .i64 d.n) ∧ W.cell? ⟨bz, 2, none⟩ = some (.int .i64 d.t)) (first | exact XA.out _ _ _ PD.out | exact XA.out _ _ _ P7.out | exact XA.out _ _ _ P8.out)
                  (first
                    | (go_at_call 12; refine (HO.out _ PD.out).mono ?_; rintro e7 w7 ⟨rfl, hl7, hf7⟩; have P7 := hide (PD.out.lcall hf7 hl7); clear hl7 hf7)
                    | (go_at_call 13; refine (HX.out _ P7.out).mono ?_; rintro e8 w8 ⟨rfl, hx8, hc8, hr8⟩; have P8 := hide (P7.out.gcall hx8 hc8 hr8); clear hx8 hc8 hr8))
                clear y0 y1 y2 y3
                have P8L := hide P8.out.pl
                have HLE9 : Hid (y.l.length + rem D (k + 1) ≤ 400) := hide (by have h1 := HYL.out; have h2 := HLE.out; have h3 := HRM.out; omega)
                have HTE := hide (P8L.out.tells (by have := HLE9.out; omega))
                go_wp2_with fail
                refine HTE.out.mono ?_
                rintro e w9 ⟨rfl, hb9⟩
                have P9 := hide (P8L.out.below hb9)
                clear hb9
                go_wp2_with fail
                go_roundw
                case rel => exact ⟨k + 1, gl, y, by omega, by go_num, rfl, hide ⟨P9.out, HLE9.out⟩⟩
                case measure => simp [intOf]; omega
              · replace h3 : (wrap64 ((IntKind.u64.wrap d.op).tmod 6) == 3) = false := by simpa using h3
                by_cases h4 : (wrap64 ((IntKind.u64.wrap d.op).tmod 6) == 4) = true
                · have HM1 := hide (merge_any (i := d.n) (t := d.t) PZ.out.pl.l.is (HEN.out.below PZ.out.pl.b0) HDF.out (by have h1 := HLE.out; have h2 := HRM.out; omega))
                  obtain ⟨R, hR⟩ : ∃ R, mergeI x d.n d.t d.l = R := ⟨_, rfl⟩
                  rw [hR] at HM1
                  obtain ⟨a, S, f⟩ := R
                  have HSL : Hid (S.length ≤ d.l.length) := hide (merge_len hR)
                  have HRR := hide hR
                  clear hR
                  go_wp2_with fail
                  refine HM1.out.mono ?_
                  rintro e w3 ⟨⟨v3, rfl, ho3⟩, hb3⟩
                  dsimp only at ho3 ⊢
                  obtain ⟨p3, n3, c3, rfl⟩ := ho3.ens.sl
                  have HO3 := hide ho3
                  have HB3 : Hid (Below Z.heap.size Z w3) := hide hb3
                  have P3 := hide (PZ.out.below hb3)
                  have HM2 := hide (refMergeF_any (w0 := w) (i := d.n) (t := d.t) (P3.out.pl.x.is P3.out.pl.b0) HEN.out P3.out.pl.b0 HDF.out (by have h1 := HLE.out; have h2 := HRM.out; omega))
                  rw [HRR.out] at HM2
                  clear ho3 hb3 HM1 y0 y1 y2 y3
                  obtain ⟨y0, y1, y2, y3⟩ := P3.out.cells
                  go_wp2_with fail
                  refine HM2.out.mono ?_
                  rintro e w4 ⟨⟨v4, rfl, he4⟩, hb4⟩
                  dsimp only at he4 ⊢
                  obtain ⟨p4, n4, c4, rfl⟩ := he4.sl
                  have HE4 := hide he4
                  have HB4 : Hid (Below Z.heap.size Z w4) := hide (HB3.out.trans (hb4.mono HB3.out.size))
                  have P4 := hide (P3.out.pl.below hb4)
                  have HO4 := hide (HO3.out.below hb4)
                  have HSM := hide (same_any HO4.out.ens (he4.below P4.out.b0))
                  have e7 : (a == a) = true := by simp
                  have e8 : (a != a) = false := by simp
                  clear he4 hb4 HM2 y0 y1 y2 y3
                  cases f
                  all_goals
                    go_wp2_with fail
                    refine HSM.out.mono ?_
                    rintro e w5 ⟨rfl, hb5⟩
                    have P5 := hide (P4.out.below hb5)
                    have HO5 := hide (HO4.out.below hb5)
                    have HB5 : Hid (Below Z.heap.size Z w5) := hide (HB4.out.trans (hb5.mono HB4.out.size))
                    clear hb5 HSM
                    by_cases h0 : 0 < a
                    · have hc := cutF_any P5.out.l a P5.out.hBw
                      obtain ⟨c1, y, hR⟩ : ∃ c1 y, cutR x a = (c1, y) := ⟨_, _, rfl⟩
                      rw [hR] at hc
                      have HYL1 : Hid (y.l.length ≤ x.l.length) := hide (by have h := cutR_len x a; rw [hR] at h; exact h)
                      have HRC := hide hR
                      have HC := hide hc
                      clear hc hR
                      go_wp2_with fail
                      refine HC.out.mono ?_
                      rintro e w6 ⟨rfl, hl6, hf6⟩
                      have P6 := hide (P5.out.lcall hf6 hl6)
                      have HO6 := hide (OwnEns.frame PZ.out.pl.l HB5.out hf6 HO5.out)
                      have hx := refCutF_any P6.out.x P6.out.b0 a
                      rw [HRC.out] at hx
                      have HX := hide hx
                      clear hl6 hf6 hx HC
                      go_wp2_with fail
                      refine HX.out.mono ?_
                      rintro e w7 ⟨rfl, hx7, hc7, hr7⟩
                      have P7 := hide (P6.out.gcall hx7 hc7 hr7)
                      have HO7 := hide (HO6.out.window (w' := w7) fun k' h1 h2 => hc7.block k' h2 fun h3 => by
                        have : gx < Z.heap.size := lt_of_cell PZ.out.pl.x.c0
                        omega)
                      clear hx7 hc7 hr7 HX
                      by_cases hc0 : c1 = 0
                      · subst hc0
                        have HA1 := hide (addF_any P7.out.l HO7.out.ens (by have h1 := HLE.out; have h2 := HRM.out; have h3 := HSL.out; have h4 := HYL1.out; omega) P7.out.hBw)
                        obtain ⟨c2, y2', hR2⟩ : ∃ c z, addR y S = (c, z) := ⟨_, _, rfl⟩
                        have HYL : Hid (y2'.l.length ≤ x.l.length + d.l.length) := hide (by have h := addR_len y S; rw [hR2] at h; have h3 := HSL.out; have h4 := HYL1.out; dsimp only at h; omega)
                        rw [hR2] at HA1
                        have HRR2 := hide hR2
                        clear hR2
                        go_wp2_with fail
                        refine HA1.out.mono ?_
                        rintro e w10 ⟨rfl, hl10, hf10⟩
                        have P10 := hide (P7.out.lcall hf10 hl10)
                        clear hl10 hf10
                        have HA2 := hide (refAddF_any P10.out.x P10.out.b0 HE4.out (by have h1 := HLE.out; have h2 := HRM.out; have h3 := HSL.out; have h4 := HYL1.out; omega) P10.out.hBw)
                        rw [HRR2.out] at HA2
                        have e5 : (c2 == c2) = true := by simp
                        have e6 : (c2 != c2) = false := by simp
                        go_wp2_with fail
                        refine HA2.out.mono ?_
                        rintro e w11 ⟨rfl, hx11, hc11, hr11⟩
                        have P8L := hide (P10.out.gcall hx11 hc11 hr11)
                        clear hx11 hc11 hr11 HA1 HA2
                        have HLE9 : Hid (y2'.l.length + rem D (k + 1) ≤ 400) := hide (by have h1 := HYL.out; have h2 := HLE.out; have h3 := HRM.out; omega)
                        have HTE := hide (P8L.out.tells (by have := HLE9.out; omega))
                        go_wp2_with fail
                        refine HTE.out.mono ?_
                        rintro e w9 ⟨rfl, hb9⟩
                        have P9 := hide (P8L.out.below hb9)
                        clear hb9
                        go_wp2_with fail
                        go_roundw
                        case rel => exact ⟨k + 1, gl, y2', by omega, by go_num, rfl, hide ⟨P9.out, HLE9.out⟩⟩
                        case measure => simp [intOf]; omega
                      · have e9 : (c1 == 0) = false := by simpa using hc0
                        have e5 : (c1 == c1) = true := by simp
                        have e6 : (c1 != c1) = false := by simp
                        have P8L := P7
                        have HYL := HYL1
                        have HLE9 : Hid (y.l.length + rem D (k + 1) ≤ 400) := hide (by have h1 := HYL.out; have h2 := HLE.out; have h3 := HRM.out; omega)
                        have HTE := hide (P8L.out.tells (by have := HLE9.out; omega))
                        go_wp2_with fail
                        refine HTE.out.mono ?_
                        rintro e w9 ⟨rfl, hb9⟩
                        have P9 := hide (P8L.out.below hb9)
                        clear hb9
                        go_wp2_with fail
                        go_roundw
                        case rel => exact ⟨k + 1, gl, y, by omega, by go_num, rfl, hide ⟨P9.out, HLE9.out⟩⟩
                        case measure => simp [intOf]; omega
                    · have HO7 := HO5
                      have P7 := P5
                      have HA1 := hide (addF_any P7.out.l HO7.out.ens (by have h1 := HLE.out; have h2 := HRM.out; have h3 := HSL.out; have h4 := Nat.le_refl x.l.length; omega) P7.out.hBw)
                      obtain ⟨c2, y2', hR2⟩ : ∃ c z, addR x S = (c, z) := ⟨_, _, rfl⟩
                      have HYL : Hid (y2'.l.length ≤ x.l.length + d.l.length) := hide (by have h := addR_len x S; rw [hR2] at h; have h3 := HSL.out; have h4 := Nat.le_refl x.l.length; dsimp only at h; omega)
                      rw [hR2] at HA1
                      have HRR2 := hide hR2
                      clear hR2
                      go_wp2_with fail
                      refine HA1.out.mono ?_
                      rintro e w10 ⟨rfl, hl10, hf10⟩
                      have P10 := hide (P7.out.lcall hf10 hl10)
                      clear hl10 hf10
                      have HA2 := hide (refAddF_any P10.out.x P10.out.b0 HE4.out (by have h1 := HLE.out; have h2 := HRM.out; have h3 := HSL.out; have h4 := Nat.le_refl x.l.length; omega) P10.out.hBw)
                      rw [HRR2.out] at HA2
                      have e5 : (c2 == c2) = true := by simp
                      have e6 : (c2 != c2) = false := by simp
                      go_wp2_with fail
                      refine HA2.out.mono ?_
                      rintro e w11 ⟨rfl, hx11, hc11, hr11⟩
                      have P8L := hide (P10.out.gcall hx11 hc11 hr11)
                      clear hx11 hc11 hr11 HA1 HA2
                      have HLE9 : Hid (y2'.l.length + rem D (k + 1) ≤ 400) := hide (by have h1 := HYL.out; have h2 := HLE.out; have h3 := HRM.out; omega)
                      have HTE := hide (P8L.out.tells (by have := HLE9.out; omega))
                      go_wp2_with fail
                      refine HTE.out.mono ?_
                      rintro e w9 ⟨rfl, hb9⟩
                      have P9 := hide (P8L.out.below hb9)
                      clear hb9
                      go_wp2_with fail
                      go_roundw
                      case rel => exact ⟨k + 1, gl, y2', by omega, by go_num, rfl, hide ⟨P9.out, HLE9.out⟩⟩
                      case measure => simp [intOf]; omega
                · replace h4 : (wrap64 ((IntKind.u64.wrap d.op).tmod 6) == 4) = false := by simpa using h4
                  by_cases h5 : (wrap64 ((IntKind.u64.wrap d.op).tmod 6) == 5) = true
                  · have HCL := hide (cloneL_any PZ.out.pl.l.is (by have := HLE.out; omega))
                    go_wp2_with fail
                    refine HCL.out.mono ?_
                    rintro e w4 ⟨⟨gc, rfl, hc4⟩, hb4⟩
                    have b5 : Below w4.heap.size w4 (w4.alloc (.cells #[.int .i64 1, .int .i64 1, .slice none 0 0, .int .i64 2, .int .i64 1, .slice none 0 0] 48)) := (Below.refl _ _).alloc (Nat.le_refl _) _
                    have hen5 := ens_lit2 w4 1 1 2 1 (by unfold fits; omega) (by unfold fits; omega) (by unfold fits; omega) (by unfold fits; omega)
                    obtain ⟨V5, hV5⟩ : ∃ V, w4.alloc (.cells #[.int .i64 1, .int .i64 1, .slice none 0 0, .int .i64 2, .int .i64 1, .slice none 0 0] 48) = V := ⟨_, rfl⟩
                    rw [hV5] at b5 hen5
                    have hb5 : Below Z.heap.size Z V5 := hb4.trans (b5.mono hb4.size)
                    have HC5 := hide (hc4.below b5)
                    have HB5 := hide hb5
                    have P5 := hide (PZ.out.pl.below hb5)
                    have HAD := hide (addF_any P5.out.l hen5 (by have := HLE.out; simp only [List.length_cons, List.length_nil]; omega) P5.out.hBw)
                    clear hc4 hb4 b5 hen5 hb5 y0 y1 y2 y3
                    go_wp2_with fail
                    refine HAD.out.mono ?_
                    rintro e w6 ⟨rfl, hl6, hf6⟩
                    have P6 := hide (P5.out.lcall hf6 hl6)
                    have HL6 := hide hl6
                    have HF6 := hide hf6
                    have HCU := hide (cutF_any hl6 1 P6.out.hBw)
                    clear hl6 hf6
                    go_wp2_with fail
                    refine HCU.out.mono ?_
                    rintro e w7 ⟨rfl, hl7, hf7⟩
                    have P8L : Hid (Pl w B w7 gc gx x x) := hide (PZ.out.pl.clone HB5.out HC5.out PZ.out.pl.hBw HL6.out HF6.out hl7 hf7)
                    clear hl7 hf7
                    have HLE9 : Hid (x.l.length + rem D (k + 1) ≤ 400) := hide (by have h2 := HLE.out; have h3 := HRM.out; omega)
                    have HTE := hide (P8L.out.tells (by have := HLE9.out; omega))
                    go_wp2_with fail
                    refine HTE.out.mono ?_
                    rintro e w9 ⟨rfl, hb9⟩
                    have P9 := hide (P8L.out.below hb9)
                    clear hb9
                    go_wp2_with fail
                    go_roundw
                    case rel => exact ⟨k + 1, gc, x, by omega, by go_num, rfl, hide ⟨P9.out, HLE9.out⟩⟩
                    case measure => simp [intOf]; omega
                  · replace h5 : (wrap64 ((IntKind.u64.wrap d.op).tmod 6) == 5) = false := by simpa using h5
                    obtain ⟨c1, y, hR⟩ : ∃ c1 y, addR x d.l = (c1, y) := ⟨_, _, rfl⟩
                    have HO : Hid (∀ V, PlB w B V gl gx x x bz d → Calls Try.prog 17 #[.pointer (some ⟨gl, 0, none⟩), .slice d.p d.nl d.c] V (RetF B gl (c1, y) V)) := hide fun V hV => by
                      rw [← hR]
                      exact addF_any hV.pl.l (HEN.out.below hV.pl.b0) (by have h1 := HLE.out; have h2 := HRM.out; omega) hV.pl.hBw
                    have HX : Hid (∀ V, PlB w B V gl gx y x bz d → Calls Try.prog 18 #[.pointer (some ⟨gx, 0, none⟩), .slice d.p d.nl d.c] V (RetG w B gx (c1, y) V)) := hide fun V hV => by
                      rw [← hR]
                      exact refAddF_any hV.pl.x hV.pl.b0 HEN.out (by have h1 := HLE.out; have h2 := HRM.out; omega) hV.pl.hBw
                    have XA : Hid (∀ V xl xx, PlB w B V gl gx xl xx bz d → V.cell? ⟨bz, 3, none⟩ = some (.slice d.p d.nl d.c)) := hide fun V xl xx hV => hV.cells.2.2.2
                    have HYL : Hid (y.l.length ≤ x.l.length + d.l.length) := hide (by have h := addR_len x d.l; rw [hR] at h; exact h)
                    have e5 : (c1 == c1) = true := by simp
                    have e6 : (c1 != c1) = false := by simp
                    clear hR
                    go_wp2_with fail
                    go_region_held3 (fun W => W.cell? ⟨bz, 3, none⟩ = some (.slice d.p d.nl d.c)) (first | exact XA.out _ _ _ PD.out | exact XA.out _ _ _ P7.out | exact XA.out _ _ _ P8.out)
                      (first
                        | (go_at_call 17; refine (HO.out _ PD.out).mono ?_; rintro e7 w7 ⟨rfl, hl7, hf7⟩; have P7 := hide (PD.out.lcall hf7 hl7); clear hl7 hf7)
                        | (go_at_call 18; refine (HX.out _ P7.out).mono ?_; rintro e8 w8 ⟨rfl, hx8, hc8, hr8⟩; have P8 := hide (P7.out.gcall hx8 hc8 hr8); clear hx8 hc8 hr8))
                    clear y0 y1 y2 y3
                    have P8L := hide P8.out.pl
                    have HLE9 : Hid (y.l.length + rem D (k + 1) ≤ 400) := hide (by have h1 := HYL.out; have h2 := HLE.out; have h3 := HRM.out; omega)
                    have HTE := hide (P8L.out.tells (by have := HLE9.out; omega))
                    go_wp2_with fail
                    refine HTE.out.mono ?_
                    rintro e w9 ⟨rfl, hb9⟩
                    have P9 := hide (P8L.out.below hb9)
                    clear hb9
                    go_wp2_with fail
                    go_roundw
                    case rel => exact ⟨k + 1, gl, y, by omega, by go_num, rfl, hide ⟨P9.out, HLE9.out⟩⟩
                    case measure => simp [intOf]; omega
          · have HPE := hide HR.out.1
            have HTE := hide (HPE.out.tells (by have := HR.out.2; omega))
            go_wp2_with fail
            refine HTE.out.mono ?_
            rintro e w9 ⟨rfl, hb9⟩
            have HB9 : Hid (Below w.heap.size w w9) := hide (HPE.out.b0.trans (hb9.mono HPE.out.b0.size))
            clear hb9
            go_wp2_with fail
            refine (HAW.out _).mono ?_
            rintro e wz ⟨rfl, hbz⟩
            have HBZ := hide (HB9.out.trans (hbz.mono HB9.out.size))
            clear hbz
            go_wp2
            go_ret
            exact ⟨rfl, HBZ.out⟩
end Go.Proofs.Ytmalhdiholblgaa
