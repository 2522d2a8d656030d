/- The law LedgerTwins. -/
import Derived.Test.YtmalhdiholblgaaLGv
import Derived.Test.YtmalhdiholblgaaLLaw
import Derived.Test.YtmalhdiholblgaaLawLgNobody
namespace Go.Proofs.Ytmalhdiholblgaa
set_option linter.unusedVariables false
set_option linter.unusedSimpArgs false
open Go.RowKit

set_option maxRecDepth 200000 in
set_option maxHeartbeats 4000000 in
theorem lawTwins_any {w : World} {ix tm : Int} {p : Option Addr} {n c : Nat} {L : List En} (hv : Ens w (.slice p n c) L) (hix : fits ix) (hsz : L.length * 40 ≤ 140737488351232) {op nn tt : Int} {pm : Option Addr} {nm cm : Nat} {Lm : List En} (hm : Ens w (.slice pm nm cm) Lm) (sm : Lm.length * 40 ≤ 140737488351232) : Calls Try.prog 5 #[.agg #[.int .i64 ix, .int .i64 tm, .slice p n c], .agg #[.int .i64 op, .int .i64 nn, .int .i64 tt, .slice pm nm cm]] w (Good w) := by
  have HAW := hide awake_any
  have b0 : Below w.heap.size w (w.alloc (.cells #[.int .i64 ix, .int .i64 tm, .slice p n c] 24)) := (Below.refl _ _).alloc (Nat.le_refl _) _
  have hcs0 := box3 w (.int .i64 ix) (.int .i64 tm) (.slice p n c) 24
  obtain ⟨V0, hV0⟩ : ∃ V0, w.alloc (.cells #[.int .i64 ix, .int .i64 tm, .slice p n c] 24) = V0 := ⟨_, rfl⟩
  rw [hV0] at b0 hcs0
  have b1 : Below V0.heap.size V0 (V0.alloc (.cells #[.int .i64 op, .int .i64 nn, .int .i64 tt, .slice pm nm cm] 34)) := (Below.refl _ _).alloc (Nat.le_refl _) _
  have hcs1 := box4 V0 (.int .i64 op) (.int .i64 nn) (.int .i64 tt) (.slice pm nm cm) 34
  obtain ⟨X, hX⟩ : ∃ X, V0.alloc (.cells #[.int .i64 op, .int .i64 nn, .int .i64 tt, .slice pm nm cm] 34) = X := ⟨_, rfl⟩
  rw [hX] at b1 hcs1
  have b01 := b0.trans (b1.mono b0.size)
  have b2 : Below X.heap.size X (X.alloc (.cells #[.slice p n c, .slice pm nm cm] 22)) := (Below.refl _ _).alloc (Nat.le_refl _) _
  have HL := hide (light2 (hv.below b01) (hm.below b01) hsz sm)
  have HV := hide ((hv.below b01).below b2)
  have HVm := hide ((hm.below b01).below b2)
  have HFI := hide hix
  have HBW := hide (b01.trans (b2.mono b01.size))
  have HK : Hid (∀ V, Below X.heap.size X V → (V.cell? ⟨w.heap.size, 0, none⟩ = some (.int .i64 ix) ∧ V.cell? ⟨w.heap.size, 1, none⟩ = some (.int .i64 tm) ∧ V.cell? ⟨w.heap.size, 2, none⟩ = some (.slice p n c)) ∧ V.cell? ⟨V0.heap.size, 0, none⟩ = some (.int .i64 op) ∧ V.cell? ⟨V0.heap.size, 1, none⟩ = some (.int .i64 nn) ∧ V.cell? ⟨V0.heap.size, 2, none⟩ = some (.int .i64 tt) ∧ V.cell? ⟨V0.heap.size, 3, none⟩ = some (.slice pm nm cm)) := hide fun V hV => by
    have k : ∀ {a u}, V0.cell? a = some u → V.cell? a = some u := fun {a u} h => (hV.cell (lt_of_cell ((b1.cell (lt_of_cell h)).trans h))).trans ((b1.cell (lt_of_cell h)).trans h)
    have k2 : ∀ {a u}, X.cell? a = some u → V.cell? a = some u := fun {a u} h => (hV.cell (lt_of_cell h)).trans h
    exact ⟨⟨k hcs0.1, k hcs0.2.1, k hcs0.2.2⟩, k2 hcs1.1, k2 hcs1.2.1, k2 hcs1.2.2.1, k2 hcs1.2.2.2⟩
  obtain ⟨⟨z0, z1, z2⟩, z3, z4, z5, z6⟩ := HK.out X (Below.refl _ _)
  obtain ⟨Y, hY⟩ : ∃ Y, X.alloc (.cells #[.slice p n c, .slice pm nm cm] 22) = Y := ⟨_, rfl⟩
  obtain ⟨q, hq⟩ : ∃ q, lightL [L, Lm] = q := ⟨_, rfl⟩
  rw [hY] at HL HV HVm HBW b2
  rw [hq] at HL
  have HX2 := hide b2
  have HQ := hide hq
  obtain ⟨⟨y0, y1, y2⟩, y3, y4, y5, y6⟩ := HK.out Y HX2.out
  clear b0 b1 b01 b2 hq hv hm hsz sm hcs0 hcs1 hix
  go_enter Try.func5, Try.ntmps5
  cases q
  · go_wp2_with fail
    refine HL.out.mono ?_
    rintro e w9 ⟨rfl, rfl⟩
    go_wp2_with fail
    refine (HAW.out _).mono ?_
    rintro e wz ⟨rfl, hbz⟩
    have HBZ := hide (HBW.out.trans (hbz.mono HBW.out.size))
    clear hbz
    go_wp2
    go_ret
    exact ⟨rfl, HBZ.out⟩
  · go_wp2_with fail
    refine HL.out.mono ?_
    rintro e w9 ⟨rfl, rfl⟩
    have HFEW : Hid (L.length ≤ 200) := hide (lightL_few HQ.out (by simp))
    have hlen := HV.out.len.1
    subst hlen
    obtain ⟨i0, hi0, hz0, hz1, hz2⟩ := info_parts Try.infoEc
    obtain ⟨w1, hmk, hrow, hg1⟩ := run_makeSlice_full (P := Try.prog) Y Y.heap.size 22 48 i0 (.agg #[.int .i64 0, .int .i64 0, .slice none 0 0]) 3 Try.underlying22 hi0 hz0 hz1 .i64 .i64 L.length (by have := HFEW.out; omega) (by rw [hz2]; have := HFEW.out; omega) (by have := HFEW.out; unfold maxLen; omega) (Nat.le_refl _)
    have HG1 : Hid (Gv Y.heap.size w1 Y.heap.size L.length (List.replicate L.length ec0) L 0) := hide (by
      refine ⟨?_, List.length_replicate, fun i e x h0 => absurd h0 (Nat.not_lt_zero _)⟩
      unfold OwnE
      rw [List.length_replicate, ← made_flat]
      exact hrow)
    have HB1 : Hid (Below Y.heap.size Y w1) := hide ⟨hg1.os, hg1.tape, hg1.output, hg1.size, fun k hk => hg1.block k hk (by simp)⟩
    obtain ⟨b, hb⟩ : ∃ b, Y.heap.size = b := ⟨_, rfl⟩
    rw [hb] at hmk
    have HBY := hide hb
    have HKY : Hid (∀ V, Below Y.heap.size Y V → (V.cell? ⟨w.heap.size, 0, none⟩ = some (.int .i64 ix) ∧ V.cell? ⟨w.heap.size, 1, none⟩ = some (.int .i64 tm) ∧ V.cell? ⟨w.heap.size, 2, none⟩ = some (.slice p L.length c)) ∧ V.cell? ⟨V0.heap.size, 0, none⟩ = some (.int .i64 op) ∧ V.cell? ⟨V0.heap.size, 1, none⟩ = some (.int .i64 nn) ∧ V.cell? ⟨V0.heap.size, 2, none⟩ = some (.int .i64 tt) ∧ V.cell? ⟨V0.heap.size, 3, none⟩ = some (.slice pm nm cm)) := hide fun V hV => HK.out V (HX2.out.trans (hV.mono HX2.out.size))
    have y2' := (HKY.out w1 HB1.out).1.2.2
    have HG2 : Hid (Gv Y.heap.size w1 b L.length (List.replicate L.length ec0) L 0) := hide (by rw [← hb]; exact HG1.out)
    clear HG1
    clear hrow hg1 hi0 hz0 hz1 hz2 hb
    have hl9 : (L.length : Int) ≤ 9223372036854775807 := by have := HFEW.out; omega
    clear z0 z1 z2 z3 z4 z5 z6 y0 y1 y3 y4 y5 y6
    go_wp2_with fail
    clear hmk y2 y2'
    go_loopw [6, 7, 30] (fun _ _ i wr => ∃ k : Nat, k ≤ L.length ∧ i = .int .i64 k ∧ Hid (∃ E, Gv Y.heap.size wr b L.length E L k ∧ Below Y.heap.size Y wr)) (fun _ _ i _ => L.length - (intOf i).toNat)
    case atStart => exact ⟨0, by omega, rfl, hide ⟨_, HG2.out, HB1.out⟩⟩
    case round =>
      obtain ⟨k, hk, rfl, HR⟩ := hrel
      obtain ⟨E, hgv⟩ := HR.out
      have HGV := hide hgv
      clear hgv
      by_cases hlt : k < L.length
      · have he := List.getElem?_eq_getElem hlt
        obtain ⟨e, hee⟩ : ∃ e, L[k] = e := ⟨_, rfl⟩
        rw [hee] at he
        have HLK := hide he
        have HEF : Hid (e.fits) := hide (HV.out.fits e (List.mem_of_getElem? he))
        obtain ⟨g, o, pd, nd, cd, rfl, hat0, hby0, hnd⟩ := HV.out.at_ he
        have hat := hat0.below HGV.out.2
        obtain ⟨kk, hkk⟩ : ∃ kk, k * 3 = kk := ⟨_, rfl⟩
        rw [hkk] at hat
        obtain ⟨oo, hoo⟩ : ∃ oo, o + kk = oo := ⟨_, rfl⟩
        rw [hoo] at hat
        have c0 := hat.c0
        have c1 := hat.c1
        have c2 := hat.c2
        dsimp only at c0 c1 c2
        obtain ⟨ei, hei⟩ : ∃ ei, e.i = ei := ⟨_, rfl⟩
        obtain ⟨et, het⟩ : ∃ et, e.t = et := ⟨_, rfl⟩
        rw [hei] at c0
        rw [het] at c1
        have HE := hide (And.intro hei het)
        have bN : Below wr.heap.size wr (wr.alloc (.cells #[.int .i64 ei, .int .i64 et, .slice pd nd cd] 48)) := (Below.refl _ _).alloc (Nat.le_refl _) _
        have hB3 := box3 wr (.int .i64 ei) (.int .i64 et) (.slice pd nd cd) 48
        obtain ⟨Z, hZ⟩ : ∃ Z, wr.alloc (.cells #[.int .i64 ei, .int .i64 et, .slice pd nd cd] 48) = Z := ⟨_, rfl⟩
        rw [hZ] at bN hB3
        obtain ⟨bz, hbz⟩ : ∃ bz, wr.heap.size = bz := ⟨_, rfl⟩
        rw [hbz] at hB3
        obtain ⟨z0, z1, z2⟩ := hB3
        have hgz := HGV.out.1.below bN
        obtain ⟨e0, hE0, g0, g1, g2, gf⟩ := hgz.cells hlt
        have hput := hgz.put hlt ⟨ei, et, pd, nd, cd⟩
        dsimp only at hput
        have HYZ : Hid (Below Y.heap.size Y Z) := hide (HGV.out.2.trans (bN.mono HGV.out.2.size))
        have hbY : b = Y.heap.size := HBY.out.symm
        have hbbz : b < bz := by rw [← hbz]; have := HB1.out.size; exact lt_of_cell (show wr.cell? ⟨b, k * 3, none⟩ = some _ from (HGV.out.1.cells hlt).choose_spec.2.1)
        have hbzZ : bz < Z.heap.size := lt_of_cell z0
        rw [hkk] at g0 g1 g2 hput
        obtain ⟨Z1, hZ1⟩ : ∃ Z1, (((Z.setCell ⟨b, kk, none⟩ (.int .i64 ei)).setCell ⟨b, kk + 1, none⟩ (.int .i64 et)).setCell ⟨b, kk + 2, none⟩ (.slice pd nd cd)) = Z1 := ⟨_, rfl⟩
        have hzs : Z1.heap.size = Z.heap.size := by rw [← hZ1]; simp [World.setCell]
        have hz12 : Z1.cell? ⟨bz, 2, none⟩ = some (.slice pd nd cd) := by
          rw [← hZ1, World.cell?_setCell_other _ _ _ _ (by simp <;> omega), World.cell?_setCell_other _ _ _ _ (by simp <;> omega), World.cell?_setCell_other _ _ _ _ (by simp <;> omega)]
          exact z2
        rw [hZ1] at hput
        have hgr : Z.grownBy Z1 (some b) := by rw [← hZ1]; exact gtrans (gtrans (grown_set _ b _ _) (grown_set _ b _ _)) (grown_set _ b _ _)
        have HY1 : Hid (Below Y.heap.size Y Z1) := hide (HYZ.out.grown hgr HYZ.out.size fun k hk => by cases hk; omega)
        have b2 : Below Z1.heap.size Z1 (Z1.alloc (.cells #[] 5)) := (Below.refl _ _).alloc (Nat.le_refl _) _
        have hz22 := (b2.cell (lt_of_cell hz12)).trans hz12
        have hOwn : Own Y.heap.size (Z1.alloc (.cells #[] 5)) (.slice (some ⟨Z1.heap.size, 0, none⟩) 0 0) [] := .inr ⟨Z1.heap.size, 0, rfl, HY1.out.size, by simp, by simp [maxLen], by simp, fun i hi => by omega, fun i hi => by omega⟩
        have hsz2 : (Z1.alloc (.cells #[] 5)).heap.size = Z1.heap.size + 1 := by simp
        obtain ⟨Z2, hZ2⟩ : ∃ Z2, Z1.alloc (.cells #[] 5) = Z2 := ⟨_, rfl⟩
        rw [hZ2] at b2 hz22 hOwn hsz2
        obtain ⟨bs, hbs⟩ : ∃ bs, Z1.heap.size = bs := ⟨_, rfl⟩
        rw [hbs] at hOwn hsz2
        have HOW := hide hOwn
        have HBY2 := hide ((hby0.below HY1.out).below b2)
        have HB12 : Hid (Below Z1.heap.size Z1 Z2) := hide b2
        have HYS : Hid (Y.heap.size ≤ Z2.heap.size) := hide (by have := HY1.out.size; have := b2.size; omega)
        have HPUT := hide hput
        have HSZ := hide hsz2
        have HBS := hide hbs
        have HBB : Hid (b < Z1.heap.size) := hide (by omega)
        have HEK : Hid (k < E.length) := hide (by have := HGV.out.1.len; omega)
        have HDL : Hid (e.d.length ≤ 65536) := hide (lightL_data HQ.out (l := L) (by simp) (List.mem_of_getElem? he))
        have HWB : Hid (∀ V, Z2.grownBy V (some bs) → Below Z1.heap.size Z1 V) := hide fun V hV => b2.grown hV b2.size fun k hk => by cases hk; omega
        have gf0 := gf kk
        have gf1 := gf (kk + 1)
        have gf2 := gf (kk + 2)
        have HKK := hide hkk
        have hkkL : kk + 2 < L.length * 3 := by omega
        clear he hee hat0 hat hby0 hnd hei het bN hgz gf hput hbY hbbz hbzZ hzs hz12 hgr b2 hOwn hsz2 hE0
        have HLN : Hid (E.length = L.length) := hide HGV.out.1.len
        go_wp2_with (at_builtin; go_loud (refine wpList_append_by (B := Y.heap.size) (w := Z2) (v := .slice (some ⟨bs, 0, none⟩) 0 0) (y := .slice pd nd cd) (l := []) (m := e.d) rfl (.tmp 41) (.tmp 43) rfl rfl rfl rfl HOW.out HBY2.out (by have := HDL.out; simp; omega) HYS.out ?_); intro v4 w4 ho4 hg4 hb4 hk4; rw [List.nil_append] at ho4; obtain ⟨p4, c4, rfl⟩ := ho4.by_.shape; have HO4 := hide ho4; have HB4 := hide (HWB.out w4 hg4); have HK4 := hide hk4; have HG4 := hide (HPUT.out.below HB4.out); obtain ⟨e4, hE4, q0, q1, q2, qf⟩ := HG4.out.cells (i := k) (by have := HEK.out; have := HLN.out; omega); rw [HKK.out] at q2; have qf2 := qf (kk + 2); clear ho4 hg4 hb4 hk4 hE4 q0 q1 qf z0 z1 z2 c0 c1 c2 hoo)
        go_roundw
        case rel =>
          have hek : (E.set k ⟨ei, et, pd, nd, cd⟩)[k]? = some ⟨ei, et, pd, nd, cd⟩ := List.getElem?_set_self HEK.out
          have hd := HG4.out.data hek HLK.out HE.out.1.symm HE.out.2.symm HEF.out HO4.out (.inr fun k' hk' e2 => by
            injection e2 with e2
            have e3 : b = k' := e2
            rcases HK4.out k' hk' with h | h
            · have h5 : bs = k' := by injection h
              have := HBS.out
              have := HBB.out
              omega
            · have := HSZ.out
              have := HBS.out
              have := HBB.out
              omega)
          rw [HKK.out] at hd
          have hb9 : Below Y.heap.size Y (w4.setCell ⟨b, kk + 2, none⟩ (.slice p4 e.d.length c4)) := ((HY1.out.trans (HB4.out.mono HY1.out.size)).grown (grown_set _ _ _ _) (by have := HY1.out.size; have := HB4.out.size; omega) fun k' hk' => by cases hk'; exact Nat.le_of_eq HBY.out)
          exact ⟨k + 1, by omega, by go_num, hide ⟨_, hd, hb9⟩⟩
        case measure => simp [intOf]; omega
      · obtain ⟨Wg, hWg⟩ : ∃ W, W = wr := ⟨_, rfl⟩
        subst hWg
        have hkL : k = L.length := by omega
        have hgd := HGV.out.1
        rw [hkL] at hgd
        have HOG := hide (hgd.done rfl)
        have HBG := hide HGV.out.2
        have HNW := hide (new_any (tm := tm) HOG.out.ens HFI.out (Nat.le_trans HFEW.out (by decide)))
        unfold NewPost at HNW
        obtain ⟨r, hr⟩ : ∃ r, (good ix tm && goOn ix tm L) = r := ⟨_, rfl⟩
        rw [hr] at HNW
        have HRE := hide hr
        have hky := HKY.out Wg HBG.out
        obtain ⟨⟨y0, y1, y2⟩, _⟩ := hky
        clear hgd hkL hr
        go_wp2_with fail
        refine HNW.out.mono ?_
        rintro e w5 ⟨hb5, hq5⟩
        have HB5 := hide hb5
        have HBY5 : Hid (Below Y.heap.size Y w5) := hide (HBG.out.trans (hb5.mono HBG.out.size))
        have HRN := hide (refNewF_any (w0 := Y) (tm := tm) HV.out HBY5.out HFI.out (Nat.le_trans HFEW.out (by decide)))
        rw [HRE.out] at HRN
        clear hb5 y0 y1 y2 HNW
        have hky := HKY.out w5 HBY5.out
        obtain ⟨⟨y0, y1, y2⟩, _⟩ := hky
        cases r
        · rw [if_neg (by simp)] at hq5
          subst hq5
          go_wp2_with fail
          refine HRN.out.mono ?_
          rintro e w6 ⟨hb6, hq6⟩
          rw [if_neg (by simp)] at hq6
          subst hq6
          have HBW6 : Hid (Below w.heap.size w w6) := hide (HBW.out.trans ((HBY5.out.trans (hb6.mono HBY5.out.size)).mono HBW.out.size))
          clear hb6
          go_wp2_with fail
          refine (HAW.out _).mono ?_
          rintro e wz ⟨rfl, hbz⟩
          have HBZ := hide (HBW6.out.trans (hbz.mono HBW6.out.size))
          clear hbz
          go_wp2
          go_ret
          exact ⟨rfl, HBZ.out⟩
        · rw [if_pos rfl] at hq5
          obtain ⟨gl, rfl, hl5⟩ := hq5
          have HL5 := hide hl5
          clear hl5
          go_wp2_with fail
          refine HRN.out.mono ?_
          rintro e w6 ⟨hb6, hq6⟩
          rw [if_pos rfl] at hq6
          obtain ⟨gx, rfl, hx6⟩ := hq6
          have HX6 := hide hx6
          have HB56 := hide hb6
          have HL6 := hide (HL5.out.below hb6)
          have HBY6 : Hid (Below Y.heap.size Y w6) := hide (HBY5.out.trans (hb6.mono HBY5.out.size))
          have HO6 := hide ((HOG.out.below HB5.out).below hb6)
          clear hb6 hx6 y0 y1 y2 HRN
          obtain ⟨E2, hEl, hM0, hNl, hU⟩ := Mut.of2 HOG.out (Nat.le_of_eq HBY.out)
          have HM6 := hide ((hM0.below HB5.out).below (HB56.out))
          have HEL := hide hEl
          have HNL := hide hNl
          have HU := hide hU
          have HUB : Hid (b < Wg.heap.size ∧ Y.heap.size ≤ b) := hide ⟨by
            obtain ⟨E9, hE9, _⟩ := HOG.out
            exact (hE9.lt b rfl).2, Nat.le_of_eq HBY.out⟩
          clear hEl hM0 hNl hU HO6
          go_wp2_with fail
          go_loopw [12, 13, 82, 91] (fun _ _ i _ wr => ∃ k : Nat, k ≤ L.length ∧ i = .int .i64 k ∧ Hid (Mut Y.heap.size wr b E2 ∧ Chg w6 wr (fun k => Y.heap.size ≤ k ∧ k < Wg.heap.size))) (fun _ _ i _ _ => L.length - (intOf i).toNat)
          case atStart => exact ⟨0, by omega, rfl, hide ⟨HM6.out, Chg.refl _ _⟩⟩
          case round =>
            obtain ⟨k, hk, rfl, HR⟩ := hrel
            by_cases hlt : k < L.length
            · obtain ⟨e, he⟩ : ∃ e, E2[k]? = some e := ⟨_, List.getElem?_eq_getElem (by rw [HEL.out]; exact hlt)⟩
              have HEK := hide he
              obtain ⟨_, _, _, x2, _, hdt⟩ := HR.out.1.2 k e he
              have HDT := hide hdt
              have hdtl : (e.n : Int) ≤ 9223372036854775807 := HNL.out k e he
              obtain ⟨ei, et, ep, en, ec⟩ := e
              dsimp only at x2 hdtl
              have j0 : (0 : Int) ≤ (k : Int) := by omega
              have j1 : (k : Int) < (L.length : Int) := by omega
              clear he hdt
              by_cases hen : en = 0
              · subst hen
                go_wp2_with fail
                go_loopw [13, 91] (fun _ i wi => i = .int .i64 0 ∧ Hid (wi = wr)) (fun _ _ _ => 0)
                case atStart => exact ⟨rfl, hide rfl⟩
                case round =>
                  obtain ⟨rfl, HR3⟩ := hrel
                  have hw := HR3.out
                  have HR2 := HR
                  subst hw
                  obtain ⟨⟨t1, x1⟩, xf, _, x2, _, _⟩ := HR2.out.1.2 k _ HEK.out
                  have HT := hide (HR2.out.1.set (g := b) (j := k * 3) (u := .int .i64 (-7)) (.inr ⟨t1, -7, x1, rfl, rfl, by omega⟩))
                  have HTB := hide (HR2.out.2.set (g := b) (i := k * 3) (.int .i64 (-7)) (.inl ⟨HUB.out.2, HUB.out.1⟩))
                  go_wp2
                  go_roundw
                  case rel => exact ⟨k + 1, by omega, by go_num, hide ⟨HT.out, HTB.out⟩⟩
                  case measure => simp [intOf]; omega
              · obtain ⟨gb, hgb, hne, hB2, _, _⟩ := HDT.out 0 (by simp only; omega)
                dsimp only at hgb
                subst hgb
                have HNE := hide hne
                have HGB : Hid (Y.heap.size ≤ gb ∧ gb < Wg.heap.size) := hide ⟨hB2, HU.out k _ gb HEK.out rfl (by simp only; omega)⟩
                clear hne hen hB2
                go_wp2_with fail
                go_loopw [13, 91] (fun _ i wi => ∃ j : Nat, j ≤ en ∧ i = .int .i64 j ∧ Hid (Mut Y.heap.size wi b E2 ∧ Chg w6 wi (fun k => Y.heap.size ≤ k ∧ k < Wg.heap.size))) (fun _ i _ => en - (intOf i).toNat)
                case atStart => exact ⟨0, by omega, rfl, HR⟩
                case round =>
                  obtain ⟨j, hj, rfl, HR2⟩ := hrel
                  by_cases hjl : j < en
                  · obtain ⟨_, _, _, x2, _, hdt⟩ := HR2.out.1.2 k _ HEK.out
                    obtain ⟨gb2, hgb2, _, hB2, ⟨z, hz⟩, hfz⟩ := hdt j hjl
                    dsimp only at hgb2 x2
                    injection hgb2 with hgb2
                    injection hgb2 with hgb2 _
                    subst hgb2
                    have HZ := hide (fun z' => HR2.out.1.set (g := gb) (j := j) (u := .int .u8 z') (.inl ⟨z, z', hz, rfl, HNE.out⟩))
                    have HZB := hide (fun z' => HR2.out.2.set (g := gb) (i := j) (.int .u8 z') (.inl HGB.out))
                    have i0 : (0 : Int) ≤ (j : Int) := by omega
                    have i1 : (j : Int) < (en : Int) := by omega
                    clear hdt hB2
                    go_wp2
                    go_roundw
                    case rel => exact ⟨j + 1, by omega, by go_num, hide ⟨HZ.out _, HZB.out _⟩⟩
                    case measure => simp [intOf]; omega
                  · clear x2
                    obtain ⟨⟨t1, x1⟩, xf, _, x2, _, _⟩ := HR2.out.1.2 k _ HEK.out
                    have HT := hide (HR2.out.1.set (g := b) (j := k * 3) (u := .int .i64 (-7)) (.inr ⟨t1, -7, x1, rfl, rfl, by omega⟩))
                    have HTB := hide (HR2.out.2.set (g := b) (i := k * 3) (.int .i64 (-7)) (.inl ⟨HUB.out.2, HUB.out.1⟩))
                    go_wp2
                    go_roundw
                    case rel => exact ⟨k + 1, by omega, by go_num, hide ⟨HT.out, HTB.out⟩⟩
                    case measure => simp [intOf]; omega
            · have HB7 : Hid (Below Y.heap.size Y wr) := hide (Chg.to_below HBY6.out HR.out.2 fun k hk => hk.1)
              have HL7 : Hid (LgOwn Wg.heap.size wr gl ⟨ix, tm, L⟩) := hide (HL6.out.window HR.out.2.size fun k h1 h2 => HR.out.2.block k h2 fun h3 => by omega)
              have HX7 : Hid (RgOwn Y w5.heap.size wr gx ⟨ix, tm, L⟩) := hide (HX6.out.window fun k h1 h2 => HR.out.2.block k h2 fun h3 => by have := HB5.out.size; omega)
              have HCL := hide (cloneL_any HL7.out.is (Nat.le_trans HFEW.out (by decide)))
              have HLM : Hid (Lm.length ≤ 200) := hide (lightL_few HQ.out (l := Lm) (by simp))
              go_wp2_with fail
              refine HCL.out.mono ?_
              rintro e w8 ⟨⟨gc, rfl, hc8⟩, hb8⟩
              have HB78 : Hid (Below wr.heap.size wr w8) := hide hb8
              have HBY8 : Hid (Below Y.heap.size Y w8) := hide (HB7.out.trans (hb8.mono HB7.out.size))
              have HC8 := hide hc8
              have HAD := hide (addF_any hc8 (HVm.out.below HBY8.out) (by have h1 := HFEW.out; have h2 := HLM.out; dsimp only; omega) hb8.size)
              obtain ⟨⟨_, _, _⟩, y3, y4, y5, y6⟩ := HKY.out w8 HBY8.out
              clear hc8 hb8
              go_wp2_with fail
              refine HAD.out.mono ?_
              rintro e w9 ⟨rfl, hc9, hf9⟩
              have HB9 : Hid (Below wr.heap.size wr w9) := hide (HB78.out.trans (HC8.out.fr_below hf9))
              have HBY9 : Hid (Below Y.heap.size Y w9) := hide (HB7.out.trans (HB9.out.mono HB7.out.size))
              have HC9 := hide hc9
              have HCU := hide (cutF_any hc9 nn HB9.out.size)
              clear hc9 hf9 y3 y4 y5 y6
              obtain ⟨⟨_, _, _⟩, y3, y4, y5, y6⟩ := HKY.out w9 HBY9.out
              go_wp2_with fail
              refine HCU.out.mono ?_
              rintro e w10 ⟨rfl, hc10, hf10⟩
              have HB10 : Hid (Below wr.heap.size wr w10) := hide (HB9.out.trans (HC9.out.fr_below hf10))
              have HBY10 : Hid (Below Y.heap.size Y w10) := hide (HB7.out.trans (HB10.out.mono HB7.out.size))
              have HC10 := hide hc10
              have HRB := hide (rebF_any hc10 nn tt HB10.out.size)
              clear hc10 hf10 y3 y4 y5 y6
              obtain ⟨⟨_, _, _⟩, y3, y4, y5, y6⟩ := HKY.out w10 HBY10.out
              go_wp2_with fail
              refine HRB.out.mono ?_
              rintro e w11 ⟨rfl, hc11, hf11⟩
              have HB11 : Hid (Below wr.heap.size wr w11) := hide (HB10.out.trans (HC10.out.fr_below hf11))
              have HBY11 : Hid (Below Y.heap.size Y w11) := hide (HB7.out.trans (HB11.out.mono HB7.out.size))
              have HTE := hide (tells_any (HL7.out.below HB11.out).is ((HX7.out.below HB11.out).is HBY11.out) (Nat.le_trans HFEW.out (by decide)))
              clear hc11 hf11 y3 y4 y5 y6
              go_wp2_with fail
              refine HTE.out.mono ?_
              rintro e w12 ⟨rfl, hb12⟩
              have HB12 : Hid (Below w.heap.size w w12) := hide (HBW.out.trans ((HBY11.out.trans (hb12.mono HBY11.out.size)).mono HBW.out.size))
              clear hb12
              go_wp2_with fail
              refine (HAW.out _).mono ?_
              rintro e wz ⟨rfl, hbz⟩
              have HBZ := hide (HB12.out.trans (hbz.mono HB12.out.size))
              clear hbz
              go_wp2
              go_ret
              exact ⟨rfl, HBZ.out⟩
end Go.Proofs.Ytmalhdiholblgaa
