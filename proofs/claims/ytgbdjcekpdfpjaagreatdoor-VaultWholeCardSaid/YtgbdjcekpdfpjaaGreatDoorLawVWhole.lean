/- VaultWhole: the law. -/
import Derived.Test.YtgbdjcekpdfpjaaGreatDoorVWh
import Derived.Deep.RegionHeld3
namespace Go.Proofs.YtgbdjcekpdfpjaaGreatDoor
set_option linter.unusedVariables false
set_option linter.unusedSimpArgs false
open Go.RowKit

theorem daN_in : ∀ {D : List Ddo} {j : Nat} {d : Ddo}, D[j]? = some d → d.sd.length ≤ daN D
  | a :: r, 0, d, h => by simp at h; subst h; simp [daN]
  | a :: r, j + 1, d, h => by
    have := daN_in (D := r) (j := j) (by simpa using h)
    simp [daN] at this ⊢
    omega
theorem sn_few {d : Ddo} (h : d.sd.length ≤ 65536) : d.sn.da.length ≤ 70000 := by
  show (d.sd ++ List.replicate d.zs 0).length ≤ 70000
  have h2 : d.zs < 3000 := Nat.mod_lt _ (by omega)
  simp
  omega
set_option maxRecDepth 200000 in
set_option maxHeartbeats 40000000 in
theorem lawVWhole_any {w : World} (ht : Tab w) {v : Value} {D : List Ddo} (h : Ddos w v D) (hz : ∀ (k : Nat) d, D[k]? = some d → d.sv.length * 8 ≤ 140737488351232) (hlen : (D.length + 1) * 104 ≤ 140737488355328) {d : Ddo} (hd : DdoIn w d) (hdz : d.sv.length * 8 ≤ 140737488351232) :
    Calls Tryz.prog 6 #[v, .agg (doC d).toArray] w fun e w' => e = .returned (.bool true) ∧ Below w.heap.size w w' := by
  obtain ⟨CC, hCC⟩ : ∃ CC : Array Value, CC = #[.int .i64 d.op, .int .i64 d.six, .int .i64 d.stm, .slice d.psv d.nsv d.dsv, .slice d.psd d.nsd d.dsd, .int .i64 d.size, .int .i64 d.n, .int .i64 d.keep, .int .i64 d.tear] := ⟨_, rfl⟩
  have hdc : (doC d).toArray = CC := hCC.symm
  obtain ⟨X, hX⟩ : ∃ X, (w.alloc (.cells CC 44)).alloc (.cells CC 44) = X := ⟨_, rfl⟩
  have hX9 : (w.alloc (.cells #[.int .i64 d.op, .int .i64 d.six, .int .i64 d.stm, .slice d.psv d.nsv d.dsv, .slice d.psd d.nsd d.dsd, .int .i64 d.size, .int .i64 d.n, .int .i64 d.keep, .int .i64 d.tear] 44)).alloc (.cells #[.int .i64 d.op, .int .i64 d.six, .int .i64 d.stm, .slice d.psv d.nsv d.dsv, .slice d.psd d.nsd d.dsd, .int .i64 d.size, .int .i64 d.n, .int .i64 d.keep, .int .i64 d.tear] 44) = X := by rw [← hX, hCC]
  have hbX : Below w.heap.size w X := by rw [← hX]; exact balloc (balloc (Below.refl _ _) _) _
  have hsX : X.heap.size = w.heap.size + 2 := by rw [← hX]; simp
  have hr0 : X.heap[w.heap.size]? = some (.cells CC 44 (0, 0)) := by
    rw [← hX, heap_alloc_old _ _ (by simp)]
    exact Array.getElem?_push_size
  have hr1 : X.heap[w.heap.size + 1]? = some (.cells CC 44 (0, 0)) := by
    rw [← hX]
    have := World.alloc_heap_new (w.alloc (.cells CC 44)) (.cells CC 44)
    simpa using this
  have hcl : CC.toList = doC d := by rw [← hdc]
  have hrow : X.ownsRow w.heap.size 44 9 (.slice (some ⟨w.heap.size + 1, 0, none⟩) 1 1) 1 (doC d) :=
    ⟨rfl, .inr ⟨w.heap.size + 1, 1, CC, rfl, by omega, hr1, Nat.le_refl _, by unfold maxLen; omega, by rw [← hdc]; rfl, by rw [hcl]; rfl⟩⟩
  obtain ⟨p1, n1, c1, w1, happ, hdos, hb1, hc1⟩ := dos_append hbX hrow hd h hlen
  have hk1 : w1.heap[w.heap.size]? = some (.cells #[.int .i64 d.op, .int .i64 d.six, .int .i64 d.stm, .slice d.psv d.nsv d.dsv, .slice d.psd d.nsd d.dsd, .int .i64 d.size, .int .i64 d.n, .int .i64 d.keep, .int .i64 d.tear] 44 (0, 0)) := by rw [← hCC]; exact (hc1.block w.heap.size (by omega) (by omega)).trans hr0
  obtain ⟨p, c, rfl, hcc1, hcc2, hat⟩ := h
  obtain ⟨len, hln⟩ : ∃ len, D.length = len := ⟨_, rfl⟩
  rw [hln] at hcc1 happ ⊢
  unfold maxLen at hcc2
  have HSH := hide (vshort_any hdos)
  have HB1 := hide hb1
  have HK1 := hide hk1
  have HAT := hide hat
  have HZ := hide hz
  have HL := hide hln
  have HT := hide ht
  have HIN := hide hd
  have HDZ := hide hdz
  have HCC := hide hCC
  have HFR := hide (show ∀ x ∈ d.sn.vo, Go.Proofs.YtgbdjcekpdfpjaaGreatDoor.fits x from hd.h1.fits)
  have HFI := hide (show Go.Proofs.YtgbdjcekpdfpjaaGreatDoor.fits d.n ∧ Go.Proofs.YtgbdjcekpdfpjaaGreatDoor.fits d.keep ∧ Go.Proofs.YtgbdjcekpdfpjaaGreatDoor.fits d.tear from ⟨hd.h6, hd.h7, hd.h8⟩)
  have HAW := hide (fun (W : World) (hb : Below w.heap.size w W) => vawake_any (ht.below hb ht.lt))
  clear hX hbX hsX hr0 hr1 hrow hcl hdos hb1 hc1 hk1 hat hz hlen hln hd hdz ht
  unfold doC at hdc ⊢
  rw [hdc, HCC.out]
  clear hdc hCC
  go_enter Tryz.func6, Tryz.ntmps6
  go_wp2_with (at_builtin; refine Lib.wpList_append_run_sl _ rfl _ _ 22 rfl _ _ rfl rfl happ ?_)
  clear happ hX9
  refine HSH.out.mono ?_
  rintro e w2 ⟨bs, rfl, hb2, hs⟩
  have HB2 := hide (HB1.out.trans (hb2.mono HB1.out.size))
  have HK2 := hide ((hb2.block w.heap.size (Array.getElem?_eq_some_iff.1 HK1.out).1).trans HK1.out)
  have HS := hide hs
  clear hb2 hs HSH
  cases bs
  · go_wp2_with (go_at_call 12; refine (HAW.out _ HB2.out).mono ?_; rintro e wz ⟨rfl, hbz⟩)
    go_ret
    exact ⟨rfl, HB2.out.trans (hbz.mono HB2.out.size)⟩
  have hs2 := HS.out rfl
  have HS2 := hide (show len ≤ 39 ∧ d.sd.length ≤ 65536 ∧ daN D ≤ 65536 from by
    have h1 := hs2.1
    have h2 := hs2.2
    rw [List.length_cons] at h1
    simp [daN] at h2 ⊢
    have := HL.out
    omega)
  have HT2 := hide (HT.out.below HB2.out HT.out.lt)
  have HBG := hide (begun_any HT2.out (r := 16777216) (by omega))
  obtain ⟨kk, hkk⟩ : ∃ kk, d.sn = kk := ⟨_, rfl⟩
  have HSN := hide (show ∀ W : World, Below w2.heap.size w2 W → Calls Tryz.prog 21 #[.agg #[.int .i64 d.op, .int .i64 d.six, .int .i64 d.stm, .slice d.psv d.nsv d.dsv, .slice d.psd d.nsd d.dsd, .int .i64 d.size, .int .i64 d.n, .int .i64 d.keep, .int .i64 d.tear]] W (OwP W kk) from fun W hW => hkk ▸ vsnap_any (HIN.out.below (HB2.out.trans (hW.mono HB2.out.size))) (by have := HDZ.out; omega) (by have := HS2.out.2.1; omega))
  have HDN := hide (show kk.da.length ≤ 70000 from hkk ▸ sn_few HS2.out.2.1)
  rw [hkk] at HFR
  have HKW := hide (fun (W : World) (hW : Below w2.heap.size w2 W) => (show W.heap[w.heap.size]? = some (.cells #[.int .i64 d.op, .int .i64 d.six, .int .i64 d.stm, .slice d.psv d.nsv d.dsv, .slice d.psd d.nsd d.dsd, .int .i64 d.size, .int .i64 d.n, .int .i64 d.keep, .int .i64 d.tear] 44 (0, 0)) from (hW.block w.heap.size (Array.getElem?_eq_some_iff.1 HK2.out).1).trans HK2.out))
  clear hs2 hkk HS
  go_wp2_with fail
  refine HBG.out.mono ?_
  rintro e w4 ⟨dd, b, rfl, hv4⟩
  have HW0 : Hid (WhS w2 w4 b dd sn0 (Dk.new 16777216) 0) := hide ⟨hv4, rest_new (by omega), by simp [Dk.new, Dk.used, total, sizes], by simp [Dk.new], rfl, Dk.Fine.new (r := 16777216) (by omega)⟩
  clear hv4 HBG
  go_wp2_with fail
  go_loopw [9, 32] (fun _ i wr => ∃ j : Nat, j ≤ len ∧ i = .int .i64 j ∧ Hid (∃ S st, WhS w2 wr b dd S st j)) (fun _ i _ => len - (intOf i).toNat)
  case atStart => exact ⟨0, Nat.zero_le _, rfl, hide ⟨_, _, HW0.out⟩⟩
  case round =>
    obtain ⟨j, hj, rfl, hrel⟩ := hrel
    obtain ⟨S, st, hN⟩ := hrel.out
    have HN := hide hN
    clear hN hrel HW0
    by_cases hjn : (j : Int) < (len : Int)
    · obtain ⟨x, hx⟩ : ∃ x, D[j]? = some x := ⟨_, List.getElem?_eq_getElem (by have := HL.out; omega)⟩
      obtain ⟨gl, o, rfl, hin, hcell⟩ := HAT.out j x hx
      obtain ⟨oo, hoo⟩ : ∃ oo, o + j * 9 = oo := ⟨_, rfl⟩
      rw [hoo] at hcell
      have hbw := HB2.out.trans (HN.out.vlt.below.mono HB2.out.size)
      have e0 : wr.cell? ⟨gl, oo, none⟩ = some (.int .i64 x.op) := (hbw.cell (lt_of_cell (hcell 0 _ rfl))).trans (hcell 0 _ rfl)
      have e1 : wr.cell? ⟨gl, oo + 1, none⟩ = some (.int .i64 x.six) := (hbw.cell (lt_of_cell (hcell 1 _ rfl))).trans (hcell 1 _ rfl)
      have e2 : wr.cell? ⟨gl, oo + 2, none⟩ = some (.int .i64 x.stm) := (hbw.cell (lt_of_cell (hcell 2 _ rfl))).trans (hcell 2 _ rfl)
      have e3 : wr.cell? ⟨gl, oo + 3, none⟩ = some (.slice x.psv x.nsv x.dsv) := (hbw.cell (lt_of_cell (hcell 3 _ rfl))).trans (hcell 3 _ rfl)
      have e4 : wr.cell? ⟨gl, oo + 4, none⟩ = some (.slice x.psd x.nsd x.dsd) := (hbw.cell (lt_of_cell (hcell 4 _ rfl))).trans (hcell 4 _ rfl)
      have e5 : wr.cell? ⟨gl, oo + 5, none⟩ = some (.int .i64 x.size) := (hbw.cell (lt_of_cell (hcell 5 _ rfl))).trans (hcell 5 _ rfl)
      have e6 : wr.cell? ⟨gl, oo + 6, none⟩ = some (.int .i64 x.n) := (hbw.cell (lt_of_cell (hcell 6 _ rfl))).trans (hcell 6 _ rfl)
      have e7 : wr.cell? ⟨gl, oo + 7, none⟩ = some (.int .i64 x.keep) := (hbw.cell (lt_of_cell (hcell 7 _ rfl))).trans (hcell 7 _ rfl)
      have e8 : wr.cell? ⟨gl, oo + 8, none⟩ = some (.int .i64 x.tear) := (hbw.cell (lt_of_cell (hcell 8 _ rfl))).trans (hcell 8 _ rfl)
      obtain ⟨W5, hW5⟩ : ∃ W5, wr.alloc (.cells #[.int .i64 x.op, .int .i64 x.six, .int .i64 x.stm, .slice x.psv x.nsv x.dsv, .slice x.psd x.nsd x.dsd, .int .i64 x.size, .int .i64 x.n, .int .i64 x.keep, .int .i64 x.tear] 44) = W5 := ⟨_, rfl⟩
      have hb5 : Below wr.heap.size wr W5 := by rw [← hW5]; exact balloc (Below.refl _ _) _
      have hr5 : W5.heap[wr.heap.size]? = some (.cells #[.int .i64 x.op, .int .i64 x.six, .int .i64 x.stm, .slice x.psv x.nsv x.dsv, .slice x.psd x.nsd x.dsd, .int .i64 x.size, .int .i64 x.n, .int .i64 x.keep, .int .i64 x.tear] 44 (0, 0)) := by rw [← hW5]; exact Array.getElem?_push_size
      have b0 : W5.cell? ⟨wr.heap.size, 0, none⟩ = some (.int .i64 x.op) := by rw [cell_of_row W5 _ 0 _ _ (0, 0) hr5]; rfl
      have b1 : W5.cell? ⟨wr.heap.size, 1, none⟩ = some (.int .i64 x.six) := by rw [cell_of_row W5 _ 1 _ _ (0, 0) hr5]; rfl
      have b2 : W5.cell? ⟨wr.heap.size, 2, none⟩ = some (.int .i64 x.stm) := by rw [cell_of_row W5 _ 2 _ _ (0, 0) hr5]; rfl
      have b3 : W5.cell? ⟨wr.heap.size, 3, none⟩ = some (.slice x.psv x.nsv x.dsv) := by rw [cell_of_row W5 _ 3 _ _ (0, 0) hr5]; rfl
      have b4 : W5.cell? ⟨wr.heap.size, 4, none⟩ = some (.slice x.psd x.nsd x.dsd) := by rw [cell_of_row W5 _ 4 _ _ (0, 0) hr5]; rfl
      have b5 : W5.cell? ⟨wr.heap.size, 5, none⟩ = some (.int .i64 x.size) := by rw [cell_of_row W5 _ 5 _ _ (0, 0) hr5]; rfl
      have b6 : W5.cell? ⟨wr.heap.size, 6, none⟩ = some (.int .i64 x.n) := by rw [cell_of_row W5 _ 6 _ _ (0, 0) hr5]; rfl
      have b7 : W5.cell? ⟨wr.heap.size, 7, none⟩ = some (.int .i64 x.keep) := by rw [cell_of_row W5 _ 7 _ _ (0, 0) hr5]; rfl
      have b8 : W5.cell? ⟨wr.heap.size, 8, none⟩ = some (.int .i64 x.tear) := by rw [cell_of_row W5 _ 8 _ _ (0, 0) hr5]; rfl
      have HSX := hide (show Calls Tryz.prog 21 #[.agg #[.int .i64 x.op, .int .i64 x.six, .int .i64 x.stm, .slice x.psv x.nsv x.dsv, .slice x.psd x.nsd x.dsd, .int .i64 x.size, .int .i64 x.n, .int .i64 x.keep, .int .i64 x.tear]] W5 (OwP W5 x.sn) from vsnap_any (hin.below (hbw.trans (hb5.mono hbw.size))) (by have := HZ.out j x hx; omega) (by have := daN_in hx; have := HS2.out.2.2; omega))
      have HXD := hide (show x.sn.da.length ≤ 70000 from sn_few (by have := daN_in hx; have := HS2.out.2.2; omega))
      have HXF := hide (show ∀ y ∈ x.sn.vo, Go.Proofs.YtgbdjcekpdfpjaaGreatDoor.fits y from hin.h1.fits)
      have HB5 := hide hb5
      clear hin hcell hx hbw hb5 hr5
      go_wp2_with fail
      clear e0 e1 e2 e3 e4 e5 e6 e7 e8 hoo hW5 b0 b1 b2 b3 b4 b5 b6 b7 b8
      refine HSX.out.mono ?_
      rintro e w6 ⟨v6, rfl, ho6, hb6⟩
      have HSV := hide (wh_save (HN.out.at (Chg.of_below (HB5.out.trans (hb6.mono HB5.out.size)) _)) ho6.snv HT2.out (by have := HS2.out.1; omega) HXF.out HXD.out)
      clear ho6 hb6
      go_wp2_with fail
      refine HSV.out.mono ?_
      rintro e w7 ⟨c7, S7, st7, rfl, hn7⟩
      have HN7 := hide hn7
      clear hn7 HSV
      go_wp2_with fail
      go_roundw
      case rel => exact ⟨j + 1, by omega, by go_num, hide ⟨_, _, HN7.out⟩⟩
      case measure => simp [intOf]; omega
    · have hjl : j ≤ 39 := by have := HS2.out.1; omega
      obtain ⟨y, hsy, hyd, hyl, hya, hyr, hyu, hyf⟩ := wh_sync HN.out.rest HN.out.room HN.out.fine
      have HG := hide HN.out.rest.good
      have HY := hide (And.intro hyd (And.intro hyl (And.intro hya (And.intro hyr (And.intro hyu hyf)))))
      have HSY := hide hsy
      obtain ⟨S1, C1, hdi, hbk⟩ := HN.out.vlt.disk
      have hcal := HN.out.fine.calm (by omega)
      have HCS := hide ((sync_call hdi hcal.k1 hcal.k2 hcal.t1 hcal.t2).mono fun e w' hp => (show e = .returned (.int .i64 (0 : Nat)) ∧ Vo w2 w' (fun _ => False) b dd S y from by
        have h1 := hp.1
        have h2 := (hbk _ _ hp.2).1
        rw [HSY.out] at h1 h2
        exact ⟨h1, h2⟩))
      have ez : (((0 : Nat) : Int) != 0) = false := rfl
      clear hsy hyd hyl hya hyr hyu hyf hdi hbk hcal hjl
      go_wp2_with fail
      refine HCS.out.mono ?_
      rintro e w5 ⟨rfl, hv5⟩
      have HV5 := hide hv5
      clear hv5 HCS
      go_wp2_with fail
      obtain ⟨voA, daA, hvt⟩ := HV5.out.vt
      refine (vlast_all hvt HG.out).mono ?_
      rintro e wL ⟨vL, dL, rfl, ho1, ho2, f0, f1, hbL⟩
      obtain ⟨pv, nv, cv, rfl⟩ := ho1.ns.sl
      obtain ⟨pd, nd, cd, rfl⟩ := ho2.by_.sl
      obtain ⟨hb, hhb⟩ : ∃ hb, decide (0 < S.ix) = hb := ⟨_, rfl⟩
      rw [hhb]
      obtain ⟨W6, hW6⟩ : ∃ W6, wL.alloc (.cells #[.int .i64 S.ix, .int .i64 S.tm, .slice pv nv cv, .slice pd nd cd] 42) = W6 := ⟨_, rfl⟩
      have hb6 : Below wL.heap.size wL W6 := by rw [← hW6]; exact balloc (Below.refl _ _) _
      have hr6 : W6.heap[wL.heap.size]? = some (.cells #[.int .i64 S.ix, .int .i64 S.tm, .slice pv nv cv, .slice pd nd cd] 42 (0, 0)) := by rw [← hW6]; exact Array.getElem?_push_size
      obtain ⟨K, hK⟩ : ∃ K : Nat → Prop, (fun i => False ∨ (w5.heap.size ≤ i ∧ i < W6.heap.size)) = K := ⟨_, rfl⟩
      have hw6 : Was W6 K wL.heap.size S (.slice pv nv cv) (.slice pd nd cd) := Was.made (w0 := w5) ho1 ho2 f0 f1 hb6 hr6 (fun i h1 h2 => by rw [← hK]; exact .inr ⟨h1, h2⟩) hbL.size
      have hv6 := HV5.out.new (Chg.of_below (hbL.trans (hb6.mono hbL.size)) _) (N := fun i => w5.heap.size ≤ i ∧ i < W6.heap.size) fun i hi => hi
      rw [hK] at hv6
      have HV6 := hide hv6
      have HW6 := hide hw6
      have HHB := hide hhb
      have hk6 := HKW.out W6 hv6.below
      clear hvt ho1 ho2 f0 f1 hbL hb6 hr6 hK hw6 hv6 hhb HV5
      have k6 : W6.cell? ⟨w.heap.size, 6, none⟩ = some (.int .i64 d.n) := by rw [cell_of_row W6 _ 6 _ _ (0, 0) hk6]; rfl
      have k7 : W6.cell? ⟨w.heap.size, 7, none⟩ = some (.int .i64 d.keep) := by rw [cell_of_row W6 _ 7 _ _ (0, 0) hk6]; rfl
      have k8 : W6.cell? ⟨w.heap.size, 8, none⟩ = some (.int .i64 d.tear) := by rw [cell_of_row W6 _ 8 _ _ (0, 0) hk6]; rfl
      obtain ⟨z, q, m, e5, e6, e7, e8, e9, e10, hm1, hm2⟩ := wh_num d.n
      have hf1 := fit_parts HFI.out.2.1
      have hf2 := fit_parts HFI.out.2.2
      obtain ⟨y2, hay, hzd, hzl, hza, hzr, hzu⟩ := wh_arm HY.out.1 (m : Int) d.keep d.tear
      have hzf := HY.out.2.2.2.2.2.arm (k := (m : Int)) (keep := d.keep) (tear := d.tear) hm1 hf1.1 hf1.2 hf2.1 hf2.2
      rw [hay] at hzf
      obtain ⟨S1, C1, hdi, hbk⟩ := HV6.out.disk
      have HAR := hide ((arm_call hdi (n := (m : Int)) (keep := d.keep) (tear := d.tear) hm1 hm2).mono fun e w' hp => (show e = .returned (.int .i64 (0 : Nat)) ∧ Vo w2 w' K b dd S y2 ∧ Was w' K wL.heap.size S (.slice pv nv cv) (.slice pd nd cd) from by
        have h1 := hp.1
        have h2 := hbk _ _ hp.2
        rw [hay] at h1 h2
        exact ⟨h1, h2.1, HW6.out.chg h2.2 fun i hi => hi.1⟩))
      have HZ2 := hide (And.intro hzd (And.intro (hzl.trans HY.out.2.1) (And.intro (hza.trans HY.out.2.2.1) (And.intro (hzr.trans HY.out.2.2.2.1) (And.intro (hzu ▸ HY.out.2.2.2.2.1) hzf)))))
      clear hk6 hm1 hm2 hf1 hf2 hay hzd hzl hza hzr hzu hzf hdi hbk
      go_wp2_with fail
      clear hW6 k6 k7 k8 e5 e6 e7 e8 e9 e10
      refine HAR.out.mono ?_
      rintro e w7 ⟨rfl, hv7, hw7⟩
      have HV7 := hide hv7
      have HW7 := hide hw7
      have hk7 := HKW.out w7 hv7.below
      clear hv7 hw7 HAR HV6 HW6
      have b0 : w7.cell? ⟨w.heap.size, 0, none⟩ = some (.int .i64 d.op) := by rw [cell_of_row w7 _ 0 _ _ (0, 0) hk7]; rfl
      have b1 : w7.cell? ⟨w.heap.size, 1, none⟩ = some (.int .i64 d.six) := by rw [cell_of_row w7 _ 1 _ _ (0, 0) hk7]; rfl
      have b2 : w7.cell? ⟨w.heap.size, 2, none⟩ = some (.int .i64 d.stm) := by rw [cell_of_row w7 _ 2 _ _ (0, 0) hk7]; rfl
      have b3 : w7.cell? ⟨w.heap.size, 3, none⟩ = some (.slice d.psv d.nsv d.dsv) := by rw [cell_of_row w7 _ 3 _ _ (0, 0) hk7]; rfl
      have b4 : w7.cell? ⟨w.heap.size, 4, none⟩ = some (.slice d.psd d.nsd d.dsd) := by rw [cell_of_row w7 _ 4 _ _ (0, 0) hk7]; rfl
      have b5 : w7.cell? ⟨w.heap.size, 5, none⟩ = some (.int .i64 d.size) := by rw [cell_of_row w7 _ 5 _ _ (0, 0) hk7]; rfl
      have b6 : w7.cell? ⟨w.heap.size, 6, none⟩ = some (.int .i64 d.n) := by rw [cell_of_row w7 _ 6 _ _ (0, 0) hk7]; rfl
      have b7 : w7.cell? ⟨w.heap.size, 7, none⟩ = some (.int .i64 d.keep) := by rw [cell_of_row w7 _ 7 _ _ (0, 0) hk7]; rfl
      have b8 : w7.cell? ⟨w.heap.size, 8, none⟩ = some (.int .i64 d.tear) := by rw [cell_of_row w7 _ 8 _ _ (0, 0) hk7]; rfl
      clear hk7
      go_wp2_with fail
      clear b0 b1 b2 b3 b4 b5 b6 b7 b8
      refine (HSN.out w7 HV7.out.below).mono ?_
      rintro e w8 ⟨v8, rfl, ho8, hb8⟩
      have hv8 := HV7.out.at (Chg.of_below hb8 _)
      have hw8 := HW7.out.below hb8
      obtain ⟨z2d, z2l, z2a, z2r, z2u, z2f⟩ := HZ2.out
      obtain ⟨cc, s', y3, hs3, hq3, hf3, hcs⟩ := whole_found (k := kk) HG.out z2d z2l z2a z2f (by have := few_recs HDN.out; omega) (fun hc => by have := few_bytes hc HFR.out HDN.out; omega) (V := 400000) (by omega) (fun hc => by have := few_bytes hc HFR.out HDN.out; omega) d.keep d.tear
      have HSV := hide ((wh_save2 hv8 ho8.snv HT2.out HG.out z2f (by omega) HFR.out HDN.out).mono fun e w' hp => (show e = .returned (.int .i64 (cc : Nat)) ∧ Vo w2 w' K b dd s' y3 ∧ Was w' K wL.heap.size S (.slice pv nv cv) (.slice pd nd cd) from by
        obtain ⟨h1, h2, h3⟩ := hp
        rw [hs3] at h1 h2
        exact ⟨h1, h2, hw8.chg h3 fun i hi => hi.1⟩))
      have HQ3 := hide (And.intro hq3 (And.intro hf3 hcs))
      clear hv8 hw8 ho8 hb8 z2d z2l z2a z2r z2u z2f hs3 hq3 hf3 hcs HZ2 HV7 HW7
      go_wp2_with fail
      refine HSV.out.mono ?_
      rintro e w9 ⟨rfl, hv9, hw9⟩
      have HV9 := hide hv9
      have HW9 := hide hw9
      clear hv9 hw9 HSV
      obtain ⟨S1, C1, hdi, hbk⟩ := HV9.out.disk
      have HAR := hide ((arm_call hdi (n := 0) (keep := 0) (tear := 0) (by omega) (by omega)).mono fun e w' hp => (show (∃ c : Nat, e = .returned (.int .i64 (c : Nat))) ∧ Vo w2 w' K b dd s' (y3.arm 0 0 0).2 ∧ Was w' K wL.heap.size S (.slice pv nv cv) (.slice pd nd cd) from ⟨⟨_, hp.1⟩, (hbk _ _ hp.2).1, HW9.out.chg (hbk _ _ hp.2).2 fun i hi => hi.1⟩))
      clear hdi hbk
      go_wp2_with fail
      refine HAR.out.mono ?_
      rintro e w10 ⟨⟨c10, rfl⟩, hv10, hw10⟩
      obtain ⟨S1, C1, hdi, hbk⟩ := hv10.disk
      have HST := hide ((start_call hdi).mono fun e w' hp => (show (∃ c : Nat, e = .returned (.int .i64 (c : Nat))) ∧ Vo w2 w' K b dd s' (y3.arm 0 0 0).2.start ∧ Was w' K wL.heap.size S (.slice pv nv cv) (.slice pd nd cd) from ⟨⟨_, hp.1⟩, (hbk _ _ hp.2).1, hw10.chg (hbk _ _ hp.2).2 fun i hi => hi.1⟩))
      clear hdi hbk hv10 hw10 HAR HV9 HW9
      go_wp2_with fail
      refine HST.out.mono ?_
      rintro e w11 ⟨⟨c11, rfl⟩, hv11, hw11⟩
      have hk11 := HKW.out w11 hv11.below
      have k7 : w11.cell? ⟨w.heap.size, 7, none⟩ = some (.int .i64 d.keep) := by rw [cell_of_row w11 _ 7 _ _ (0, 0) hk11]; rfl
      have k8 : w11.cell? ⟨w.heap.size, 8, none⟩ = some (.int .i64 d.tear) := by rw [cell_of_row w11 _ 8 _ _ (0, 0) hk11]; rfl
      have hf1 := fit_parts HFI.out.2.1
      have hf2 := fit_parts HFI.out.2.2
      obtain ⟨S1, C1, hdi, hbk⟩ := hv11.disk
      have HCR := hide ((crash_call hdi (keep := d.keep) (tear := d.tear) hf1.1 hf1.2 hf2.1 hf2.2).mono fun e w' hp => (show (∃ c : Nat, e = .returned (.int .i64 (c : Nat))) ∧ Vo w2 w' K b dd s' ((y3.arm 0 0 0).2.start.crash d.keep d.tear).2 ∧ Was w' K wL.heap.size S (.slice pv nv cv) (.slice pd nd cd) from ⟨⟨_, hp.1⟩, (hbk _ _ hp.2).1, hw11.chg (hbk _ _ hp.2).2 fun i hi => hi.1⟩))
      clear hdi hbk hv11 hw11 HST hk11 hf1 hf2
      go_wp2_with fail
      clear k7 k8
      refine HCR.out.mono ?_
      rintro e w12 ⟨⟨c12, rfl⟩, hv12, hw12⟩
      obtain ⟨S1, C1, hdi, hbk⟩ := hv12.disk
      obtain ⟨y4, hy4⟩ : ∃ y4, y3.rise d.keep d.tear = y4 := ⟨_, rfl⟩
      rw [hy4] at HQ3
      have HST := hide ((start_call hdi).mono fun e w' hp => (show (∃ c : Nat, e = .returned (.int .i64 (c : Nat))) ∧ Vo w2 w' K b dd s' y4 ∧ Was w' K wL.heap.size S (.slice pv nv cv) (.slice pd nd cd) from ⟨⟨_, hp.1⟩, hy4 ▸ (hbk _ _ hp.2).1, hw12.chg (hbk _ _ hp.2).2 fun i hi => hi.1⟩))
      clear hdi hbk hv12 hw12 HCR hy4
      go_wp2_with fail
      refine HST.out.mono ?_
      rintro e w13 ⟨⟨c13, rfl⟩, hv13, hw13⟩
      obtain ⟨y5, ho5, _⟩ := openV_ok HQ3.out.1 HQ3.out.2.1.seen
      obtain ⟨fd, hfd⟩ : ∃ fd, y4.found = fd := ⟨_, rfl⟩
      have HCA := HQ3.out.2.2
      rw [hfd] at HCA
      have HOP := hide ((hv13.open HT2.out HQ3.out.2.1 (by have := few_recs HDN.out; omega) (by omega)).mono fun e w' hp => (show ∃ b9, e = .returned (.tuple #[.pointer (some ⟨b9, 0, none⟩), .int .i64 0]) ∧ Vo w2 w' K b9 dd fd y5 ∧ Was w' K wL.heap.size S (.slice pv nv cv) (.slice pd nd cd) from by
        unfold VnP at hp
        rw [ho5, hfd] at hp
        rcases hp with ⟨h1, _⟩ | ⟨_, b9, h1, h2, h3⟩
        · exact absurd rfl h1
        · exact ⟨b9, h1, h2, hw13.chg h3 fun i hi => hi.1⟩))
      have HGF := hide (show fd = sn0 ∨ fd.chk = 0 from by
        rcases HCA with ⟨_, h1, h2⟩ | ⟨_, h1 | ⟨h1, h2⟩⟩ | ⟨_, _, h1⟩
        · exact .inr (by rw [h2]; exact h1)
        · exact h1 ▸ HG.out
        · exact .inr (by rw [h1]; exact h2)
        · exact h1 ▸ HG.out)
      have HCB := hide HCA
      clear hv13 hw13 ho5 hfd HST HCA
      go_wp2_with fail
      refine HOP.out.mono ?_
      rintro e w14 ⟨b9, rfl, hv14, hw14⟩
      have HV14 := hide hv14
      have HW14 := hide hw14
      have e00 : ((0 : Int) != 0) = false := rfl
      clear hv14 hw14 HOP
      go_wp2_with fail
      obtain ⟨voB, daB, hvt⟩ := HV14.out.vt
      refine (vlast_all hvt HGF.out).mono ?_
      rintro e wN ⟨vN, dN, rfl, ho1, ho2, f0, f1, hbN⟩
      obtain ⟨pn, nn, cn, rfl⟩ := ho1.ns.sl
      obtain ⟨pe, ne, ce, rfl⟩ := ho2.by_.sl
      obtain ⟨sb, hsb⟩ : ∃ sb, decide (0 < fd.ix) = sb := ⟨_, rfl⟩
      rw [hsb]
      obtain ⟨F, hF⟩ : ∃ F, wN.alloc (.cells #[.int .i64 fd.ix, .int .i64 fd.tm, .slice pn nn cn, .slice pe ne ce] 42) = F := ⟨_, rfl⟩
      have hbF : Below wN.heap.size wN F := by rw [← hF]; exact balloc (Below.refl _ _) _
      have hrF : F.heap[wN.heap.size]? = some (.cells #[.int .i64 fd.ix, .int .i64 fd.tm, .slice pn nn cn, .slice pe ne ce] 42 (0, 0)) := by rw [← hF]; exact Array.getElem?_push_size
      have hb2F := hbN.trans (hbF.mono hbN.size)
      have HNOW := hide (show SnV F (.agg #[.int .i64 fd.ix, .int .i64 fd.tm, .slice pn nn cn, .slice pe ne ce]) fd from ⟨_, _, rfl, ho1.ns.below hbF, ho2.by_.below hbF, f0, f1⟩)
      have HWF := hide (HW14.out.below hb2F)
      have HF2 := hide (HV14.out.below.trans (hb2F.mono HV14.out.below.size))
      have HFW := hide (HB2.out.trans (HF2.out.mono HB2.out.size))
      have HSB := hide hsb
      have hkF := HKW.out F HF2.out
      have n0 : F.cell? ⟨wN.heap.size, 0, none⟩ = some (.int .i64 fd.ix) := by rw [cell_of_row F _ 0 _ _ (0, 0) hrF]; rfl
      have n1 : F.cell? ⟨wN.heap.size, 1, none⟩ = some (.int .i64 fd.tm) := by rw [cell_of_row F _ 1 _ _ (0, 0) hrF]; rfl
      have n2 : F.cell? ⟨wN.heap.size, 2, none⟩ = some (.slice pn nn cn) := by rw [cell_of_row F _ 2 _ _ (0, 0) hrF]; rfl
      have n3 : F.cell? ⟨wN.heap.size, 3, none⟩ = some (.slice pe ne ce) := by rw [cell_of_row F _ 3 _ _ (0, 0) hrF]; rfl
      have b0 : F.cell? ⟨w.heap.size, 0, none⟩ = some (.int .i64 d.op) := by rw [cell_of_row F _ 0 _ _ (0, 0) hkF]; rfl
      have b1 : F.cell? ⟨w.heap.size, 1, none⟩ = some (.int .i64 d.six) := by rw [cell_of_row F _ 1 _ _ (0, 0) hkF]; rfl
      have b2 : F.cell? ⟨w.heap.size, 2, none⟩ = some (.int .i64 d.stm) := by rw [cell_of_row F _ 2 _ _ (0, 0) hkF]; rfl
      have b3 : F.cell? ⟨w.heap.size, 3, none⟩ = some (.slice d.psv d.nsv d.dsv) := by rw [cell_of_row F _ 3 _ _ (0, 0) hkF]; rfl
      have b4 : F.cell? ⟨w.heap.size, 4, none⟩ = some (.slice d.psd d.nsd d.dsd) := by rw [cell_of_row F _ 4 _ _ (0, 0) hkF]; rfl
      have b5 : F.cell? ⟨w.heap.size, 5, none⟩ = some (.int .i64 d.size) := by rw [cell_of_row F _ 5 _ _ (0, 0) hkF]; rfl
      have b6 : F.cell? ⟨w.heap.size, 6, none⟩ = some (.int .i64 d.n) := by rw [cell_of_row F _ 6 _ _ (0, 0) hkF]; rfl
      have b7 : F.cell? ⟨w.heap.size, 7, none⟩ = some (.int .i64 d.keep) := by rw [cell_of_row F _ 7 _ _ (0, 0) hkF]; rfl
      have b8 : F.cell? ⟨w.heap.size, 8, none⟩ = some (.int .i64 d.tear) := by rw [cell_of_row F _ 8 _ _ (0, 0) hkF]; rfl
      have u0 := HWF.out.c0
      have u1 := HWF.out.c1
      have u2 := HWF.out.c2
      have u3 := HWF.out.c3
      have HKF := hide (fun (W : World) (hW : Below F.heap.size F W) => (show W.cell? ⟨wN.heap.size, 0, none⟩ = some (.int .i64 fd.ix) ∧ W.cell? ⟨wN.heap.size, 1, none⟩ = some (.int .i64 fd.tm) ∧ W.cell? ⟨wN.heap.size, 2, none⟩ = some (.slice pn nn cn) ∧ W.cell? ⟨wN.heap.size, 3, none⟩ = some (.slice pe ne ce) ∧ W.cell? ⟨w.heap.size, 0, none⟩ = some (.int .i64 d.op) ∧ W.cell? ⟨w.heap.size, 1, none⟩ = some (.int .i64 d.six) ∧ W.cell? ⟨w.heap.size, 2, none⟩ = some (.int .i64 d.stm) ∧ W.cell? ⟨w.heap.size, 3, none⟩ = some (.slice d.psv d.nsv d.dsv) ∧ W.cell? ⟨w.heap.size, 4, none⟩ = some (.slice d.psd d.nsd d.dsd) ∧ W.cell? ⟨w.heap.size, 5, none⟩ = some (.int .i64 d.size) ∧ W.cell? ⟨w.heap.size, 6, none⟩ = some (.int .i64 d.n) ∧ W.cell? ⟨w.heap.size, 7, none⟩ = some (.int .i64 d.keep) ∧ W.cell? ⟨w.heap.size, 8, none⟩ = some (.int .i64 d.tear) ∧ W.cell? ⟨wL.heap.size, 0, none⟩ = some (.int .i64 S.ix) ∧ W.cell? ⟨wL.heap.size, 1, none⟩ = some (.int .i64 S.tm) ∧ W.cell? ⟨wL.heap.size, 2, none⟩ = some (.slice pv nv cv) ∧ W.cell? ⟨wL.heap.size, 3, none⟩ = some (.slice pd nd cd) from ⟨(hW.cell (lt_of_cell n0)).trans n0, (hW.cell (lt_of_cell n1)).trans n1, (hW.cell (lt_of_cell n2)).trans n2, (hW.cell (lt_of_cell n3)).trans n3, (hW.cell (lt_of_cell b0)).trans b0, (hW.cell (lt_of_cell b1)).trans b1, (hW.cell (lt_of_cell b2)).trans b2, (hW.cell (lt_of_cell b3)).trans b3, (hW.cell (lt_of_cell b4)).trans b4, (hW.cell (lt_of_cell b5)).trans b5, (hW.cell (lt_of_cell b6)).trans b6, (hW.cell (lt_of_cell b7)).trans b7, (hW.cell (lt_of_cell b8)).trans b8, (hW.cell (lt_of_cell u0)).trans u0, (hW.cell (lt_of_cell u1)).trans u1, (hW.cell (lt_of_cell u2)).trans u2, (hW.cell (lt_of_cell u3)).trans u3⟩))
      clear hvt ho1 ho2 f0 f1 hbN hbF hrF hb2F hsb hkF
      rcases HCB.out with ⟨rfl, hck, rfl⟩ | ⟨rfl, hcb⟩ | ⟨hc0, hc22, rfl⟩
      · have hsx := HSB.out
        obtain rfl : sb = true := by rw [← hsx]; exact decide_eq_true (by have := chk_ix hck; omega)
        have ec : (((0 : Nat) : Int) == 0) = true := rfl
        clear hsx hck
        go_wp2_with fail
        clear hF n0 n1 n2 n3 b0 b1 b2 b3 b4 b5 b6 b7 b8 u0 u1 u2 u3
        refine wp_region_held_drew (S := fun W => W.cell? ⟨wN.heap.size, 0, none⟩ = some (.int .i64 fd.ix) ∧ W.cell? ⟨wN.heap.size, 1, none⟩ = some (.int .i64 fd.tm) ∧ W.cell? ⟨wN.heap.size, 2, none⟩ = some (.slice pn nn cn) ∧ W.cell? ⟨wN.heap.size, 3, none⟩ = some (.slice pe ne ce) ∧ W.cell? ⟨w.heap.size, 0, none⟩ = some (.int .i64 d.op) ∧ W.cell? ⟨w.heap.size, 1, none⟩ = some (.int .i64 d.six) ∧ W.cell? ⟨w.heap.size, 2, none⟩ = some (.int .i64 d.stm) ∧ W.cell? ⟨w.heap.size, 3, none⟩ = some (.slice d.psv d.nsv d.dsv) ∧ W.cell? ⟨w.heap.size, 4, none⟩ = some (.slice d.psd d.nsd d.dsd) ∧ W.cell? ⟨w.heap.size, 5, none⟩ = some (.int .i64 d.size) ∧ W.cell? ⟨w.heap.size, 6, none⟩ = some (.int .i64 d.n) ∧ W.cell? ⟨w.heap.size, 7, none⟩ = some (.int .i64 d.keep) ∧ W.cell? ⟨w.heap.size, 8, none⟩ = some (.int .i64 d.tear) ∧ W.cell? ⟨wL.heap.size, 0, none⟩ = some (.int .i64 S.ix) ∧ W.cell? ⟨wL.heap.size, 1, none⟩ = some (.int .i64 S.tm) ∧ W.cell? ⟨wL.heap.size, 2, none⟩ = some (.slice pv nv cv) ∧ W.cell? ⟨wL.heap.size, 3, none⟩ = some (.slice pd nd cd)) (by kernel_rfl) ?_ (fun hHeld => ?_)
        · (try dsimp only)
          exact HKF.out _ (below_drewN (Below.refl _ _) 1)
        refine wpAnyH_take (i := 0) (oi := { dst := some 91, op := Op.move (Operand.tmp 15), type := 4, pos := "law.go:218", after := #[], guard := none }) (v := ?_) rfl (by kernel_rfl) (by kernel_rfl) (by kernel_rfl) (fun _ _ _ h => h) (Or.inl ⟨by rfl, ?_⟩) (by assumption) ?_
        rotate_left
        · intro w hSw
          (try dsimp only at hSw)
          go_simp
          try with_reducible rfl
        try simp only [Act.put, List.setIfInBounds_toArray, List.set_cons_zero, List.set_cons_succ]
        refine wpAnyH_take (i := 1) (oi := { dst := some 92, op := Op.move (Operand.tmp 91), type := 4, pos := "law.go:218", after := _, guard := none }) (v := ?_) rfl (by kernel_rfl) (by kernel_rfl) (by kernel_rfl) (fun _ _ _ h => h) (Or.inl ⟨by rfl, ?_⟩) (by assumption) ?_
        rotate_left
        · intro w hSw
          (try dsimp only at hSw)
          go_simp
          try with_reducible rfl
        try simp only [Act.put, List.setIfInBounds_toArray, List.set_cons_zero, List.set_cons_succ]
        refine wpAnyH_take (i := 2) (oi := { dst := some 93, op := Op.load 42 (Operand.tmp 14), type := 42, pos := "law.go:218", after := _, guard := some (1, true) }) (v := ?_) rfl (by kernel_rfl) (by kernel_rfl) (by kernel_rfl) (fun _ _ _ h => h) (Or.inl ⟨by rfl, ?_⟩) (by assumption) ?_
        rotate_left
        · intro w hSw
          (try dsimp only at hSw)
          go_simp
          try with_reducible rfl
        try simp only [Act.put, List.setIfInBounds_toArray, List.set_cons_zero, List.set_cons_succ]
        refine wpAnyH_take (i := 3) (oi := { dst := some 94, op := Op.load 44 (Operand.tmp 3), type := 44, pos := "law.go:218", after := _, guard := some (1, true) }) (v := ?_) rfl (by kernel_rfl) (by kernel_rfl) (by kernel_rfl) (fun _ _ _ h => h) (Or.inl ⟨by rfl, ?_⟩) (by assumption) ?_
        rotate_left
        · intro w hSw
          (try dsimp only at hSw)
          go_simp
          try with_reducible rfl
        try simp only [Act.put, List.setIfInBounds_toArray, List.set_cons_zero, List.set_cons_succ]
        refine wpAnyH_ready (rs := [4]) (by kernel_rfl) (by simp) ?_
        refine AllReadyH.cons (o := { dst := some 95, op := Op.call { callee := Callee.value (Operand.func 21), args := #[Operand.tmp 94], argTypes := #[44] }, type := 42, pos := "law.go:218", after := _, guard := some (1, true) }) rfl (fun K hK => ?_) ?_
        · go_simp
          go_at_call 21
          refine (HSN.out _ (below_drewN HF2.out 1)).mono ?_
          rintro e wa ⟨va, rfl, howa, hbwa⟩
          have HWA : Hid (Below F.heap.size F wa) := hide ((below_drewN (Below.refl F.heap.size F) 1).trans hbwa)
          have HOwa := hide howa
          clear howa hbwa
          first
            | refine hK.out _ _ ?_ (fun hHeld => ?_)
            | (go_wp2_with fail; refine hK.out _ _ ?_ (fun hHeld => ?_))
          · (try dsimp only)
            exact HKF.out _ HWA.out
          clear hK K
          try simp only [Act.put, List.setIfInBounds_toArray, List.set_cons_zero, List.set_cons_succ]
          refine wpAnyH_ready (rs := [5]) (by kernel_rfl) (by simp) ?_
          refine AllReadyH.cons (o := { dst := some 96, op := Op.call { callee := Callee.value (Operand.func 24), args := #[Operand.tmp 93, Operand.tmp 95], argTypes := #[42, 42] }, type := 4, pos := "law.go:218", after := _, guard := some (1, true) }) rfl (fun K hK => ?_) ?_
          · go_simp
            go_at_call 24
            refine (same_any (HNOW.out.below HWA.out) HOwa.out.snv (by have := (good_many HGF.out).1; omega)).mono ?_
            rintro e wb ⟨rfl, hbwb⟩
            rw [decide_eq_true (rfl : fd = fd)]
            have HWB : Hid (Below F.heap.size F wb) := hide (HWA.out.trans (hbwb.mono HWA.out.size))
            clear hbwb
            first
              | refine hK.out _ _ ?_ (fun hHeld => ?_)
              | (go_wp2_with fail; refine hK.out _ _ ?_ (fun hHeld => ?_))
            · (try dsimp only)
              exact HKF.out _ HWB.out
            clear hK K
            try simp only [Act.put, List.setIfInBounds_toArray, List.set_cons_zero, List.set_cons_succ]
            refine wpAnyH_take (i := 6) (oi := { dst := some 97, op := Op.pick (Operand.tmp 92) (Operand.tmp 96) (Operand.const (Value.bool false)), type := 4, pos := "law.go:218", after := _, guard := none }) (v := ?_) rfl (by kernel_rfl) (by kernel_rfl) (by kernel_rfl) (fun _ _ _ h => h) (Or.inl ⟨by rfl, ?_⟩) (by assumption) ?_
            rotate_left
            · intro w hSw
              (try dsimp only at hSw)
              go_simp
              try with_reducible rfl
            try simp only [Act.put, List.setIfInBounds_toArray, List.set_cons_zero, List.set_cons_succ]
            refine wpAnyH_take (i := 7) (oi := { dst := some 98, op := Op.move (Operand.tmp 97), type := 4, pos := "law.go:218", after := _, guard := none }) (v := ?_) rfl (by kernel_rfl) (by kernel_rfl) (by kernel_rfl) (fun _ _ _ h => h) (Or.inl ⟨by rfl, ?_⟩) (by assumption) ?_
            rotate_left
            · intro w hSw
              (try dsimp only at hSw)
              go_simp
              try with_reducible rfl
            try simp only [Act.put, List.setIfInBounds_toArray, List.set_cons_zero, List.set_cons_succ]
            refine wpAnyH_ready (rs := [8]) (by kernel_rfl) (by simp) ?_
            refine AllReadyH.cons (o := { dst := some 99, op := Op.call { callee := Callee.value (Operand.func 12), args := #[], argTypes := #[] }, type := 4, pos := "law.go:218", after := _, guard := some (7, true) }) rfl (fun K hK => ?_) ?_
            · go_simp
              go_at_call 12
              refine (HAW.out _ (HFW.out.trans (HWB.out.mono HFW.out.size))).mono ?_
              rintro e wz ⟨rfl, hbz⟩
              have HWZ : Hid (Below F.heap.size F wz) := hide (HWB.out.trans (hbz.mono HWB.out.size))
              clear hbz
              first
                | refine hK.out _ _ ?_ (fun hHeld => ?_)
                | (go_wp2_with fail; refine hK.out _ _ ?_ (fun hHeld => ?_))
              · (try dsimp only)
                exact HKF.out _ HWZ.out
              clear hK K
              try simp only [Act.put, List.setIfInBounds_toArray, List.set_cons_zero, List.set_cons_succ]
              refine wpAnyH_take (i := 9) (oi := { dst := some 100, op := Op.pick (Operand.tmp 98) (Operand.tmp 99) (Operand.const (Value.bool false)), type := 4, pos := "law.go:218", after := _, guard := none }) (v := ?_) rfl (by kernel_rfl) (by kernel_rfl) (by kernel_rfl) (fun _ _ _ h => h) (Or.inl ⟨by rfl, ?_⟩) (by assumption) ?_
              rotate_left
              · intro w hSw
                (try dsimp only at hSw)
                go_simp
                try with_reducible rfl
              try simp only [Act.put, List.setIfInBounds_toArray, List.set_cons_zero, List.set_cons_succ]
              refine wpAnyH_take (i := 10) (oi := { dst := some 4, op := Op.assign (Operand.tmp 100), type := 4, pos := "law.go:218", after := _, guard := none }) (v := ?_) rfl (by kernel_rfl) (by kernel_rfl) (by kernel_rfl) (fun _ _ _ h => h) (Or.inl ⟨by rfl, ?_⟩) (by assumption) ?_
              rotate_left
              · intro w hSw
                (try dsimp only at hSw)
                go_simp
                try with_reducible rfl
              try simp only [Act.put, List.setIfInBounds_toArray, List.set_cons_zero, List.set_cons_succ]
              refine wpAnyH_done (by kernel_rfl) ?_ _
              go_wp2_with fail
              go_ret
              exact ⟨rfl, HFW.out.trans (HWZ.out.mono HFW.out.size)⟩
            exact AllReadyH.nil
          exact AllReadyH.nil
        exact AllReadyH.nil
      · have ec1 : (((22 : Nat) : Int) == 0) = false := rfl
        have ec2 : (((22 : Nat) : Int) != 22) = false := rfl
        by_cases hfs : fd = S
        · subst hfs
          obtain rfl : sb = hb := HSB.out.symm.trans HHB.out
          go_wp2_with fail
          clear hF n0 n1 n2 n3 b0 b1 b2 b3 b4 b5 b6 b7 b8 u0 u1 u2 u3
          refine wp_region_held_drew (S := fun W => W.cell? ⟨wN.heap.size, 0, none⟩ = some (.int .i64 fd.ix) ∧ W.cell? ⟨wN.heap.size, 1, none⟩ = some (.int .i64 fd.tm) ∧ W.cell? ⟨wN.heap.size, 2, none⟩ = some (.slice pn nn cn) ∧ W.cell? ⟨wN.heap.size, 3, none⟩ = some (.slice pe ne ce) ∧ W.cell? ⟨w.heap.size, 0, none⟩ = some (.int .i64 d.op) ∧ W.cell? ⟨w.heap.size, 1, none⟩ = some (.int .i64 d.six) ∧ W.cell? ⟨w.heap.size, 2, none⟩ = some (.int .i64 d.stm) ∧ W.cell? ⟨w.heap.size, 3, none⟩ = some (.slice d.psv d.nsv d.dsv) ∧ W.cell? ⟨w.heap.size, 4, none⟩ = some (.slice d.psd d.nsd d.dsd) ∧ W.cell? ⟨w.heap.size, 5, none⟩ = some (.int .i64 d.size) ∧ W.cell? ⟨w.heap.size, 6, none⟩ = some (.int .i64 d.n) ∧ W.cell? ⟨w.heap.size, 7, none⟩ = some (.int .i64 d.keep) ∧ W.cell? ⟨w.heap.size, 8, none⟩ = some (.int .i64 d.tear) ∧ W.cell? ⟨wL.heap.size, 0, none⟩ = some (.int .i64 fd.ix) ∧ W.cell? ⟨wL.heap.size, 1, none⟩ = some (.int .i64 fd.tm) ∧ W.cell? ⟨wL.heap.size, 2, none⟩ = some (.slice pv nv cv) ∧ W.cell? ⟨wL.heap.size, 3, none⟩ = some (.slice pd nd cd)) (by kernel_rfl) ?_ (fun hHeld => ?_)
          · (try dsimp only)
            exact HKF.out _ (below_drewN (Below.refl _ _) 1)
          refine wpAnyH_take (i := 0) (oi := { dst := some 114, op := Op.move (Operand.tmp 15), type := 4, pos := "law.go:223", after := #[], guard := none }) (v := ?_) rfl (by kernel_rfl) (by kernel_rfl) (by kernel_rfl) (fun _ _ _ h => h) (Or.inl ⟨by rfl, ?_⟩) (by assumption) ?_
          rotate_left
          · intro w hSw
            (try dsimp only at hSw)
            go_simp
            try with_reducible rfl
          try simp only [Act.put, List.setIfInBounds_toArray, List.set_cons_zero, List.set_cons_succ]
          refine wpAnyH_take (i := 1) (oi := { dst := some 115, op := Op.move (Operand.tmp 11), type := 4, pos := "law.go:223", after := #[], guard := none }) (v := ?_) rfl (by kernel_rfl) (by kernel_rfl) (by kernel_rfl) (fun _ _ _ h => h) (Or.inl ⟨by rfl, ?_⟩) (by assumption) ?_
          rotate_left
          · intro w hSw
            (try dsimp only at hSw)
            go_simp
            try with_reducible rfl
          try simp only [Act.put, List.setIfInBounds_toArray, List.set_cons_zero, List.set_cons_succ]
          refine wpAnyH_take (i := 2) (oi := { dst := some 116, op := Op.binOp BinOp.eql 4 (Operand.tmp 114) (Operand.tmp 115) 4, type := 4, pos := "law.go:223", after := _, guard := none }) (v := ?_) rfl (by kernel_rfl) (by kernel_rfl) (by kernel_rfl) (fun _ _ _ h => h) (Or.inl ⟨by rfl, ?_⟩) (by assumption) ?_
          rotate_left
          · intro w hSw
            (try dsimp only at hSw)
            go_simp
            try with_reducible rfl
          try simp only [Act.put, List.setIfInBounds_toArray, List.set_cons_zero, List.set_cons_succ]
          refine wpAnyH_take (i := 3) (oi := { dst := some 117, op := Op.move (Operand.tmp 116), type := 4, pos := "law.go:223", after := _, guard := none }) (v := ?_) rfl (by kernel_rfl) (by kernel_rfl) (by kernel_rfl) (fun _ _ _ h => h) (Or.inl ⟨by rfl, ?_⟩) (by assumption) ?_
          rotate_left
          · intro w hSw
            (try dsimp only at hSw)
            go_simp
            try with_reducible rfl
          try simp only [Act.put, List.setIfInBounds_toArray, List.set_cons_zero, List.set_cons_succ]
          refine wpAnyH_take (i := 4) (oi := { dst := some 118, op := Op.load 42 (Operand.tmp 14), type := 42, pos := "law.go:223", after := _, guard := some (3, true) }) (v := ?_) rfl (by kernel_rfl) (by kernel_rfl) (by kernel_rfl) (fun _ _ _ h => h) (Or.inl ⟨by rfl, ?_⟩) (by assumption) ?_
          rotate_left
          · intro w hSw
            (try dsimp only at hSw)
            go_simp
            try with_reducible rfl
          try simp only [Act.put, List.setIfInBounds_toArray, List.set_cons_zero, List.set_cons_succ]
          refine wpAnyH_take (i := 5) (oi := { dst := some 119, op := Op.load 42 (Operand.tmp 10), type := 42, pos := "law.go:223", after := _, guard := some (3, true) }) (v := ?_) rfl (by kernel_rfl) (by kernel_rfl) (by kernel_rfl) (fun _ _ _ h => h) (Or.inl ⟨by rfl, ?_⟩) (by assumption) ?_
          rotate_left
          · intro w hSw
            (try dsimp only at hSw)
            go_simp
            try with_reducible rfl
          try simp only [Act.put, List.setIfInBounds_toArray, List.set_cons_zero, List.set_cons_succ]
          refine wpAnyH_ready (rs := [6]) (by kernel_rfl) (by simp) ?_
          refine AllReadyH.cons (o := { dst := some 120, op := Op.call { callee := Callee.value (Operand.func 24), args := #[Operand.tmp 118, Operand.tmp 119], argTypes := #[42, 42] }, type := 4, pos := "law.go:223", after := _, guard := some (3, true) }) rfl (fun K hK => ?_) ?_
          · go_simp
            go_at_call 24
            refine (same_any (HNOW.out.below (below_drewN (Below.refl F.heap.size F) 1)) (HWF.out.snv.below (below_drewN (Below.refl F.heap.size F) 1)) (by have := (good_many HGF.out).1; omega)).mono ?_
            rintro e wb ⟨rfl, hbwb⟩
            rw [decide_eq_true (rfl : fd = fd)]
            have HWB : Hid (Below F.heap.size F wb) := hide ((below_drewN (Below.refl F.heap.size F) 1).trans hbwb)
            clear hbwb
            first
              | refine hK.out _ _ ?_ (fun hHeld => ?_)
              | (go_wp2_with fail; refine hK.out _ _ ?_ (fun hHeld => ?_))
            · (try dsimp only)
              exact HKF.out _ HWB.out
            clear hK K
            try simp only [Act.put, List.setIfInBounds_toArray, List.set_cons_zero, List.set_cons_succ]
            refine wpAnyH_take (i := 7) (oi := { dst := some 121, op := Op.pick (Operand.tmp 117) (Operand.tmp 120) (Operand.const (Value.bool false)), type := 4, pos := "law.go:223", after := _, guard := none }) (v := ?_) rfl (by kernel_rfl) (by kernel_rfl) (by kernel_rfl) (fun _ _ _ h => h) (Or.inl ⟨by rfl, ?_⟩) (by assumption) ?_
            rotate_left
            · intro w hSw
              (try dsimp only at hSw)
              go_simp
              try with_reducible rfl
            try simp only [Act.put, List.setIfInBounds_toArray, List.set_cons_zero, List.set_cons_succ]
            refine wpAnyH_take (i := 8) (oi := { dst := some 122, op := Op.move (Operand.tmp 121), type := 4, pos := "law.go:223", after := _, guard := none }) (v := ?_) rfl (by kernel_rfl) (by kernel_rfl) (by kernel_rfl) (fun _ _ _ h => h) (Or.inl ⟨by rfl, ?_⟩) (by assumption) ?_
            rotate_left
            · intro w hSw
              (try dsimp only at hSw)
              go_simp
              try with_reducible rfl
            try simp only [Act.put, List.setIfInBounds_toArray, List.set_cons_zero, List.set_cons_succ]
            refine wpAnyH_take (i := 9) (oi := { dst := some 123, op := Op.move (Operand.tmp 15), type := 4, pos := "law.go:223", after := _, guard := some (8, false) }) (v := undef) rfl (by kernel_rfl) (by kernel_rfl) (by kernel_rfl) (fun _ _ _ h => h) (Or.inr ⟨by rfl, rfl⟩) (by assumption) ?_
            try simp only [Act.put, List.setIfInBounds_toArray, List.set_cons_zero, List.set_cons_succ]
            refine wpAnyH_take (i := 10) (oi := { dst := some 124, op := Op.move (Operand.tmp 123), type := 4, pos := "law.go:223", after := _, guard := some (8, false) }) (v := undef) rfl (by kernel_rfl) (by kernel_rfl) (by kernel_rfl) (fun _ _ _ h => h) (Or.inr ⟨by rfl, rfl⟩) (by assumption) ?_
            try simp only [Act.put, List.setIfInBounds_toArray, List.set_cons_zero, List.set_cons_succ]
            refine wpAnyH_take (i := 11) (oi := { dst := some 125, op := Op.load 42 (Operand.tmp 14), type := 42, pos := "law.go:223", after := _, guard := some (10, true) }) (v := undef) rfl (by kernel_rfl) (by kernel_rfl) (by kernel_rfl) (fun _ _ _ h => h) (Or.inr ⟨by rfl, rfl⟩) (by assumption) ?_
            try simp only [Act.put, List.setIfInBounds_toArray, List.set_cons_zero, List.set_cons_succ]
            refine wpAnyH_take (i := 12) (oi := { dst := some 126, op := Op.load 44 (Operand.tmp 3), type := 44, pos := "law.go:223", after := _, guard := some (10, true) }) (v := undef) rfl (by kernel_rfl) (by kernel_rfl) (by kernel_rfl) (fun _ _ _ h => h) (Or.inr ⟨by rfl, rfl⟩) (by assumption) ?_
            try simp only [Act.put, List.setIfInBounds_toArray, List.set_cons_zero, List.set_cons_succ]
            refine wpAnyH_take (i := 13) (oi := { dst := some 127, op := Op.call { callee := Callee.value (Operand.func 21), args := #[Operand.tmp 126], argTypes := #[44] }, type := 42, pos := "law.go:223", after := _, guard := some (10, true) }) (v := undef) rfl (by kernel_rfl) (by kernel_rfl) (by kernel_rfl) (fun _ _ _ h => h) (Or.inr ⟨by rfl, rfl⟩) (by assumption) ?_
            try simp only [Act.put, List.setIfInBounds_toArray, List.set_cons_zero, List.set_cons_succ]
            refine wpAnyH_take (i := 14) (oi := { dst := some 128, op := Op.call { callee := Callee.value (Operand.func 24), args := #[Operand.tmp 125, Operand.tmp 127], argTypes := #[42, 42] }, type := 4, pos := "law.go:223", after := _, guard := some (10, true) }) (v := undef) rfl (by kernel_rfl) (by kernel_rfl) (by kernel_rfl) (fun _ _ _ h => h) (Or.inr ⟨by rfl, rfl⟩) (by assumption) ?_
            try simp only [Act.put, List.setIfInBounds_toArray, List.set_cons_zero, List.set_cons_succ]
            refine wpAnyH_take (i := 15) (oi := { dst := some 129, op := Op.pick (Operand.tmp 124) (Operand.tmp 128) (Operand.const (Value.bool false)), type := 4, pos := "law.go:223", after := _, guard := some (8, false) }) (v := undef) rfl (by kernel_rfl) (by kernel_rfl) (by kernel_rfl) (fun _ _ _ h => h) (Or.inr ⟨by rfl, rfl⟩) (by assumption) ?_
            try simp only [Act.put, List.setIfInBounds_toArray, List.set_cons_zero, List.set_cons_succ]
            refine wpAnyH_take (i := 16) (oi := { dst := some 130, op := Op.pick (Operand.tmp 122) (Operand.const (Value.bool true)) (Operand.tmp 129), type := 4, pos := "law.go:223", after := _, guard := none }) (v := ?_) rfl (by kernel_rfl) (by kernel_rfl) (by kernel_rfl) (fun _ _ _ h => h) (Or.inl ⟨by rfl, ?_⟩) (by assumption) ?_
            rotate_left
            · intro w hSw
              (try dsimp only at hSw)
              go_simp
              try with_reducible rfl
            try simp only [Act.put, List.setIfInBounds_toArray, List.set_cons_zero, List.set_cons_succ]
            refine wpAnyH_take (i := 17) (oi := { dst := some 131, op := Op.move (Operand.tmp 130), type := 4, pos := "law.go:223", after := _, guard := none }) (v := ?_) rfl (by kernel_rfl) (by kernel_rfl) (by kernel_rfl) (fun _ _ _ h => h) (Or.inl ⟨by rfl, ?_⟩) (by assumption) ?_
            rotate_left
            · intro w hSw
              (try dsimp only at hSw)
              go_simp
              try with_reducible rfl
            try simp only [Act.put, List.setIfInBounds_toArray, List.set_cons_zero, List.set_cons_succ]
            refine wpAnyH_ready (rs := [18]) (by kernel_rfl) (by simp) ?_
            refine AllReadyH.cons (o := { dst := some 132, op := Op.call { callee := Callee.value (Operand.func 12), args := #[], argTypes := #[] }, type := 4, pos := "law.go:223", after := _, guard := some (17, true) }) rfl (fun K hK => ?_) ?_
            · go_simp
              go_at_call 12
              refine (HAW.out _ (HFW.out.trans (HWB.out.mono HFW.out.size))).mono ?_
              rintro e wz ⟨rfl, hbz⟩
              have HWZ : Hid (Below F.heap.size F wz) := hide (HWB.out.trans (hbz.mono HWB.out.size))
              clear hbz
              first
                | refine hK.out _ _ ?_ (fun hHeld => ?_)
                | (go_wp2_with fail; refine hK.out _ _ ?_ (fun hHeld => ?_))
              · (try dsimp only)
                exact HKF.out _ HWZ.out
              clear hK K
              try simp only [Act.put, List.setIfInBounds_toArray, List.set_cons_zero, List.set_cons_succ]
              refine wpAnyH_take (i := 19) (oi := { dst := some 133, op := Op.pick (Operand.tmp 131) (Operand.tmp 132) (Operand.const (Value.bool false)), type := 4, pos := "law.go:223", after := _, guard := none }) (v := ?_) rfl (by kernel_rfl) (by kernel_rfl) (by kernel_rfl) (fun _ _ _ h => h) (Or.inl ⟨by rfl, ?_⟩) (by assumption) ?_
              rotate_left
              · intro w hSw
                (try dsimp only at hSw)
                go_simp
                try with_reducible rfl
              try simp only [Act.put, List.setIfInBounds_toArray, List.set_cons_zero, List.set_cons_succ]
              refine wpAnyH_take (i := 20) (oi := { dst := some 4, op := Op.assign (Operand.tmp 133), type := 4, pos := "law.go:223", after := _, guard := none }) (v := ?_) rfl (by kernel_rfl) (by kernel_rfl) (by kernel_rfl) (fun _ _ _ h => h) (Or.inl ⟨by rfl, ?_⟩) (by assumption) ?_
              rotate_left
              · intro w hSw
                (try dsimp only at hSw)
                go_simp
                try with_reducible rfl
              try simp only [Act.put, List.setIfInBounds_toArray, List.set_cons_zero, List.set_cons_succ]
              refine wpAnyH_done (by kernel_rfl) ?_ _
              go_wp2_with fail
              go_ret
              exact ⟨rfl, HFW.out.trans (HWZ.out.mono HFW.out.size)⟩
            exact AllReadyH.nil
          exact AllReadyH.nil
        · have hcb2 : fd = kk ∧ kk.chk = 0 := hcb.resolve_left hfs
          obtain ⟨rfl, hck⟩ := hcb2
          have hsx := HSB.out
          obtain rfl : sb = true := by rw [← hsx]; exact decide_eq_true (by have := chk_ix hck; omega)
          have HNE := hide hfs
          clear hsx hck hcb hfs
          go_wp2_with fail
          clear hF n0 n1 n2 n3 b0 b1 b2 b3 b4 b5 b6 b7 b8 u0 u1 u2 u3
          cases hb
          · refine wp_region_held_drew (S := fun W => W.cell? ⟨wN.heap.size, 0, none⟩ = some (.int .i64 fd.ix) ∧ W.cell? ⟨wN.heap.size, 1, none⟩ = some (.int .i64 fd.tm) ∧ W.cell? ⟨wN.heap.size, 2, none⟩ = some (.slice pn nn cn) ∧ W.cell? ⟨wN.heap.size, 3, none⟩ = some (.slice pe ne ce) ∧ W.cell? ⟨w.heap.size, 0, none⟩ = some (.int .i64 d.op) ∧ W.cell? ⟨w.heap.size, 1, none⟩ = some (.int .i64 d.six) ∧ W.cell? ⟨w.heap.size, 2, none⟩ = some (.int .i64 d.stm) ∧ W.cell? ⟨w.heap.size, 3, none⟩ = some (.slice d.psv d.nsv d.dsv) ∧ W.cell? ⟨w.heap.size, 4, none⟩ = some (.slice d.psd d.nsd d.dsd) ∧ W.cell? ⟨w.heap.size, 5, none⟩ = some (.int .i64 d.size) ∧ W.cell? ⟨w.heap.size, 6, none⟩ = some (.int .i64 d.n) ∧ W.cell? ⟨w.heap.size, 7, none⟩ = some (.int .i64 d.keep) ∧ W.cell? ⟨w.heap.size, 8, none⟩ = some (.int .i64 d.tear) ∧ W.cell? ⟨wL.heap.size, 0, none⟩ = some (.int .i64 S.ix) ∧ W.cell? ⟨wL.heap.size, 1, none⟩ = some (.int .i64 S.tm) ∧ W.cell? ⟨wL.heap.size, 2, none⟩ = some (.slice pv nv cv) ∧ W.cell? ⟨wL.heap.size, 3, none⟩ = some (.slice pd nd cd)) (by kernel_rfl) ?_ (fun hHeld => ?_)
            · (try dsimp only)
              exact HKF.out _ (below_drewN (Below.refl _ _) 1)
            refine wpAnyH_take (i := 0) (oi := { dst := some 114, op := Op.move (Operand.tmp 15), type := 4, pos := "law.go:223", after := #[], guard := none }) (v := ?_) rfl (by kernel_rfl) (by kernel_rfl) (by kernel_rfl) (fun _ _ _ h => h) (Or.inl ⟨by rfl, ?_⟩) (by assumption) ?_
            rotate_left
            · intro w hSw
              (try dsimp only at hSw)
              go_simp
              try with_reducible rfl
            try simp only [Act.put, List.setIfInBounds_toArray, List.set_cons_zero, List.set_cons_succ]
            refine wpAnyH_take (i := 1) (oi := { dst := some 115, op := Op.move (Operand.tmp 11), type := 4, pos := "law.go:223", after := #[], guard := none }) (v := ?_) rfl (by kernel_rfl) (by kernel_rfl) (by kernel_rfl) (fun _ _ _ h => h) (Or.inl ⟨by rfl, ?_⟩) (by assumption) ?_
            rotate_left
            · intro w hSw
              (try dsimp only at hSw)
              go_simp
              try with_reducible rfl
            try simp only [Act.put, List.setIfInBounds_toArray, List.set_cons_zero, List.set_cons_succ]
            refine wpAnyH_take (i := 2) (oi := { dst := some 116, op := Op.binOp BinOp.eql 4 (Operand.tmp 114) (Operand.tmp 115) 4, type := 4, pos := "law.go:223", after := _, guard := none }) (v := ?_) rfl (by kernel_rfl) (by kernel_rfl) (by kernel_rfl) (fun _ _ _ h => h) (Or.inl ⟨by rfl, ?_⟩) (by assumption) ?_
            rotate_left
            · intro w hSw
              (try dsimp only at hSw)
              go_simp
              try with_reducible rfl
            try simp only [Act.put, List.setIfInBounds_toArray, List.set_cons_zero, List.set_cons_succ]
            refine wpAnyH_take (i := 3) (oi := { dst := some 117, op := Op.move (Operand.tmp 116), type := 4, pos := "law.go:223", after := _, guard := none }) (v := ?_) rfl (by kernel_rfl) (by kernel_rfl) (by kernel_rfl) (fun _ _ _ h => h) (Or.inl ⟨by rfl, ?_⟩) (by assumption) ?_
            rotate_left
            · intro w hSw
              (try dsimp only at hSw)
              go_simp
              try with_reducible rfl
            try simp only [Act.put, List.setIfInBounds_toArray, List.set_cons_zero, List.set_cons_succ]
            refine wpAnyH_take (i := 4) (oi := { dst := some 118, op := Op.load 42 (Operand.tmp 14), type := 42, pos := "law.go:223", after := _, guard := some (3, true) }) (v := undef) rfl (by kernel_rfl) (by kernel_rfl) (by kernel_rfl) (fun _ _ _ h => h) (Or.inr ⟨by rfl, rfl⟩) (by assumption) ?_
            try simp only [Act.put, List.setIfInBounds_toArray, List.set_cons_zero, List.set_cons_succ]
            refine wpAnyH_take (i := 5) (oi := { dst := some 119, op := Op.load 42 (Operand.tmp 10), type := 42, pos := "law.go:223", after := _, guard := some (3, true) }) (v := undef) rfl (by kernel_rfl) (by kernel_rfl) (by kernel_rfl) (fun _ _ _ h => h) (Or.inr ⟨by rfl, rfl⟩) (by assumption) ?_
            try simp only [Act.put, List.setIfInBounds_toArray, List.set_cons_zero, List.set_cons_succ]
            refine wpAnyH_take (i := 6) (oi := { dst := some 120, op := Op.call { callee := Callee.value (Operand.func 24), args := #[Operand.tmp 118, Operand.tmp 119], argTypes := #[42, 42] }, type := 4, pos := "law.go:223", after := _, guard := some (3, true) }) (v := undef) rfl (by kernel_rfl) (by kernel_rfl) (by kernel_rfl) (fun _ _ _ h => h) (Or.inr ⟨by rfl, rfl⟩) (by assumption) ?_
            try simp only [Act.put, List.setIfInBounds_toArray, List.set_cons_zero, List.set_cons_succ]
            refine wpAnyH_take (i := 7) (oi := { dst := some 121, op := Op.pick (Operand.tmp 117) (Operand.tmp 120) (Operand.const (Value.bool false)), type := 4, pos := "law.go:223", after := _, guard := none }) (v := ?_) rfl (by kernel_rfl) (by kernel_rfl) (by kernel_rfl) (fun _ _ _ h => h) (Or.inl ⟨by rfl, ?_⟩) (by assumption) ?_
            rotate_left
            · intro w hSw
              (try dsimp only at hSw)
              go_simp
              try with_reducible rfl
            try simp only [Act.put, List.setIfInBounds_toArray, List.set_cons_zero, List.set_cons_succ]
            refine wpAnyH_take (i := 8) (oi := { dst := some 122, op := Op.move (Operand.tmp 121), type := 4, pos := "law.go:223", after := _, guard := none }) (v := ?_) rfl (by kernel_rfl) (by kernel_rfl) (by kernel_rfl) (fun _ _ _ h => h) (Or.inl ⟨by rfl, ?_⟩) (by assumption) ?_
            rotate_left
            · intro w hSw
              (try dsimp only at hSw)
              go_simp
              try with_reducible rfl
            try simp only [Act.put, List.setIfInBounds_toArray, List.set_cons_zero, List.set_cons_succ]
            refine wpAnyH_take (i := 9) (oi := { dst := some 123, op := Op.move (Operand.tmp 15), type := 4, pos := "law.go:223", after := _, guard := some (8, false) }) (v := ?_) rfl (by kernel_rfl) (by kernel_rfl) (by kernel_rfl) (fun _ _ _ h => h) (Or.inl ⟨by rfl, ?_⟩) (by assumption) ?_
            rotate_left
            · intro w hSw
              (try dsimp only at hSw)
              go_simp
              try with_reducible rfl
            try simp only [Act.put, List.setIfInBounds_toArray, List.set_cons_zero, List.set_cons_succ]
            refine wpAnyH_take (i := 10) (oi := { dst := some 124, op := Op.move (Operand.tmp 123), type := 4, pos := "law.go:223", after := _, guard := some (8, false) }) (v := ?_) rfl (by kernel_rfl) (by kernel_rfl) (by kernel_rfl) (fun _ _ _ h => h) (Or.inl ⟨by rfl, ?_⟩) (by assumption) ?_
            rotate_left
            · intro w hSw
              (try dsimp only at hSw)
              go_simp
              try with_reducible rfl
            try simp only [Act.put, List.setIfInBounds_toArray, List.set_cons_zero, List.set_cons_succ]
            refine wpAnyH_take (i := 11) (oi := { dst := some 125, op := Op.load 42 (Operand.tmp 14), type := 42, pos := "law.go:223", after := _, guard := some (10, true) }) (v := ?_) rfl (by kernel_rfl) (by kernel_rfl) (by kernel_rfl) (fun _ _ _ h => h) (Or.inl ⟨by rfl, ?_⟩) (by assumption) ?_
            rotate_left
            · intro w hSw
              (try dsimp only at hSw)
              go_simp
              try with_reducible rfl
            try simp only [Act.put, List.setIfInBounds_toArray, List.set_cons_zero, List.set_cons_succ]
            refine wpAnyH_take (i := 12) (oi := { dst := some 126, op := Op.load 44 (Operand.tmp 3), type := 44, pos := "law.go:223", after := _, guard := some (10, true) }) (v := ?_) rfl (by kernel_rfl) (by kernel_rfl) (by kernel_rfl) (fun _ _ _ h => h) (Or.inl ⟨by rfl, ?_⟩) (by assumption) ?_
            rotate_left
            · intro w hSw
              (try dsimp only at hSw)
              go_simp
              try with_reducible rfl
            try simp only [Act.put, List.setIfInBounds_toArray, List.set_cons_zero, List.set_cons_succ]
            refine wpAnyH_ready (rs := [13]) (by kernel_rfl) (by simp) ?_
            refine AllReadyH.cons (o := { dst := some 127, op := Op.call { callee := Callee.value (Operand.func 21), args := #[Operand.tmp 126], argTypes := #[44] }, type := 42, pos := "law.go:223", after := _, guard := some (10, true) }) rfl (fun K hK => ?_) ?_
            · go_simp
              go_at_call 21
              refine (HSN.out _ (below_drewN HF2.out 1)).mono ?_
              rintro e wa ⟨va, rfl, howa, hbwa⟩
              have HWA : Hid (Below F.heap.size F wa) := hide ((below_drewN (Below.refl F.heap.size F) 1).trans hbwa)
              have HOwa := hide howa
              clear howa hbwa
              first
                | refine hK.out _ _ ?_ (fun hHeld => ?_)
                | (go_wp2_with fail; refine hK.out _ _ ?_ (fun hHeld => ?_))
              · (try dsimp only)
                exact HKF.out _ HWA.out
              clear hK K
              try simp only [Act.put, List.setIfInBounds_toArray, List.set_cons_zero, List.set_cons_succ]
              refine wpAnyH_ready (rs := [14]) (by kernel_rfl) (by simp) ?_
              refine AllReadyH.cons (o := { dst := some 128, op := Op.call { callee := Callee.value (Operand.func 24), args := #[Operand.tmp 125, Operand.tmp 127], argTypes := #[42, 42] }, type := 4, pos := "law.go:223", after := _, guard := some (10, true) }) rfl (fun K hK => ?_) ?_
              · go_simp
                go_at_call 24
                refine (same_any (HNOW.out.below HWA.out) HOwa.out.snv (by have := (good_many HGF.out).1; omega)).mono ?_
                rintro e wb ⟨rfl, hbwb⟩
                rw [decide_eq_true (rfl : fd = fd)]
                have HWB : Hid (Below F.heap.size F wb) := hide (HWA.out.trans (hbwb.mono HWA.out.size))
                clear hbwb
                first
                  | refine hK.out _ _ ?_ (fun hHeld => ?_)
                  | (go_wp2_with fail; refine hK.out _ _ ?_ (fun hHeld => ?_))
                · (try dsimp only)
                  exact HKF.out _ HWB.out
                clear hK K
                try simp only [Act.put, List.setIfInBounds_toArray, List.set_cons_zero, List.set_cons_succ]
                refine wpAnyH_take (i := 15) (oi := { dst := some 129, op := Op.pick (Operand.tmp 124) (Operand.tmp 128) (Operand.const (Value.bool false)), type := 4, pos := "law.go:223", after := _, guard := some (8, false) }) (v := ?_) rfl (by kernel_rfl) (by kernel_rfl) (by kernel_rfl) (fun _ _ _ h => h) (Or.inl ⟨by rfl, ?_⟩) (by assumption) ?_
                rotate_left
                · intro w hSw
                  (try dsimp only at hSw)
                  go_simp
                  try with_reducible rfl
                try simp only [Act.put, List.setIfInBounds_toArray, List.set_cons_zero, List.set_cons_succ]
                refine wpAnyH_take (i := 16) (oi := { dst := some 130, op := Op.pick (Operand.tmp 122) (Operand.const (Value.bool true)) (Operand.tmp 129), type := 4, pos := "law.go:223", after := _, guard := none }) (v := ?_) rfl (by kernel_rfl) (by kernel_rfl) (by kernel_rfl) (fun _ _ _ h => h) (Or.inl ⟨by rfl, ?_⟩) (by assumption) ?_
                rotate_left
                · intro w hSw
                  (try dsimp only at hSw)
                  go_simp
                  try with_reducible rfl
                try simp only [Act.put, List.setIfInBounds_toArray, List.set_cons_zero, List.set_cons_succ]
                refine wpAnyH_take (i := 17) (oi := { dst := some 131, op := Op.move (Operand.tmp 130), type := 4, pos := "law.go:223", after := _, guard := none }) (v := ?_) rfl (by kernel_rfl) (by kernel_rfl) (by kernel_rfl) (fun _ _ _ h => h) (Or.inl ⟨by rfl, ?_⟩) (by assumption) ?_
                rotate_left
                · intro w hSw
                  (try dsimp only at hSw)
                  go_simp
                  try with_reducible rfl
                try simp only [Act.put, List.setIfInBounds_toArray, List.set_cons_zero, List.set_cons_succ]
                refine wpAnyH_ready (rs := [18]) (by kernel_rfl) (by simp) ?_
                refine AllReadyH.cons (o := { dst := some 132, op := Op.call { callee := Callee.value (Operand.func 12), args := #[], argTypes := #[] }, type := 4, pos := "law.go:223", after := _, guard := some (17, true) }) rfl (fun K hK => ?_) ?_
                · go_simp
                  go_at_call 12
                  refine (HAW.out _ (HFW.out.trans (HWB.out.mono HFW.out.size))).mono ?_
                  rintro e wz ⟨rfl, hbz⟩
                  have HWZ : Hid (Below F.heap.size F wz) := hide (HWB.out.trans (hbz.mono HWB.out.size))
                  clear hbz
                  first
                    | refine hK.out _ _ ?_ (fun hHeld => ?_)
                    | (go_wp2_with fail; refine hK.out _ _ ?_ (fun hHeld => ?_))
                  · (try dsimp only)
                    exact HKF.out _ HWZ.out
                  clear hK K
                  try simp only [Act.put, List.setIfInBounds_toArray, List.set_cons_zero, List.set_cons_succ]
                  refine wpAnyH_take (i := 19) (oi := { dst := some 133, op := Op.pick (Operand.tmp 131) (Operand.tmp 132) (Operand.const (Value.bool false)), type := 4, pos := "law.go:223", after := _, guard := none }) (v := ?_) rfl (by kernel_rfl) (by kernel_rfl) (by kernel_rfl) (fun _ _ _ h => h) (Or.inl ⟨by rfl, ?_⟩) (by assumption) ?_
                  rotate_left
                  · intro w hSw
                    (try dsimp only at hSw)
                    go_simp
                    try with_reducible rfl
                  try simp only [Act.put, List.setIfInBounds_toArray, List.set_cons_zero, List.set_cons_succ]
                  refine wpAnyH_take (i := 20) (oi := { dst := some 4, op := Op.assign (Operand.tmp 133), type := 4, pos := "law.go:223", after := _, guard := none }) (v := ?_) rfl (by kernel_rfl) (by kernel_rfl) (by kernel_rfl) (fun _ _ _ h => h) (Or.inl ⟨by rfl, ?_⟩) (by assumption) ?_
                  rotate_left
                  · intro w hSw
                    (try dsimp only at hSw)
                    go_simp
                    try with_reducible rfl
                  try simp only [Act.put, List.setIfInBounds_toArray, List.set_cons_zero, List.set_cons_succ]
                  refine wpAnyH_done (by kernel_rfl) ?_ _
                  go_wp2_with fail
                  go_ret
                  exact ⟨rfl, HFW.out.trans (HWZ.out.mono HFW.out.size)⟩
                exact AllReadyH.nil
              exact AllReadyH.nil
            exact AllReadyH.nil
          · refine wp_region_held_drew (S := fun W => W.cell? ⟨wN.heap.size, 0, none⟩ = some (.int .i64 fd.ix) ∧ W.cell? ⟨wN.heap.size, 1, none⟩ = some (.int .i64 fd.tm) ∧ W.cell? ⟨wN.heap.size, 2, none⟩ = some (.slice pn nn cn) ∧ W.cell? ⟨wN.heap.size, 3, none⟩ = some (.slice pe ne ce) ∧ W.cell? ⟨w.heap.size, 0, none⟩ = some (.int .i64 d.op) ∧ W.cell? ⟨w.heap.size, 1, none⟩ = some (.int .i64 d.six) ∧ W.cell? ⟨w.heap.size, 2, none⟩ = some (.int .i64 d.stm) ∧ W.cell? ⟨w.heap.size, 3, none⟩ = some (.slice d.psv d.nsv d.dsv) ∧ W.cell? ⟨w.heap.size, 4, none⟩ = some (.slice d.psd d.nsd d.dsd) ∧ W.cell? ⟨w.heap.size, 5, none⟩ = some (.int .i64 d.size) ∧ W.cell? ⟨w.heap.size, 6, none⟩ = some (.int .i64 d.n) ∧ W.cell? ⟨w.heap.size, 7, none⟩ = some (.int .i64 d.keep) ∧ W.cell? ⟨w.heap.size, 8, none⟩ = some (.int .i64 d.tear) ∧ W.cell? ⟨wL.heap.size, 0, none⟩ = some (.int .i64 S.ix) ∧ W.cell? ⟨wL.heap.size, 1, none⟩ = some (.int .i64 S.tm) ∧ W.cell? ⟨wL.heap.size, 2, none⟩ = some (.slice pv nv cv) ∧ W.cell? ⟨wL.heap.size, 3, none⟩ = some (.slice pd nd cd)) (by kernel_rfl) ?_ (fun hHeld => ?_)
            · (try dsimp only)
              exact HKF.out _ (below_drewN (Below.refl _ _) 1)
            refine wpAnyH_take (i := 0) (oi := { dst := some 114, op := Op.move (Operand.tmp 15), type := 4, pos := "law.go:223", after := #[], guard := none }) (v := ?_) rfl (by kernel_rfl) (by kernel_rfl) (by kernel_rfl) (fun _ _ _ h => h) (Or.inl ⟨by rfl, ?_⟩) (by assumption) ?_
            rotate_left
            · intro w hSw
              (try dsimp only at hSw)
              go_simp
              try with_reducible rfl
            try simp only [Act.put, List.setIfInBounds_toArray, List.set_cons_zero, List.set_cons_succ]
            refine wpAnyH_take (i := 1) (oi := { dst := some 115, op := Op.move (Operand.tmp 11), type := 4, pos := "law.go:223", after := #[], guard := none }) (v := ?_) rfl (by kernel_rfl) (by kernel_rfl) (by kernel_rfl) (fun _ _ _ h => h) (Or.inl ⟨by rfl, ?_⟩) (by assumption) ?_
            rotate_left
            · intro w hSw
              (try dsimp only at hSw)
              go_simp
              try with_reducible rfl
            try simp only [Act.put, List.setIfInBounds_toArray, List.set_cons_zero, List.set_cons_succ]
            refine wpAnyH_take (i := 2) (oi := { dst := some 116, op := Op.binOp BinOp.eql 4 (Operand.tmp 114) (Operand.tmp 115) 4, type := 4, pos := "law.go:223", after := _, guard := none }) (v := ?_) rfl (by kernel_rfl) (by kernel_rfl) (by kernel_rfl) (fun _ _ _ h => h) (Or.inl ⟨by rfl, ?_⟩) (by assumption) ?_
            rotate_left
            · intro w hSw
              (try dsimp only at hSw)
              go_simp
              try with_reducible rfl
            try simp only [Act.put, List.setIfInBounds_toArray, List.set_cons_zero, List.set_cons_succ]
            refine wpAnyH_take (i := 3) (oi := { dst := some 117, op := Op.move (Operand.tmp 116), type := 4, pos := "law.go:223", after := _, guard := none }) (v := ?_) rfl (by kernel_rfl) (by kernel_rfl) (by kernel_rfl) (fun _ _ _ h => h) (Or.inl ⟨by rfl, ?_⟩) (by assumption) ?_
            rotate_left
            · intro w hSw
              (try dsimp only at hSw)
              go_simp
              try with_reducible rfl
            try simp only [Act.put, List.setIfInBounds_toArray, List.set_cons_zero, List.set_cons_succ]
            refine wpAnyH_take (i := 4) (oi := { dst := some 118, op := Op.load 42 (Operand.tmp 14), type := 42, pos := "law.go:223", after := _, guard := some (3, true) }) (v := ?_) rfl (by kernel_rfl) (by kernel_rfl) (by kernel_rfl) (fun _ _ _ h => h) (Or.inl ⟨by rfl, ?_⟩) (by assumption) ?_
            rotate_left
            · intro w hSw
              (try dsimp only at hSw)
              go_simp
              try with_reducible rfl
            try simp only [Act.put, List.setIfInBounds_toArray, List.set_cons_zero, List.set_cons_succ]
            refine wpAnyH_take (i := 5) (oi := { dst := some 119, op := Op.load 42 (Operand.tmp 10), type := 42, pos := "law.go:223", after := _, guard := some (3, true) }) (v := ?_) rfl (by kernel_rfl) (by kernel_rfl) (by kernel_rfl) (fun _ _ _ h => h) (Or.inl ⟨by rfl, ?_⟩) (by assumption) ?_
            rotate_left
            · intro w hSw
              (try dsimp only at hSw)
              go_simp
              try with_reducible rfl
            try simp only [Act.put, List.setIfInBounds_toArray, List.set_cons_zero, List.set_cons_succ]
            refine wpAnyH_ready (rs := [6]) (by kernel_rfl) (by simp) ?_
            refine AllReadyH.cons (o := { dst := some 120, op := Op.call { callee := Callee.value (Operand.func 24), args := #[Operand.tmp 118, Operand.tmp 119], argTypes := #[42, 42] }, type := 4, pos := "law.go:223", after := _, guard := some (3, true) }) rfl (fun K hK => ?_) ?_
            · go_simp
              go_at_call 24
              refine (same_any (HNOW.out.below (below_drewN (Below.refl F.heap.size F) 1)) (HWF.out.snv.below (below_drewN (Below.refl F.heap.size F) 1)) (by have := (good_many HGF.out).1; omega)).mono ?_
              rintro e wx ⟨rfl, hbwx⟩
              rw [decide_eq_false HNE.out]
              have HWX : Hid (Below F.heap.size F wx) := hide ((below_drewN (Below.refl F.heap.size F) 1).trans hbwx)
              clear hbwx
              first
                | refine hK.out _ _ ?_ (fun hHeld => ?_)
                | (go_wp2_with fail; refine hK.out _ _ ?_ (fun hHeld => ?_))
              · (try dsimp only)
                exact HKF.out _ HWX.out
              clear hK K
              try simp only [Act.put, List.setIfInBounds_toArray, List.set_cons_zero, List.set_cons_succ]
              refine wpAnyH_take (i := 7) (oi := { dst := some 121, op := Op.pick (Operand.tmp 117) (Operand.tmp 120) (Operand.const (Value.bool false)), type := 4, pos := "law.go:223", after := _, guard := none }) (v := ?_) rfl (by kernel_rfl) (by kernel_rfl) (by kernel_rfl) (fun _ _ _ h => h) (Or.inl ⟨by rfl, ?_⟩) (by assumption) ?_
              rotate_left
              · intro w hSw
                (try dsimp only at hSw)
                go_simp
                try with_reducible rfl
              try simp only [Act.put, List.setIfInBounds_toArray, List.set_cons_zero, List.set_cons_succ]
              refine wpAnyH_take (i := 8) (oi := { dst := some 122, op := Op.move (Operand.tmp 121), type := 4, pos := "law.go:223", after := _, guard := none }) (v := ?_) rfl (by kernel_rfl) (by kernel_rfl) (by kernel_rfl) (fun _ _ _ h => h) (Or.inl ⟨by rfl, ?_⟩) (by assumption) ?_
              rotate_left
              · intro w hSw
                (try dsimp only at hSw)
                go_simp
                try with_reducible rfl
              try simp only [Act.put, List.setIfInBounds_toArray, List.set_cons_zero, List.set_cons_succ]
              refine wpAnyH_take (i := 9) (oi := { dst := some 123, op := Op.move (Operand.tmp 15), type := 4, pos := "law.go:223", after := _, guard := some (8, false) }) (v := ?_) rfl (by kernel_rfl) (by kernel_rfl) (by kernel_rfl) (fun _ _ _ h => h) (Or.inl ⟨by rfl, ?_⟩) (by assumption) ?_
              rotate_left
              · intro w hSw
                (try dsimp only at hSw)
                go_simp
                try with_reducible rfl
              try simp only [Act.put, List.setIfInBounds_toArray, List.set_cons_zero, List.set_cons_succ]
              refine wpAnyH_take (i := 10) (oi := { dst := some 124, op := Op.move (Operand.tmp 123), type := 4, pos := "law.go:223", after := _, guard := some (8, false) }) (v := ?_) rfl (by kernel_rfl) (by kernel_rfl) (by kernel_rfl) (fun _ _ _ h => h) (Or.inl ⟨by rfl, ?_⟩) (by assumption) ?_
              rotate_left
              · intro w hSw
                (try dsimp only at hSw)
                go_simp
                try with_reducible rfl
              try simp only [Act.put, List.setIfInBounds_toArray, List.set_cons_zero, List.set_cons_succ]
              refine wpAnyH_take (i := 11) (oi := { dst := some 125, op := Op.load 42 (Operand.tmp 14), type := 42, pos := "law.go:223", after := _, guard := some (10, true) }) (v := ?_) rfl (by kernel_rfl) (by kernel_rfl) (by kernel_rfl) (fun _ _ _ h => h) (Or.inl ⟨by rfl, ?_⟩) (by assumption) ?_
              rotate_left
              · intro w hSw
                (try dsimp only at hSw)
                go_simp
                try with_reducible rfl
              try simp only [Act.put, List.setIfInBounds_toArray, List.set_cons_zero, List.set_cons_succ]
              refine wpAnyH_take (i := 12) (oi := { dst := some 126, op := Op.load 44 (Operand.tmp 3), type := 44, pos := "law.go:223", after := _, guard := some (10, true) }) (v := ?_) rfl (by kernel_rfl) (by kernel_rfl) (by kernel_rfl) (fun _ _ _ h => h) (Or.inl ⟨by rfl, ?_⟩) (by assumption) ?_
              rotate_left
              · intro w hSw
                (try dsimp only at hSw)
                go_simp
                try with_reducible rfl
              try simp only [Act.put, List.setIfInBounds_toArray, List.set_cons_zero, List.set_cons_succ]
              refine wpAnyH_ready (rs := [13]) (by kernel_rfl) (by simp) ?_
              refine AllReadyH.cons (o := { dst := some 127, op := Op.call { callee := Callee.value (Operand.func 21), args := #[Operand.tmp 126], argTypes := #[44] }, type := 42, pos := "law.go:223", after := _, guard := some (10, true) }) rfl (fun K hK => ?_) ?_
              · go_simp
                go_at_call 21
                refine (HSN.out _ (HF2.out.trans (HWX.out.mono HF2.out.size))).mono ?_
                rintro e wa ⟨va, rfl, howa, hbwa⟩
                have HWA : Hid (Below F.heap.size F wa) := hide (HWX.out.trans (hbwa.mono HWX.out.size))
                have HOwa := hide howa
                clear howa hbwa
                first
                  | refine hK.out _ _ ?_ (fun hHeld => ?_)
                  | (go_wp2_with fail; refine hK.out _ _ ?_ (fun hHeld => ?_))
                · (try dsimp only)
                  exact HKF.out _ HWA.out
                clear hK K
                try simp only [Act.put, List.setIfInBounds_toArray, List.set_cons_zero, List.set_cons_succ]
                refine wpAnyH_ready (rs := [14]) (by kernel_rfl) (by simp) ?_
                refine AllReadyH.cons (o := { dst := some 128, op := Op.call { callee := Callee.value (Operand.func 24), args := #[Operand.tmp 125, Operand.tmp 127], argTypes := #[42, 42] }, type := 4, pos := "law.go:223", after := _, guard := some (10, true) }) rfl (fun K hK => ?_) ?_
                · go_simp
                  go_at_call 24
                  refine (same_any (HNOW.out.below HWA.out) HOwa.out.snv (by have := (good_many HGF.out).1; omega)).mono ?_
                  rintro e wb ⟨rfl, hbwb⟩
                  rw [decide_eq_true (rfl : fd = fd)]
                  have HWB : Hid (Below F.heap.size F wb) := hide (HWA.out.trans (hbwb.mono HWA.out.size))
                  clear hbwb
                  first
                    | refine hK.out _ _ ?_ (fun hHeld => ?_)
                    | (go_wp2_with fail; refine hK.out _ _ ?_ (fun hHeld => ?_))
                  · (try dsimp only)
                    exact HKF.out _ HWB.out
                  clear hK K
                  try simp only [Act.put, List.setIfInBounds_toArray, List.set_cons_zero, List.set_cons_succ]
                  refine wpAnyH_take (i := 15) (oi := { dst := some 129, op := Op.pick (Operand.tmp 124) (Operand.tmp 128) (Operand.const (Value.bool false)), type := 4, pos := "law.go:223", after := _, guard := some (8, false) }) (v := ?_) rfl (by kernel_rfl) (by kernel_rfl) (by kernel_rfl) (fun _ _ _ h => h) (Or.inl ⟨by rfl, ?_⟩) (by assumption) ?_
                  rotate_left
                  · intro w hSw
                    (try dsimp only at hSw)
                    go_simp
                    try with_reducible rfl
                  try simp only [Act.put, List.setIfInBounds_toArray, List.set_cons_zero, List.set_cons_succ]
                  refine wpAnyH_take (i := 16) (oi := { dst := some 130, op := Op.pick (Operand.tmp 122) (Operand.const (Value.bool true)) (Operand.tmp 129), type := 4, pos := "law.go:223", after := _, guard := none }) (v := ?_) rfl (by kernel_rfl) (by kernel_rfl) (by kernel_rfl) (fun _ _ _ h => h) (Or.inl ⟨by rfl, ?_⟩) (by assumption) ?_
                  rotate_left
                  · intro w hSw
                    (try dsimp only at hSw)
                    go_simp
                    try with_reducible rfl
                  try simp only [Act.put, List.setIfInBounds_toArray, List.set_cons_zero, List.set_cons_succ]
                  refine wpAnyH_take (i := 17) (oi := { dst := some 131, op := Op.move (Operand.tmp 130), type := 4, pos := "law.go:223", after := _, guard := none }) (v := ?_) rfl (by kernel_rfl) (by kernel_rfl) (by kernel_rfl) (fun _ _ _ h => h) (Or.inl ⟨by rfl, ?_⟩) (by assumption) ?_
                  rotate_left
                  · intro w hSw
                    (try dsimp only at hSw)
                    go_simp
                    try with_reducible rfl
                  try simp only [Act.put, List.setIfInBounds_toArray, List.set_cons_zero, List.set_cons_succ]
                  refine wpAnyH_ready (rs := [18]) (by kernel_rfl) (by simp) ?_
                  refine AllReadyH.cons (o := { dst := some 132, op := Op.call { callee := Callee.value (Operand.func 12), args := #[], argTypes := #[] }, type := 4, pos := "law.go:223", after := _, guard := some (17, true) }) rfl (fun K hK => ?_) ?_
                  · go_simp
                    go_at_call 12
                    refine (HAW.out _ (HFW.out.trans (HWB.out.mono HFW.out.size))).mono ?_
                    rintro e wz ⟨rfl, hbz⟩
                    have HWZ : Hid (Below F.heap.size F wz) := hide (HWB.out.trans (hbz.mono HWB.out.size))
                    clear hbz
                    first
                      | refine hK.out _ _ ?_ (fun hHeld => ?_)
                      | (go_wp2_with fail; refine hK.out _ _ ?_ (fun hHeld => ?_))
                    · (try dsimp only)
                      exact HKF.out _ HWZ.out
                    clear hK K
                    try simp only [Act.put, List.setIfInBounds_toArray, List.set_cons_zero, List.set_cons_succ]
                    refine wpAnyH_take (i := 19) (oi := { dst := some 133, op := Op.pick (Operand.tmp 131) (Operand.tmp 132) (Operand.const (Value.bool false)), type := 4, pos := "law.go:223", after := _, guard := none }) (v := ?_) rfl (by kernel_rfl) (by kernel_rfl) (by kernel_rfl) (fun _ _ _ h => h) (Or.inl ⟨by rfl, ?_⟩) (by assumption) ?_
                    rotate_left
                    · intro w hSw
                      (try dsimp only at hSw)
                      go_simp
                      try with_reducible rfl
                    try simp only [Act.put, List.setIfInBounds_toArray, List.set_cons_zero, List.set_cons_succ]
                    refine wpAnyH_take (i := 20) (oi := { dst := some 4, op := Op.assign (Operand.tmp 133), type := 4, pos := "law.go:223", after := _, guard := none }) (v := ?_) rfl (by kernel_rfl) (by kernel_rfl) (by kernel_rfl) (fun _ _ _ h => h) (Or.inl ⟨by rfl, ?_⟩) (by assumption) ?_
                    rotate_left
                    · intro w hSw
                      (try dsimp only at hSw)
                      go_simp
                      try with_reducible rfl
                    try simp only [Act.put, List.setIfInBounds_toArray, List.set_cons_zero, List.set_cons_succ]
                    refine wpAnyH_done (by kernel_rfl) ?_ _
                    go_wp2_with fail
                    go_ret
                    exact ⟨rfl, HFW.out.trans (HWZ.out.mono HFW.out.size)⟩
                  exact AllReadyH.nil
                exact AllReadyH.nil
              exact AllReadyH.nil
            exact AllReadyH.nil
      · obtain rfl : sb = hb := HSB.out.symm.trans HHB.out
        have hi0 : ¬ (cc : Int) = 0 := by omega
        have hi22 : ¬ (cc : Int) = 22 := by omega
        have HSM := hide (same_any HNOW.out HWF.out.snv (by have := (good_many HGF.out).1; omega))
        clear hc0 hc22
        go_wp2_with fail
        refine HSM.out.mono ?_
        rintro e wb ⟨rfl, hbb⟩
        rw [decide_eq_true (rfl : fd = fd)]
        have HWB := hide hbb
        clear hbb HSM
        go_wp2_with (go_at_call 12; refine (HAW.out _ (HFW.out.trans (HWB.out.mono HFW.out.size))).mono ?_; rintro e wz ⟨rfl, hbz⟩)
        go_ret
        exact ⟨rfl, HFW.out.trans ((HWB.out.trans (hbz.mono HWB.out.size)).mono HFW.out.size)⟩
end Go.Proofs.YtgbdjcekpdfpjaaGreatDoor
