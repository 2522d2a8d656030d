/- VaultNobody: the law. -/
import Derived.Test.YtgbdjcekpdfpjaaGreatDoorLawVOver
import Derived.Test.YtgbdjcekpdfpjaaGreatDoorVSaveB
import Derived.Test.YtgbdjcekpdfpjaaGreatDoorVNob
import Derived.Test.YtgbdjcekpdfpjaaGreatDoorVTkN
namespace Go.Proofs.YtgbdjcekpdfpjaaGreatDoor
set_option linter.unusedVariables false
set_option linter.unusedSimpArgs false
open Go.RowKit

set_option maxRecDepth 200000 in
set_option maxHeartbeats 40000000 in
theorem lawVNobody_any {w : World} (ht : Tab w) {d : Ddo} (h : DdoIn w d) (hz : d.sv.length * 8 ≤ 140737488351232) (hzd : d.sd.length ≤ 140737488351232) (at_ : Int) (hwf : (Lit.int .i64 at_).wf = true) :
    Calls Tryz.prog 10 #[.agg (doC d).toArray, .int .i64 at_] w fun e w' => e = .returned (.bool true) ∧ Below w.heap.size w w' := by
  obtain ⟨X, hX⟩ : ∃ X, ((w.alloc (.cells #[.int .i64 d.op, .int .i64 d.six, .int .i64 d.stm, .slice d.psv d.nsv d.dsv, .slice d.psd d.nsd d.dsd, .int .i64 d.size, .int .i64 d.n, .int .i64 d.keep, .int .i64 d.tear] 44)).alloc (.cells #[.int .i64 0, .int .i64 0, .slice none 0 0, .slice none 0 0, .pointer none] 88)).alloc (.cells #[.pointer none, .pointer (some ⟨w.heap.size + 1, 0, none⟩)] 33) = X := ⟨_, rfl⟩
  have hbX : Below w.heap.size w X := by rw [← hX]; exact balloc (balloc (balloc (Below.refl _ _) _) _) _
  have hsX : X.heap.size = w.heap.size + 3 := by rw [← hX]; simp
  have hr0 : X.heap[w.heap.size]? = some (.cells #[.int .i64 d.op, .int .i64 d.six, .int .i64 d.stm, .slice d.psv d.nsv d.dsv, .slice d.psd d.nsd d.dsd, .int .i64 d.size, .int .i64 d.n, .int .i64 d.keep, .int .i64 d.tear] 44 (0, 0)) := by
    rw [← hX, heap_alloc_old _ _ (by simp; omega), heap_alloc_old _ _ (by simp)]
    exact Array.getElem?_push_size
  have hr1 : X.heap[w.heap.size + 1]? = some (.cells #[.int .i64 0, .int .i64 0, .slice none 0 0, .slice none 0 0, .pointer none] 88 (0, 0)) := by
    rw [← hX, heap_alloc_old _ _ (by simp)]
    have := World.alloc_heap_new (w.alloc (.cells #[.int .i64 d.op, .int .i64 d.six, .int .i64 d.stm, .slice d.psv d.nsv d.dsv, .slice d.psd d.nsd d.dsd, .int .i64 d.size, .int .i64 d.n, .int .i64 d.keep, .int .i64 d.tear] 44)) (.cells #[.int .i64 0, .int .i64 0, .slice none 0 0, .slice none 0 0, .pointer none] 88)
    simpa using this
  have hr2 : X.heap[w.heap.size + 2]? = some (.cells #[.pointer none, .pointer (some ⟨w.heap.size + 1, 0, none⟩)] 33 (0, 0)) := by
    rw [← hX]
    have := World.alloc_heap_new ((w.alloc (.cells #[.int .i64 d.op, .int .i64 d.six, .int .i64 d.stm, .slice d.psv d.nsv d.dsv, .slice d.psd d.nsd d.dsd, .int .i64 d.size, .int .i64 d.n, .int .i64 d.keep, .int .i64 d.tear] 44)).alloc (.cells #[.int .i64 0, .int .i64 0, .slice none 0 0, .slice none 0 0, .pointer none] 88)) (.cells #[.pointer none, .pointer (some ⟨w.heap.size + 1, 0, none⟩)] 33)
    simpa using this
  have HBX := hide hbX
  have HLD := hide (fun (W : World) (hW : Below X.heap.size X W) => (hW.block w.heap.size (by omega)).trans hr0)
  have HNV := hide (fun (W : World) (hW : Below X.heap.size X W) (j : Nat) (hj : j < 2) => (show ∃ p, W.cell? ⟨w.heap.size + 2, j, none⟩ = some (.pointer p) ∧ NoV W (.pointer p) from by
    have e2 := (hW.block (w.heap.size + 2) (by omega)).trans hr2
    have e1 := (hW.block (w.heap.size + 1) (by omega)).trans hr1
    match j, hj with
    | 0, _ => exact ⟨none, by rw [cell_of_row W _ 0 _ _ (0, 0) e2]; rfl, .inl rfl⟩
    | 1, _ => exact ⟨some ⟨w.heap.size + 1, 0, none⟩, by rw [cell_of_row W _ 1 _ _ (0, 0) e2]; rfl, .inr ⟨_, rfl, by rw [cell_of_row W _ 4 _ _ (0, 0) e1]; rfl⟩⟩))
  have HSN := hide (show ∀ W : World, Below X.heap.size X W → Calls Tryz.prog 21 #[.agg #[.int .i64 d.op, .int .i64 d.six, .int .i64 d.stm, .slice d.psv d.nsv d.dsv, .slice d.psd d.nsd d.dsd, .int .i64 d.size, .int .i64 d.n, .int .i64 d.keep, .int .i64 d.tear]] W (OwP W d.sn) from fun W hW => vsnap_any (h.below (hbX.trans (hW.mono hbX.size))) (by omega) hzd)
  have HAW := hide (fun (W : World) (hb : Below w.heap.size w W) => vawake_any (ht.below hb ht.lt))
  have HT := hide ht
  clear hbX hsX hr0 hr1 hr2 ht h hz hzd
  unfold doC
  go_enter Tryz.func10, Tryz.ntmps10
  go_wp2_with fail
  go_loopw [6, 7, 8, 9, 10, 11, 28] (fun _ _ _ _ _ _ i wr => ∃ j : Nat, j ≤ 2 ∧ i = .int .i64 j ∧ Below X.heap.size X wr) (fun _ _ _ _ _ _ i _ => 2 - (intOf i).toNat)
  case atStart => exact ⟨0, by omega, by first | trivial | rfl, Below.refl _ _⟩
  case round =>
    obtain ⟨j, hj, rfl, hbw⟩ := hrel
    have HB := hide hbw
    clear hbw hX
    by_cases hjn : (j : Int) < 2
    · obtain ⟨p, hp, hnv⟩ := HNV.out wr HB.out j (by omega)
      have HNO := hide hnv
      clear hnv
      have HS0 := hide (show ∀ W : World, SnV W (.agg #[.int .i64 0, .int .i64 0, .slice none 0 0, .slice none 0 0]) sn0 from fun W => ⟨_, _, rfl, Ns.nil _, By.nil _, by show Go.Proofs.YtgbdjcekpdfpjaaGreatDoor.fits 0; unfold Go.Proofs.YtgbdjcekpdfpjaaGreatDoor.fits; omega, by show Go.Proofs.YtgbdjcekpdfpjaaGreatDoor.fits 0; unfold Go.Proofs.YtgbdjcekpdfpjaaGreatDoor.fits; omega⟩)
      have HLA := hide (vlast_no HNO.out)
      go_wp2_with fail
      refine HLA.out.mono ?_
      rintro e w2 ⟨rfl, hb2⟩
      have HB2 := hide (HB.out.trans (hb2.mono HB.out.size))
      obtain ⟨W3, hW3⟩ : ∃ W3, w2.alloc (.cells #[.int .i64 0, .int .i64 0, .slice none 0 0, .slice none 0 0] 42) = W3 := ⟨_, rfl⟩
      have hb3 : Below w2.heap.size w2 W3 := by rw [← hW3]; exact balloc (Below.refl _ _) _
      have hr3 : W3.heap[w2.heap.size]? = some (.cells #[.int .i64 0, .int .i64 0, .slice none 0 0, .slice none 0 0] 42 (0, 0)) := by rw [← hW3]; exact Array.getElem?_push_size
      have y0 : W3.cell? ⟨w2.heap.size, 0, none⟩ = some (.int .i64 0) := by rw [cell_of_row W3 _ 0 _ _ (0, 0) hr3]; rfl
      have y1 : W3.cell? ⟨w2.heap.size, 1, none⟩ = some (.int .i64 0) := by rw [cell_of_row W3 _ 1 _ _ (0, 0) hr3]; rfl
      have y2 : W3.cell? ⟨w2.heap.size, 2, none⟩ = some (.slice none 0 0) := by rw [cell_of_row W3 _ 2 _ _ (0, 0) hr3]; rfl
      have y3 : W3.cell? ⟨w2.heap.size, 3, none⟩ = some (.slice none 0 0) := by rw [cell_of_row W3 _ 3 _ _ (0, 0) hr3]; rfl
      have HB3 := hide (HB2.out.trans (hb3.mono HB2.out.size))
      have HN3 := hide ((HNO.out.below hb2).below hb3)
      have HPC := hide (vpiece_no HN3.out at_)
      have HSM := hide (same_any (HS0.out W3) (HS0.out W3) (by simp [sn0]))
      have HW3 := hide hW3
      clear hb2 hb3 hr3 hW3
      go_wp2_with fail
      rw [HW3.out]
      refine HPC.out.mono ?_
      rintro e w3 ⟨rfl, hw3⟩
      subst hw3
      go_wp2_with fail
      refine HSM.out.mono ?_
      rintro e w4 ⟨rfl, hb4⟩
      rw [show decide (sn0 = sn0) = true from decide_eq_true rfl]
      have HB4 := hide (HB3.out.trans (hb4.mono HB3.out.size))
      have HN4 := hide (HN3.out.below hb4)
      clear hb4 y0 y1 y2 y3
      have hrw := HLD.out w4 HB4.out
      have l0 : w4.cell? ⟨w.heap.size, 0, none⟩ = some (.int .i64 d.op) := by rw [cell_of_row w4 _ 0 _ _ (0, 0) hrw]; rfl
      have l1 : w4.cell? ⟨w.heap.size, 1, none⟩ = some (.int .i64 d.six) := by rw [cell_of_row w4 _ 1 _ _ (0, 0) hrw]; rfl
      have l2 : w4.cell? ⟨w.heap.size, 2, none⟩ = some (.int .i64 d.stm) := by rw [cell_of_row w4 _ 2 _ _ (0, 0) hrw]; rfl
      have l3 : w4.cell? ⟨w.heap.size, 3, none⟩ = some (.slice d.psv d.nsv d.dsv) := by rw [cell_of_row w4 _ 3 _ _ (0, 0) hrw]; rfl
      have l4 : w4.cell? ⟨w.heap.size, 4, none⟩ = some (.slice d.psd d.nsd d.dsd) := by rw [cell_of_row w4 _ 4 _ _ (0, 0) hrw]; rfl
      have l5 : w4.cell? ⟨w.heap.size, 5, none⟩ = some (.int .i64 d.size) := by rw [cell_of_row w4 _ 5 _ _ (0, 0) hrw]; rfl
      have l6 : w4.cell? ⟨w.heap.size, 6, none⟩ = some (.int .i64 d.n) := by rw [cell_of_row w4 _ 6 _ _ (0, 0) hrw]; rfl
      have l7 : w4.cell? ⟨w.heap.size, 7, none⟩ = some (.int .i64 d.keep) := by rw [cell_of_row w4 _ 7 _ _ (0, 0) hrw]; rfl
      have l8 : w4.cell? ⟨w.heap.size, 8, none⟩ = some (.int .i64 d.tear) := by rw [cell_of_row w4 _ 8 _ _ (0, 0) hrw]; rfl
      clear hrw
      go_wp2_with fail
      refine (HSN.out w4 HB4.out).mono ?_
      rintro e w5 ⟨v5, rfl, ho5, hb5⟩
      have HSV := hide (vsave_no (HN4.out.below hb5) ho5.snv)
      have HB5 := hide (HB4.out.trans (hb5.mono HB4.out.size))
      clear ho5 hb5 l0 l1 l2 l3 l4 l5 l6 l7 l8
      go_wp2_with fail
      refine HSV.out.mono ?_
      rintro e w6 ⟨rfl, hb6⟩
      have HB6 := hide (HB5.out.trans (hb6.mono HB5.out.size))
      clear hb6
      go_wp2_with fail
      go_roundw
      case rel => exact ⟨j + 1, by omega, by go_num, HB6.out⟩
      case measure => simp [intOf]; omega
    · clear hj
      obtain ⟨Y, hY⟩ : ∃ Y, (wr.alloc (.cells #[.int .i64 0, .int .i64 0, .bool false, .map none, .map none, .slice none 0 0, .int .i64 0, .int .i64 0, .int .i64 0] 96)).alloc (.cells #[.pointer none, .pointer (some ⟨wr.heap.size, 0, none⟩)] 26) = Y := ⟨_, rfl⟩
      have hbY : Below wr.heap.size wr Y := by rw [← hY]; exact balloc (balloc (Below.refl _ _) _) _
      have hsY : Y.heap.size = wr.heap.size + 2 := by rw [← hY]; simp
      have hd0 : Y.heap[wr.heap.size]? = some (.cells #[.int .i64 0, .int .i64 0, .bool false, .map none, .map none, .slice none 0 0, .int .i64 0, .int .i64 0, .int .i64 0] 96 (0, 0)) := by
        rw [← hY, heap_alloc_old _ _ (by simp)]
        exact Array.getElem?_push_size
      have hd1 : Y.heap[wr.heap.size + 1]? = some (.cells #[.pointer none, .pointer (some ⟨wr.heap.size, 0, none⟩)] 26 (0, 0)) := by
        rw [← hY]
        have := World.alloc_heap_new (wr.alloc (.cells #[.int .i64 0, .int .i64 0, .bool false, .map none, .map none, .slice none 0 0, .int .i64 0, .int .i64 0, .int .i64 0] 96)) (.cells #[.pointer none, .pointer (some ⟨wr.heap.size, 0, none⟩)] 26)
        simpa using this
      have HYB := hide (HB.out.trans (hbY.mono HB.out.size))
      have HND := hide (fun (W : World) (hW : Below Y.heap.size Y W) (j : Nat) (hj : j < 2) => (show ∃ p, W.cell? ⟨wr.heap.size + 1, j, none⟩ = some (.pointer p) ∧ No W (.pointer p) from by
        have e2 := (hW.block (wr.heap.size + 1) (by omega)).trans hd1
        have e1 := (hW.block wr.heap.size (by omega)).trans hd0
        match j, hj with
        | 0, _ => exact ⟨none, by rw [cell_of_row W _ 0 _ _ (0, 0) e2]; rfl, .inl rfl⟩
        | 1, _ => exact ⟨some ⟨wr.heap.size, 0, none⟩, by rw [cell_of_row W _ 1 _ _ (0, 0) e2]; rfl, .inr ⟨_, rfl, by rw [cell_of_row W _ 3 _ _ (0, 0) e1]; rfl⟩⟩))
      clear hbY hsY hd0 hd1
      obtain ⟨wo, hwo⟩ : ∃ wo, wo = wr := ⟨_, rfl⟩
      rw [← hwo] at HND HB hY
      go_wp2_with fail
      rw [← hwo, hY]
      clear hY hwo
      go_loopw [13, 14, 15, 75] (fun _ _ _ i wr => ∃ j : Nat, j ≤ 2 ∧ i = .int .i64 j ∧ Below Y.heap.size Y wr) (fun _ _ _ i _ => 2 - (intOf i).toNat)
      case atStart => exact ⟨0, by omega, by first | trivial | rfl, Below.refl _ _⟩
      case round =>
        obtain ⟨j2, hj2, rfl, hbw⟩ := hrel
        have HB2 := hide hbw
        clear hbw
        by_cases hjn2 : (j2 : Int) < 2
        · obtain ⟨p, hp, hnd⟩ := HND.out wr HB2.out j2 (by omega)
          have HOP := hide (vopen_no hnd)
          clear hnd
          go_wp2_with fail
          refine HOP.out.mono ?_
          rintro e w2 ⟨rfl, hb2⟩
          have HB3 := hide (HB2.out.trans (hb2.mono HB2.out.size))
          clear hb2
          go_wp2_with fail
          go_roundw
          case rel => exact ⟨j2 + 1, by omega, by go_num, HB3.out⟩
          case measure => simp [intOf]; omega
        · clear hj2
          have HXW := hide (HYB.out.trans (HB2.out.mono HYB.out.size))
          have HWW := hide (HBX.out.trans (HXW.out.mono HBX.out.size))
          have HTW := hide (HT.out.below HWW.out HT.out.lt)
          have HNW := hide (new_any wr (room := 9) (by omega))
          go_wp2_with fail
          refine HNW.out.mono ?_
          rintro e w1 ⟨g, S, rfl, hdi, hS, hb1⟩
          have HSS := hide hS
          have HB1 := hide hb1
          have HCR := hide (crash_call hdi (keep := 0) (tear := 0) (by omega) (by omega) (by omega) (by omega))
          clear hdi hS hb1
          go_wp2_with fail
          refine HCR.out.mono ?_
          rintro e w2 ⟨rfl, hp⟩
          obtain ⟨S2, C2, hd2, hcg, hS2, hC2, hback⟩ := hp.go
          have hb2 : Below wr.heap.size wr w2 := Chg.to_below HB1.out hcg fun k hk => HSS.out k hk
          have htl := HTW.out.lt
          have hs1 := HB1.out.size
          have HOP := hide (vopen_any hd2 (HTW.out.below hb2 htl) (fun h => by
            rcases hS2 _ h with h | h
            · have := HSS.out _ h; omega
            · omega) ((Dk.Fine.new (r := 9) (by omega)).crash 0 0) (by omega) (by omega))
          have HS2 := hide hS2
          have HB2b := hide hb2
          have hov : (((Dk.new 9).crash 0 0).2).openV.1 = 22 := by decide +kernel
          have HOV := hide hov
          clear hd2 hcg hS2 hC2 hback hb2 htl hs1 hov hp
          go_wp2_with fail
          refine HOP.out.mono ?_
          rintro e w3 (⟨k1, rfl, S3, C3, _, hc3, _⟩ | ⟨k1, _⟩)
          rotate_left
          · exact absurd k1 (by rw [HOV.out]; omega)
          rw [HOV.out]
          have HB3 := hide (Chg.to_below HB2b.out hc3 fun k hk => by
            rcases HS2.out k hk with h | h
            · exact HSS.out k h
            · have := HB1.out.size; omega)
          have HBA := hide (HWW.out.trans (HB3.out.mono HWW.out.size))
          clear hc3 k1
          go_wp2_with (first
            | (go_at_call 38; refine (vtake_nil _ _ _ _ _ _).mono ?_; rintro e wy ⟨rfl, rfl⟩)
            | (go_at_call 37; refine (vhave_nil _ _ _).mono ?_; rintro e wy ⟨rfl, rfl⟩)
            | (go_at_call 12; refine (HAW.out _ HBA.out).mono ?_; rintro e wz ⟨rfl, hbz⟩))
          go_ret
          exact ⟨rfl, HBA.out.trans (hbz.mono HBA.out.size)⟩
end Go.Proofs.YtgbdjcekpdfpjaaGreatDoor
