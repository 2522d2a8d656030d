/- VaultOver: the law. -/
import Derived.Test.YtgbdjcekpdfpjaaGreatDoorVAwake
import Derived.Test.YtgbdjcekpdfpjaaGreatDoorVk
import Derived.Test.YtgbdjcekpdfpjaaGreatDoorVSh
namespace Go.Proofs.YtgbdjcekpdfpjaaGreatDoor
set_option linter.unusedVariables false
set_option linter.unusedSimpArgs false
open Go.RowKit

/-- The intake behind at bytes. -/
def ovI (s : Sn) (a : Nat) : It := if a = 0 then ⟨0, 0, []⟩ else ⟨s.ix, s.tm, s.da.take a⟩
theorem ovI_have {s : Sn} (h : 1 ≤ s.ix) {a : Nat} (ha : a ≤ s.da.length) : (ovI s a).have_ s.ix s.tm = a := by
  unfold ovI It.have_
  by_cases h0 : a = 0
  · subst h0
    rw [if_pos rfl]
    dsimp only
    rw [if_neg (fun h => by omega)]
  · rw [if_neg h0]
    dsimp only
    rw [if_pos ⟨rfl, rfl⟩, List.length_take]
    omega
theorem ovI_bad {s : Sn} (h : 1 ≤ s.ix) {a : Nat} (ha : a ≤ s.da.length) {x : Int} (h1 : x ≠ 0) (h2 : x ≠ a) (b : List UInt8) (d : Bool) : (ovI s a).take s.ix s.tm x b d = (ovI s a, [], false, 61) := by
  unfold It.take
  rw [if_neg h1, if_neg (by rw [ovI_have h ha]; exact fun e => h2 e.symm)]
theorem ovI_take {s : Sn} (h : 1 ≤ s.ix) {a : Nat} (ha : a ≤ s.da.length) (b : List UInt8) (d : Bool) : (ovI s a).take s.ix s.tm (a : Int) b d = It.put ⟨s.ix, s.tm, s.da.take a⟩ b d := by
  unfold It.take
  by_cases h0 : a = 0
  · subst h0
    rw [if_pos (by simp)]
    rfl
  · rw [if_neg (by omega), if_pos (by rw [ovI_have h ha])]
    unfold ovI
    rw [if_neg h0]
theorem ovI_end {s : Sn} (hd : s.da.length ≤ 262144) {a : Nat} (hl : s.da.length ≤ a + 512) : It.put ⟨s.ix, s.tm, s.da.take a⟩ ((s.da.drop a).take 512) true = (⟨0, 0, []⟩, s.da, true, 0) := by
  unfold It.put
  rw [if_neg (by simp; omega), if_pos rfl]
  have : (s.da.drop a).take 512 = s.da.drop a := List.take_of_length_le (by simp; omega)
  rw [this, List.take_append_drop]
theorem ovI_go {s : Sn} (hd : s.da.length ≤ 262144) {a : Nat} (hl : ¬ s.da.length ≤ a + 512) : It.put ⟨s.ix, s.tm, s.da.take a⟩ ((s.da.drop a).take 512) false = (ovI s (a + 512), [], false, 0) := by
  unfold It.put ovI
  rw [if_neg (by simp; omega), if_neg (by simp), if_neg (by omega)]
  have : s.da.take (a + 512) = s.da.take a ++ (s.da.drop a).take 512 := by rw [List.take_add]
  rw [this]
theorem ov_len {s : Sn} {a : Nat} (hl : ¬ s.da.length ≤ a + 512) : ((s.da.drop a).take 512).length = 512 := by simp; omega
theorem ov_none (ix tm : Int) (h : 1 ≤ ix) : (⟨0, 0, []⟩ : It).have_ ix tm = 0 := by
  unfold It.have_
  dsimp only
  rw [if_neg (fun h => by omega)]

/-- What stays from the loop's start, and the intake. -/
structure OvS (w6 w : World) (s : Sn) (a : Nat) (vo da v : Value) : Prop where
  bel : Below w6.heap.size w6 w
  row : w.heap[w6.heap.size]? = some (.cells #[.int .i64 s.ix, .int .i64 s.tm, vo, da] 42 (0, 0))
  it : Itk w (w6.heap.size + 1) 70 v (ovI s a)
  ge : ∀ k, v.ownBlock = some k → w6.heap.size + 1 < k
theorem OvS.at {w6 w w' : World} {s : Sn} {a : Nat} {vo da v : Value} (h : OvS w6 w s a vo da v) (hb : Below w.heap.size w w') : OvS w6 w' s a vo da v :=
  ⟨h.bel.trans (hb.mono h.bel.size), (hb.block _ (Array.getElem?_eq_some_iff.1 h.row).1).trans h.row, h.it.chg (Chg.of_below hb (fun _ => False)) (fun h => h) (fun _ _ h => h), h.ge⟩
theorem OvS.next {w6 w w' : World} {s : Sn} {a a' : Nat} {vo da v v' : Value} (h : OvS w6 w s a vo da v) (hc : Chg w w' (fun k => k = w6.heap.size + 1 ∨ v.ownBlock = some k)) (hi : Itk w' (w6.heap.size + 1) 70 v' (ovI s a')) (hk : ∀ k, v'.ownBlock = some k → v.ownBlock = some k ∨ w.heap.size ≤ k) : OvS w6 w' s a' vo da v' := by
  have hl := (Array.getElem?_eq_some_iff.1 h.it.row).1
  refine ⟨Chg.to_below h.bel hc ?_, (hc.block _ (Array.getElem?_eq_some_iff.1 h.row).1 ?_).trans h.row, hi, fun k hk' => ?_⟩
  · rintro k (e | e)
    · omega
    · have := h.ge k e; omega
  · rintro (e | e)
    · omega
    · have := h.ge _ e; omega
  · rcases hk k hk' with e | e
    · exact h.ge k e
    · omega
theorem ov_save {s : Sn} (h : s.chk = 0) (hi : ∀ x ∈ s.vo, Go.Proofs.YtgbdjcekpdfpjaaGreatDoor.fits x) (hd : s.da.length ≤ 70000) : (∃ y, saveL sn0 (Dk.new 16777216) s = (0, s, y)) ∧ s.recs.length ≤ 1000 ∧ s.file.length ≤ 1000000 := by
  have h1 := chk_ok h
  have h2 := chk_parts h
  have h3 := file_len (s := s) (by omega) hi (by omega) (by omega) (by omega)
  have h4 : s.recs.length ≤ 1000 := by omega
  obtain ⟨y, hy, _⟩ := (rest_new (r := 16777216) (by omega)).save h (by show (0 : Int) < s.ix; omega) (by show 0 + s.file.length ≤ 16777216; omega) (by show 0 < 1000; omega)
  exact ⟨⟨y, hy⟩, h4, by omega⟩

set_option maxRecDepth 200000 in
set_option maxHeartbeats 40000000 in
theorem lawVOver_any {w : World} (ht : Tab w) {d : Ddo} (h : DdoIn w d) (hz : d.sv.length * 8 ≤ 140737488351232) (wrong : Int) (hwf : (Lit.int .i64 wrong).wf = true) :
    Calls Tryz.prog 8 #[.agg (doC d).toArray, .int .i64 wrong] w fun e w' => e = .returned (.bool true) ∧ Below w.heap.size w w' := by
  obtain ⟨CC, hCC⟩ : ∃ CC : Array Value, CC = #[.int .i64 d.op, .int .i64 d.six, .int .i64 d.stm, .slice d.psv d.nsv d.dsv, .slice d.psd d.nsd d.dsd, .int .i64 d.size, .int .i64 d.n, .int .i64 d.keep, .int .i64 d.tear] := ⟨_, rfl⟩
  have hdc : (doC d).toArray = CC := hCC.symm
  obtain ⟨X, hX⟩ : ∃ X, (w.alloc (.cells CC 44)).alloc (.cells CC 44) = X := ⟨_, rfl⟩
  have hX9 : (w.alloc (.cells #[.int .i64 d.op, .int .i64 d.six, .int .i64 d.stm, .slice d.psv d.nsv d.dsv, .slice d.psd d.nsd d.dsd, .int .i64 d.size, .int .i64 d.n, .int .i64 d.keep, .int .i64 d.tear] 44)).alloc (.cells #[.int .i64 d.op, .int .i64 d.six, .int .i64 d.stm, .slice d.psv d.nsv d.dsv, .slice d.psd d.nsd d.dsd, .int .i64 d.size, .int .i64 d.n, .int .i64 d.keep, .int .i64 d.tear] 44) = X := by rw [← hX, hCC]
  have hbX : Below w.heap.size w X := by rw [← hX]; exact balloc (balloc (Below.refl _ _) _) _
  have hsX : X.heap.size = w.heap.size + 2 := by rw [← hX]; simp
  have hr0 : X.heap[w.heap.size]? = some (.cells CC 44 (0, 0)) := by
    rw [← hX, heap_alloc_old _ _ (by simp)]
    exact Array.getElem?_push_size
  have hr1 : X.heap[w.heap.size + 1]? = some (.cells CC 44 (0, 0)) := by
    rw [← hX]
    have := World.alloc_heap_new (w.alloc (.cells CC 44)) (.cells CC 44)
    simpa using this
  have hdos : Ddos X (.slice (some ⟨w.heap.size + 1, 0, none⟩) 1 1) [d] := by
    refine ⟨some ⟨w.heap.size + 1, 0, none⟩, 1, rfl, Nat.le_refl _, by unfold maxLen; omega, fun k y hk => ?_⟩
    obtain ⟨rfl, rfl⟩ : k = 0 ∧ y = d := by
      rcases k with _ | k
      · simp at hk; exact ⟨rfl, hk.symm⟩
      · simp at hk
    refine ⟨w.heap.size + 1, 0, rfl, h.below hbX, fun j x hj => ?_⟩
    have : CC[j]? = some x := by rw [← hdc]; simpa using hj
    rw [cell_of_row X _ _ _ _ (0, 0) hr1]
    simpa using this
  have HSH := hide (vshort_any hdos)
  have HBX := hide hbX
  have HSX := hide hsX
  have HR0 := hide hr0
  have HT := hide ht
  have HIN := hide h
  have HZ := hide hz
  have HCC := hide hCC
  have HAW := hide (fun (W : World) (hb : Below w.heap.size w W) => vawake_any (ht.below hb ht.lt))
  have HLD := hide (fun (W : World) (hW : Below X.heap.size X W) => (show W.heap[w.heap.size]? = some (.cells #[.int .i64 d.op, .int .i64 d.six, .int .i64 d.stm, .slice d.psv d.nsv d.dsv, .slice d.psd d.nsd d.dsd, .int .i64 d.size, .int .i64 d.n, .int .i64 d.keep, .int .i64 d.tear] 44 (0, 0)) from hCC ▸ (hW.block w.heap.size (by omega)).trans hr0))
  have HFR := hide (show ∀ x ∈ d.sv, Go.Proofs.YtgbdjcekpdfpjaaGreatDoor.fits x from h.h1.fits)
  clear hX hbX hsX hr0 hr1 hdos ht h hz
  unfold doC at hdc ⊢
  rw [hdc, HCC.out]
  clear hdc hCC
  go_enter Tryz.func8, Tryz.ntmps8
  go_wp2_with fail
  have HSN := hide (show ∀ W : World, Below X.heap.size X W → d.sd.length ≤ 65536 → Calls Tryz.prog 21 #[.agg #[.int .i64 d.op, .int .i64 d.six, .int .i64 d.stm, .slice d.psv d.nsv d.dsv, .slice d.psd d.nsd d.dsd, .int .i64 d.size, .int .i64 d.n, .int .i64 d.keep, .int .i64 d.tear]] W (OwP W d.sn) from fun W hW hl => vsnap_any (HIN.out.below (HBX.out.trans (hW.mono HBX.out.size))) (by have := HZ.out; omega) (by omega))
  refine HSH.out.mono ?_
  rintro e w1 ⟨bs, rfl, hb1, hs⟩
  have HB1 := hide hb1
  have HBA := hide (HBX.out.trans (hb1.mono HBX.out.size))
  have HS := hide hs
  clear hb1 hs
  cases bs
  · go_wp2_with (go_at_call 12; refine (HAW.out _ HBA.out).mono ?_; rintro e wz ⟨rfl, hbz⟩)
    go_ret
    exact ⟨rfl, HBA.out.trans (hbz.mono HBA.out.size)⟩
  · have hdl : d.sd.length ≤ 65536 := by
      have := (HS.out rfl).2
      simpa [daN] using this
    have HDL := hide hdl
    clear hdl HBA
    have hrw := HLD.out w1 HB1.out
    have l0 : w1.cell? ⟨w.heap.size, 0, none⟩ = some (.int .i64 d.op) := by rw [cell_of_row w1 _ 0 _ _ (0, 0) hrw]; rfl
    have l1 : w1.cell? ⟨w.heap.size, 1, none⟩ = some (.int .i64 d.six) := by rw [cell_of_row w1 _ 1 _ _ (0, 0) hrw]; rfl
    have l2 : w1.cell? ⟨w.heap.size, 2, none⟩ = some (.int .i64 d.stm) := by rw [cell_of_row w1 _ 2 _ _ (0, 0) hrw]; rfl
    have l3 : w1.cell? ⟨w.heap.size, 3, none⟩ = some (.slice d.psv d.nsv d.dsv) := by rw [cell_of_row w1 _ 3 _ _ (0, 0) hrw]; rfl
    have l4 : w1.cell? ⟨w.heap.size, 4, none⟩ = some (.slice d.psd d.nsd d.dsd) := by rw [cell_of_row w1 _ 4 _ _ (0, 0) hrw]; rfl
    have l5 : w1.cell? ⟨w.heap.size, 5, none⟩ = some (.int .i64 d.size) := by rw [cell_of_row w1 _ 5 _ _ (0, 0) hrw]; rfl
    have l6 : w1.cell? ⟨w.heap.size, 6, none⟩ = some (.int .i64 d.n) := by rw [cell_of_row w1 _ 6 _ _ (0, 0) hrw]; rfl
    have l7 : w1.cell? ⟨w.heap.size, 7, none⟩ = some (.int .i64 d.keep) := by rw [cell_of_row w1 _ 7 _ _ (0, 0) hrw]; rfl
    have l8 : w1.cell? ⟨w.heap.size, 8, none⟩ = some (.int .i64 d.tear) := by rw [cell_of_row w1 _ 8 _ _ (0, 0) hrw]; rfl
    clear hrw
    go_wp2_with fail
    refine (HSN.out w1 HB1.out HDL.out).mono ?_
    rintro e w2 ⟨v2, rfl, ho2, hb2⟩
    have HCK := hide (check_any' ho2.snv)
    have HB2 := hide (HB1.out.trans (hb2.mono HB1.out.size))
    obtain ⟨ck, hck⟩ : ∃ ck, d.sn.chk = ck := ⟨_, rfl⟩
    unfold ChP at HCK
    rw [hck] at HCK
    have HCE := hide hck
    clear ho2 hb2 hck
    clear l0 l1 l2 l3 l4 l5 l6 l7 l8
    go_wp2_with fail
    refine HCK.out.mono ?_
    rintro e w3 ⟨rfl, hb3⟩
    have HB3 := hide (HB2.out.trans (hb3.mono HB2.out.size))
    have HBA := hide (HBX.out.trans (HB3.out.mono HBX.out.size))
    clear hb3
    by_cases h0 : ck = 0
    · subst h0
      have e00 : (((0 : Nat) : Int) != 0) = false := rfl
      have hdn : d.sn.da.length ≤ 70000 := by
        show (d.sd ++ List.replicate d.zs 0).length ≤ 70000
        have h1 := HDL.out
        have h2 : d.zs < 3000 := Nat.mod_lt _ (by omega)
        simp
        omega
      obtain ⟨⟨y, hy⟩, hy2, hy3⟩ := ov_save HCE.out HFR.out hdn
      have HY := hide hy
      have hok := chk_ok HCE.out
      have HY2 := hide (And.intro hy2 (And.intro hy3 (And.intro hok hdn)))
      have HT3 := hide (HT.out.below HBA.out HT.out.lt)
      have HBG := hide (begun_any HT3.out (r := 16777216) (by omega))
      clear hdn hy hy2 hy3 hok
      go_wp2_with fail
      refine HBG.out.mono ?_
      rintro e w4 ⟨dd, b, rfl, hv4⟩
      have HV4 := hide hv4
      have HB4 := hide (HB3.out.trans (hv4.below.mono HB3.out.size))
      clear hv4
      have hrw := HLD.out w4 HB4.out
      have l0 : w4.cell? ⟨w.heap.size, 0, none⟩ = some (.int .i64 d.op) := by rw [cell_of_row w4 _ 0 _ _ (0, 0) hrw]; rfl
      have l1 : w4.cell? ⟨w.heap.size, 1, none⟩ = some (.int .i64 d.six) := by rw [cell_of_row w4 _ 1 _ _ (0, 0) hrw]; rfl
      have l2 : w4.cell? ⟨w.heap.size, 2, none⟩ = some (.int .i64 d.stm) := by rw [cell_of_row w4 _ 2 _ _ (0, 0) hrw]; rfl
      have l3 : w4.cell? ⟨w.heap.size, 3, none⟩ = some (.slice d.psv d.nsv d.dsv) := by rw [cell_of_row w4 _ 3 _ _ (0, 0) hrw]; rfl
      have l4 : w4.cell? ⟨w.heap.size, 4, none⟩ = some (.slice d.psd d.nsd d.dsd) := by rw [cell_of_row w4 _ 4 _ _ (0, 0) hrw]; rfl
      have l5 : w4.cell? ⟨w.heap.size, 5, none⟩ = some (.int .i64 d.size) := by rw [cell_of_row w4 _ 5 _ _ (0, 0) hrw]; rfl
      have l6 : w4.cell? ⟨w.heap.size, 6, none⟩ = some (.int .i64 d.n) := by rw [cell_of_row w4 _ 6 _ _ (0, 0) hrw]; rfl
      have l7 : w4.cell? ⟨w.heap.size, 7, none⟩ = some (.int .i64 d.keep) := by rw [cell_of_row w4 _ 7 _ _ (0, 0) hrw]; rfl
      have l8 : w4.cell? ⟨w.heap.size, 8, none⟩ = some (.int .i64 d.tear) := by rw [cell_of_row w4 _ 8 _ _ (0, 0) hrw]; rfl
      clear hrw
      go_wp2_with fail
      refine (HSN.out w4 HB4.out HDL.out).mono ?_
      rintro e w5 ⟨v5, rfl, ho5, hb5⟩
      have HSV := hide ((HV4.out.at (Chg.of_below hb5 _)).save (k := d.sn) ho5.snv HT3.out (by decide) (Dk.Fine.new (r := 16777216) (by omega)) (by have := HY2.out; omega) (by have := HY2.out; omega) (by have := HY2.out; omega) (by have := HY2.out; omega) (by have := HY2.out; omega))
      unfold VoR at HSV
      rw [HY.out] at HSV
      clear ho5 hb5 HV4
      clear l0 l1 l2 l3 l4 l5 l6 l7 l8
      go_wp2_with fail
      refine HSV.out.mono ?_
      rintro e w6 ⟨rfl, hv6, hc6⟩
      have HV6 := hide hv6
      have HB6 := hide (HB3.out.trans (hv6.below.mono HB3.out.size))
      dsimp only at HV6 ⊢
      clear hv6 hc6 HSV
      have hrw := HLD.out w6 HB6.out
      have l0 : w6.cell? ⟨w.heap.size, 0, none⟩ = some (.int .i64 d.op) := by rw [cell_of_row w6 _ 0 _ _ (0, 0) hrw]; rfl
      have l1 : w6.cell? ⟨w.heap.size, 1, none⟩ = some (.int .i64 d.six) := by rw [cell_of_row w6 _ 1 _ _ (0, 0) hrw]; rfl
      have l2 : w6.cell? ⟨w.heap.size, 2, none⟩ = some (.int .i64 d.stm) := by rw [cell_of_row w6 _ 2 _ _ (0, 0) hrw]; rfl
      have l3 : w6.cell? ⟨w.heap.size, 3, none⟩ = some (.slice d.psv d.nsv d.dsv) := by rw [cell_of_row w6 _ 3 _ _ (0, 0) hrw]; rfl
      have l4 : w6.cell? ⟨w.heap.size, 4, none⟩ = some (.slice d.psd d.nsd d.dsd) := by rw [cell_of_row w6 _ 4 _ _ (0, 0) hrw]; rfl
      have l5 : w6.cell? ⟨w.heap.size, 5, none⟩ = some (.int .i64 d.size) := by rw [cell_of_row w6 _ 5 _ _ (0, 0) hrw]; rfl
      have l6 : w6.cell? ⟨w.heap.size, 6, none⟩ = some (.int .i64 d.n) := by rw [cell_of_row w6 _ 6 _ _ (0, 0) hrw]; rfl
      have l7 : w6.cell? ⟨w.heap.size, 7, none⟩ = some (.int .i64 d.keep) := by rw [cell_of_row w6 _ 7 _ _ (0, 0) hrw]; rfl
      have l8 : w6.cell? ⟨w.heap.size, 8, none⟩ = some (.int .i64 d.tear) := by rw [cell_of_row w6 _ 8 _ _ (0, 0) hrw]; rfl
      clear hrw
      go_wp2_with fail
      refine (HSN.out w6 HB6.out HDL.out).mono ?_
      rintro e w7 ⟨v7, rfl, ho7, hb7⟩
      obtain ⟨vo7, da7, rfl, hvo7, hda7, f70, f71⟩ := ho7
      obtain ⟨pv7, nv7, cv7, rfl⟩ := hvo7.ns.sl
      obtain ⟨pd7, nd7, cd7, rfl⟩ := hda7.by_.sl
      obtain ⟨vov, dav, hvt⟩ := HV6.out.vt
      have HVT := hide (hvt.below hb7)
      have HB7 := hide (HB6.out.trans (hb7.mono HB6.out.size))
      have HDA := hide hda7.by_
      have hnd : nd7 = d.sn.da.length := hda7.by_.len.1
      have HND := hide hnd
      clear hvo7 hda7 f70 f71 hvt hb7 hnd
      clear l0 l1 l2 l3 l4 l5 l6 l7 l8
      obtain ⟨s, hsn⟩ : ∃ s, d.sn = s := ⟨_, rfl⟩
      rw [hsn] at HVT HDA HND HY2
      rw [show d.sn.ix = s.ix by rw [hsn], show d.sn.tm = s.tm by rw [hsn]]
      clear hsn HY HCE HSN HS HSH HCK HFR HDL HZ
      obtain ⟨c0, hc0⟩ : ∃ c0 : Nat, nd7 / 512 = c0 := ⟨_, rfl⟩
      obtain ⟨cn, hcn⟩ : ∃ cn : Nat, c0 + 2 = cn := ⟨_, rfl⟩
      have hndle : nd7 ≤ 70000 := by have := HND.out; have := HY2.out; omega
      have q1 : wrap64 ((nd7 : Int) / 512) = (c0 : Int) := by unfold wrap64; omega
      have q2 : wrap64 ((c0 : Int) + 2) = (cn : Int) := by unfold wrap64; omega
      have HCN := hide (And.intro hc0 (And.intro hcn hndle))
      clear hc0 hcn hndle
      go_wp2_with fail
      obtain ⟨W8, hW8⟩ : ∃ W8, (w7.alloc (.cells #[.int .i64 s.ix, .int .i64 s.tm, .slice pv7 nv7 cv7, .slice pd7 nd7 cd7] 42)).alloc (.cells #[.int .i64 0, .int .i64 0, .slice none 0 0] 70) = W8 := ⟨_, rfl⟩
      have hos : OvS w7 W8 s 0 (.slice pv7 nv7 cv7) (.slice pd7 nd7 cd7) (.slice none 0 0) := by
        have hb : Below w7.heap.size w7 W8 := by rw [← hW8]; exact balloc (balloc (Below.refl _ _) _) _
        refine ⟨hb, ?_, ⟨?_, Own.nil _ _, fun e => (by cases e), by simp [ovI], fun k hk => by cases hk⟩, fun k hk => by cases hk⟩
        · rw [← hW8, heap_alloc_old _ _ (by simp)]
          exact Array.getElem?_push_size
        · rw [← hW8]
          have := World.alloc_heap_new (w7.alloc (.cells #[.int .i64 s.ix, .int .i64 s.tm, .slice pv7 nv7 cv7, .slice pd7 nd7 cd7] 42)) (.cells #[.int .i64 0, .int .i64 0, .slice none 0 0] 70)
          simpa [ovI] using this
      have HOS := hide hos
      clear hos
      rw [hW8]
      try simp only [q1, q2]
      clear hW8 q1 q2
      go_loopw [10, 11, 12, 13, 14, 15, 16, 17, 18, 19, 52] (fun u10 _ _ _ _ _ _ _ _ _ i wr => ∃ j a : Nat, a = 512 * j ∧ (a = 0 ∨ a < nd7) ∧ u10 = .int .i64 a ∧ i = .int .i64 j ∧ Hid (∃ v, OvS w7 wr s a (.slice pv7 nv7 cv7) (.slice pd7 nd7 cd7) v)) (fun _ _ _ _ _ _ _ _ _ _ i _ => cn - (intOf i).toNat)
      case atStart => exact ⟨0, 0, by omega, by omega, by first | trivial | rfl, by first | trivial | rfl, hide ⟨_, HOS.out⟩⟩
      case round =>
        obtain ⟨j, a, hae, hal0, rfl, rfl, hrel⟩ := hrel
        obtain ⟨v, hO⟩ := hrel.out
        have HO := hide hO
        have hjc : (j : Int) < (cn : Int) := by have := HCN.out; omega
        have hcnb : (cn : Int) ≤ 1000 := by have := HCN.out; omega
        have HAE := hide hae
        have HAL := hide (show a ≤ s.da.length ∧ (a = 0 ∨ a < nd7) from ⟨by have := HND.out; omega, hal0⟩)
        have HPC := hide (vpiece_any (k := a) (HVT.out.below hO.bel) (by have := HY2.out; omega) (by have := HAL.out; omega) (by have := HY2.out; omega))
        clear hO hrel hae hal0
        go_wp2_with fail
        refine HPC.out.mono ?_
        rintro e w8 ⟨v8, rfl, ho8, hb8⟩
        obtain ⟨p8, n8, c8, rfl⟩ := ho8.by_.sl
        have hn8 : n8 = ((s.da.drop a).take 512).length := ho8.by_.len.1
        have HN8 := hide (show ((s.da.drop a).take 512).length ≤ 512 ∧ n8 = ((s.da.drop a).take 512).length from ⟨by simp; omega, hn8⟩)
        have HO8 := hide (HO.out.at hb8)
        have HGL := hide (Array.getElem?_eq_some_iff.1 HO.out.it.row).1
        have HP8 := hide (vown_ge ho8)
        have HB8 := hide ho8.by_
        have HVL := hide (HO.out.it.lt)
        have HHV := hide (vhave_any HO8.out.it s.ix s.tm)
        rw [ovI_have (by have := HY2.out; omega) (by have := HAL.out; omega)] at HHV
        clear ho8 hb8 hn8 HPC
        by_cases hle : s.da.length ≤ a + 512
        · have hdn : decide (s.da.length ≤ a + 512) = true := decide_eq_true hle
          rw [hdn]
          have HLE := hide hle
          clear hdn
          clear hle
          by_cases hw1 : wrong = (a : Int)
          · have f1 : (wrong != (a : Int)) = false := by simpa using hw1
            clear hw1
            have HOW := hide HO8.out
            have HPB := hide HB8.out
            have HHW := hide HHV.out
            have HTB := hide (vtake_any HOW.out.it (ix := s.ix) (tm := s.tm) (at_ := (a : Int)) (d := true) HPB.out (by have := HN8.out; omega) (.inr fun k hk e => by have := HP8.out k hk; have := HGL.out; omega))
            rw [ovI_take (by have := HY2.out; omega) (by have := HAL.out; omega)] at HTB
            rw [ovI_end (by have := HY2.out; omega) HLE.out] at HTB
            have x0 : w8.cell? ⟨w7.heap.size, 0, none⟩ = some (.int .i64 s.ix) := by rw [cell_of_row w8 _ 0 _ _ (0, 0) HOW.out.row]; rfl
            have x1 : w8.cell? ⟨w7.heap.size, 1, none⟩ = some (.int .i64 s.tm) := by rw [cell_of_row w8 _ 1 _ _ (0, 0) HOW.out.row]; rfl
            have x3 : w8.cell? ⟨w7.heap.size, 3, none⟩ = some (.slice pd7 nd7 cd7) := by rw [cell_of_row w8 _ 3 _ _ (0, 0) HOW.out.row]; rfl
            go_wp2_with (go_at_call 37; refine HHV.out.mono ?_; rintro e wy ⟨rfl, rfl⟩)
            refine HTB.out.mono ?_
            rintro e w11 ⟨v3, yv, rfl, k1, k2, k3, k4, k5⟩
            obtain ⟨p3, n3, c3, rfl⟩ := k2.by_.sl
            have hrow := (k3.block w7.heap.size (Array.getElem?_eq_some_iff.1 HOW.out.row).1 (by rintro (e | e); omega; have := HOW.out.ge _ e; omega)).trans HOW.out.row
            have z0 : w11.cell? ⟨w7.heap.size, 0, none⟩ = some (.int .i64 s.ix) := by rw [cell_of_row w11 _ 0 _ _ (0, 0) hrow]; rfl
            have z1 : w11.cell? ⟨w7.heap.size, 1, none⟩ = some (.int .i64 s.tm) := by rw [cell_of_row w11 _ 1 _ _ (0, 0) hrow]; rfl
            have z3 : w11.cell? ⟨w7.heap.size, 3, none⟩ = some (.slice pd7 nd7 cd7) := by rw [cell_of_row w11 _ 3 _ _ (0, 0) hrow]; rfl
            have hb11 : Below w7.heap.size w7 w11 := Chg.to_below HOW.out.bel k3 (by rintro k (e | e); omega; have := HOW.out.ge _ e; omega)
            have HEQ := hide (equal_any k2.by_ (HDA.out.below hb11))
            rw [show ((s.da == s.da) : Bool) = true from beq_self_eq_true _] at HEQ
            have HHV2 := hide (vhave_any k1 s.ix s.tm)
            rw [ov_none s.ix s.tm (by have := HY2.out; omega)] at HHV2
            have HBA := hide (HBX.out.trans ((HB7.out.trans (hb11.mono HB7.out.size)).mono HBX.out.size))
            clear k1 k2 k3 k4 k5 hrow hb11 HTB
            go_wp2_with (first | (go_at_call 39; refine HEQ.out.mono ?_; rintro e wy ⟨rfl, rfl⟩) | (go_at_call 37; refine HHV2.out.mono ?_; rintro e wy ⟨rfl, rfl⟩) | (go_at_call 12; refine (HAW.out _ HBA.out).mono ?_; rintro e wz ⟨rfl, hbz⟩))
            go_ret
            exact ⟨rfl, HBA.out.trans (hbz.mono HBA.out.size)⟩
          · by_cases hw0 : wrong = 0
            · have f1 : (wrong != (a : Int)) = true := by simpa using hw1
              have f2 : (wrong != 0) = false := by simpa using hw0
              clear hw1 hw0
              have HOW := hide HO8.out
              have HPB := hide HB8.out
              have HHW := hide HHV.out
              have HTB := hide (vtake_any HOW.out.it (ix := s.ix) (tm := s.tm) (at_ := (a : Int)) (d := true) HPB.out (by have := HN8.out; omega) (.inr fun k hk e => by have := HP8.out k hk; have := HGL.out; omega))
              rw [ovI_take (by have := HY2.out; omega) (by have := HAL.out; omega)] at HTB
              rw [ovI_end (by have := HY2.out; omega) HLE.out] at HTB
              have x0 : w8.cell? ⟨w7.heap.size, 0, none⟩ = some (.int .i64 s.ix) := by rw [cell_of_row w8 _ 0 _ _ (0, 0) HOW.out.row]; rfl
              have x1 : w8.cell? ⟨w7.heap.size, 1, none⟩ = some (.int .i64 s.tm) := by rw [cell_of_row w8 _ 1 _ _ (0, 0) HOW.out.row]; rfl
              have x3 : w8.cell? ⟨w7.heap.size, 3, none⟩ = some (.slice pd7 nd7 cd7) := by rw [cell_of_row w8 _ 3 _ _ (0, 0) HOW.out.row]; rfl
              go_wp2_with (go_at_call 37; refine HHV.out.mono ?_; rintro e wy ⟨rfl, rfl⟩)
              refine HTB.out.mono ?_
              rintro e w11 ⟨v3, yv, rfl, k1, k2, k3, k4, k5⟩
              obtain ⟨p3, n3, c3, rfl⟩ := k2.by_.sl
              have hrow := (k3.block w7.heap.size (Array.getElem?_eq_some_iff.1 HOW.out.row).1 (by rintro (e | e); omega; have := HOW.out.ge _ e; omega)).trans HOW.out.row
              have z0 : w11.cell? ⟨w7.heap.size, 0, none⟩ = some (.int .i64 s.ix) := by rw [cell_of_row w11 _ 0 _ _ (0, 0) hrow]; rfl
              have z1 : w11.cell? ⟨w7.heap.size, 1, none⟩ = some (.int .i64 s.tm) := by rw [cell_of_row w11 _ 1 _ _ (0, 0) hrow]; rfl
              have z3 : w11.cell? ⟨w7.heap.size, 3, none⟩ = some (.slice pd7 nd7 cd7) := by rw [cell_of_row w11 _ 3 _ _ (0, 0) hrow]; rfl
              have hb11 : Below w7.heap.size w7 w11 := Chg.to_below HOW.out.bel k3 (by rintro k (e | e); omega; have := HOW.out.ge _ e; omega)
              have HEQ := hide (equal_any k2.by_ (HDA.out.below hb11))
              rw [show ((s.da == s.da) : Bool) = true from beq_self_eq_true _] at HEQ
              have HHV2 := hide (vhave_any k1 s.ix s.tm)
              rw [ov_none s.ix s.tm (by have := HY2.out; omega)] at HHV2
              have HBA := hide (HBX.out.trans ((HB7.out.trans (hb11.mono HB7.out.size)).mono HBX.out.size))
              clear k1 k2 k3 k4 k5 hrow hb11 HTB
              go_wp2_with (first | (go_at_call 39; refine HEQ.out.mono ?_; rintro e wy ⟨rfl, rfl⟩) | (go_at_call 37; refine HHV2.out.mono ?_; rintro e wy ⟨rfl, rfl⟩) | (go_at_call 12; refine (HAW.out _ HBA.out).mono ?_; rintro e wz ⟨rfl, hbz⟩))
              go_ret
              exact ⟨rfl, HBA.out.trans (hbz.mono HBA.out.size)⟩
            · have HTA := hide (vtake_any HO8.out.it (ix := s.ix) (tm := s.tm) (at_ := wrong) (d := true) HB8.out (by have := HN8.out; omega) (.inr fun k hk e => by have := HP8.out k hk; have := HGL.out; omega))
              rw [ovI_bad (by have := HY2.out; omega) (by have := HAL.out; omega) hw0 hw1] at HTA
              have f1 : (wrong != (a : Int)) = true := by simpa using hw1
              have f2 : (wrong != 0) = true := by simpa using hw0
              have y0 : w8.cell? ⟨w7.heap.size, 0, none⟩ = some (.int .i64 s.ix) := by rw [cell_of_row w8 _ 0 _ _ (0, 0) HO8.out.row]; rfl
              have y1 : w8.cell? ⟨w7.heap.size, 1, none⟩ = some (.int .i64 s.tm) := by rw [cell_of_row w8 _ 1 _ _ (0, 0) HO8.out.row]; rfl
              have y3 : w8.cell? ⟨w7.heap.size, 3, none⟩ = some (.slice pd7 nd7 cd7) := by rw [cell_of_row w8 _ 3 _ _ (0, 0) HO8.out.row]; rfl
              have e61 : (((61 : Nat) : Int) != 61) = false := rfl
              go_wp2_with (go_at_call 37; refine HHV.out.mono ?_; rintro e wy ⟨rfl, rfl⟩)
              refine HTA.out.mono ?_
              rintro e w10 ⟨v2, yv2, rfl, k1, k2, k3, k4, k5⟩
              obtain ⟨p2, n2, c2, rfl⟩ := k2.by_.sl
              obtain rfl : n2 = 0 := k2.by_.len.1
              have HOW := hide (HO8.out.next k3 k1 k4)
              have HPB := hide (HB8.out.chg k3 (.inr fun k hk e => by
                have h1 := HP8.out k hk
                rcases e with e | e
                · have := HGL.out; omega
                · have := HVL.out k e; omega))
              clear k1 k2 k3 k4 k5 y0 y1 y3
              have HTB := hide (vtake_any HOW.out.it (ix := s.ix) (tm := s.tm) (at_ := (a : Int)) (d := true) HPB.out (by have := HN8.out; omega) (.inr fun k hk e => by have := HP8.out k hk; have := HGL.out; omega))
              rw [ovI_take (by have := HY2.out; omega) (by have := HAL.out; omega)] at HTB
              rw [ovI_end (by have := HY2.out; omega) HLE.out] at HTB
              have x0 : w10.cell? ⟨w7.heap.size, 0, none⟩ = some (.int .i64 s.ix) := by rw [cell_of_row w10 _ 0 _ _ (0, 0) HOW.out.row]; rfl
              have x1 : w10.cell? ⟨w7.heap.size, 1, none⟩ = some (.int .i64 s.tm) := by rw [cell_of_row w10 _ 1 _ _ (0, 0) HOW.out.row]; rfl
              have x3 : w10.cell? ⟨w7.heap.size, 3, none⟩ = some (.slice pd7 nd7 cd7) := by rw [cell_of_row w10 _ 3 _ _ (0, 0) HOW.out.row]; rfl
              go_wp2_with fail
              refine HTB.out.mono ?_
              rintro e w11 ⟨v3, yv, rfl, k1, k2, k3, k4, k5⟩
              obtain ⟨p3, n3, c3, rfl⟩ := k2.by_.sl
              have hrow := (k3.block w7.heap.size (Array.getElem?_eq_some_iff.1 HOW.out.row).1 (by rintro (e | e); omega; have := HOW.out.ge _ e; omega)).trans HOW.out.row
              have z0 : w11.cell? ⟨w7.heap.size, 0, none⟩ = some (.int .i64 s.ix) := by rw [cell_of_row w11 _ 0 _ _ (0, 0) hrow]; rfl
              have z1 : w11.cell? ⟨w7.heap.size, 1, none⟩ = some (.int .i64 s.tm) := by rw [cell_of_row w11 _ 1 _ _ (0, 0) hrow]; rfl
              have z3 : w11.cell? ⟨w7.heap.size, 3, none⟩ = some (.slice pd7 nd7 cd7) := by rw [cell_of_row w11 _ 3 _ _ (0, 0) hrow]; rfl
              have hb11 : Below w7.heap.size w7 w11 := Chg.to_below HOW.out.bel k3 (by rintro k (e | e); omega; have := HOW.out.ge _ e; omega)
              have HEQ := hide (equal_any k2.by_ (HDA.out.below hb11))
              rw [show ((s.da == s.da) : Bool) = true from beq_self_eq_true _] at HEQ
              have HHV2 := hide (vhave_any k1 s.ix s.tm)
              rw [ov_none s.ix s.tm (by have := HY2.out; omega)] at HHV2
              have HBA := hide (HBX.out.trans ((HB7.out.trans (hb11.mono HB7.out.size)).mono HBX.out.size))
              clear k1 k2 k3 k4 k5 hrow hb11 HTB
              go_wp2_with (first | (go_at_call 39; refine HEQ.out.mono ?_; rintro e wy ⟨rfl, rfl⟩) | (go_at_call 37; refine HHV2.out.mono ?_; rintro e wy ⟨rfl, rfl⟩) | (go_at_call 12; refine (HAW.out _ HBA.out).mono ?_; rintro e wz ⟨rfl, hbz⟩))
              go_ret
              exact ⟨rfl, HBA.out.trans (hbz.mono HBA.out.size)⟩
        · have hdn : decide (s.da.length ≤ a + 512) = false := decide_eq_false hle
          rw [hdn]
          have HLE := hide hle
          clear hdn
          have hq3 : wrap64 ((a : Int) + (n8 : Int)) = ((a + 512 : Nat) : Int) := by
            have h1 := HN8.out.2
            rw [ov_len HLE.out] at h1
            have := HAL.out
            have := HND.out
            have := HCN.out
            unfold wrap64
            omega
          have HQ3 := hide hq3
          clear hq3
          clear hle
          by_cases hw1 : wrong = (a : Int)
          · have f1 : (wrong != (a : Int)) = false := by simpa using hw1
            clear hw1
            have HOW := hide HO8.out
            have HPB := hide HB8.out
            have HHW := hide HHV.out
            have HTB := hide (vtake_any HOW.out.it (ix := s.ix) (tm := s.tm) (at_ := (a : Int)) (d := false) HPB.out (by have := HN8.out; omega) (.inr fun k hk e => by have := HP8.out k hk; have := HGL.out; omega))
            rw [ovI_take (by have := HY2.out; omega) (by have := HAL.out; omega)] at HTB
            rw [ovI_go (by have := HY2.out; omega) HLE.out] at HTB
            have x0 : w8.cell? ⟨w7.heap.size, 0, none⟩ = some (.int .i64 s.ix) := by rw [cell_of_row w8 _ 0 _ _ (0, 0) HOW.out.row]; rfl
            have x1 : w8.cell? ⟨w7.heap.size, 1, none⟩ = some (.int .i64 s.tm) := by rw [cell_of_row w8 _ 1 _ _ (0, 0) HOW.out.row]; rfl
            have x3 : w8.cell? ⟨w7.heap.size, 3, none⟩ = some (.slice pd7 nd7 cd7) := by rw [cell_of_row w8 _ 3 _ _ (0, 0) HOW.out.row]; rfl
            go_wp2_with (go_at_call 37; refine HHV.out.mono ?_; rintro e wy ⟨rfl, rfl⟩)
            refine HTB.out.mono ?_
            rintro e w11 ⟨v3, yv, rfl, k1, k2, k3, k4, k5⟩
            obtain ⟨p3, n3, c3, rfl⟩ := k2.by_.sl
            have HON := hide (HOW.out.next (a' := a + 512) k3 k1 k4)
            clear k1 k2 k3 k4 k5 HTB x0 x1 x3
            go_wp2_with fail
            go_roundw
            case rel => exact ⟨j + 1, a + 512, by have := HAE.out; omega, by have := HLE.out; have := HND.out; omega, by first | rfl | (go_num; done) | (rw [HQ3.out]), by go_num, hide ⟨_, HON.out⟩⟩
            case measure => simp [intOf]; omega
          · by_cases hw0 : wrong = 0
            · have f1 : (wrong != (a : Int)) = true := by simpa using hw1
              have f2 : (wrong != 0) = false := by simpa using hw0
              clear hw1 hw0
              have HOW := hide HO8.out
              have HPB := hide HB8.out
              have HHW := hide HHV.out
              have HTB := hide (vtake_any HOW.out.it (ix := s.ix) (tm := s.tm) (at_ := (a : Int)) (d := false) HPB.out (by have := HN8.out; omega) (.inr fun k hk e => by have := HP8.out k hk; have := HGL.out; omega))
              rw [ovI_take (by have := HY2.out; omega) (by have := HAL.out; omega)] at HTB
              rw [ovI_go (by have := HY2.out; omega) HLE.out] at HTB
              have x0 : w8.cell? ⟨w7.heap.size, 0, none⟩ = some (.int .i64 s.ix) := by rw [cell_of_row w8 _ 0 _ _ (0, 0) HOW.out.row]; rfl
              have x1 : w8.cell? ⟨w7.heap.size, 1, none⟩ = some (.int .i64 s.tm) := by rw [cell_of_row w8 _ 1 _ _ (0, 0) HOW.out.row]; rfl
              have x3 : w8.cell? ⟨w7.heap.size, 3, none⟩ = some (.slice pd7 nd7 cd7) := by rw [cell_of_row w8 _ 3 _ _ (0, 0) HOW.out.row]; rfl
              go_wp2_with (go_at_call 37; refine HHV.out.mono ?_; rintro e wy ⟨rfl, rfl⟩)
              refine HTB.out.mono ?_
              rintro e w11 ⟨v3, yv, rfl, k1, k2, k3, k4, k5⟩
              obtain ⟨p3, n3, c3, rfl⟩ := k2.by_.sl
              have HON := hide (HOW.out.next (a' := a + 512) k3 k1 k4)
              clear k1 k2 k3 k4 k5 HTB x0 x1 x3
              go_wp2_with fail
              go_roundw
              case rel => exact ⟨j + 1, a + 512, by have := HAE.out; omega, by have := HLE.out; have := HND.out; omega, by first | rfl | (go_num; done) | (rw [HQ3.out]), by go_num, hide ⟨_, HON.out⟩⟩
              case measure => simp [intOf]; omega
            · have HTA := hide (vtake_any HO8.out.it (ix := s.ix) (tm := s.tm) (at_ := wrong) (d := false) HB8.out (by have := HN8.out; omega) (.inr fun k hk e => by have := HP8.out k hk; have := HGL.out; omega))
              rw [ovI_bad (by have := HY2.out; omega) (by have := HAL.out; omega) hw0 hw1] at HTA
              have f1 : (wrong != (a : Int)) = true := by simpa using hw1
              have f2 : (wrong != 0) = true := by simpa using hw0
              have y0 : w8.cell? ⟨w7.heap.size, 0, none⟩ = some (.int .i64 s.ix) := by rw [cell_of_row w8 _ 0 _ _ (0, 0) HO8.out.row]; rfl
              have y1 : w8.cell? ⟨w7.heap.size, 1, none⟩ = some (.int .i64 s.tm) := by rw [cell_of_row w8 _ 1 _ _ (0, 0) HO8.out.row]; rfl
              have y3 : w8.cell? ⟨w7.heap.size, 3, none⟩ = some (.slice pd7 nd7 cd7) := by rw [cell_of_row w8 _ 3 _ _ (0, 0) HO8.out.row]; rfl
              have e61 : (((61 : Nat) : Int) != 61) = false := rfl
              go_wp2_with (go_at_call 37; refine HHV.out.mono ?_; rintro e wy ⟨rfl, rfl⟩)
              refine HTA.out.mono ?_
              rintro e w10 ⟨v2, yv2, rfl, k1, k2, k3, k4, k5⟩
              obtain ⟨p2, n2, c2, rfl⟩ := k2.by_.sl
              obtain rfl : n2 = 0 := k2.by_.len.1
              have HOW := hide (HO8.out.next k3 k1 k4)
              have HPB := hide (HB8.out.chg k3 (.inr fun k hk e => by
                have h1 := HP8.out k hk
                rcases e with e | e
                · have := HGL.out; omega
                · have := HVL.out k e; omega))
              clear k1 k2 k3 k4 k5 y0 y1 y3
              have HTB := hide (vtake_any HOW.out.it (ix := s.ix) (tm := s.tm) (at_ := (a : Int)) (d := false) HPB.out (by have := HN8.out; omega) (.inr fun k hk e => by have := HP8.out k hk; have := HGL.out; omega))
              rw [ovI_take (by have := HY2.out; omega) (by have := HAL.out; omega)] at HTB
              rw [ovI_go (by have := HY2.out; omega) HLE.out] at HTB
              have x0 : w10.cell? ⟨w7.heap.size, 0, none⟩ = some (.int .i64 s.ix) := by rw [cell_of_row w10 _ 0 _ _ (0, 0) HOW.out.row]; rfl
              have x1 : w10.cell? ⟨w7.heap.size, 1, none⟩ = some (.int .i64 s.tm) := by rw [cell_of_row w10 _ 1 _ _ (0, 0) HOW.out.row]; rfl
              have x3 : w10.cell? ⟨w7.heap.size, 3, none⟩ = some (.slice pd7 nd7 cd7) := by rw [cell_of_row w10 _ 3 _ _ (0, 0) HOW.out.row]; rfl
              go_wp2_with fail
              refine HTB.out.mono ?_
              rintro e w11 ⟨v3, yv, rfl, k1, k2, k3, k4, k5⟩
              obtain ⟨p3, n3, c3, rfl⟩ := k2.by_.sl
              have HON := hide (HOW.out.next (a' := a + 512) k3 k1 k4)
              clear k1 k2 k3 k4 k5 HTB x0 x1 x3
              go_wp2_with fail
              go_roundw
              case rel => exact ⟨j + 1, a + 512, by have := HAE.out; omega, by have := HLE.out; have := HND.out; omega, by first | rfl | (go_num; done) | (rw [HQ3.out]), by go_num, hide ⟨_, HON.out⟩⟩
              case measure => simp [intOf]; omega
    · have e00 : ((ck : Int) != 0) = true := by simpa using h0
      go_wp2_with (go_at_call 12; refine (HAW.out _ HBA.out).mono ?_; rintro e wz ⟨rfl, hbz⟩)
      go_ret
      exact ⟨rfl, HBA.out.trans (hbz.mono HBA.out.size)⟩
end Go.Proofs.YtgbdjcekpdfpjaaGreatDoor
