import Derived.Test.YtionbmlicmibgaaGreatDoorMcRead
namespace Go.Proofs.YtionbmlicmibgaaGreatDoor
set_option linter.unusedVariables false
set_option linter.unusedSimpArgs false
open Go.RowKit
theorem rdC_nm (l : List UInt8) : ∀ x ∈ (rdC l).sp, x.n.size ≤ 1100000 := by
 unfold rdC
 dsimp only
 split
 ·exact (getP_lens _).2
 ·split
  ·intro x hx; cases hx
  ·split
   ·intro x hx; cases hx
   ·split
    ·intro x hx; cases hx
    ·intro x hx; cases hx
def cm0 : Cm := ⟨0, 0, 0, 0, [], []⟩
def GetP (w : World) : Option Cm → Ending → World → Prop
 | some c, e, w' => ∃ p n d q m f, e = .returned (.tuple #[cmV c (.slice p n d) (.slice q m f), .int .i64 0]) ∧ OwnS w.heap.size w' (.slice p n d) c.sp ∧ OwnN w.heap.size w' (.slice q m f) c.vo ∧ Below w.heap.size w w'
 | none, e, w' => e = .returned (.tuple #[cmV cm0 (.slice none 0 0) (.slice none 0 0), .int .i64 90]) ∧ Below w.heap.size w w'
set_option maxRecDepth 200000 in
set_option maxHeartbeats 8000000 in
theorem mgetNo_any {w : World} {v : Value} {l : List UInt8} (hv : By w v l) (hl : l.length ≤ 1100000) (hc : (rdC l).ok = false) : Calls Tryz.prog 25 #[v] w (GetP w none) := by
 obtain ⟨p, n, c, rfl⟩ := hv.sl
 have hA := (Below.refl w.heap.size w).alloc (Nat.le_refl _) (.cells #[.int .i64 0, .int .i64 0, .int .i64 0, .int .i64 0, .slice none 0 0, .slice none 0 0] 25)
 have HR := hide (RowC.new (k := 0) (se := 0) (sq := 0) (a := 0) (vs := .slice none 0 0) (vv := .slice none 0 0) w)
 have OV := hide (over_any (hv.below hA) (by omega))
 have HA := hide hA
 have HV := hide (And.intro hv hl)
 obtain ⟨cm, hcm⟩ : ∃ c, rdC l = c := ⟨_, rfl⟩
 have hnm := rdC_nm l
 rw [hcm] at hnm
 rw [hcm] at hc
 have HC := hide hc
 clear hv hl hA hc
 go_enter Tryz.func25, Tryz.ntmps25
 go_wp2_with fail
 refine OV.out.mono ?_
 rintro e w1 ⟨g, u, rfl, hwg, hs, hu, hne, hb⟩
 obtain ⟨q1, m1, c1, rfl⟩ := hu.by_.sl
 have RD := hide (mread_any (w0 := (w.alloc (.cells #[.int .i64 0, .int .i64 0, .int .i64 0, .int .i64 0, .slice none 0 0, .slice none 0 0] 25))) (g := g) (p := q1) (n := m1) (c := c1) (l := l) (w := w1) ⟨hs, hu.by_, hne, Nat.zero_le _, hwg, hb⟩ HV.out.2)
 have HS1 : Hid (w.heap.size + 1 ≤ w1.heap.size) := hide (by have := hb.size; simp at this; omega)
 rw [hcm] at RD
 clear hs hu hne hb hwg OV
 have HCM := hide (And.intro hcm hnm)
 clear hcm hnm
 go_wp2_with fail
 refine RD.out.mono ?_
 rintro e w2 ⟨ps, ns, ds, pv, nv, dv, rfl, hos, hov, hb2⟩
 have HO2 := hide (And.intro (hos.mono HS1.out) (hov.mono HS1.out))
 have HR2 := hide (HR.out.below hb2)
 have HB2 := hide (HA.out.trans (hb2.mono HA.out.size))
 clear hos hov hb2 RD
 obtain ⟨k, se, sq, a, sp, vo⟩ := cm
 unfold cmV
 dsimp only
 have hB := (Below.refl w2.heap.size w2).alloc (Nat.le_refl _) (.cells #[.int .i64 k, .int .i64 se, .int .i64 sq, .int .i64 a, .slice ps ns ds, .slice pv nv dv] 25)
 have HP := hide (mput_any (c := ⟨k, se, sq, a, sp, vo⟩) (vs := .slice ps ns ds) (vv := .slice pv nv dv) ⟨HO2.out.1.sps.below hB, HO2.out.2.ns.below hB, HCM.out.2⟩)
 have HX := hide ((RowC.new (k := k) (se := se) (sq := sq) (a := a) (vs := .slice ps ns ds) (vv := .slice pv nv dv) w2))
 have HR3 := hide (HR2.out.below hB)
 have HB3 := hide (HB2.out.trans (hB.mono HB2.out.size))
 have HO3 := hide (And.intro (HO2.out.1.below hB) (HO2.out.2.below hB))
 unfold cmV at HP
 dsimp only at HP
 clear hB
 go_wp2_with fail
 refine HP.out.mono ?_
 rintro e w4 hp
 rcases hp with ⟨h1, _⟩ | ⟨_, rfl, hb4⟩
 ·rw [HC.out] at h1; cases h1
 have HR4 := hide (HR3.out.below hb4)
 have HB4 := hide (HB3.out.trans (hb4.mono HB3.out.size))
 clear hb4 HP
 obtain ⟨r, hre⟩ : ∃ r, w.heap.size = r := ⟨_, rfl⟩
 have HWr := hide (show RowC w4 r 0 0 0 0 (.slice none 0 0) (.slice none 0 0) by rw [← hre]; exact HR4.out)
 have HRE := hide hre
 rw [hre]
 clear hre
 obtain ⟨j0, j1, j2, j3, j4, j5⟩ := HWr.out.box
 have fr0 := HWr.out.fr 0
 have fr1 := HWr.out.fr 1
 have fr2 := HWr.out.fr 2
 have fr3 := HWr.out.fr 3
 have fr4 := HWr.out.fr 4
 have fr5 := HWr.out.fr 5
 go_wp2_with fail
 have hst := setC_row HWr.out 0 0 0 0 (.slice none 0 0) (.slice none 0 0)
 have hcs := setC_chg w4 r 0 0 0 0 (.slice none 0 0) (.slice none 0 0)
 unfold setC at hst hcs
 have hcb := Chg.to_below HB4.out hcs (fun k e => by have := HRE.out; omega)
 refine bodyPost_ret (v := .tuple #[.agg #[.int .i64 0, .int .i64 0, .int .i64 0, .int .i64 0, .slice none 0 0, .slice none 0 0], .int .i64 90]) (by
   generalize (((((World.setCell w4 ⟨r, 0, none⟩ (.int .i64 0)).setCell ⟨r, 1, none⟩ (.int .i64 0)).setCell ⟨r, 2, none⟩ (.int .i64 0)).setCell ⟨r, 3, none⟩ (.int .i64 0)).setCell ⟨r, 4, none⟩ (.slice none 0 0)).setCell ⟨r, 5, none⟩ (.slice none 0 0) = W9 at hst ⊢
   obtain ⟨m0, m1, m2, m3, m4, m5⟩ := hst.box
   simp [results, Tryz.results25, go_sem, m0, m1, m2, m3, m4, m5]) rfl ?_
 exact ⟨rfl, hcb⟩
set_option maxRecDepth 200000 in
set_option maxHeartbeats 8000000 in
theorem mgetNe_any {w : World} {v : Value} {l : List UInt8} (hv : By w v l) (hl : l.length ≤ 1100000) (hc : (rdC l).ok = true) (hq : (rdC l).bytes ≠ l) : Calls Tryz.prog 25 #[v] w (GetP w none) := by
 obtain ⟨p, n, c, rfl⟩ := hv.sl
 have hA := (Below.refl w.heap.size w).alloc (Nat.le_refl _) (.cells #[.int .i64 0, .int .i64 0, .int .i64 0, .int .i64 0, .slice none 0 0, .slice none 0 0] 25)
 have HR := hide (RowC.new (k := 0) (se := 0) (sq := 0) (a := 0) (vs := .slice none 0 0) (vv := .slice none 0 0) w)
 have OV := hide (over_any (hv.below hA) (by omega))
 have HA := hide hA
 have HV := hide (And.intro hv hl)
 obtain ⟨cm, hcm⟩ : ∃ c, rdC l = c := ⟨_, rfl⟩
 have hnm := rdC_nm l
 rw [hcm] at hnm
 rw [hcm] at hc hq
 have HC := hide (And.intro hc hq)
 clear hv hl hA hc hq
 go_enter Tryz.func25, Tryz.ntmps25
 go_wp2_with fail
 refine OV.out.mono ?_
 rintro e w1 ⟨g, u, rfl, hwg, hs, hu, hne, hb⟩
 obtain ⟨q1, m1, c1, rfl⟩ := hu.by_.sl
 have RD := hide (mread_any (w0 := (w.alloc (.cells #[.int .i64 0, .int .i64 0, .int .i64 0, .int .i64 0, .slice none 0 0, .slice none 0 0] 25))) (g := g) (p := q1) (n := m1) (c := c1) (l := l) (w := w1) ⟨hs, hu.by_, hne, Nat.zero_le _, hwg, hb⟩ HV.out.2)
 have HS1 : Hid (w.heap.size + 1 ≤ w1.heap.size) := hide (by have := hb.size; simp at this; omega)
 rw [hcm] at RD
 clear hs hu hne hb hwg OV
 have HCM := hide (And.intro hcm hnm)
 clear hcm hnm
 go_wp2_with fail
 refine RD.out.mono ?_
 rintro e w2 ⟨ps, ns, ds, pv, nv, dv, rfl, hos, hov, hb2⟩
 have HO2 := hide (And.intro (hos.mono HS1.out) (hov.mono HS1.out))
 have HR2 := hide (HR.out.below hb2)
 have HB2 := hide (HA.out.trans (hb2.mono HA.out.size))
 clear hos hov hb2 RD
 obtain ⟨k, se, sq, a, sp, vo⟩ := cm
 unfold cmV
 dsimp only
 have hB := (Below.refl w2.heap.size w2).alloc (Nat.le_refl _) (.cells #[.int .i64 k, .int .i64 se, .int .i64 sq, .int .i64 a, .slice ps ns ds, .slice pv nv dv] 25)
 have HP := hide (mput_any (c := ⟨k, se, sq, a, sp, vo⟩) (vs := .slice ps ns ds) (vv := .slice pv nv dv) ⟨HO2.out.1.sps.below hB, HO2.out.2.ns.below hB, HCM.out.2⟩)
 have HX := hide ((RowC.new (k := k) (se := se) (sq := sq) (a := a) (vs := .slice ps ns ds) (vv := .slice pv nv dv) w2))
 have HR3 := hide (HR2.out.below hB)
 have HB3 := hide (HB2.out.trans (hB.mono HB2.out.size))
 have HO3 := hide (And.intro (HO2.out.1.below hB) (HO2.out.2.below hB))
 unfold cmV at HP
 dsimp only at HP
 clear hB
 go_wp2_with fail
 refine HP.out.mono ?_
 rintro e w4 hp
 rcases hp with ⟨_, p4, n4, c4, rfl, ho4, hb4⟩ | ⟨h1, _⟩
 rotate_left
 ·rw [HC.out.1] at h1; cases h1
 have HR4 := hide (HR3.out.below hb4)
 have HB4 := hide (HB3.out.trans (hb4.mono HB3.out.size))
 have EQ := hide (equal_any ho4.by_ (HV.out.1.below HB4.out))
 rw [show ((Cm.bytes ⟨k, se, sq, a, sp, vo⟩) == l) = false by simpa using HC.out.2] at EQ
 have HX4 := hide (HX.out.below hb4)
 have HO4 := hide (And.intro (HO3.out.1.below hb4) (HO3.out.2.below hb4))
 obtain ⟨x0, x1, x2, x3, x4, x5⟩ := (HX.out.below hb4).box
 clear ho4 hb4 HP
 go_wp2_with fail
 refine EQ.out.mono ?_
 rintro e w5 ⟨rfl, rfl⟩
 obtain ⟨r, hre⟩ : ∃ r, w.heap.size = r := ⟨_, rfl⟩
 have HWr := hide (show RowC w4 r 0 0 0 0 (.slice none 0 0) (.slice none 0 0) by rw [← hre]; exact HR4.out)
 have HRE := hide hre
 rw [hre]
 clear hre
 obtain ⟨j0, j1, j2, j3, j4, j5⟩ := HWr.out.box
 have fr0 := HWr.out.fr 0
 have fr1 := HWr.out.fr 1
 have fr2 := HWr.out.fr 2
 have fr3 := HWr.out.fr 3
 have fr4 := HWr.out.fr 4
 have fr5 := HWr.out.fr 5
 go_wp2_with fail
 have hst := setC_row HWr.out 0 0 0 0 (.slice none 0 0) (.slice none 0 0)
 have hcs := setC_chg w4 r 0 0 0 0 (.slice none 0 0) (.slice none 0 0)
 unfold setC at hst hcs
 have hcb := Chg.to_below HB4.out hcs (fun k e => by have := HRE.out; omega)
 refine bodyPost_ret (v := .tuple #[.agg #[.int .i64 0, .int .i64 0, .int .i64 0, .int .i64 0, .slice none 0 0, .slice none 0 0], .int .i64 90]) (by
   generalize (((((World.setCell w4 ⟨r, 0, none⟩ (.int .i64 0)).setCell ⟨r, 1, none⟩ (.int .i64 0)).setCell ⟨r, 2, none⟩ (.int .i64 0)).setCell ⟨r, 3, none⟩ (.int .i64 0)).setCell ⟨r, 4, none⟩ (.slice none 0 0)).setCell ⟨r, 5, none⟩ (.slice none 0 0) = W9 at hst ⊢
   obtain ⟨m0, m1, m2, m3, m4, m5⟩ := hst.box
   simp [results, Tryz.results25, go_sem, m0, m1, m2, m3, m4, m5]) rfl ?_
 exact ⟨rfl, hcb⟩
set_option maxRecDepth 200000 in
set_option maxHeartbeats 8000000 in
theorem mgetYes_any {w : World} {v : Value} {l : List UInt8} (hv : By w v l) (hl : l.length ≤ 1100000) (hc : (rdC l).ok = true) (hq : (rdC l).bytes = l) : Calls Tryz.prog 25 #[v] w (GetP w (some (rdC l))) := by
 obtain ⟨p, n, c, rfl⟩ := hv.sl
 have hA := (Below.refl w.heap.size w).alloc (Nat.le_refl _) (.cells #[.int .i64 0, .int .i64 0, .int .i64 0, .int .i64 0, .slice none 0 0, .slice none 0 0] 25)
 have HR := hide (RowC.new (k := 0) (se := 0) (sq := 0) (a := 0) (vs := .slice none 0 0) (vv := .slice none 0 0) w)
 have OV := hide (over_any (hv.below hA) (by omega))
 have HA := hide hA
 have HV := hide (And.intro hv hl)
 obtain ⟨cm, hcm⟩ : ∃ c, rdC l = c := ⟨_, rfl⟩
 have hnm := rdC_nm l
 rw [hcm] at hnm
 rw [hcm] at hc hq
 have HC := hide (And.intro hc hq)
 rw [hcm]
 clear hv hl hA hc hq
 go_enter Tryz.func25, Tryz.ntmps25
 go_wp2_with fail
 refine OV.out.mono ?_
 rintro e w1 ⟨g, u, rfl, hwg, hs, hu, hne, hb⟩
 obtain ⟨q1, m1, c1, rfl⟩ := hu.by_.sl
 have RD := hide (mread_any (w0 := (w.alloc (.cells #[.int .i64 0, .int .i64 0, .int .i64 0, .int .i64 0, .slice none 0 0, .slice none 0 0] 25))) (g := g) (p := q1) (n := m1) (c := c1) (l := l) (w := w1) ⟨hs, hu.by_, hne, Nat.zero_le _, hwg, hb⟩ HV.out.2)
 have HS1 : Hid (w.heap.size + 1 ≤ w1.heap.size) := hide (by have := hb.size; simp at this; omega)
 rw [hcm] at RD
 clear hs hu hne hb hwg OV
 have HCM := hide (And.intro hcm hnm)
 clear hcm hnm
 go_wp2_with fail
 refine RD.out.mono ?_
 rintro e w2 ⟨ps, ns, ds, pv, nv, dv, rfl, hos, hov, hb2⟩
 have HO2 := hide (And.intro (hos.mono HS1.out) (hov.mono HS1.out))
 have HR2 := hide (HR.out.below hb2)
 have HB2 := hide (HA.out.trans (hb2.mono HA.out.size))
 clear hos hov hb2 RD
 obtain ⟨k, se, sq, a, sp, vo⟩ := cm
 unfold cmV
 dsimp only
 have hB := (Below.refl w2.heap.size w2).alloc (Nat.le_refl _) (.cells #[.int .i64 k, .int .i64 se, .int .i64 sq, .int .i64 a, .slice ps ns ds, .slice pv nv dv] 25)
 have HP := hide (mput_any (c := ⟨k, se, sq, a, sp, vo⟩) (vs := .slice ps ns ds) (vv := .slice pv nv dv) ⟨HO2.out.1.sps.below hB, HO2.out.2.ns.below hB, HCM.out.2⟩)
 have HX := hide ((RowC.new (k := k) (se := se) (sq := sq) (a := a) (vs := .slice ps ns ds) (vv := .slice pv nv dv) w2))
 have HR3 := hide (HR2.out.below hB)
 have HB3 := hide (HB2.out.trans (hB.mono HB2.out.size))
 have HO3 := hide (And.intro (HO2.out.1.below hB) (HO2.out.2.below hB))
 unfold cmV at HP
 dsimp only at HP
 clear hB
 go_wp2_with fail
 refine HP.out.mono ?_
 rintro e w4 hp
 rcases hp with ⟨_, p4, n4, c4, rfl, ho4, hb4⟩ | ⟨h1, _⟩
 rotate_left
 ·rw [HC.out.1] at h1; cases h1
 have HR4 := hide (HR3.out.below hb4)
 have HB4 := hide (HB3.out.trans (hb4.mono HB3.out.size))
 have EQ := hide (equal_any ho4.by_ (HV.out.1.below HB4.out))
 rw [show ((Cm.bytes ⟨k, se, sq, a, sp, vo⟩) == l) = true by rw [HC.out.2]; simp] at EQ
 have HX4 := hide (HX.out.below hb4)
 have HO4 := hide (And.intro (HO3.out.1.below hb4) (HO3.out.2.below hb4))
 obtain ⟨x0, x1, x2, x3, x4, x5⟩ := (HX.out.below hb4).box
 clear ho4 hb4 HP
 go_wp2_with fail
 refine EQ.out.mono ?_
 rintro e w5 ⟨rfl, rfl⟩
 obtain ⟨r, hre⟩ : ∃ r, w.heap.size = r := ⟨_, rfl⟩
 have HWr := hide (show RowC w4 r 0 0 0 0 (.slice none 0 0) (.slice none 0 0) by rw [← hre]; exact HR4.out)
 have HRE := hide hre
 rw [hre]
 clear hre
 obtain ⟨j0, j1, j2, j3, j4, j5⟩ := HWr.out.box
 have fr0 := HWr.out.fr 0
 have fr1 := HWr.out.fr 1
 have fr2 := HWr.out.fr 2
 have fr3 := HWr.out.fr 3
 have fr4 := HWr.out.fr 4
 have fr5 := HWr.out.fr 5
 go_wp2_with fail
 have hst := setC_row HWr.out k se sq a (.slice ps ns ds) (.slice pv nv dv)
 have hcs := setC_chg w4 r k se sq a (.slice ps ns ds) (.slice pv nv dv)
 unfold setC at hst hcs
 have hcb := Chg.to_below HB4.out hcs (fun k e => by have := HRE.out; omega)
 refine bodyPost_ret (v := .tuple #[.agg #[.int .i64 k, .int .i64 se, .int .i64 sq, .int .i64 a, .slice ps ns ds, .slice pv nv dv], .int .i64 0]) (by
   generalize (((((World.setCell w4 ⟨r, 0, none⟩ (.int .i64 k)).setCell ⟨r, 1, none⟩ (.int .i64 se)).setCell ⟨r, 2, none⟩ (.int .i64 sq)).setCell ⟨r, 3, none⟩ (.int .i64 a)).setCell ⟨r, 4, none⟩ (.slice ps ns ds)).setCell ⟨r, 5, none⟩ (.slice pv nv dv) = W9 at hst ⊢
   obtain ⟨m0, m1, m2, m3, m4, m5⟩ := hst.box
   simp [results, Tryz.results25, go_sem, m0, m1, m2, m3, m4, m5]) rfl ?_
 exact ⟨_, _, _, _, _, _, rfl, (HO4.out.1.chgB hcs (fun k hk e => by have h1 := (HO4.out.1.lt k hk).1; have h2 := HRE.out; omega)).mono (Nat.le_succ _), (HO4.out.2.chgB hcs (fun k hk e => by have h1 := (HO4.out.2.lt k hk).1; have h2 := HRE.out; omega)).mono (Nat.le_succ _), hcb⟩
theorem mget_any {w : World} {v : Value} {l : List UInt8} (hv : By w v l) (hl : l.length ≤ 1100000) : Calls Tryz.prog 25 #[v] w (GetP w (getC l)) := by
 unfold getC
 by_cases hc : (rdC l).ok = true
 ·by_cases hq : (rdC l).bytes = l
  ·rw [if_pos ⟨hc, hq⟩]
   exact mgetYes_any hv hl hc hq
  ·rw [if_neg (fun h => hq h.2)]
   exact mgetNe_any hv hl hc hq
 ·rw [if_neg (fun h => hc h.1)]
  exact mgetNo_any hv hl (by simpa using hc)
end Go.Proofs.YtionbmlicmibgaaGreatDoor
