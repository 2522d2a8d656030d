import Derived.Test.YtionbmlicmibgaaGreatDoorMcRead
set_option linter.unusedVariables false
set_option linter.unusedSimpArgs false
namespace Go.Proofs.YtionbmlicmibgaaGreatDoor
open Go.Proofs.Tryz
set_option maxRecDepth 200000
set_option maxHeartbeats 8000000
open Go.RowKit
theorem Ec (l : List UInt8) : ∀ x ∈ (rT l).sp, x.n.size ≤ 1100000 := by
 unfold rT;dsimp only
 split
 ·exact (qj _).2
 ·split
  ·intro x hx; cases hx
  ·split
   ·intro x hx; cases hx
   ·split
    ·intro x hx; cases hx
    ·intro x hx; cases hx
def cm0 : Cm := ⟨0, 0, 0, 0, [], []⟩
def Od (w : World) : Option Cm → Ending → World → Prop
 | some c, e, w' => ∃ p n d q m f, e = .returned (.tuple #[pW c (.slice p n d) (.slice q m f), .int .i64 0]) ∧ aI w.heap.size w' (.slice p n d) c.sp ∧ bJ w.heap.size w' (.slice q m f) c.vo ∧ Below w.heap.size w w'
 | none, e, w' => e = .returned (.tuple #[pW cm0 (.slice none 0 0) (.slice none 0 0), .int .i64 90]) ∧ Below w.heap.size w w'
theorem Ed {w : World} {v : Value} {l : List UInt8} (hv : By w v l) (hl : l.length ≤ 1100000) (hc : (rT l).ok = false) : Calls prog 25 #[v] w (Od w none) := by
 obtain ⟨p, n, c, rfl⟩ := hv.sl;have hA := (acG w.heap.size w).alloc (acE _) (.cells #[.int .i64 0, .int .i64 0, .int .i64 0, .int .i64 0, .slice none 0 0, .slice none 0 0] 25);have HR := af (bk.new (k := 0) (se := 0) (sq := 0) (a := 0) (vs := .slice none 0 0) (vv := .slice none 0 0) w);have OV := af (je (hv.below hA) (by omega));have HA := af hA;have HV := af (acD hv hl);obtain ⟨cm, kO⟩ : ∃ c, rT l = c := ⟨_, rfl⟩
 have im := Ec l;rw [kO] at im;rw [kO] at hc;have HC := af hc;clear hv hl hA hc;go_enter func25, ntmps25
 go_wp2_with fail
 refine OV.out.mono ?_;rintro e w1 ⟨g, u, rfl, sV, hs, hu, aN, hb⟩;obtain ⟨q1, m1, c1, rfl⟩ := hu.bp.sl;have RD := af (qk (w0 := (w.alloc (.cells #[.int .i64 0, .int .i64 0, .int .i64 0, .int .i64 0, .slice none 0 0, .slice none 0 0] 25))) (g := g) (p := q1) (n := m1) (c := c1) (l := l) (w := w1) ⟨hs, hu.bp, aN, adq _, sV, hb⟩ HV.out.2);have eL : Hid (w.heap.size + 1 ≤ w1.heap.size) := af (by have := hb.size; simp at this; omega);rw [kO] at RD;clear hs hu aN hb sV OV;have Qr := af (acD kO im);clear kO im;go_wp2_with fail
 refine RD.out.mono ?_;rintro e w2 ⟨ps, ns, ds, pv, nv, dv, rfl, q_, fj, aP⟩;have jO := af (acD (q_.mono eL.out) (fj.mono eL.out));have Hj := af (HR.out.below aP);have cE := af (HA.out.trans (aP.mono HA.out.size));clear q_ fj aP RD;obtain ⟨k, se, sq, a, sp, vo⟩ := cm;unfold pW;dsimp only;have hB := (acG w2.heap.size w2).alloc (acE _) (.cells #[.int .i64 k, .int .i64 se, .int .i64 sq, .int .i64 a, .slice ps ns ds, .slice pv nv dv] 25);have HP := af (oR (c := ⟨k, se, sq, a, sp, vo⟩) (vs := .slice ps ns ds) (vv := .slice pv nv dv) ⟨jO.out.1.gp.below hB, jO.out.2.ns.below hB, Qr.out.2⟩);have HX := af ((bk.new (k := k) (se := se) (sq := sq) (a := a) (vs := .slice ps ns ds) (vv := .slice pv nv dv) w2));have Wp := af (Hj.out.below hB);have fH := af (cE.out.trans (hB.mono cE.out.size));have sW := af (acD (jO.out.1.below hB) (jO.out.2.below hB));unfold pW at HP;dsimp only at HP;clear hB;go_wp2_with fail
 refine HP.out.mono ?_;rintro e w4 hp;rcases hp with ⟨h1, _⟩ | ⟨_, rfl, bY⟩
 ·rw [HC.out] at h1; cases h1
 have Kg := af (Wp.out.below bY);have dL := af (fH.out.trans (bY.mono fH.out.size));clear bY HP;obtain ⟨r, cT⟩ : ∃ r, w.heap.size = r := ⟨_, rfl⟩
 have ec := af (show bk w4 r 0 0 0 0 (.slice none 0 0) (.slice none 0 0) by rw [← cT]; exact Kg.out);have KQ := af cT;rw [cT];clear cT;obtain ⟨j0, j1, j2, j3, j4, j5⟩ := ec.out.box;have JZ := ec.out.fr 0;have J0 := ec.out.fr 1;have Qw := ec.out.fr 2;have Qx := ec.out.fr 3;have Qy := ec.out.fr 4;have Qz := ec.out.fr 5;go_wp2_with fail
 have hst := gW ec.out 0 0 0 0 (.slice none 0 0) (.slice none 0 0);have hcs := gX w4 r 0 0 0 0 (.slice none 0 0) (.slice none 0 0);unfold wa at hst hcs;have xm := ak.aZ dL.out hcs (fun k e => by have := KQ.out; omega);refine ac0 (v := .tuple #[.agg #[.int .i64 0, .int .i64 0, .int .i64 0, .int .i64 0, .slice none 0 0, .slice none 0 0], .int .i64 90]) (by
   generalize (((((World.setCell w4 ⟨r, 0, none⟩ (.int .i64 0)).setCell ⟨r, 1, none⟩ (.int .i64 0)).setCell ⟨r, 2, none⟩ (.int .i64 0)).setCell ⟨r, 3, none⟩ (.int .i64 0)).setCell ⟨r, 4, none⟩ (.slice none 0 0)).setCell ⟨r, 5, none⟩ (.slice none 0 0) = W9 at hst ⊢;obtain ⟨m0, m1, m2, m3, m4, m5⟩ := hst.box;simp [results, results25, go_sem, m0, m1, m2, m3, m4, m5]) rfl ?_
 exact ⟨rfl, xm⟩
theorem Ee {w : World} {v : Value} {l : List UInt8} (hv : By w v l) (hl : l.length ≤ 1100000) (hc : (rT l).ok = true) (hq : (rT l).bytes ≠ l) : Calls prog 25 #[v] w (Od w none) := by
 obtain ⟨p, n, c, rfl⟩ := hv.sl;have hA := (acG w.heap.size w).alloc (acE _) (.cells #[.int .i64 0, .int .i64 0, .int .i64 0, .int .i64 0, .slice none 0 0, .slice none 0 0] 25);have HR := af (bk.new (k := 0) (se := 0) (sq := 0) (a := 0) (vs := .slice none 0 0) (vv := .slice none 0 0) w);have OV := af (je (hv.below hA) (by omega));have HA := af hA;have HV := af (acD hv hl);obtain ⟨cm, kO⟩ : ∃ c, rT l = c := ⟨_, rfl⟩
 have im := Ec l;rw [kO] at im;rw [kO] at hc hq;have HC := af (acD hc hq);clear hv hl hA hc hq;go_enter func25, ntmps25
 go_wp2_with fail
 refine OV.out.mono ?_;rintro e w1 ⟨g, u, rfl, sV, hs, hu, aN, hb⟩;obtain ⟨q1, m1, c1, rfl⟩ := hu.bp.sl;have RD := af (qk (w0 := (w.alloc (.cells #[.int .i64 0, .int .i64 0, .int .i64 0, .int .i64 0, .slice none 0 0, .slice none 0 0] 25))) (g := g) (p := q1) (n := m1) (c := c1) (l := l) (w := w1) ⟨hs, hu.bp, aN, adq _, sV, hb⟩ HV.out.2);have eL : Hid (w.heap.size + 1 ≤ w1.heap.size) := af (by have := hb.size; simp at this; omega);rw [kO] at RD;clear hs hu aN hb sV OV;have Qr := af (acD kO im);clear kO im;go_wp2_with fail
 refine RD.out.mono ?_;rintro e w2 ⟨ps, ns, ds, pv, nv, dv, rfl, q_, fj, aP⟩;have jO := af (acD (q_.mono eL.out) (fj.mono eL.out));have Hj := af (HR.out.below aP);have cE := af (HA.out.trans (aP.mono HA.out.size));clear q_ fj aP RD;obtain ⟨k, se, sq, a, sp, vo⟩ := cm;unfold pW;dsimp only;have hB := (acG w2.heap.size w2).alloc (acE _) (.cells #[.int .i64 k, .int .i64 se, .int .i64 sq, .int .i64 a, .slice ps ns ds, .slice pv nv dv] 25);have HP := af (oR (c := ⟨k, se, sq, a, sp, vo⟩) (vs := .slice ps ns ds) (vv := .slice pv nv dv) ⟨jO.out.1.gp.below hB, jO.out.2.ns.below hB, Qr.out.2⟩);have HX := af ((bk.new (k := k) (se := se) (sq := sq) (a := a) (vs := .slice ps ns ds) (vv := .slice pv nv dv) w2));have Wp := af (Hj.out.below hB);have fH := af (cE.out.trans (hB.mono cE.out.size));have sW := af (acD (jO.out.1.below hB) (jO.out.2.below hB));unfold pW at HP;dsimp only at HP;clear hB;go_wp2_with fail
 refine HP.out.mono ?_;rintro e w4 hp;rcases hp with ⟨_, p4, n4, c4, rfl, iP, bY⟩ | ⟨h1, _⟩;rotate_left
 ·rw [HC.out.1] at h1; cases h1
 have Kg := af (Wp.out.below bY);have dL := af (fH.out.trans (bY.mono fH.out.size));have EQ := af (iO iP.bp (HV.out.1.below dL.out));rw [show ((Cm.bytes ⟨k, se, sq, a, sp, vo⟩) == l) = false by simpa using HC.out.2] at EQ;have Wq := af (HX.out.below bY);have Hh := af (acD (sW.out.1.below bY) (sW.out.2.below bY));obtain ⟨x0, x1, x2, x3, x4, x5⟩ := (HX.out.below bY).box;clear iP bY HP;go_wp2_with fail
 refine EQ.out.mono ?_;rintro e w5 ⟨rfl, rfl⟩;obtain ⟨r, cT⟩ : ∃ r, w.heap.size = r := ⟨_, rfl⟩
 have ec := af (show bk w4 r 0 0 0 0 (.slice none 0 0) (.slice none 0 0) by rw [← cT]; exact Kg.out);have KQ := af cT;rw [cT];clear cT;obtain ⟨j0, j1, j2, j3, j4, j5⟩ := ec.out.box;have JZ := ec.out.fr 0;have J0 := ec.out.fr 1;have Qw := ec.out.fr 2;have Qx := ec.out.fr 3;have Qy := ec.out.fr 4;have Qz := ec.out.fr 5;go_wp2_with fail
 have hst := gW ec.out 0 0 0 0 (.slice none 0 0) (.slice none 0 0);have hcs := gX w4 r 0 0 0 0 (.slice none 0 0) (.slice none 0 0);unfold wa at hst hcs;have xm := ak.aZ dL.out hcs (fun k e => by have := KQ.out; omega);refine ac0 (v := .tuple #[.agg #[.int .i64 0, .int .i64 0, .int .i64 0, .int .i64 0, .slice none 0 0, .slice none 0 0], .int .i64 90]) (by
   generalize (((((World.setCell w4 ⟨r, 0, none⟩ (.int .i64 0)).setCell ⟨r, 1, none⟩ (.int .i64 0)).setCell ⟨r, 2, none⟩ (.int .i64 0)).setCell ⟨r, 3, none⟩ (.int .i64 0)).setCell ⟨r, 4, none⟩ (.slice none 0 0)).setCell ⟨r, 5, none⟩ (.slice none 0 0) = W9 at hst ⊢;obtain ⟨m0, m1, m2, m3, m4, m5⟩ := hst.box;simp [results, results25, go_sem, m0, m1, m2, m3, m4, m5]) rfl ?_
 exact ⟨rfl, xm⟩
theorem A2 {w : World} {v : Value} {l : List UInt8} (hv : By w v l) (hl : l.length ≤ 1100000) (hc : (rT l).ok = true) (hq : (rT l).bytes = l) : Calls prog 25 #[v] w (Od w (some (rT l))) := by
 obtain ⟨p, n, c, rfl⟩ := hv.sl;have hA := (acG w.heap.size w).alloc (acE _) (.cells #[.int .i64 0, .int .i64 0, .int .i64 0, .int .i64 0, .slice none 0 0, .slice none 0 0] 25);have HR := af (bk.new (k := 0) (se := 0) (sq := 0) (a := 0) (vs := .slice none 0 0) (vv := .slice none 0 0) w);have OV := af (je (hv.below hA) (by omega));have HA := af hA;have HV := af (acD hv hl);obtain ⟨cm, kO⟩ : ∃ c, rT l = c := ⟨_, rfl⟩
 have im := Ec l;rw [kO] at im;rw [kO] at hc hq;have HC := af (acD hc hq);rw [kO];clear hv hl hA hc hq;go_enter func25, ntmps25
 go_wp2_with fail
 refine OV.out.mono ?_;rintro e w1 ⟨g, u, rfl, sV, hs, hu, aN, hb⟩;obtain ⟨q1, m1, c1, rfl⟩ := hu.bp.sl;have RD := af (qk (w0 := (w.alloc (.cells #[.int .i64 0, .int .i64 0, .int .i64 0, .int .i64 0, .slice none 0 0, .slice none 0 0] 25))) (g := g) (p := q1) (n := m1) (c := c1) (l := l) (w := w1) ⟨hs, hu.bp, aN, adq _, sV, hb⟩ HV.out.2);have eL : Hid (w.heap.size + 1 ≤ w1.heap.size) := af (by have := hb.size; simp at this; omega);rw [kO] at RD;clear hs hu aN hb sV OV;have Qr := af (acD kO im);clear kO im;go_wp2_with fail
 refine RD.out.mono ?_;rintro e w2 ⟨ps, ns, ds, pv, nv, dv, rfl, q_, fj, aP⟩;have jO := af (acD (q_.mono eL.out) (fj.mono eL.out));have Hj := af (HR.out.below aP);have cE := af (HA.out.trans (aP.mono HA.out.size));clear q_ fj aP RD;obtain ⟨k, se, sq, a, sp, vo⟩ := cm;unfold pW;dsimp only;have hB := (acG w2.heap.size w2).alloc (acE _) (.cells #[.int .i64 k, .int .i64 se, .int .i64 sq, .int .i64 a, .slice ps ns ds, .slice pv nv dv] 25);have HP := af (oR (c := ⟨k, se, sq, a, sp, vo⟩) (vs := .slice ps ns ds) (vv := .slice pv nv dv) ⟨jO.out.1.gp.below hB, jO.out.2.ns.below hB, Qr.out.2⟩);have HX := af ((bk.new (k := k) (se := se) (sq := sq) (a := a) (vs := .slice ps ns ds) (vv := .slice pv nv dv) w2));have Wp := af (Hj.out.below hB);have fH := af (cE.out.trans (hB.mono cE.out.size));have sW := af (acD (jO.out.1.below hB) (jO.out.2.below hB));unfold pW at HP;dsimp only at HP;clear hB;go_wp2_with fail
 refine HP.out.mono ?_;rintro e w4 hp;rcases hp with ⟨_, p4, n4, c4, rfl, iP, bY⟩ | ⟨h1, _⟩;rotate_left
 ·rw [HC.out.1] at h1; cases h1
 have Kg := af (Wp.out.below bY);have dL := af (fH.out.trans (bY.mono fH.out.size));have EQ := af (iO iP.bp (HV.out.1.below dL.out));rw [show ((Cm.bytes ⟨k, se, sq, a, sp, vo⟩) == l) = true by rw [HC.out.2]; simp] at EQ;have Wq := af (HX.out.below bY);have Hh := af (acD (sW.out.1.below bY) (sW.out.2.below bY));obtain ⟨x0, x1, x2, x3, x4, x5⟩ := (HX.out.below bY).box;clear iP bY HP;go_wp2_with fail
 refine EQ.out.mono ?_;rintro e w5 ⟨rfl, rfl⟩;obtain ⟨r, cT⟩ : ∃ r, w.heap.size = r := ⟨_, rfl⟩
 have ec := af (show bk w4 r 0 0 0 0 (.slice none 0 0) (.slice none 0 0) by rw [← cT]; exact Kg.out);have KQ := af cT;rw [cT];clear cT;obtain ⟨j0, j1, j2, j3, j4, j5⟩ := ec.out.box;have JZ := ec.out.fr 0;have J0 := ec.out.fr 1;have Qw := ec.out.fr 2;have Qx := ec.out.fr 3;have Qy := ec.out.fr 4;have Qz := ec.out.fr 5;go_wp2_with fail
 have hst := gW ec.out k se sq a (.slice ps ns ds) (.slice pv nv dv);have hcs := gX w4 r k se sq a (.slice ps ns ds) (.slice pv nv dv);unfold wa at hst hcs;have xm := ak.aZ dL.out hcs (fun k e => by have := KQ.out; omega);refine ac0 (v := .tuple #[.agg #[.int .i64 k, .int .i64 se, .int .i64 sq, .int .i64 a, .slice ps ns ds, .slice pv nv dv], .int .i64 0]) (by
   generalize (((((World.setCell w4 ⟨r, 0, none⟩ (.int .i64 k)).setCell ⟨r, 1, none⟩ (.int .i64 se)).setCell ⟨r, 2, none⟩ (.int .i64 sq)).setCell ⟨r, 3, none⟩ (.int .i64 a)).setCell ⟨r, 4, none⟩ (.slice ps ns ds)).setCell ⟨r, 5, none⟩ (.slice pv nv dv) = W9 at hst ⊢;obtain ⟨m0, m1, m2, m3, m4, m5⟩ := hst.box;simp [results, results25, go_sem, m0, m1, m2, m3, m4, m5]) rfl ?_
 exact ⟨_, _, _, _, _, _, rfl, (Hh.out.1.yT hcs (fun k hk e => by have h1 := (Hh.out.1.lt k hk).1; have h2 := KQ.out; omega)).mono (Nat.le_succ _), (Hh.out.2.yT hcs (fun k hk e => by have h1 := (Hh.out.2.lt k hk).1; have h2 := KQ.out; omega)).mono (Nat.le_succ _), xm⟩
theorem ja {w : World} {v : Value} {l : List UInt8} (hv : By w v l) (hl : l.length ≤ 1100000) : Calls prog 25 #[v] w (Od w (jY l)) := by
 unfold jY;by_cases hc : (rT l).ok = true
 ·by_cases hq : (rT l).bytes = l
  ·rw [acW ⟨hc, hq⟩];exact A2 hv hl hc hq
  ·rw [acO (fun h => hq h.2)];exact Ee hv hl hc hq
 ·rw [acO (fun h => hc h.1)];exact Ed hv hl (by simpa using hc)
end Go.Proofs.YtionbmlicmibgaaGreatDoor
