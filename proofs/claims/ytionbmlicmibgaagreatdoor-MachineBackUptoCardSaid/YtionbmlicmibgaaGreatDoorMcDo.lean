import Derived.Test.YtionbmlicmibgaaGreatDoorMcCmd2
namespace Go.Proofs.YtionbmlicmibgaaGreatDoor
set_option linter.unusedVariables false
set_option linter.unusedSimpArgs false
open Go.RowKit
noncomputable def doM (m : Mp) (ix tm : Int) (l : List UInt8) : Rp × Mp :=
 if (cmdM { m with ix := ix, tm := tm } (getC l)).2.1 = 0 then ((cmdM { m with ix := ix, tm := tm } (getC l)).1, (cmdM { m with ix := ix, tm := tm } (getC l)).2.2)
 else (⟨(cmdM { m with ix := ix, tm := tm } (getC l)).2.1, 0, 0, 0, 0, 0, 0, 0⟩, (cmdM { m with ix := ix, tm := tm } (getC l)).2.2)
def DoP (w : World) (P : Pm) (x : Rp × Mp) (e : Ending) (w' : World) : Prop := e = .returned (rpV x.1) ∧ ∃ P', McTo w w' P P' x.2
theorem McIs.ixt {w w' : World} {P : Pm} {m : Mp} (h : McIs w P m) {ix tm : Int} (h0 : 0 ≤ ix ∧ ix ≤ 1099511627776) (h1 : 0 ≤ tm ∧ tm ≤ 1099511627776) (hc : Chg w w' fun k => k = P.gi) (hrow : RowM w' P { m with ix := ix, tm := tm }) : McIs w' P { m with ix := ix, tm := tm } :=
 ⟨hrow, h.so.chg hc (fun k hk => (h.a1 k hk).1), h.pl, h.tb.chg hc (fun e => h.a2.1 e.symm) (fun e => h.a2.2 e.symm), h.vo.chgS hc (fun k hk => (h.a3 k hk).1), ⟨h0.1, h0.2, h1.1, h1.2, h.ok.vo⟩, h.er.chg hc (fun (e : 0 = P.gi) => h.nz P.gi (.inl rfl) e.symm), h.a1, h.a2, h.a3, h.nz⟩
theorem By.keepGi {w w' : World} {P : Pm} {m : Mp} {v : Value} {l : List UInt8} (h : McIs w P m) (hv : By w v l) (hc : Chg w w' fun k => k = P.gi) : By w' v l := by
 obtain ⟨p, c, e, h1, h2, h3, h4⟩ := hv
 refine ⟨p, c, e, h1, h2, h3, fun a ha i x hi => hc.cell (h4 a ha i x hi) (fun hb => ?_)⟩
 have hh := h4 a ha i x hi
 have hvv : ∀ z, P.vv ≠ .int .u8 z := by
  obtain ⟨hl, ⟨e1, h0⟩ | ⟨g, cap, cur, e1, _⟩⟩ := h.vo.1 <;> (intro z; rw [e1]; exact fun e => by cases e)
 have hrow := h.row
 unfold RowM at hrow
 unfold World.cell? at hh
 rw [show (a.add i).block = P.gi from hb, hrow] at hh
 dsimp only at hh
 split at hh
 ·cases hh
 ·generalize (a.add i).off = o at hh
  rcases o with _ | _ | _ | _ | _ | o
  ·cases hh
  ·cases hh
  ·cases hh
  ·cases hh
  ·exact hvv _ (Option.some.inj hh)
  ·simp at hh
set_option maxRecDepth 200000 in
set_option maxHeartbeats 8000000 in
theorem mdo_any {w : World} {P : Pm} {m : Mp} (h : McIs w P m) {ix tm : Int} (h0 : 0 ≤ ix ∧ ix ≤ 1099511627776) (h1 : 0 ≤ tm ∧ tm ≤ 1099511627776) {v : Value} {l : List UInt8} (hv : By w v l) (hl : l.length ≤ 1100000) : Calls Tryz.prog 78 #[.pointer (some ⟨P.gi, 0, none⟩), .agg #[.int .i64 ix, .int .i64 tm, v]] w (DoP w P (doM m ix tm l)) := by
 obtain ⟨p, n, c, rfl⟩ := hv.sl
 have hA := (Below.refl w.heap.size w).alloc (Nat.le_refl _) (.cells #[.int .i64 ix, .int .i64 tm, .slice p n c] 55)
 have hB := hA.alloc (o := .cells #[.int .i64 0, .int .i64 0, .int .i64 0, .int .i64 0, .int .i64 0, .int .i64 0, .int .i64 0, .int .i64 0] 66) (by simp)
 have hE : (w.alloc (.cells #[.int .i64 ix, .int .i64 tm, .slice p n c] 55)).heap[w.heap.size]? = _ := heap_alloc_new _ _
 have hE2 := (((Below.refl _ _).alloc (Nat.le_refl _) (.cells #[.int .i64 0, .int .i64 0, .int .i64 0, .int .i64 0, .int .i64 0, .int .i64 0, .int .i64 0, .int .i64 0] 66)).block w.heap.size (by simp)).trans hE
 have hr := RowR.new (w.alloc (.cells #[.int .i64 ix, .int .i64 tm, .slice p n c] 55)) rp0
 have hrs : (w.alloc (.cells #[.int .i64 ix, .int .i64 tm, .slice p n c] 55)).heap.size = w.heap.size + 1 := by simp
 rw [hrs] at hr
 have HM := hide h
 have HV := hide (And.intro hv hl)
 have H01 := hide (And.intro h0 h1)
 go_enter Tryz.func78, Tryz.ntmps78
 go_upto_region 1 with fail
 obtain ⟨X, hX⟩ : ∃ X, (w.alloc (.cells #[.int .i64 ix, .int .i64 tm, .slice p n c] 55)).alloc (.cells #[.int .i64 0, .int .i64 0, .int .i64 0, .int .i64 0, .int .i64 0, .int .i64 0, .int .i64 0, .int .i64 0] 66) = X := ⟨_, rfl⟩
 have hr' : RowR X (w.heap.size + 1) rp0 := by rw [← hX]; exact hr
 have hE' : X.heap[w.heap.size]? = some (.cells #[.int .i64 ix, .int .i64 tm, .slice p n c] 55 (0, 0)) := by rw [← hX]; exact hE2
 have hB' : Below w.heap.size w X := by rw [← hX]; exact hB
 obtain ⟨b, hbe⟩ : ∃ b, w.heap.size = b := ⟨_, rfl⟩
 obtain ⟨r, hre⟩ : ∃ r, b + 1 = r := ⟨_, rfl⟩
 rw [hX, hbe, hre]
 rw [hbe] at hr' hE'
 rw [hre] at hr'
 have HX := hide hB'
 have HMX := hide (h.below hB')
 have HRX := hide hr'
 have HRB : Hid (w.heap.size = b ∧ b + 1 = r ∧ (∀ k, McS P k → k < b)) := hide ⟨hbe, hre, fun k hk => by have := h.lt k hk; omega⟩
 have x0 := cell_of_row X b 0 _ 55 (0, 0) hE'
 have x1 := cell_of_row X b 1 _ 55 (0, 0) hE'
 have x2 := cell_of_row X b 2 _ 55 (0, 0) hE'
 have HGB : Hid (¬ P.gi = b ∧ ¬ P.gi = r) := hide (by have h2 := HRB.out; have := h2.2.2 P.gi (.inl rfl); exact ⟨by omega, by omega⟩)
 have HX2 := hide x2
 dsimp at x0 x1
 clear h hA hB hE hE2 hr hrs hX hr' hE' hB' hbe hre hv hl h0 h1
 refine wp_region_held_drew (S := (fun U => U.cell? ⟨b, 0, none⟩ = some (.int .i64 ix) ∧ U.cell? ⟨b, 1, none⟩ = some (.int .i64 tm))) (by kernel_rfl) ?_ (fun hHeld => ?_)
 ·(try dsimp only)
  exact ⟨x0, x1⟩
 have HV0 : Hid (Below X.heap.size X X.drew) := hide (bdrew X 1)
 generalize X.drew = V at HV0 hHeld ⊢
 have z2 := (HMX.out.below HV0.out).row.c2
 have z3 := (HMX.out.below HV0.out).row.c3
 have f2 := (HMX.out.below HV0.out).row.fr 2
 have f3 := (HMX.out.below HV0.out).row.fr 3
 refine tkI (i := 0) (oi := ⟨some 8, Op.move (Operand.tmp 0), 97, _, _, none⟩) (v := ?_) rfl (by rfl) ?_ ?_
 rotate_left
 ·intro w hSw
  (try dsimp only at hSw)
  go_simp
  try with_reducible rfl
 try simp only [Act.put, qA, qB, qC]
 refine tkI (i := 1) (oi := ⟨some 9, Op.move (Operand.tmp 0), 97, _, _, none⟩) (v := ?_) rfl (by rfl) ?_ ?_
 rotate_left
 ·intro w hSw
  (try dsimp only at hSw)
  go_simp
  try with_reducible rfl
 try simp only [Act.put, qA, qB, qC]
 refine tkI (i := 2) (oi := ⟨some 10, Op.fieldAddr 55 (Operand.tmp 3) 0, 0, _, _, none⟩) (v := ?_) rfl (by rfl) ?_ ?_
 rotate_left
 ·intro w hSw
  (try dsimp only at hSw)
  go_simp
  try with_reducible rfl
 try simp only [Act.put, qA, qB, qC]
 refine tkI (i := 3) (oi := ⟨some 11, Op.load 3 (Operand.tmp 10), 3, _, _, none⟩) (v := ?_) rfl (by rfl) ?_ ?_
 rotate_left
 ·intro w hSw
  (try dsimp only at hSw)
  go_simp
  try with_reducible rfl
 try simp only [Act.put, qA, qB, qC]
 refine tkI (i := 4) (oi := ⟨some 12, Op.fieldAddr 55 (Operand.tmp 3) 1, 0, _, _, none⟩) (v := ?_) rfl (by rfl) ?_ ?_
 rotate_left
 ·intro w hSw
  (try dsimp only at hSw)
  go_simp
  try with_reducible rfl
 try simp only [Act.put, qA, qB, qC]
 refine tkI (i := 5) (oi := ⟨some 13, Op.load 3 (Operand.tmp 12), 3, _, _, none⟩) (v := ?_) rfl (by rfl) ?_ ?_
 rotate_left
 ·intro w hSw
  (try dsimp only at hSw)
  go_simp
  try with_reducible rfl
 try simp only [Act.put, qA, qB, qC]
 refine tkI (i := 6) (oi := ⟨some 14, Op.nilCheck (Operand.tmp 8), 0, _, _, none⟩) (v := ?_) rfl (by rfl) ?_ ?_
 rotate_left
 ·intro w hSw
  (try dsimp only at hSw)
  go_simp
  try with_reducible rfl
 try simp only [Act.put, qA, qB, qC]
 refine tkI (i := 7) (oi := ⟨some 15, Op.fieldAddr 131 (Operand.tmp 14) 2, 0, _, _, none⟩) (v := ?_) rfl (by rfl) ?_ ?_
 rotate_left
 ·intro w hSw
  (try dsimp only at hSw)
  go_simp
  try with_reducible rfl
 try simp only [Act.put, qA, qB, qC]
 refine wpAnyH_ready (rs := [8]) (by kernel_rfl) (by simp) ?_
 refine AllReadyH.cons (o := ⟨none, Op.store 3 (Operand.tmp 15) (Operand.tmp 11), 0, _, _, none⟩) rfl (fun K hK => ?_) ?_
 ·go_simp
  first
   | refine hK.out _ _ ?_ (fun hHeld => ?_)
   | (go_wp2_with fail; refine hK.out _ _ ?_ (fun hHeld => ?_))
  ·(try dsimp only)
   exact ⟨(chg_set _ _ _ _).cell hHeld.1 (fun (e : b = P.gi) => HGB.out.1 e.symm), (chg_set _ _ _ _).cell hHeld.2 (fun (e : b = P.gi) => HGB.out.1 e.symm)⟩
  clear hK K
  try simp only [Act.put, qA, qB, qC]
  refine tkI (i := 9) (oi := ⟨some 16, Op.nilCheck (Operand.tmp 9), 0, _, _, none⟩) (v := ?_) rfl (by rfl) ?_ ?_
  rotate_left
  ·intro w hSw
   (try dsimp only at hSw)
   go_simp
   try with_reducible rfl
  try simp only [Act.put, qA, qB, qC]
  refine tkI (i := 10) (oi := ⟨some 17, Op.fieldAddr 131 (Operand.tmp 16) 3, 0, _, _, none⟩) (v := ?_) rfl (by rfl) ?_ ?_
  rotate_left
  ·intro w hSw
   (try dsimp only at hSw)
   go_simp
   try with_reducible rfl
  try simp only [Act.put, qA, qB, qC]
  refine wpAnyH_ready (rs := [11]) (by kernel_rfl) (by simp) ?_
  refine AllReadyH.cons (o := ⟨none, Op.store 3 (Operand.tmp 17) (Operand.tmp 13), 0, _, _, none⟩) rfl (fun K hK => ?_) ?_
  ·go_simp
   first
    | refine hK.out _ _ ?_ (fun hHeld => ?_)
    | (go_wp2_with fail; refine hK.out _ _ ?_ (fun hHeld => ?_))
   ·(try dsimp only)
    exact ⟨(chg_set _ _ _ _).cell hHeld.1 (fun (e : b = P.gi) => HGB.out.1 e.symm), (chg_set _ _ _ _).cell hHeld.2 (fun (e : b = P.gi) => HGB.out.1 e.symm)⟩
   clear hK K
   try simp only [Act.put, qA, qB, qC]
   refine wpAnyH_done (by kernel_rfl) ?_ _
   obtain ⟨Y, hY⟩ : ∃ Y, (V.setCell ⟨P.gi, 2, none⟩ (.int .i64 ix)).setCell ⟨P.gi, 3, none⟩ (.int .i64 tm) = Y := ⟨_, rfl⟩
   have hcY : Chg V Y fun k => k = P.gi := by rw [← hY]; exact chgS (chg_set _ _ _ _) (chg_set _ _ _ _)
   have hrow : RowM Y P { m with ix := ix, tm := tm } := by
    have h1 := (HMX.out.below HV0.out).row
    have h2 : (V.setCell ⟨P.gi, 2, none⟩ (.int .i64 ix)).heap[P.gi]? = some (.cells #[.pointer (some ⟨P.gs, 0, none⟩), .pointer (some ⟨P.gt, 0, none⟩), .int .i64 ix, .int .i64 m.tm, P.vv] 131 (0, 0)) := by
     rw [heap_setCell_same V P.gi 2 _ 131 _ h1]; rfl
    unfold RowM
    rw [← hY, heap_setCell_same _ P.gi 3 _ 131 _ h2]
    rfl
   have HMY := hide ((HMX.out.below HV0.out).ixt H01.out.1 H01.out.2 hcY hrow)
   have HCY := hide hcY
   have HRY := hide ((HRX.out.below HV0.out).chg hcY (fun (e : r = P.gi) => HGB.out.2 e.symm))
   have HX2Y := hide (hcY.cell (HV0.out.cell (lt_of_cell HX2.out) |>.trans HX2.out) (fun (e : b = P.gi) => HGB.out.1 e.symm))
   rw [hY]
   clear hY hcY hrow z2 z3 f2 f3
   have HVY := hide (By.keepGi (HMX.out.below HV0.out) (HV.out.1.below (HX.out.trans (HV0.out.mono HX.out.size))) HCY.out)
   obtain ⟨rc, er, m2, hi⟩ : ∃ rc er m2, cmdM { m with ix := ix, tm := tm } (getC l) = (rc, er, m2) := ⟨_, _, _, rfl⟩
   have HCM := hide (mcommand_any HMY.out HVY.out HV.out.2)
   rw [hi] at HCM
   have hd : doM m ix tm l = if er = 0 then (rc, m2) else (⟨er, 0, 0, 0, 0, 0, 0, 0⟩, m2) := by unfold doM; rw [hi]
   have HD := hide hd
   clear hd hi
   have y2 := HX2Y.out
   go_wp2_with fail
   refine HCM.out.mono ?_
   rintro e w1 ⟨rfl, P', hto⟩
   unfold rpV
   dsimp only
   have HTO := hide hto
   have HR1 := hide (HRY.out.chg hto.chg (HMY.out.notC HRY.out.z.1 (fun e => HGB.out.2 e.symm)))
   clear hto y2
   have HRN : Hid (¬ McS P' r) := hide (fun hk => by
    rcases HTO.out.new r hk with e | e
    ·have := HRB.out.2.2 r e; have := HRB.out.2.1; omega
    ·have := HRY.out.lt; omega)
   have HTW : Hid (McTo w w1 P P' m2) := hide ⟨HTO.out.is, HTO.out.gi, ((Chg.of_below (HX.out.trans (HV0.out.mono HX.out.size)) (McC P)).trans (HCY.out.mono (S' := McC P) (fun k e => .inl e)) (fun k e => .inl e)).trans HTO.out.chg (fun k e => .inl e), fun k hk => (HTO.out.new k hk).imp id (fun e => Nat.le_trans (Nat.le_trans (HX.out.trans (HV0.out.mono HX.out.size)).size HCY.out.size) e)⟩
   have hB1 := (Below.refl w1.heap.size w1).alloc (Nat.le_refl _) (.cells #[.int .i64 rc.er, .int .i64 rc.rs, .int .i64 rc.gn, .int .i64 rc.ad, .int .i64 rc.sa, .int .i64 rc.ot, .int .i64 rc.cy, .int .i64 rc.fu] 66)
   have hB2 := hB1.alloc (o := .cells #[.int .i64 0] 33) hB1.size
   have hq5 := (RowR.new w1 rc).below ((Below.refl _ _).alloc (Nat.le_refl _) (.cells #[.int .i64 0] 33))
   have h7 : ((w1.alloc (.cells #[.int .i64 rc.er, .int .i64 rc.rs, .int .i64 rc.gn, .int .i64 rc.ad, .int .i64 rc.sa, .int .i64 rc.ot, .int .i64 rc.cy, .int .i64 rc.fu] 66)).alloc (.cells #[.int .i64 0] 33)).heap[w1.heap.size + 1]? = some (.cells #[.int .i64 0] 33 (0, 0)) := by
    have h8 := heap_alloc_new (w1.alloc (.cells #[.int .i64 rc.er, .int .i64 rc.rs, .int .i64 rc.gn, .int .i64 rc.ad, .int .i64 rc.sa, .int .i64 rc.ot, .int .i64 rc.cy, .int .i64 rc.fu] 66)) (.cells #[.int .i64 0] 33)
    rw [show (w1.alloc (.cells #[.int .i64 rc.er, .int .i64 rc.rs, .int .i64 rc.gn, .int .i64 rc.ad, .int .i64 rc.sa, .int .i64 rc.ot, .int .i64 rc.cy, .int .i64 rc.fu] 66)).heap.size = w1.heap.size + 1 by simp] at h8
    exact h8
   have HB2 := hide hB2
   have HQ5 := hide hq5
   have H7 := hide h7
   clear hB1 hB2 hq5 h7
   by_cases he : er = 0
   ·subst he
    rw [show errV 0 = .nilIface from rfl]
    go_wp2_with fail
    refine (ea_nil _ _).mono ?_
    rintro e w2 ⟨rfl, rfl⟩
    have HR9 := hide (HR1.out.below HB2.out)
    have HT9 := hide (HTW.out.below HB2.out)
    generalize (w1.alloc (.cells #[.int .i64 rc.er, .int .i64 rc.rs, .int .i64 rc.gn, .int .i64 rc.ad, .int .i64 rc.sa, .int .i64 rc.ot, .int .i64 rc.cy, .int .i64 rc.fu] 66)).alloc (.cells #[.int .i64 0] 33) = W at HR9 HT9 HQ5 ⊢
    obtain ⟨q0, q1, q2, q3, q4, q5, q6, q7⟩ := HQ5.out.z
    obtain ⟨j0, j1, j2, j3, j4, j5, j6, j7⟩ := HR9.out.z
    obtain ⟨f0, f1, f2, f3, f4, f5, f6, f7⟩ := HR9.out.f
    go_wp2_with fail
    have hst := setR_row HR9.out rc
    have hcs := setR_chg W r rc
    unfold setR at hst hcs
    try dsimp only at hst hcs
    refine bodyPost_ret (v := .agg #[.int .i64 rc.er, .int .i64 rc.rs, .int .i64 rc.gn, .int .i64 rc.ad, .int .i64 rc.sa, .int .i64 rc.ot, .int .i64 rc.cy, .int .i64 rc.fu]) (by
     generalize World.setCell (World.setCell (World.setCell (World.setCell (World.setCell (World.setCell (World.setCell (World.setCell W ⟨r, 0, none⟩ (.int .i64 rc.er)) ⟨r, 1, none⟩ (.int .i64 rc.rs)) ⟨r, 2, none⟩ (.int .i64 rc.gn)) ⟨r, 3, none⟩ (.int .i64 rc.ad)) ⟨r, 4, none⟩ (.int .i64 rc.sa)) ⟨r, 5, none⟩ (.int .i64 rc.ot)) ⟨r, 6, none⟩ (.int .i64 rc.cy)) ⟨r, 7, none⟩ (.int .i64 rc.fu) = W9 at hst ⊢
     obtain ⟨m0, m1, m2, m3, m4, m5, m6, m7⟩ := hst.z
     try dsimp only at m0 m1 m2 m3 m4 m5 m6 m7
     simp [results, Tryz.results78, go_sem, m0, m1, m2, m3, m4, m5, m6, m7]) rfl ?_
    rw [HD.out]
    try rw [if_pos rfl]
    try rw [if_pos trivial]
    exact ⟨rfl, P', HT9.out.box HM.out.er hcs (by have := HRB.out; omega) HRN.out⟩
   ·have hev : errV er = .iface 238 (.agg #[.int .i64 er]) := if_neg he
    have HE := hide he
    rw [hev]
    clear he hev
    go_wp2_with fail
    refine (eAs_any er _ (.int .i64 0) _ (HTW.out.below HB2.out).is.er (cell_of_row _ _ 0 _ 33 (0, 0) H7.out) (frozen_of_row _ _ 0 _ 33 H7.out)).mono ?_
    rintro e w2 ⟨rfl, h71, h7c⟩
    have HNE : Hid (¬ r = w1.heap.size + 1 ∧ w.heap.size ≤ w1.heap.size + 1 ∧ ¬ McS P' (w1.heap.size + 1)) := hide ⟨(fun e => by have := HR1.out.lt; omega), (by have := HTW.out.chg.size; omega), (fun e => by have := HTW.out.is.lt _ e; omega)⟩
    have HR9 := hide ((HR1.out.below HB2.out).chg h7c HNE.out.1)
    have HT9 := hide ((HTW.out.below HB2.out).box HM.out.er h7c HNE.out.2.1 HNE.out.2.2)
    obtain ⟨b7, hb7⟩ : ∃ b, w1.heap.size + 1 = b := ⟨_, rfl⟩
    rw [hb7] at h71 ⊢
    clear h7c hb7
    obtain ⟨j0, j1, j2, j3, j4, j5, j6, j7⟩ := HR9.out.z
    obtain ⟨f0, f1, f2, f3, f4, f5, f6, f7⟩ := HR9.out.f
    go_wp2_with fail
    have hst := setR_row HR9.out ⟨er, 0, 0, 0, 0, 0, 0, 0⟩
    have hcs := setR_chg w2 r ⟨er, 0, 0, 0, 0, 0, 0, 0⟩
    unfold setR at hst hcs
    try dsimp only at hst hcs
    refine bodyPost_ret (v := .agg #[.int .i64 er, .int .i64 0, .int .i64 0, .int .i64 0, .int .i64 0, .int .i64 0, .int .i64 0, .int .i64 0]) (by
     generalize World.setCell (World.setCell (World.setCell (World.setCell (World.setCell (World.setCell (World.setCell (World.setCell w2 ⟨r, 0, none⟩ (.int .i64 er)) ⟨r, 1, none⟩ (.int .i64 0)) ⟨r, 2, none⟩ (.int .i64 0)) ⟨r, 3, none⟩ (.int .i64 0)) ⟨r, 4, none⟩ (.int .i64 0)) ⟨r, 5, none⟩ (.int .i64 0)) ⟨r, 6, none⟩ (.int .i64 0)) ⟨r, 7, none⟩ (.int .i64 0) = W9 at hst ⊢
     obtain ⟨m0, m1, m2, m3, m4, m5, m6, m7⟩ := hst.z
     try dsimp only at m0 m1 m2 m3 m4 m5 m6 m7
     simp [results, Tryz.results78, go_sem, m0, m1, m2, m3, m4, m5, m6, m7]) rfl ?_
    rw [HD.out, if_neg HE.out]
    exact ⟨rfl, P', HT9.out.box HM.out.er hcs (by have := HRB.out; omega) HRN.out⟩
  exact AllReadyH.nil
 exact AllReadyH.nil
end Go.Proofs.YtionbmlicmibgaaGreatDoor
