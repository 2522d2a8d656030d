import Derived.Test.YtionbmlicmibgaaGreatDoorMcDo
namespace Go.Proofs.YtionbmlicmibgaaGreatDoor
set_option linter.unusedVariables false
set_option linter.unusedSimpArgs false
open Go.RowKit
structure MkIs (w : World) (gm : Nat) (P : Pm) (m : Mp) : Prop where
 row : w.heap[gm]? = some (.cells #[.pointer (some ⟨P.gi, 0, none⟩)] 99 (0, 0))
 is : McIs w P m
 ne : ¬ McS P gm
 nz : gm ≠ 0
section
variable {w w' : World} {gm : Nat} {P P' : Pm} {m m' : Mp}
theorem MkIs.cell (h : MkIs w gm P m) : w.cell? ⟨gm, 0, none⟩ = some (.pointer (some ⟨P.gi, 0, none⟩)) := cell_of_row w _ 0 _ 99 (0, 0) h.row
theorem MkIs.lt (h : MkIs w gm P m) : gm < w.heap.size := lt_of_cell h.cell
theorem MkIs.below (h : MkIs w gm P m) (hb : Below w.heap.size w w') : MkIs w' gm P m := ⟨(hb.block gm h.lt).trans h.row, h.is.below hb, h.ne, h.nz⟩
theorem MkIs.to (h : MkIs w gm P m) (ht : McTo w w' P P' m') : MkIs w' gm P' m' := ⟨by rw [(ht.chg.block gm h.lt (fun e => h.ne e.sub)), ht.gi]; exact h.row, ht.is, fun hk => by
  rcases ht.new gm hk with e | e
  ·exact h.ne e
  ·have := h.lt; omega, h.nz⟩
end
theorem mmade_any {w : World} {gm : Nat} {P : Pm} {m : Mp} (h : MkIs w gm P m) : Calls Tryz.prog 76 #[.pointer (some ⟨gm, 0, none⟩)] w fun e w' => e = .returned (.bool true) ∧ w' = w := by
 have h0 := h.cell
 go_enter Tryz.func76, Tryz.ntmps76
 go_wp2
 go_ret
 exact ⟨rfl, rfl⟩
noncomputable def appM (m : Mp) (ix tm : Int) (l : List UInt8) : Rp × Int × Mp := if m.nxt ix tm = true then ((doM m ix tm l).1, 0, (doM m ix tm l).2) else (rp0, 51, m)
def AppP (w : World) (gm : Nat) (P : Pm) (x : Rp × Int × Mp) (e : Ending) (w' : World) : Prop := e = .returned (.tuple #[rpV x.1, .int .i64 x.2.1]) ∧ ∃ P', McTo w w' P P' x.2.2 ∧ MkIs w' gm P' x.2.2
set_option maxRecDepth 200000 in
set_option maxHeartbeats 8000000 in
theorem mapply_any {w : World} {gm : Nat} {P : Pm} {m : Mp} (h : MkIs w gm P m) {ix tm : Int} {v : Value} {l : List UInt8} (hv : By w v l) (hl : l.length ≤ 1100000) : Calls Tryz.prog 32 #[.pointer (some ⟨gm, 0, none⟩), .agg #[.int .i64 ix, .int .i64 tm, v]] w (AppP w gm P (appM m ix tm l)) := by
 obtain ⟨p, n, c, rfl⟩ := hv.sl
 have hA := (Below.refl w.heap.size w).alloc (Nat.le_refl _) (.cells #[.int .i64 ix, .int .i64 tm, .slice p n c] 55)
 have hB := hA.alloc (o := .cells #[.int .i64 0, .int .i64 0, .int .i64 0, .int .i64 0, .int .i64 0, .int .i64 0, .int .i64 0, .int .i64 0] 66) (by simp)
 have hE : (w.alloc (.cells #[.int .i64 ix, .int .i64 tm, .slice p n c] 55)).heap[w.heap.size]? = _ := heap_alloc_new _ _
 have hE2 := (((Below.refl _ _).alloc (Nat.le_refl _) (.cells #[.int .i64 0, .int .i64 0, .int .i64 0, .int .i64 0, .int .i64 0, .int .i64 0, .int .i64 0, .int .i64 0] 66)).block w.heap.size (by simp)).trans hE
 have hr := RowR.new (w.alloc (.cells #[.int .i64 ix, .int .i64 tm, .slice p n c] 55)) rp0
 have hrs : (w.alloc (.cells #[.int .i64 ix, .int .i64 tm, .slice p n c] 55)).heap.size = w.heap.size + 1 := by simp
 rw [hrs] at hr
 have HM := hide h
 have HV := hide (And.intro hv hl)
 go_enter Tryz.func32, Tryz.ntmps32
 go_wp2_with fail
 obtain ⟨X, hX⟩ : ∃ X, (w.alloc (.cells #[.int .i64 ix, .int .i64 tm, .slice p n c] 55)).alloc (.cells #[.int .i64 0, .int .i64 0, .int .i64 0, .int .i64 0, .int .i64 0, .int .i64 0, .int .i64 0, .int .i64 0] 66) = X := ⟨_, rfl⟩
 have hr' : RowR X (w.heap.size + 1) rp0 := by rw [← hX]; exact hr
 have hE' : X.heap[w.heap.size]? = some (.cells #[.int .i64 ix, .int .i64 tm, .slice p n c] 55 (0, 0)) := by rw [← hX]; exact hE2
 have hB' : Below w.heap.size w X := by rw [← hX]; exact hB
 obtain ⟨b, hbe⟩ : ∃ b, w.heap.size = b := ⟨_, rfl⟩
 obtain ⟨r, hre⟩ : ∃ r, b + 1 = r := ⟨_, rfl⟩
 rw [hX, hbe, hre]
 rw [hbe] at hr' hE'
 rw [hre] at hr'
 have HX := hide hB'
 have HMX := hide (h.below hB')
 have HRX := hide hr'
 have HEX := hide hE'
 have HRB : Hid (w.heap.size = b ∧ b + 1 = r ∧ (∀ k, McS P k → k < b)) := hide ⟨hbe, hre, fun k hk => by have := h.is.lt k hk; omega⟩
 clear h hA hB hE hE2 hr hrs hX hr' hE' hB' hbe hre hv hl
 refine (mmade_any HMX.out).mono ?_
 rintro e w2 ⟨rfl, rfl⟩
 have HK : Hid (∀ U, Below w2.heap.size w2 U → U.cell? ⟨gm, 0, none⟩ = some (.pointer (some ⟨P.gi, 0, none⟩)) ∧ U.cell? ⟨b, 0, none⟩ = some (.int .i64 ix) ∧ U.cell? ⟨b, 1, none⟩ = some (.int .i64 tm) ∧ U.cell? ⟨b, 2, none⟩ = some (.slice p n c)) := hide fun U hU => by
  have h1 := (hU.block b (lt_of_cell (cell_of_row _ b 0 _ 55 (0, 0) HEX.out))).trans HEX.out
  exact ⟨(HMX.out.below hU).cell, cell_of_row _ b 0 _ 55 (0, 0) h1, cell_of_row _ b 1 _ 55 (0, 0) h1, cell_of_row _ b 2 _ 55 (0, 0) h1⟩
 go_upto_region 3 with fail
 refine wp_region_held_drew (S := (fun U => U.cell? ⟨gm, 0, none⟩ = some (.pointer (some ⟨P.gi, 0, none⟩)) ∧ U.cell? ⟨b, 0, none⟩ = some (.int .i64 ix) ∧ U.cell? ⟨b, 1, none⟩ = some (.int .i64 tm) ∧ U.cell? ⟨b, 2, none⟩ = some (.slice p n c))) (by kernel_rfl) ?_ (fun hHeld => ?_)
 ·(try dsimp only)
  exact HK.out _ (bdrew w2 1)
 refine tkI (i := 0) (oi := ⟨some 12, Op.move (Operand.tmp 0), 47, _, _, none⟩) (v := ?_) rfl (by rfl) ?_ ?_
 rotate_left
 ·intro w hSw
  (try dsimp only at hSw)
  go_simp
  try with_reducible rfl
 try simp only [Act.put, qA, qB, qC]
 refine tkI (i := 1) (oi := ⟨some 13, Op.nilCheck (Operand.tmp 12), 0, _, _, none⟩) (v := ?_) rfl (by rfl) ?_ ?_
 rotate_left
 ·intro w hSw
  (try dsimp only at hSw)
  go_simp
  try with_reducible rfl
 try simp only [Act.put, qA, qB, qC]
 refine tkI (i := 2) (oi := ⟨some 14, Op.fieldAddr 99 (Operand.tmp 13) 0, 0, _, _, none⟩) (v := ?_) rfl (by rfl) ?_ ?_
 rotate_left
 ·intro w hSw
  (try dsimp only at hSw)
  go_simp
  try with_reducible rfl
 try simp only [Act.put, qA, qB, qC]
 refine tkI (i := 3) (oi := ⟨some 15, Op.load 97 (Operand.tmp 14), 97, _, _, none⟩) (v := ?_) rfl (by rfl) ?_ ?_
 rotate_left
 ·intro w hSw
  (try dsimp only at hSw)
  go_simp
  try with_reducible rfl
 try simp only [Act.put, qA, qB, qC]
 refine tkI (i := 4) (oi := ⟨some 16, Op.load 55 (Operand.tmp 3), 55, _, _, none⟩) (v := (.agg #[.int .i64 ix, .int .i64 tm, .slice p n c])) rfl (by rfl) ?_ ?_
 ·intro w hSw
  (try dsimp only at hSw)
  go_simp
  try with_reducible rfl
 try simp only [Act.put, qA, qB, qC]
 refine wpAnyH_ready (rs := [5]) (by kernel_rfl) (by simp) ?_
 refine AllReadyH.cons (o := ⟨some 17, Op.call { callee := Callee.value (Operand.func 77), args := #[Operand.tmp 15, Operand.tmp 16], argTypes := #[97, 55] }, 4, _, _, none⟩) rfl (fun K hK => ?_) ?_
 ·go_simp
  go_at_call 77
  refine (mfollows_any (HMX.out.is.below (bdrew w2 1)) ix tm p n c).mono ?_
  rintro e3 W4 ⟨rfl, hb4⟩
  have HB4 : Hid (Below w2.heap.size w2 W4) := hide ((bdrew w2 1).trans hb4)
  first
   | refine hK.out _ _ ?_ (fun hHeld => ?_)
   | (go_wp2_with fail; refine hK.out _ _ ?_ (fun hHeld => ?_))
  ·(try dsimp only)
   exact HK.out _ HB4.out
  clear hK K
  try simp only [Act.put, qA, qB, qC]
  refine tkI (i := 6) (oi := ⟨some 18, Op.unOp UnOp.not 4 (Operand.tmp 17), 4, _, _, none⟩) (v := ?_) rfl (by rfl) ?_ ?_
  rotate_left
  ·intro w hSw
   (try dsimp only at hSw)
   go_simp
   try with_reducible rfl
  try simp only [Act.put, qA, qB, qC]
  refine tkI (i := 7) (oi := ⟨some 11, Op.assign (Operand.tmp 18), 4, _, _, none⟩) (v := ?_) rfl (by rfl) ?_ ?_
  rotate_left
  ·intro w hSw
   (try dsimp only at hSw)
   go_simp
   try with_reducible rfl
  try simp only [Act.put, qA, qB, qC]
  refine wpAnyH_done (by kernel_rfl) ?_ _
  have HM4 := hide (HMX.out.below HB4.out)
  have HR4 := hide (HRX.out.below HB4.out)
  have HGR : Hid (r ≠ P.gi) := hide (fun e => by have := HRB.out.2.2 P.gi (.inl rfl); have := HRB.out.2.1; omega)
  have HGB : Hid (¬ gm = r ∧ ¬ b = r) := hide ⟨fun e => by have := HM.out.lt; have := HRB.out; omega, fun e => by have := HRB.out; omega⟩
  have HNB : Hid (¬ McC P gm ∧ ¬ McC P b) := hide ⟨fun e => HM.out.ne e.sub, fun e => absurd (HRB.out.2.2 b e.sub) (Nat.lt_irrefl _)⟩
  have HW0 : Hid (Below w.heap.size w W4.drew) := hide ((HX.out.trans (HB4.out.mono HX.out.size)).trans ((bdrew W4 1).mono (HX.out.trans (HB4.out.mono HX.out.size)).size))
  cases hnx : m.nxt ix tm
  ·have HD : Hid (appM m ix tm l = (rp0, 51, m)) := hide (by unfold appM; rw [hnx]; rfl)
   clear hnx
   obtain ⟨W, hW⟩ : ∃ W, W4 = W := ⟨_, rfl⟩
   rw [hW] at HR4 HB4 HM4 ⊢
   have HR9 := HR4
   obtain ⟨j0, j1, j2, j3, j4, j5, j6, j7⟩ := HR9.out.z
   obtain ⟨f0, f1, f2, f3, f4, f5, f6, f7⟩ := HR9.out.f
   go_wp2_with fail
   have hst := setR_row HR9.out rp0
   have hcs := setR_chg W r rp0
   unfold setR at hst hcs
   try unfold rp0 at hst hcs
   try dsimp only at hst hcs
   refine bodyPost_ret (v := .tuple #[.agg #[.int .i64 0, .int .i64 0, .int .i64 0, .int .i64 0, .int .i64 0, .int .i64 0, .int .i64 0, .int .i64 0], .int .i64 51]) (by
     generalize World.setCell (World.setCell (World.setCell (World.setCell (World.setCell (World.setCell (World.setCell (World.setCell W ⟨r, 0, none⟩ (.int .i64 0)) ⟨r, 1, none⟩ (.int .i64 0)) ⟨r, 2, none⟩ (.int .i64 0)) ⟨r, 3, none⟩ (.int .i64 0)) ⟨r, 4, none⟩ (.int .i64 0)) ⟨r, 5, none⟩ (.int .i64 0)) ⟨r, 6, none⟩ (.int .i64 0)) ⟨r, 7, none⟩ (.int .i64 0) = W9 at hst ⊢
     obtain ⟨m0, m1, m2, m3, m4, m5, m6, m7⟩ := hst.z
     try dsimp only at m0 m1 m2 m3 m4 m5 m6 m7
     simp [results, Tryz.results32, go_sem, m0, m1, m2, m3, m4, m5, m6, m7]) rfl ?_
   rw [HD.out]
   have hto := (HM.out.is.toB (HX.out.trans (HB4.out.mono HX.out.size))).box HM.out.is.er hcs (by have := HRB.out; omega) (fun hk => by have := HRB.out.2.2 r hk; have := HRB.out.2.1; omega)
   exact ⟨rfl, P, hto, HM.out.to hto⟩
  ·have hbd := hnx
   unfold Mp.nxt at hbd
   rw [Bool.and_eq_true, Bool.and_eq_true, btw_iff, beq_iff_eq, decide_eq_true_eq] at hbd
   have h0 := HM.out.is.ok.i0
   obtain ⟨rd, md, hd⟩ : ∃ rd md, doM m ix tm l = (rd, md) := ⟨_, _, rfl⟩
   have HD : Hid (appM m ix tm l = (rd, 0, md)) := hide (by unfold appM; rw [hnx, hd]; rfl)
   have HDO : Hid (∀ U, Below W4.heap.size W4 U → Calls Tryz.prog 78 #[.pointer (some ⟨P.gi, 0, none⟩), .agg #[.int .i64 ix, .int .i64 tm, .slice p n c]] U (DoP U P (rd, md))) := hide fun U hU => by
    have hh := mdo_any (HM4.out.is.below hU) (ix := ix) (tm := tm) ⟨by omega, hbd.2.1⟩ ⟨by omega, hbd.2.2.2⟩ (HV.out.1.below ((HX.out.trans (HB4.out.mono HX.out.size)).trans (hU.mono (HX.out.trans (HB4.out.mono HX.out.size)).size))) HV.out.2
    rw [hd] at hh
    exact hh
   clear hnx hbd h0 hd
   go_upto_region 5 with fail
   refine wp_region_held_drew (S := (fun U => U.cell? ⟨gm, 0, none⟩ = some (.pointer (some ⟨P.gi, 0, none⟩)) ∧ U.cell? ⟨b, 0, none⟩ = some (.int .i64 ix) ∧ U.cell? ⟨b, 1, none⟩ = some (.int .i64 tm) ∧ U.cell? ⟨b, 2, none⟩ = some (.slice p n c))) (by kernel_rfl) ?_ (fun hHeld => ?_)
   ·(try dsimp only)
    exact HK.out _ (HB4.out.trans ((bdrew W4 1).mono HB4.out.size))
   refine tkI (i := 0) (oi := ⟨some 20, Op.move (Operand.tmp 0), 47, _, _, none⟩) (v := ?_) rfl (by rfl) ?_ ?_
   rotate_left
   ·intro w hSw
    (try dsimp only at hSw)
    go_simp
    try with_reducible rfl
   try simp only [Act.put, qA, qB, qC]
   refine tkI (i := 1) (oi := ⟨some 21, Op.nilCheck (Operand.tmp 20), 0, _, _, none⟩) (v := ?_) rfl (by rfl) ?_ ?_
   rotate_left
   ·intro w hSw
    (try dsimp only at hSw)
    go_simp
    try with_reducible rfl
   try simp only [Act.put, qA, qB, qC]
   refine tkI (i := 2) (oi := ⟨some 22, Op.fieldAddr 99 (Operand.tmp 21) 0, 0, _, _, none⟩) (v := ?_) rfl (by rfl) ?_ ?_
   rotate_left
   ·intro w hSw
    (try dsimp only at hSw)
    go_simp
    try with_reducible rfl
   try simp only [Act.put, qA, qB, qC]
   refine tkI (i := 3) (oi := ⟨some 23, Op.load 97 (Operand.tmp 22), 97, _, _, none⟩) (v := ?_) rfl (by rfl) ?_ ?_
   rotate_left
   ·intro w hSw
    (try dsimp only at hSw)
    go_simp
    try with_reducible rfl
   try simp only [Act.put, qA, qB, qC]
   refine tkI (i := 4) (oi := ⟨some 24, Op.load 55 (Operand.tmp 3), 55, _, _, none⟩) (v := (.agg #[.int .i64 ix, .int .i64 tm, .slice p n c])) rfl (by rfl) ?_ ?_
   ·intro w hSw
    (try dsimp only at hSw)
    go_simp
    try with_reducible rfl
   try simp only [Act.put, qA, qB, qC]
   refine wpAnyH_ready (rs := [5]) (by kernel_rfl) (by simp) ?_
   refine AllReadyH.cons (o := ⟨some 25, Op.call { callee := Callee.value (Operand.func 78), args := #[Operand.tmp 23, Operand.tmp 24], argTypes := #[97, 55] }, 66, _, _, none⟩) rfl (fun K hK => ?_) ?_
   ·go_simp
    go_at_call 78
    refine (HDO.out _ (bdrew W4 1)).mono ?_
    rintro e5 W ⟨rfl, P', hto⟩
    unfold rpV
    have HTO := hide hto
    have HR9 := hide ((HR4.out.below (bdrew W4 1)).chg hto.chg ((HM4.out.is.below (bdrew W4 1)).notC (HR4.out.below (bdrew W4 1)).z.1 HGR.out))
    have HK9 : Hid (W.cell? ⟨gm, 0, none⟩ = some (.pointer (some ⟨P.gi, 0, none⟩)) ∧ W.cell? ⟨b, 0, none⟩ = some (.int .i64 ix) ∧ W.cell? ⟨b, 1, none⟩ = some (.int .i64 tm) ∧ W.cell? ⟨b, 2, none⟩ = some (.slice p n c)) := hide (by
      have h1 := HK.out _ (HB4.out.trans ((bdrew W4 1).mono HB4.out.size))
      have hnb := HNB.out
      exact ⟨hto.chg.cell h1.1 hnb.1, hto.chg.cell h1.2.1 hnb.2, hto.chg.cell h1.2.2.1 hnb.2, hto.chg.cell h1.2.2.2 hnb.2⟩)
    have HRN : Hid (¬ McS P' r) := hide (fun hk => by
      rcases hto.new r hk with e | e
      ·have := HRB.out.2.2 r e; have := HRB.out.2.1; omega
      ·have := HR4.out.lt; have e1 : W4.heap.size ≤ r := e; omega)
    clear hto
    obtain ⟨j0, j1, j2, j3, j4, j5, j6, j7⟩ := HR9.out.z
    obtain ⟨f0, f1, f2, f3, f4, f5, f6, f7⟩ := HR9.out.f
    first
     | refine hK.out _ _ ?_ (fun hHeld => ?_)
     | (go_wp2_with fail; refine hK.out _ _ ?_ (fun hHeld => ?_))
    ·(try dsimp only)
     exact HK9.out
    clear hK K
    try simp only [Act.put, qA, qB, qC]
    refine wpAnyH_ready (rs := [6]) (by kernel_rfl) (by simp) ?_
    refine AllReadyH.cons (o := ⟨none, Op.store 66 (Operand.tmp 4) (Operand.tmp 25), 0, _, _, none⟩) rfl (fun K hK => ?_) ?_
    ·go_simp
     first
      | refine hK.out _ _ ?_ (fun hHeld => ?_)
      | (go_wp2_with fail; refine hK.out _ _ ?_ (fun hHeld => ?_))
     ·(try dsimp only)
      have h1 := setR_chg W r rd
      have hne := HGB.out
      exact ⟨h1.cell HK9.out.1 hne.1, h1.cell HK9.out.2.1 hne.2, h1.cell HK9.out.2.2.1 hne.2, h1.cell HK9.out.2.2.2 hne.2⟩
     clear hK K
     try simp only [Act.put, qA, qB, qC]
     refine tkI (i := 7) (oi := ⟨some 5, Op.assign (Operand.const (Value.int IntKind.i64 0)), 33, _, _, none⟩) (v := ?_) rfl (by rfl) ?_ ?_
     rotate_left
     ·intro w hSw
      (try dsimp only at hSw)
      go_simp
      try with_reducible rfl
     try simp only [Act.put, qA, qB, qC]
     refine wpAnyH_done (by kernel_rfl) ?_ _
     go_wp2
     have hst := setR_row HR9.out rd
     have hcs := setR_chg W r rd
     unfold setR at hst hcs
     try unfold rp0 at hst hcs
     try dsimp only at hst hcs
     refine bodyPost_ret (v := .tuple #[.agg #[.int .i64 rd.er, .int .i64 rd.rs, .int .i64 rd.gn, .int .i64 rd.ad, .int .i64 rd.sa, .int .i64 rd.ot, .int .i64 rd.cy, .int .i64 rd.fu], .int .i64 0]) (by
       generalize World.setCell (World.setCell (World.setCell (World.setCell (World.setCell (World.setCell (World.setCell (World.setCell W ⟨r, 0, none⟩ (.int .i64 rd.er)) ⟨r, 1, none⟩ (.int .i64 rd.rs)) ⟨r, 2, none⟩ (.int .i64 rd.gn)) ⟨r, 3, none⟩ (.int .i64 rd.ad)) ⟨r, 4, none⟩ (.int .i64 rd.sa)) ⟨r, 5, none⟩ (.int .i64 rd.ot)) ⟨r, 6, none⟩ (.int .i64 rd.cy)) ⟨r, 7, none⟩ (.int .i64 rd.fu) = W9 at hst ⊢
       obtain ⟨m0, m1, m2, m3, m4, m5, m6, m7⟩ := hst.z
       try dsimp only at m0 m1 m2 m3 m4 m5 m6 m7
       simp [results, Tryz.results32, go_sem, m0, m1, m2, m3, m4, m5, m6, m7]) rfl ?_
     rw [HD.out]
     have hto := (HTO.out.from HW0.out).box HM.out.is.er hcs (by have := HRB.out; omega) HRN.out
     exact ⟨rfl, P', hto, HM.out.to hto⟩
    exact AllReadyH.nil
   exact AllReadyH.nil
 exact AllReadyH.nil
end Go.Proofs.YtionbmlicmibgaaGreatDoor
