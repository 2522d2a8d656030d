import Derived.Test.YtionbmlicmibgaaGreatDoorMcDo
set_option linter.unusedVariables false
set_option linter.unusedSimpArgs false
namespace Go.Proofs.YtionbmlicmibgaaGreatDoor
open Go.Proofs.Tryz
open Go.RowKit
structure dK (w : World) (gm : Nat) (P : Pm) (m : Mp) : Prop where
 row : w.heap[gm]? = some (.cells #[.pointer (some ⟨P.gi, 0, none⟩)] 99 (0, 0))
 is : dc w P m
 ne : ¬ kU P gm
 nz : gm ≠ 0
section
variable {w w' : World} {gm : Nat} {P P' : Pm} {m m' : Mp}
theorem dK.cell (h : dK w gm P m) : w.cell? ⟨gm, 0, none⟩ = some (.pointer (some ⟨P.gi, 0, none⟩)) := acC w _ 0 _ 99 (0, 0) h.row
theorem dK.lt (h : dK w gm P m) : gm < w.heap.size := lt_of_cell h.cell
theorem dK.below (h : dK w gm P m) (hb : Below w.heap.size w w') : dK w' gm P m := ⟨(hb.block gm h.lt).trans h.row, h.is.below hb, h.ne, h.nz⟩
theorem dK.to (h : dK w gm P m) (ht : fV w w' P P' m') : dK w' gm P' m' := ⟨by rw [(ht.aU.block gm h.lt (fun e => h.ne e.sub)), ht.gi]; exact h.row, ht.is, fun hk => by
  rcases ht.new gm hk with e | e
  ·exact h.ne e
  ·have := h.lt; omega, h.nz⟩
end
theorem ff {w : World} {gm : Nat} {P : Pm} {m : Mp} (h : dK w gm P m) : Calls prog 76 #[.pointer (some ⟨gm, 0, none⟩)] w fun e w' => e = .returned (.bool true) ∧ w' = w := by
 have h0 := h.cell;go_enter func76, ntmps76
 go_wp2;go_ret;exact ⟨rfl, rfl⟩
noncomputable def vQ (m : Mp) (ix tm : Int) (l : List UInt8) : Rp × Int × Mp := if m.Qj ix tm = true then ((Qk m ix tm l).1, 0, (Qk m ix tm l).2) else (iG, 51, m)
def aad (w : World) (gm : Nat) (P : Pm) (x : Rp × Int × Mp) (e : Ending) (w' : World) : Prop := e = .returned (.tuple #[wY x.1, .int .i64 x.2.1]) ∧ ∃ P', fV w w' P P' x.2.2 ∧ dK w' gm P' x.2.2
set_option maxRecDepth 200000 in
set_option maxHeartbeats 8000000 in
theorem Dy {w : World} {gm : Nat} {P : Pm} {m : Mp} (h : dK w gm P m) {ix tm : Int} {v : Value} {l : List UInt8} (hv : By w v l) (hl : l.length ≤ 1100000) : Calls prog 32 #[.pointer (some ⟨gm, 0, none⟩), .agg #[.int .i64 ix, .int .i64 tm, v]] w (aad w gm P (vQ m ix tm l)) := by
 obtain ⟨p, n, c, rfl⟩ := hv.sl;have hA := (acG w.heap.size w).alloc (acE _) (.cells #[.int .i64 ix, .int .i64 tm, .slice p n c] 55);have hB := hA.alloc (o := .cells #[.int .i64 0, .int .i64 0, .int .i64 0, .int .i64 0, .int .i64 0, .int .i64 0, .int .i64 0, .int .i64 0] 66) (by simp);have hE : (w.alloc (.cells #[.int .i64 ix, .int .i64 tm, .slice p n c] 55)).heap[w.heap.size]? = _ := acQ _ _;have Wa := (((acG _ _).alloc (acE _) (.cells #[.int .i64 0, .int .i64 0, .int .i64 0, .int .i64 0, .int .i64 0, .int .i64 0, .int .i64 0, .int .i64 0] 66)).block w.heap.size (by simp)).trans hE;have hr := di.new (w.alloc (.cells #[.int .i64 ix, .int .i64 tm, .slice p n c] 55)) iG;have GL : (w.alloc (.cells #[.int .i64 ix, .int .i64 tm, .slice p n c] 55)).heap.size = w.heap.size + 1 := by simp
 rw [GL] at hr;have HM := af h;have HV := af (acD hv hl);go_enter func32, ntmps32
 go_wp2_with fail
 obtain ⟨X, hX⟩ : ∃ X, (w.alloc (.cells #[.int .i64 ix, .int .i64 tm, .slice p n c] 55)).alloc (.cells #[.int .i64 0, .int .i64 0, .int .i64 0, .int .i64 0, .int .i64 0, .int .i64 0, .int .i64 0, .int .i64 0] 66) = X := ⟨_, rfl⟩
 have yF : di X (w.heap.size + 1) iG := by rw [← hX]; exact hr
 have NV : X.heap[w.heap.size]? = some (.cells #[.int .i64 ix, .int .i64 tm, .slice p n c] 55 (0, 0)) := by rw [← hX]; exact Wa
 have GM : Below w.heap.size w X := by rw [← hX]; exact hB
 obtain ⟨b, eS⟩ : ∃ b, w.heap.size = b := ⟨_, rfl⟩
 obtain ⟨r, cT⟩ : ∃ r, b + 1 = r := ⟨_, rfl⟩
 rw [hX, eS, cT];rw [eS] at yF NV;rw [cT] at yF;have HX := af GM;have jE := af (h.below GM);have mR := af yF;have HEX := af NV;have b_ : Hid (w.heap.size = b ∧ b + 1 = r ∧ (∀ k, kU P k → k < b)) := af ⟨eS, cT, fun k hk => by have := h.is.lt k hk; omega⟩;clear h hA hB hE Wa hr GL hX yF NV GM eS cT hv hl;refine (ff jE.out).mono ?_;rintro e w2 ⟨rfl, rfl⟩;have HK : Hid (∀ U, Below w2.heap.size w2 U → U.cell? ⟨gm, 0, none⟩ = some (.pointer (some ⟨P.gi, 0, none⟩)) ∧ U.cell? ⟨b, 0, none⟩ = some (.int .i64 ix) ∧ U.cell? ⟨b, 1, none⟩ = some (.int .i64 tm) ∧ U.cell? ⟨b, 2, none⟩ = some (.slice p n c)) := af fun U hU => by
  have h1 := (hU.block b (lt_of_cell (acC _ b 0 _ 55 (0, 0) HEX.out))).trans HEX.out;exact ⟨(jE.out.below hU).cell, acC _ b 0 _ 55 (0, 0) h1, acC _ b 1 _ 55 (0, 0) h1, acC _ b 2 _ 55 (0, 0) h1⟩
 go_upto_region 3 with fail
 refine ado (S := (fun U => U.cell? ⟨gm, 0, none⟩ = some (.pointer (some ⟨P.gi, 0, none⟩)) ∧ U.cell? ⟨b, 0, none⟩ = some (.int .i64 ix) ∧ U.cell? ⟨b, 1, none⟩ = some (.int .i64 tm) ∧ U.cell? ⟨b, 2, none⟩ = some (.slice p n c))) (by kernel_rfl) ?_ (fun hHeld => ?_)
 ·(try dsimp only)
  exact HK.out _ (ag w2 1)
 refine ao 0 rfl ?_;refine ao 1 rfl ?_;refine ao 2 rfl ?_;refine ao 3 rfl ?_;refine fy (i := 4) (v := (.agg #[.int .i64 ix, .int .i64 tm, .slice p n c])) (eY rfl) (by rfl) ?_ ?_
 ·intro w cq
  (try dsimp only at cq)
  go_simp;try with_reducible rfl
 try simp only [Act.put, qA, qB, qC]
 refine acU (rs := [5]) (by kernel_rfl) (by simp) ?_;refine dz rfl (fun K hK => ?_) ?_
 ·go_simp;go_at_call 77
  refine (yG (jE.out.is.below (ag w2 1)) ix tm p n c).mono ?_;rintro e3 W4 ⟨rfl, bY⟩;have dL : Hid (Below w2.heap.size w2 W4) := af ((ag w2 1).trans bY);first
   | refine hK.out _ _ ?_ (fun hHeld => ?_)
   | (go_wp2_with fail; refine hK.out _ _ ?_ (fun hHeld => ?_))
  ·(try dsimp only)
   exact HK.out _ dL.out
  clear hK K;try simp only [Act.put, qA, qB, qC]
  refine ao 6 rfl ?_;refine ao 7 rfl ?_;refine adO (by kernel_rfl) ?_ _;have HM4 := af (jE.out.below dL.out);have Kg := af (mR.out.below dL.out);have Nq : Hid (r ≠ P.gi) := af (fun e => by have := b_.out.2.2 P.gi (.inl rfl); have := b_.out.2.1; omega);have jM : Hid (¬ gm = r ∧ ¬ b = r) := af ⟨fun e => by have := HM.out.lt; have := b_.out; omega, fun e => by have := b_.out; omega⟩;have AF : Hid (¬ Dz P gm ∧ ¬ Dz P b) := af ⟨fun e => HM.out.ne e.sub, fun e => absurd (b_.out.2.2 b e.sub) (aez _)⟩;have HW0 : Hid (Below w.heap.size w W4.drew) := af ((HX.out.trans (dL.out.mono HX.out.size)).trans ((ag W4 1).mono (HX.out.trans (dL.out.mono HX.out.size)).size));cases nO : m.Qj ix tm
  ·have HD : Hid (vQ m ix tm l = (iG, 51, m)) := af (by unfold vQ; rw [nO]; rfl);clear nO;obtain ⟨W, hW⟩ : ∃ W, W4 = W := ⟨_, rfl⟩
   rw [hW] at Kg dL HM4 ⊢;have Da := Kg;obtain ⟨j0, j1, j2, j3, j4, j5, j6, j7⟩ := Da.out.z;obtain ⟨f0, f1, f2, f3, f4, f5, f6, f7⟩ := Da.out.f;go_wp2_with fail
   have hst := cV Da.out iG;have hcs := bT W r iG;unfold kV at hst hcs;try unfold iG at hst hcs
   try dsimp only at hst hcs
   refine ac0 (v := .tuple #[.agg #[.int .i64 0, .int .i64 0, .int .i64 0, .int .i64 0, .int .i64 0, .int .i64 0, .int .i64 0, .int .i64 0], .int .i64 51]) (by
     generalize World.setCell (World.setCell (World.setCell (World.setCell (World.setCell (World.setCell (World.setCell (World.setCell W ⟨r, 0, none⟩ (.int .i64 0)) ⟨r, 1, none⟩ (.int .i64 0)) ⟨r, 2, none⟩ (.int .i64 0)) ⟨r, 3, none⟩ (.int .i64 0)) ⟨r, 4, none⟩ (.int .i64 0)) ⟨r, 5, none⟩ (.int .i64 0)) ⟨r, 6, none⟩ (.int .i64 0)) ⟨r, 7, none⟩ (.int .i64 0) = W9 at hst ⊢;obtain ⟨m0, m1, m2, m3, m4, m5, m6, m7⟩ := hst.z;try dsimp only at m0 m1 m2 m3 m4 m5 m6 m7
     simp [results, results32, go_sem, m0, m1, m2, m3, m4, m5, m6, m7]) rfl ?_
   rw [HD.out];have eZ := (HM.out.is.toB (HX.out.trans (dL.out.mono HX.out.size))).box HM.out.is.er hcs (by have := b_.out; omega) (fun hk => by have := b_.out.2.2 r hk; have := b_.out.2.1; omega);exact ⟨rfl, P, eZ, HM.out.to eZ⟩
  ·have UX := nO;unfold Mp.Qj at UX;rw [adb, adb, dj, beq_iff_eq, adr] at UX;have h0 := HM.out.is.ok.i0;obtain ⟨rd, md, hd⟩ : ∃ rd md, Qk m ix tm l = (rd, md) := ⟨_, _, rfl⟩
   have HD : Hid (vQ m ix tm l = (rd, 0, md)) := af (by unfold vQ; rw [nO, hd]; rfl);have HDO : Hid (∀ U, Below W4.heap.size W4 U → Calls prog 78 #[.pointer (some ⟨P.gi, 0, none⟩), .agg #[.int .i64 ix, .int .i64 tm, .slice p n c]] U (DoP U P (rd, md))) := af fun U hU => by
    have hh := NW (HM4.out.is.below hU) (ix := ix) (tm := tm) ⟨by omega, UX.2.1⟩ ⟨by omega, UX.2.2.2⟩ (HV.out.1.below ((HX.out.trans (dL.out.mono HX.out.size)).trans (hU.mono (HX.out.trans (dL.out.mono HX.out.size)).size))) HV.out.2;rw [hd] at hh;exact hh
   clear nO UX h0 hd;go_upto_region 5 with fail
   refine ado (S := (fun U => U.cell? ⟨gm, 0, none⟩ = some (.pointer (some ⟨P.gi, 0, none⟩)) ∧ U.cell? ⟨b, 0, none⟩ = some (.int .i64 ix) ∧ U.cell? ⟨b, 1, none⟩ = some (.int .i64 tm) ∧ U.cell? ⟨b, 2, none⟩ = some (.slice p n c))) (by kernel_rfl) ?_ (fun hHeld => ?_)
   ·(try dsimp only)
    exact HK.out _ (dL.out.trans ((ag W4 1).mono dL.out.size))
   refine ao 0 rfl ?_;refine ao 1 rfl ?_;refine ao 2 rfl ?_;refine ao 3 rfl ?_;refine fy (i := 4) (v := (.agg #[.int .i64 ix, .int .i64 tm, .slice p n c])) (eY rfl) (by rfl) ?_ ?_
   ·intro w cq
    (try dsimp only at cq)
    go_simp;try with_reducible rfl
   try simp only [Act.put, qA, qB, qC]
   refine acU (rs := [5]) (by kernel_rfl) (by simp) ?_;refine dz rfl (fun K hK => ?_) ?_
   ·go_simp;go_at_call 78
    refine (HDO.out _ (ag W4 1)).mono ?_;rintro e5 W ⟨rfl, P', eZ⟩;unfold wY;have mS := af eZ;have Da := af ((Kg.out.below (ag W4 1)).aU eZ.aU ((HM4.out.is.below (ag W4 1)).yH (Kg.out.below (ag W4 1)).z.1 Nq.out));have Wb : Hid (W.cell? ⟨gm, 0, none⟩ = some (.pointer (some ⟨P.gi, 0, none⟩)) ∧ W.cell? ⟨b, 0, none⟩ = some (.int .i64 ix) ∧ W.cell? ⟨b, 1, none⟩ = some (.int .i64 tm) ∧ W.cell? ⟨b, 2, none⟩ = some (.slice p n c)) := af (by
      have h1 := HK.out _ (dL.out.trans ((ag W4 1).mono dL.out.size));have UY := AF.out;exact ⟨eZ.aU.cell h1.1 UY.1, eZ.aU.cell h1.2.1 UY.2, eZ.aU.cell h1.2.2.1 UY.2, eZ.aU.cell h1.2.2.2 UY.2⟩)
    have Zq : Hid (¬ kU P' r) := af (fun hk => by
      rcases eZ.new r hk with e | e
      ·have := b_.out.2.2 r e; have := b_.out.2.1; omega
      ·have := Kg.out.lt; have e1 : W4.heap.size ≤ r := e; omega)
    clear eZ;obtain ⟨j0, j1, j2, j3, j4, j5, j6, j7⟩ := Da.out.z;obtain ⟨f0, f1, f2, f3, f4, f5, f6, f7⟩ := Da.out.f;first
     | refine hK.out _ _ ?_ (fun hHeld => ?_)
     | (go_wp2_with fail; refine hK.out _ _ ?_ (fun hHeld => ?_))
    ·(try dsimp only)
     exact Wb.out
    clear hK K;try simp only [Act.put, qA, qB, qC]
    refine acU (rs := [6]) (by kernel_rfl) (by simp) ?_;refine dz rfl (fun K hK => ?_) ?_
    ·go_simp;first
      | refine hK.out _ _ ?_ (fun hHeld => ?_)
      | (go_wp2_with fail; refine hK.out _ _ ?_ (fun hHeld => ?_))
     ·(try dsimp only)
      have h1 := bT W r rd;have aN := jM.out;exact ⟨h1.cell Wb.out.1 aN.1, h1.cell Wb.out.2.1 aN.2, h1.cell Wb.out.2.2.1 aN.2, h1.cell Wb.out.2.2.2 aN.2⟩
     clear hK K;try simp only [Act.put, qA, qB, qC]
     refine ao 7 rfl ?_;refine adO (by kernel_rfl) ?_ _;go_wp2;have hst := cV Da.out rd;have hcs := bT W r rd;unfold kV at hst hcs;try unfold iG at hst hcs
     try dsimp only at hst hcs
     refine ac0 (v := .tuple #[.agg #[.int .i64 rd.er, .int .i64 rd.rs, .int .i64 rd.gn, .int .i64 rd.ad, .int .i64 rd.sa, .int .i64 rd.ot, .int .i64 rd.cy, .int .i64 rd.fu], .int .i64 0]) (by
       generalize World.setCell (World.setCell (World.setCell (World.setCell (World.setCell (World.setCell (World.setCell (World.setCell W ⟨r, 0, none⟩ (.int .i64 rd.er)) ⟨r, 1, none⟩ (.int .i64 rd.rs)) ⟨r, 2, none⟩ (.int .i64 rd.gn)) ⟨r, 3, none⟩ (.int .i64 rd.ad)) ⟨r, 4, none⟩ (.int .i64 rd.sa)) ⟨r, 5, none⟩ (.int .i64 rd.ot)) ⟨r, 6, none⟩ (.int .i64 rd.cy)) ⟨r, 7, none⟩ (.int .i64 rd.fu) = W9 at hst ⊢;obtain ⟨m0, m1, m2, m3, m4, m5, m6, m7⟩ := hst.z;try dsimp only at m0 m1 m2 m3 m4 m5 m6 m7
       simp [results, results32, go_sem, m0, m1, m2, m3, m4, m5, m6, m7]) rfl ?_
     rw [HD.out];have eZ := (mS.out.from HW0.out).box HM.out.is.er hcs (by have := b_.out; omega) Zq.out;exact ⟨rfl, P', eZ, HM.out.to eZ⟩
    exact acR
   exact acR
 exact acR
end Go.Proofs.YtionbmlicmibgaaGreatDoor
