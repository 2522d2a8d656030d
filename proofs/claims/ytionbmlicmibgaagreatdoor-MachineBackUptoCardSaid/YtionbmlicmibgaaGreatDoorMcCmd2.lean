import Derived.Test.YtionbmlicmibgaaGreatDoorMcIng
namespace Go.Proofs.YtionbmlicmibgaaGreatDoor
set_option linter.unusedVariables false
set_option linter.unusedSimpArgs false
open Go.RowKit
set_option maxRecDepth 200000 in
set_option maxHeartbeats 8000000 in
theorem cmd2_any {w : World} {P : Pm} {m : Mp} (h : McIs w P m) {v : Value} {l : List UInt8} (hv : By w v l) (hl : l.length ≤ 1100000) {se sq a : Int} {sp : List Sp} {vo : List Int} (hg : getC l = some ⟨2, se, sq, a, sp, vo⟩) : Calls Tryz.prog 111 #[.pointer (some ⟨P.gi, 0, none⟩), v] w (CmdP w P (cmdM m (some ⟨2, se, sq, a, sp, vo⟩))) := by
 obtain ⟨p, n, c, rfl⟩ := hv.sl
 have hA := (Below.refl w.heap.size w).alloc (Nat.le_refl _) (.cells #[.int .i64 0, .int .i64 0, .int .i64 0, .int .i64 0, .int .i64 0, .int .i64 0, .int .i64 0, .int .i64 0] 66)
 have GT := hide (mget_any (hv.below hA) hl)
 rw [hg] at GT
 have HR := hide (RowR.new w rp0)
 have HA := hide hA
 have HM := hide h
 have HOK := hide (getC_some hg).1
 have hgi := h.row.lt
 clear h hv hl hg hA
 go_enter Tryz.func111, Tryz.ntmps111
 go_wp2_with fail
 refine GT.out.mono ?_
 rintro e w1 ⟨ps, ns, ds, pv, nv, dv, rfl, hos, hov, hb1⟩
 unfold cmV
 dsimp only
 have HB1 := hide (HA.out.trans (hb1.mono HA.out.size))
 have hr1 := HR.out.below hb1
 have hB := (Below.refl w1.heap.size w1).alloc (Nat.le_refl _) (.cells #[.int .i64 2, .int .i64 se, .int .i64 sq, .int .i64 a, .slice ps ns ds, .slice pv nv dv] 25)
 have hos1 := (hos.below hB)
 have hov1 := (hov.below hB)
 have hsz : w.heap.size < w1.heap.size := hr1.lt
 go_upto_region 2 with fail
 obtain ⟨X, hX⟩ : ∃ X, w1.alloc (.cells #[.int .i64 2, .int .i64 se, .int .i64 sq, .int .i64 a, .slice ps ns ds, .slice pv nv dv] 25) = X := ⟨_, rfl⟩
 have hb := RowC.new (k := 2) (se := se) (sq := sq) (a := a) (vs := .slice ps ns ds) (vv := .slice pv nv dv) w1
 rw [hX] at hb hB hos1 hov1
 obtain ⟨b, hbe⟩ : ∃ b, w1.heap.size = b := ⟨_, rfl⟩
 obtain ⟨r, hre⟩ : ∃ r, w.heap.size = r := ⟨_, rfl⟩
 have HX := hide (HB1.out.trans (hB.mono HB1.out.size))
 have hmx := HM.out.below HX.out
 have hrx := hr1.below hB
 rw [hre] at hrx
 rw [hbe] at hb
 have HRB : Hid (r < b ∧ w.heap.size = r ∧ P.gi < r ∧ (∀ k, McS P k → k < r)) := hide ⟨by omega, hre, by omega, fun k hk => by have := HM.out.lt k hk; omega⟩
 have HOS : Hid (OwnS r X (.slice ps ns ds) sp) := hide (by rw [← hre]; exact hos1.mono HA.out.size)
 have HOV : Hid (OwnN (r + 1) X (.slice pv nv dv) vo) := hide (hov1.mono (by simp; omega))
 have HMX := hide hmx
 have HRX := hide hrx
 have HBX := hide hb
 obtain ⟨x0, x1, x2, x3, x4, x5⟩ := hb.box
 have z0 := hmx.row.c0
 have z1 := hmx.row.c1
 have z2 := hmx.row.c2
 rw [hX, hbe, hre]
 clear hX hbe hre hos hov hb1 hr1 hB hos1 hov1 hsz hb hmx hrx HB1 HR GT hgi
 have hmay := HOK.out
 rw [Cm.ok_iff] at hmay
 obtain ⟨h3, h4⟩ : ((1 ≤ se ∧ se ≤ 1099511627776) ∧ 1 ≤ sq ∧ sq ≤ 1099511627776) ∧ spsOk sp = true := by
  rcases hmay with ⟨e, _⟩ | ⟨_, _, e1, e2, e3⟩ | ⟨e, _⟩ | ⟨e, _⟩ | ⟨e, _⟩
  ·rcases e with e | e <;> cases e
  ·exact ⟨⟨btw_iff.1 e1, btw_iff.1 e2⟩, e3⟩
  ·cases e
  ·cases e
  ·cases e
 have h5 : sp.length ≤ 100000 ∧ ∀ x ∈ sp, x.n.size ≤ 1100000 := by
  unfold spsOk at h4
  rw [Bool.and_eq_true, btw_iff, List.all_eq_true] at h4
  refine ⟨by omega, fun x hx => ?_⟩
  have h6 : x.n.data.toList.length ≤ 32 := ((Sp.ok_iff x).1 (h4.2 x hx)).n2
  have h7 : x.n.data.toList.length = x.n.size := by simp
  omega
 have HIN := hide (mingest_any HMX.out (k := 2) (a := a) (q := pv) (mq := nv) (f := dv) HOS.out.sps h5.1 h5.2 h3.1 h3.2 (vo := vo))
 obtain ⟨rq, er, m2, hi⟩ : ∃ rq er m2, ingM m ⟨2, se, sq, a, sp, vo⟩ = (rq, er, m2) := ⟨_, _, _, rfl⟩
 rw [hi] at HIN
 have HI := hide hi
 clear hi h3 h4 h5 hmay z0 z1 z2
 go_wp2_with fail
 refine HIN.out.mono ?_
 rintro e w2 ⟨rfl, P', hto⟩
 unfold rpV
 dsimp only
 have hgr : ¬ McC P r := HMX.out.notC HRX.out.z.1 (fun e => by have := HRB.out.2.2.1; omega)
 have HTO := hide hto
 have hrow := HRX.out.chg hto.chg hgr
 clear hto hgr x0 x1 x2 x3 x4 x5
 obtain ⟨j0, j1, j2, j3, j4, j5, j6, j7⟩ := (hrow).z
 obtain ⟨f0, f1, f2, f3, f4, f5, f6, f7⟩ := (hrow).f
 unfold rp0 at j0 j1 j2 j3 j4 j5 j6 j7
 dsimp only at j0 j1 j2 j3 j4 j5 j6 j7
 go_wp2_with fail
 have hst := setR_row (hrow) ⟨rq.er, rq.rs, rq.gn, rq.ad, rq.sa, rq.ot, rq.cy, rq.fu⟩
 have hcs := setR_chg w2 r ⟨rq.er, rq.rs, rq.gn, rq.ad, rq.sa, rq.ot, rq.cy, rq.fu⟩
 unfold setR at hst hcs
 dsimp only at hst hcs
 refine bodyPost_ret (v := .tuple #[.agg #[.int .i64 rq.er, .int .i64 rq.rs, .int .i64 rq.gn, .int .i64 rq.ad, .int .i64 rq.sa, .int .i64 rq.ot, .int .i64 rq.cy, .int .i64 rq.fu], errV er]) (by
   generalize World.setCell (World.setCell (World.setCell (World.setCell (World.setCell (World.setCell (World.setCell (World.setCell w2 ⟨r, 0, none⟩ (.int .i64 rq.er)) ⟨r, 1, none⟩ (.int .i64 rq.rs)) ⟨r, 2, none⟩ (.int .i64 rq.gn)) ⟨r, 3, none⟩ (.int .i64 rq.ad)) ⟨r, 4, none⟩ (.int .i64 rq.sa)) ⟨r, 5, none⟩ (.int .i64 rq.ot)) ⟨r, 6, none⟩ (.int .i64 rq.cy)) ⟨r, 7, none⟩ (.int .i64 rq.fu) = W9 at hst ⊢
   obtain ⟨m0, m1, m2, m3, m4, m5, m6, m7⟩ := hst.z
   dsimp only at m0 m1 m2 m3 m4 m5 m6 m7
   simp [results, Tryz.results111, go_sem, m0, m1, m2, m3, m4, m5, m6, m7]) rfl ?_
 have hcm : cmdM m (some ⟨2, se, sq, a, sp, vo⟩) = (rq, er, m2) := by
  rw [← HI.out]
  unfold cmdM
  dsimp only
  rw [if_neg (by decide), if_pos rfl]
 rw [hcm]
 refine ⟨rfl, P', McTo.box HM.out.er (HTO.out.from HX.out) hcs (by have := HRB.out; omega) (fun hk => ?_)⟩
 rcases HTO.out.new r hk with e | e
 ·have := HRB.out.2.2.2 r e; omega
 ·have := HRX.out.lt; omega
theorem mcommand_any {w : World} {P : Pm} {m : Mp} (h : McIs w P m) {v : Value} {l : List UInt8} (hv : By w v l) (hl : l.length ≤ 1100000) : Calls Tryz.prog 111 #[.pointer (some ⟨P.gi, 0, none⟩), v] w (CmdP w P (cmdM m (getC l))) := by
 cases hg : getC l with
 | none => exact cmdN_any h hv hl hg
 | some c =>
  have hok := (getC_some hg).1
  rw [Cm.ok_iff] at hok
  obtain ⟨k, se, sq, a, sp, vo⟩ := c
  rcases hok with ⟨e | e, _⟩ | ⟨e, _⟩ | ⟨e, _⟩ | ⟨e, _⟩ | ⟨e, _⟩ <;> (dsimp only at e; subst e)
  ·exact cmd0_any h hv hl hg
  ·exact cmd1_any h hv hl hg
  ·exact cmd2_any h hv hl hg
  ·exact cmd3_any h hv hl hg
  ·exact cmd4_any h hv hl hg
  ·exact cmd5_any h hv hl hg
end Go.Proofs.YtionbmlicmibgaaGreatDoor
