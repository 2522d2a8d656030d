import Derived.Test.YtionbmlicmibgaaGreatDoorS4
set_option linter.unusedVariables false
set_option linter.unusedSimpArgs false
namespace Go.Proofs.YtionbmlicmibgaaGreatDoor
open Go.Proofs.Tryz
set_option maxRecDepth 200000
set_option maxHeartbeats 1100000
open Go.RowKit
theorem jr.aU {w w' : World} {g b : Nat} {tr : Int} {L : List Sp} {T : Nat → Prop} (h : jr w g b tr L) (hc : ak w w' T) (hg : ¬ T g) (hb : ¬ T b) : jr w' g b tr L :=
 ⟨hc.cell h.c0 hg, hc.cell h.c1 hg, h.ne, by obtain ⟨D, hD⟩ := h.FD; exact ⟨D, hD.aU hc hb⟩, h.ok⟩
theorem bW.dD {w : World} {b g i : Nat} {L : List Sp} {D : DataW Value} {u : Value} (h : bW w b L D) (hc : w.cell? ⟨g, i, none⟩ = some u) : g ≠ b := by
 rintro rfl;obtain ⟨es, clock, h1, _⟩ := h.map;simp [World.cell?, h1] at hc
theorem tT (w : World) : bD (w.alloc (.cells #[.int .i64 0, .int .i64 0, .int .i64 0, .int .i64 0, .int .i64 0] 64)) w.heap.size cQ := by
 have hA := acQ w (.cells #[.int .i64 0, .int .i64 0, .int .i64 0, .int .i64 0, .int .i64 0] 64);exact ⟨acC _ _ 0 _ 64 (0, 0) hA, acC _ _ 1 _ 64 (0, 0) hA, acC _ _ 2 _ 64 (0, 0) hA, acC _ _ 3 _ 64 (0, 0) hA, acC _ _ 4 _ 64 (0, 0) hA, fun k _ => acI _ _ k _ 64 hA⟩
theorem dq {W : World} {r : Nat} {a0 a1 a2 a3 a4 : Value} (hA : W.heap[r]? = some (.cells #[a0, a1, a2, a3, a4] 64)) (v0 v1 v2 v3 v4 : Value) :
  (((((W.setCell ⟨r, 0, none⟩ v0).setCell ⟨r, 1, none⟩ v1).setCell ⟨r, 2, none⟩ v2).setCell ⟨r, 3, none⟩ v3).setCell ⟨r, 4, none⟩ v4).heap[r]? = some (.cells #[v0, v1, v2, v3, v4] 64) := by
 have q0 := acK W r 0 _ 64 v0 hA;have q1 := acK _ r 1 _ 64 v1 q0;have q2 := acK _ r 2 _ 64 v2 q1;have q3 := acK _ r 3 _ 64 v3 q2;exact acK _ r 4 _ 64 v4 q3
theorem bN {w W : World} {T : Nat → Prop} {r : Nat} (h : ak w W T) (hr : T r ∨ w.heap.size ≤ r) (v0 v1 v2 v3 v4 : Value) : ak w (((((W.setCell ⟨r, 0, none⟩ v0).setCell ⟨r, 1, none⟩ v1).setCell ⟨r, 2, none⟩ v2).setCell ⟨r, 3, none⟩ v3).setCell ⟨r, 4, none⟩ v4) T :=
 ((((h.set v0 hr).set v1 hr).set v2 hr).set v3 hr).set v4 hr
noncomputable def wI (tr : Int) (L l : List Sp) : Value := if l.all (fun x => x.ok && decide (x.t = tr)) = true then .tuple #[iJ (cJ L cQ l).2, .int .i64 0] else .tuple #[iJ cQ, .int .i64 30]
def PT (w : World) (g b : Nat) (tr : Int) (L l : List Sp) (e : Ending) (w' : World) : Prop := e = .returned (wI tr L l) ∧ jr w' g b tr (wJ tr L l) ∧ ak w w' fun k => k = b
theorem Gu {w : World} {g b : Nat} {tr : Int} {L l : List Sp} {v : Value} (h : jr w g b tr L) (hv : iY w v l) (hl : l.length ≤ 100000) (im : ∀ x ∈ l, x.n.size ≤ 1100000) :
  Calls prog 213 #[.pointer (some ⟨g, 0, none⟩), v] w (PT w g b tr L l) := by
 obtain ⟨p, n, c, rfl⟩ := hv.sl;have hn := hv.len.1;have zy : n ≤ 100000 := by omega
 have jD := lt_of_cell h.c0;dsimp only at jD;have jJ : b < w.heap.size := by obtain ⟨D, hD⟩ := h.FD; exact hD.map.lt
 have wu := (acG w.heap.size w).alloc (acE _) (.cells #[.int .i64 0, .int .i64 0, .int .i64 0, .int .i64 0, .int .i64 0] 64);have aM := acQ w (.cells #[.int .i64 0, .int .i64 0, .int .i64 0, .int .i64 0, .int .i64 0] 64);have SR := af (pG (h.below wu));have HV := af hv;have HN := af hn;have Dc := af im;have HF := af h;have oN := af wu;have ib := af aM;clear hv hn im h wu aM hl;go_enter func213, ntmps213
 go_wp2_with fail
 refine SR.out.mono ?_;rintro e1 w1 ⟨rfl, q0, rfl⟩;obtain ⟨X, hX⟩ : ∃ X, (w.alloc (.cells #[.int .i64 0, .int .i64 0, .int .i64 0, .int .i64 0, .int .i64 0] 64)).drewN q0 = X := ⟨_, rfl⟩
 have aS : Hid (Below w.heap.size w X) := af (by rw [← hX]; exact oN.out.trans (ag _ q0));have kB : Hid (X.heap[w.heap.size]? = some (.cells #[.int .i64 0, .int .i64 0, .int .i64 0, .int .i64 0, .int .i64 0] 64)) := af (by rw [← hX]; exact ib.out);have BN : X.heap.size = w.heap.size + 1 := by rw [← hX]; simp
 have il := af BN;rw [hX];clear hX BN oN ib SR;go_wp2_with fail
 go_loopw [7, 17] (fun _ ix wr => ∃ k : Nat, k ≤ n ∧ ix = .int .i64 k ∧ Hid (Below X.heap.size X wr ∧ (l.take k).all (fun x => x.ok && decide (x.t = tr)) = true)) (fun _ ix _ => n - (intOf ix).toNat)
 case atStart => exact ⟨0, by omega, rfl, af ⟨acG _ _, rfl⟩⟩
 case round =>
  obtain ⟨k, hk, rfl, HR⟩ := hrel;by_cases bd : (k : Int) < (n : Int)
  ·obtain ⟨gv, ov, rfl, hx⟩ := HV.out.at_ (by omega);obtain ⟨x, dC⟩ : ∃ x, l[k]? = some x := ⟨_, acF (by have := HN.out; omega)⟩
   have jJ : Below w.heap.size w wr := aS.out.trans (HR.out.1.mono (by have := il.out; omega));have aG := (hx k x dC).below jJ;obtain ⟨oo, iu⟩ : ∃ oo, ov + k * 6 = oo := ⟨_, rfl⟩
   rw [iu] at aG;have z0 := aG.c0;have z1 := aG.c1;have z2 := aG.c2;have z3 := aG.c3;have z4 := aG.c4;have z5 := aG.c5;have OY := Dc.out x (acS dC);have jC := af (kq x OY);have bg := az wr x;have wo := HF.out.below jJ;obtain ⟨Y, hY⟩ : ∃ Y, wr.alloc (.cells #[.int .i64 x.t, .int .i64 x.i, .int .i64 x.p, .int .i64 x.s, .int .i64 x.e, .string x.n] 30) = Y := ⟨_, rfl⟩
   have fF : Below wr.heap.size wr Y := by rw [← hY]; exact (acG _ _).alloc (acE _) _
   have XA := wo.below fF;rw [hY] at bg;have yg := XA.c1;obtain ⟨y0, y1, y2, y3, y4, y5⟩ := bg.z;have F6 := af hY;have vl := af dC;have eI : Hid (Below X.heap.size X Y) := af (HR.out.1.trans (fF.mono HR.out.1.size));have XB := lt_of_cell yg;have xP := bg.lt;have KEEP : Hid (∀ q w7, Below (Y.drewN q).heap.size (Y.drewN q) w7 → w7.cell? ⟨wr.heap.size, 0, none⟩ = some (.int .i64 x.t) ∧ w7.cell? ⟨wr.heap.size, 1, none⟩ = some (.int .i64 x.i) ∧ w7.cell? ⟨wr.heap.size, 2, none⟩ = some (.int .i64 x.p) ∧ w7.cell? ⟨wr.heap.size, 3, none⟩ = some (.int .i64 x.s) ∧ w7.cell? ⟨wr.heap.size, 4, none⟩ = some (.int .i64 x.e) ∧ w7.cell? ⟨wr.heap.size, 5, none⟩ = some (.string x.n) ∧ w7.cell? ⟨g, 1, none⟩ = some (.int .i64 tr)) := af (fun q w7 cZ =>
    ⟨(cZ.cell (p := ⟨wr.heap.size, 0, none⟩) xP).trans y0, (cZ.cell (p := ⟨wr.heap.size, 1, none⟩) xP).trans y1, (cZ.cell (p := ⟨wr.heap.size, 2, none⟩) xP).trans y2, (cZ.cell (p := ⟨wr.heap.size, 3, none⟩) xP).trans y3, (cZ.cell (p := ⟨wr.heap.size, 4, none⟩) xP).trans y4, (cZ.cell (p := ⟨wr.heap.size, 5, none⟩) xP).trans y5, (cZ.cell (p := ⟨g, 1, none⟩) XB).trans yg⟩)
   clear hx dC aG OY bg wo fF XA hY jJ XB xP;obtain ⟨t, i, p', s, en, nm⟩ := x;dsimp only at *;unfold dZ at *;dsimp only at *;by_cases O1 : t = tr
   focus
    subst O1;go_wp2_with fail
    rw [F6.out];by_cases aT : Sp.ok ⟨t, i, p', s, en, nm⟩ = true
    ·rw [acW aT] at jC;have fh := af aT;clear aT;go_region_held3 (fun W => W.cell? ⟨wr.heap.size, 0, none⟩ = some (.int .i64 t) ∧ W.cell? ⟨wr.heap.size, 1, none⟩ = some (.int .i64 i) ∧ W.cell? ⟨wr.heap.size, 2, none⟩ = some (.int .i64 p') ∧ W.cell? ⟨wr.heap.size, 3, none⟩ = some (.int .i64 s) ∧ W.cell? ⟨wr.heap.size, 4, none⟩ = some (.int .i64 en) ∧ W.cell? ⟨wr.heap.size, 5, none⟩ = some (.string nm) ∧ W.cell? ⟨g, 1, none⟩ = some (.int .i64 t)) (first | go_keep | exact KEEP.out 1 _ cZ | exact KEEP.out 0 _ cZ) (first | (go_at_call 100; refine (jC.out _).mono ?_; rintro e7 w7 ⟨rfl, cZ⟩))
     have lQ : Hid (Below X.heap.size X w7) := af (eI.out.trans (((show Below Y.heap.size Y Y.drew from ag Y 1).trans cZ).mono eI.out.size));clear cZ;go_wp2;go_roundw;case rel =>
      refine ⟨k + 1, by omega, by go_num, af ⟨lQ.out, ?_⟩⟩;have h1 : l.take (k + 1) = l.take k ++ [⟨t, i, p', s, en, nm⟩] := by rw [ac5, vl.out]; rfl
      rw [h1, aeR, HR.out.2];simp only [aeI, List.all_nil, Bool.and_true, adY, decide_true];exact fh.out
     case measure => simp [intOf]; omega
    focus
     have lq : Hid (¬ l.all (fun x => x.ok && decide (x.t = t)) = true) := af (fun cO => aT (by
      have := adl.1 cO _ (acS vl.out);rw [adb] at this;exact this.1))
     rw [acO aT] at jC;clear aT;go_region_held3 (fun W => W.cell? ⟨wr.heap.size, 0, none⟩ = some (.int .i64 t) ∧ W.cell? ⟨wr.heap.size, 1, none⟩ = some (.int .i64 i) ∧ W.cell? ⟨wr.heap.size, 2, none⟩ = some (.int .i64 p') ∧ W.cell? ⟨wr.heap.size, 3, none⟩ = some (.int .i64 s) ∧ W.cell? ⟨wr.heap.size, 4, none⟩ = some (.int .i64 en) ∧ W.cell? ⟨wr.heap.size, 5, none⟩ = some (.string nm) ∧ W.cell? ⟨g, 1, none⟩ = some (.int .i64 t)) (first | go_keep | exact KEEP.out 1 _ cZ | exact KEEP.out 0 _ cZ) (first | (go_at_call 100; refine (jC.out _).mono ?_; rintro e7 w7 ⟨rfl, cZ⟩))
     have lQ : Hid (Below X.heap.size X w7) := af (eI.out.trans (((show Below Y.heap.size Y Y.drew from ag Y 1).trans cZ).mono eI.out.size));clear cZ;have eR : (w7).heap[w.heap.size]? = some (.cells #[.int .i64 0, .int .i64 0, .int .i64 0, .int .i64 0, .int .i64 0] 64) := ((lQ.out.block w.heap.size (by have := il.out; omega)).trans kB.out)
     have qy : Below w.heap.size w (w7) := aS.out.trans (lQ.out.mono (by have := il.out; omega));obtain ⟨W, hW⟩ : ∃ W, w7 = W := ⟨_, rfl⟩
   rotate_left
   focus
    have hb : (t == tr) = false := adj.2 O1;have aP : (t != tr) = true := by simp [O1]
    go_wp2_with fail
    rw [F6.out];go_quiet (fail)
    have lq : Hid (¬ l.all (fun x => x.ok && decide (x.t = tr)) = true) := af (fun cO => O1 (by
     have := adl.1 cO _ (acS vl.out);rw [adb, adr] at this;exact this.2))
    have eR : (Y.drewN nq).heap[w.heap.size]? = some (.cells #[.int .i64 0, .int .i64 0, .int .i64 0, .int .i64 0, .int .i64 0] 64) := ((show (Y.drewN nq).heap[w.heap.size]? = X.heap[w.heap.size]? from eI.out.block w.heap.size (by have := il.out; omega)).trans kB.out)
    have qy : Below w.heap.size w (Y.drewN nq) := (aS.out.trans (eI.out.mono (by have := il.out; omega))).trans (ag _ nq);obtain ⟨W, hW⟩ : ∃ W, Y.drewN nq = W := ⟨_, rfl⟩
   all_goals
    rw [hW] at eR qy ⊢;have Vy := acC W w.heap.size 0 _ 64 (0, 0) eR;have Vz := acC W w.heap.size 1 _ 64 (0, 0) eR;have VA := acC W w.heap.size 2 _ 64 (0, 0) eR;have VC := acC W w.heap.size 3 _ 64 (0, 0) eR;have VD := acC W w.heap.size 4 _ 64 (0, 0) eR;have Z2 := acI W w.heap.size 0 _ 64 eR;have Z3 := acI W w.heap.size 1 _ 64 eR;have Ra := acI W w.heap.size 2 _ 64 eR;have Z4 := acI W w.heap.size 3 _ 64 eR;have Z5 := acI W w.heap.size 4 _ 64 eR;have nh := af eR;have wK := af qy;clear eR qy hW
    skip
    go_wp2;refine ac0 (v := .tuple #[iJ cQ, .int .i64 30]) (by
     have q5 := dq nh.out (.int .i64 0) (.int .i64 0) (.int .i64 0) (.int .i64 0) (.int .i64 0);generalize (((((W.setCell ⟨w.heap.size, 0, none⟩ (.int .i64 0)).setCell ⟨w.heap.size, 1, none⟩ (.int .i64 0)).setCell ⟨w.heap.size, 2, none⟩ (.int .i64 0)).setCell ⟨w.heap.size, 3, none⟩ (.int .i64 0)).setCell ⟨w.heap.size, 4, none⟩ (.int .i64 0)) = W9 at q5 ⊢;have m0 := acC W9 w.heap.size 0 _ 64 (0, 0) q5;have m1 := acC W9 w.heap.size 1 _ 64 (0, 0) q5;have m2 := acC W9 w.heap.size 2 _ 64 (0, 0) q5;have m3 := acC W9 w.heap.size 3 _ 64 (0, 0) q5;have m4 := acC W9 w.heap.size 4 _ 64 (0, 0) q5;have kQ : w.heap.size < W9.heap.size := by have := (acJ.1 q5).1; exact this
     clear q5;unfold iJ;simp at m0 m1 m2 m3 m4;simp [results, results213, go_sem, m0, m1, m2, m3, m4, kQ, cQ]) rfl ⟨by unfold wI; rw [acO lq.out], ?_, ?_⟩
    ·have lO := bN (ak.of_below wK.out (fun _ => False)) (.inr (acE w.heap.size)) (.int .i64 0) (.int .i64 0) (.int .i64 0) (.int .i64 0) (.int .i64 0);rw [wJ, acO lq.out];exact HF.out.aU lO (fun h => h) (fun h => h)
    ·exact (bN (ak.of_below wK.out (fun _ => False)) (.inr (acE w.heap.size)) (.int .i64 0) (.int .i64 0) (.int .i64 0) (.int .i64 0) (.int .i64 0)).mono (fun k hk => hk.elim)
  ·have EJ : k = n := by omega
   subst EJ;have cO : l.all (fun x => x.ok && decide (x.t = tr)) = true := by
    have := HR.out.2
    rwa [acY (by have := HN.out; omega)] at this
   have LG : ∀ x ∈ l, x.ok = true ∧ x.p ≠ x.i ∧ x.t = tr := fun x hx => by
    have := adl.1 cO x hx;rw [adb, adr] at this;exact ⟨this.1, Rb this.1, this.2⟩
   have BO : Below w.heap.size w wr := aS.out.trans (HR.out.1.mono (by have := il.out; omega));have MI : w.heap.size < wr.heap.size := by have := HR.out.1.size; have := il.out; omega
   have vH : Below wr.heap.size wr (wr.alloc (.cells #[.int .i64 0, .int .i64 0, .int .i64 0, .int .i64 0, .int .i64 0] 64)) := (acG _ _).alloc (acE _) _;have IZ := tT wr;have wQ : Below w.heap.size w (wr.alloc (.cells #[.int .i64 0, .int .i64 0, .int .i64 0, .int .i64 0, .int .i64 0] 64)) := BO.trans (vH.mono (by omega));have nV : (wr.alloc (.cells #[.int .i64 0, .int .i64 0, .int .i64 0, .int .i64 0, .int .i64 0] 64)).heap[w.heap.size]? = some (.cells #[.int .i64 0, .int .i64 0, .int .i64 0, .int .i64 0, .int .i64 0] 64) :=
    (vH.block w.heap.size MI).trans ((HR.out.1.block w.heap.size (by have := il.out; omega)).trans kB.out)
   have Yu : (wr.alloc (.cells #[.int .i64 0, .int .i64 0, .int .i64 0, .int .i64 0, .int .i64 0] 64)).heap.size = wr.heap.size + 1 := by simp
   have lu := af (acD cO LG);clear cO LG BO vH HR;go_wp2_with fail
   obtain ⟨Z, hZ⟩ : ∃ Z, wr.alloc (.cells #[.int .i64 0, .int .i64 0, .int .i64 0, .int .i64 0, .int .i64 0] 64) = Z := ⟨_, rfl⟩
   obtain ⟨gc, GJ⟩ : ∃ gc, wr.heap.size = gc := ⟨_, rfl⟩
   rw [hZ] at IZ wQ nV Yu;rw [GJ] at IZ MI Yu;rw [hZ, GJ];have Tz := HF.out.below wQ;obtain ⟨D0, hD0⟩ := Tz.FD;have abn : gc ≠ b := by omega
   have HZ := af (acD IZ (acD wQ (acD nV (acD Tz (acD hD0 abn)))));clear hZ GJ IZ wQ nV Tz hD0;go_loopw [10, 37] (fun _ ix wz => ∃ j : Nat, j ≤ k ∧ ix = .int .i64 j ∧ Hid (ak Z wz (fun i => i = b ∨ i = gc) ∧ (∃ D, bW wz b (cJ L cQ (l.take j)).1 D) ∧ bD wz gc (cJ L cQ (l.take j)).2)) (fun _ ix _ => k - (intOf ix).toNat)
   case atStart => exact ⟨0, by omega, rfl, af ⟨ak.refl _ _, ⟨D0, HZ.out.2.2.2.2.1⟩, HZ.out.1⟩⟩
   case round =>
    obtain ⟨j, hj, rfl, HR⟩ := hrel;have qz : dT tr (cJ L cQ (l.take j)).1 := tV _ HF.out.ok fun x hx => lu.out.2 x (adD hx);by_cases oq : (j : Int) < (k : Int)
    ·obtain ⟨gv, ov, rfl, hx⟩ := HV.out.at_ (by omega);obtain ⟨x, dC⟩ : ∃ x, l[j]? = some x := ⟨_, acF (by have := HN.out; omega)⟩
     obtain ⟨D, hD⟩ := HR.out.2.1;have TA := (hx j x dC).lt;have Yv : gv ≠ b := by
      obtain ⟨D1, hD1⟩ := HF.out.FD;exact hD1.dD (hx j x dC).c0
     have aG : cj wr gv (ov + j * 6) x := fun i u hu => HR.out.1.cell (((hx j x dC).below HZ.out.2.1) i u hu) (by
      rintro (h1 | h1)
      ·exact Yv h1
      ·simp only at h1; omega)
     obtain ⟨oo, iu⟩ : ∃ oo, ov + j * 6 = oo := ⟨_, rfl⟩
     rw [iu] at aG;have z0 := aG.c0;have z1 := aG.c1;have z2 := aG.c2;have z3 := aG.c3;have z4 := aG.c4;have z5 := aG.c5;have oe : wr.cell? ⟨g, 0, none⟩ = some (.map (some b)) := HR.out.1.cell HZ.out.2.2.2.1.c0 (by
      rintro (h1 | h1)
      ·exact HF.out.ne h1
      ·simp only at h1; omega)
     have abo : gc < wr.heap.size := lt_of_cell HR.out.2.2.c0;have lk : l.take (j + 1) = l.take j ++ [x] := by rw [ac5, dC]; rfl
     have j_ : (cJ L cQ (l.take j)).2.sum ≤ 1100000 := by
      rw [qD, ac6]
      show 0 + 0 + 0 + 0 + 0 + _ ≤ _
      omega
     have MJ := lu.out.2 x (acS dC);have Mx : (Lit.int .i64 x.i).wf = true ∧ (Lit.int .i64 x.p).wf = true := by
      obtain ⟨t1, t2, i1, i2, p1, p2, _⟩ := (Sp.aO x).1 MJ.1;exact ⟨ad5 (by omega), ad5 (by omega)⟩
     have bg := az wr x;obtain ⟨Y, hY⟩ : ∃ Y, wr.alloc (.cells #[.int .i64 x.t, .int .i64 x.i, .int .i64 x.p, .int .i64 x.s, .int .i64 x.e, .string x.n] 30) = Y := ⟨_, rfl⟩
     have hDY : bW Y b (cJ L cQ (l.take j)).1 D := by rw [← hY]; exact hD.grown (ada wr _ none) (by simp)
     have df : bD Y gc (cJ L cQ (l.take j)).2 := by rw [← hY]; exact HR.out.2.2.alloc _
     have hZY : ak Z Y (fun i => i = b ∨ i = gc) := by rw [← hY]; exact HR.out.1.alloc _
     have yg : Y.cell? ⟨g, 0, none⟩ = some (.map (some b)) := by rw [← hY]; exact acX _ oe
     rw [hY] at bg;have xP := bg.lt;have Pk := af (fun q => Pv (w := Y.drewN q) (x := x) (hDY.drewN q) qz.rises (fun y hy => (uH qz hy).2) Mx.1 Mx.2 qz.len (c := (cJ L cQ (l.take j)).2) (gc := gc) ⟨df.c0, df.c1, df.c2, df.c3, df.c4, df.fr⟩ j_ HZ.out.2.2.2.2.2);obtain ⟨y0, y1, y2, y3, y4, y5⟩ := bg.z;have vu : b < wr.heap.size := hD.map.lt;have KEEP : Hid (∀ q w7, ak (Y.drewN q) w7 (fun i => i = b ∨ i = gc) → w7.cell? ⟨wr.heap.size, 0, none⟩ = some (.int .i64 x.t) ∧ w7.cell? ⟨wr.heap.size, 1, none⟩ = some (.int .i64 x.i) ∧ w7.cell? ⟨wr.heap.size, 2, none⟩ = some (.int .i64 x.p) ∧ w7.cell? ⟨wr.heap.size, 3, none⟩ = some (.int .i64 x.s) ∧ w7.cell? ⟨wr.heap.size, 4, none⟩ = some (.int .i64 x.e) ∧ w7.cell? ⟨wr.heap.size, 5, none⟩ = some (.string x.n) ∧ w7.cell? ⟨g, 0, none⟩ = some (.map (some b))) := af (fun q w7 wR =>
      have hn : ¬ (wr.heap.size = b ∨ wr.heap.size = gc) := by omega
      have hg : ¬ (g = b ∨ g = gc) := by
       rintro (h1 | h1)
       ·exact HF.out.ne h1
       ·omega
      ⟨wR.cell y0 hn, wR.cell y1 hn, wR.cell y2 hn, wR.cell y3 hn, wR.cell y4 hn, wR.cell y5 hn, wR.cell yg hg⟩)
     have F6 := af hY;have iB := af lk;have HZY := af hZY;clear hx dC aG hD TA Yv oe lk j_ MJ Mx bg hDY df hZY hY qz vu abo xP;obtain ⟨t, i, p', s, en, nm⟩ := x;dsimp only at *;unfold dZ at *;dsimp only at *;go_wp2_with fail
     rw [F6.out];go_region_held3 (fun W => W.cell? ⟨wr.heap.size, 0, none⟩ = some (.int .i64 t) ∧ W.cell? ⟨wr.heap.size, 1, none⟩ = some (.int .i64 i) ∧ W.cell? ⟨wr.heap.size, 2, none⟩ = some (.int .i64 p') ∧ W.cell? ⟨wr.heap.size, 3, none⟩ = some (.int .i64 s) ∧ W.cell? ⟨wr.heap.size, 4, none⟩ = some (.int .i64 en) ∧ W.cell? ⟨wr.heap.size, 5, none⟩ = some (.string nm) ∧ W.cell? ⟨g, 0, none⟩ = some (.map (some b))) (first | go_keep | exact KEEP.out 1 _ wR | exact KEEP.out 0 _ wR) (first | (go_at_call 222; refine (Pk.out 1).mono ?_; rintro e7 w7 ⟨rfl, hD7, Fg, wR⟩) | (go_at_call 222; refine (Pk.out 0).mono ?_; rintro e7 w7 ⟨rfl, hD7, Fg, wR⟩))
     have H7 : Hid (ak Z w7 (fun i => i = b ∨ i = gc) ∧ (∃ D, bW w7 b (cJ L cQ (l.take (j + 1))).1 D) ∧ bD w7 gc (cJ L cQ (l.take (j + 1))).2) := af (by
      rw [iB.out, ox];exact ⟨(HZY.out.drewN 1).trans wR (fun i hi => .inl hi), hD7, Fg⟩)
     clear hD7 Fg wR;go_wp2;go_roundw;case rel => exact ⟨j + 1, by omega, by go_num, H7⟩
     case measure => simp [intOf]; omega
    ·have Tk : j = k := by omega
     subst Tk;have Hf : l.take j = l := acY (by have := HN.out; omega);rw [Hf] at HR qz;obtain ⟨Pw, ⟨D, hD⟩, Mq⟩ := HR.out;have eR : wr.heap[w.heap.size]? = some (.cells #[.int .i64 0, .int .i64 0, .int .i64 0, .int .i64 0, .int .i64 0] 64) := (Pw.block w.heap.size (by omega) (by omega)).trans HZ.out.2.2.1;have k0 := Mq.c0;have k1 := Mq.c1;have k2 := Mq.c2;have k3 := Mq.c3;have k4 := Mq.c4;have kh : jr wr g b tr (cJ L cQ l).1 := by
      have hg : ¬ (g = b ∨ g = gc) := by
       rintro (h1 | h1)
       ·exact HF.out.ne h1
       ·omega
      exact ⟨Pw.cell HZ.out.2.2.2.1.c0 hg, Pw.cell HZ.out.2.2.2.1.c1 hg, HF.out.ne, ⟨D, hD⟩, qz⟩
     have BS : ak w wr (fun i => i = b) := (ak.of_below HZ.out.2.1 (fun i => i = b)).trans Pw (fun i hi => by
      rcases hi with h1 | h1
      ·exact .inl h1
      ·exact .inr (by omega))
     have Vy := acC wr w.heap.size 0 _ 64 (0, 0) eR;have Vz := acC wr w.heap.size 1 _ 64 (0, 0) eR;have VA := acC wr w.heap.size 2 _ 64 (0, 0) eR;have VC := acC wr w.heap.size 3 _ 64 (0, 0) eR;have VD := acC wr w.heap.size 4 _ 64 (0, 0) eR;have Z2 := acI wr w.heap.size 0 _ 64 eR;have Z3 := acI wr w.heap.size 1 _ 64 eR;have Ra := acI wr w.heap.size 2 _ 64 eR;have Z4 := acI wr w.heap.size 3 _ 64 eR;have Z5 := acI wr w.heap.size 4 _ 64 eR;obtain ⟨C, hC⟩ : ∃ C, (cJ L cQ l).2 = C := ⟨_, rfl⟩
     rw [hC] at k0 k1 k2 k3 k4;have HC := af hC;have nh := af eR;have J_ := af (acD kh BS);clear Hf HR qz Pw hD Mq eR kh BS hC;go_wp2;refine ac0 (v := .tuple #[iJ C, .int .i64 0]) (by
      have q5 := dq nh.out (.int .i64 (C.add : Nat)) (.int .i64 (C.same : Nat)) (.int .i64 (C.other : Nat)) (.int .i64 (C.dw : Nat)) (.int .i64 (C.full : Nat));generalize (((((wr.setCell ⟨w.heap.size, 0, none⟩ (.int .i64 (C.add : Nat))).setCell ⟨w.heap.size, 1, none⟩ (.int .i64 (C.same : Nat))).setCell ⟨w.heap.size, 2, none⟩ (.int .i64 (C.other : Nat))).setCell ⟨w.heap.size, 3, none⟩ (.int .i64 (C.dw : Nat))).setCell ⟨w.heap.size, 4, none⟩ (.int .i64 (C.full : Nat))) = W9 at q5 ⊢;have m0 := acC W9 w.heap.size 0 _ 64 (0, 0) q5;have m1 := acC W9 w.heap.size 1 _ 64 (0, 0) q5;have m2 := acC W9 w.heap.size 2 _ 64 (0, 0) q5;have m3 := acC W9 w.heap.size 3 _ 64 (0, 0) q5;have m4 := acC W9 w.heap.size 4 _ 64 (0, 0) q5;have kQ : w.heap.size < W9.heap.size := by have := (acJ.1 q5).1; exact this
      clear q5;unfold iJ;simp at m0 m1 m2 m3 m4;simp [results, results213, go_sem, m0, m1, m2, m3, m4, kQ, cQ]) rfl ⟨by unfold wI; rw [acW lu.out.1, HC.out], ?_, ?_⟩
     ·have lO := bN (ak.refl wr (fun i => i = w.heap.size)) (.inl rfl) (.int .i64 (C.add : Nat)) (.int .i64 (C.same : Nat)) (.int .i64 (C.other : Nat)) (.int .i64 (C.dw : Nat)) (.int .i64 (C.full : Nat));rw [wJ, acW lu.out.1];exact J_.out.1.aU lO (by omega) (by omega)
     ·exact bN J_.out.2 (.inr (acE w.heap.size)) (.int .i64 (C.add : Nat)) (.int .i64 (C.same : Nat)) (.int .i64 (C.other : Nat)) (.int .i64 (C.dw : Nat)) (.int .i64 (C.full : Nat))
open Go.RowKit Go.Lib
theorem zV {w : World} {g b : Nat} {tr : Int} {L : List Sp} (h : jr w g b tr L) : Calls prog 134 #[.pointer (some ⟨g, 0, none⟩)] w fun e w' => ∃ v', e = .returned v' ∧ bQ w.heap.size w' v' (jK (aQ L)) ∧ Below w.heap.size w w' := by
 have HM := af (pG h);have c0 := h.c0;obtain ⟨D, hD⟩ := h.FD;have HT := af (fun q => Cw (hD.drewN q) h.ok);clear h hD;go_enter func134, ntmps134
 go_wp2_with fail
 refine HM.out.mono ?_;rintro e1 w1 ⟨rfl, q, rfl⟩;go_wp2_with fail
 refine (HT.out q).mono ?_;rintro e2 w2 ⟨v2, rfl, ho, hb⟩;obtain ⟨p, n, c, rfl⟩ := ho.jK.sl;have HO := af (acD ho hb);clear ho hb;go_wp2;go_ret;exact ⟨_, rfl, HO.out.1, (ag w q).trans HO.out.2⟩
theorem Jr {w : World} {g b : Nat} {tr : Int} {L : List Sp} (h : jr w g b tr L) : Calls prog 164 #[.pointer (some ⟨g, 0, none⟩)] w fun e w' => ∃ v', e = .returned v' ∧ aI w.heap.size w' v' (aQ L) ∧ Below w.heap.size w w' := by
 have HM := af (pG h);have c0 := h.c0;obtain ⟨D, hD⟩ := h.FD;have HT := af (fun q => uG (hD.drewN q) h.ok.len);clear h hD;go_enter func164, ntmps164
 go_wp2_with fail
 refine HM.out.mono ?_;rintro e1 w1 ⟨rfl, q, rfl⟩;go_wp2_with fail
 refine (HT.out q).mono ?_;rintro e2 w2 ⟨v2, rfl, ho, hb⟩;obtain ⟨p, n, c, rfl⟩ := ho.gp.sl;have HO := af (acD ho hb);clear ho hb;go_wp2;go_ret;exact ⟨_, rfl, HO.out.1, (ag w q).trans HO.out.2⟩
theorem PU {w : World} {g b : Nat} {tr : Int} {L : List Sp} (h : jr w g b tr L) : Calls prog 183 #[.pointer (some ⟨g, 0, none⟩)] w fun e w' => e = .returned (.int .i64 (dQ L)) ∧ Below w.heap.size w w' := by
 have HM := af (pG h);have c0 := h.c0;obtain ⟨D, hD⟩ := h.FD;have HT := af (fun q => Cu (hD.drewN q) (fun x hx => by
  obtain ⟨_, _, _, _, _, _, s1, s2, e2, _⟩ := (Sp.aO x).1 (h.ok.ok x hx).1;omega))
 clear h hD;go_enter func183, ntmps183
 go_wp2_with fail
 refine HM.out.mono ?_;rintro e1 w1 ⟨rfl, q, rfl⟩;go_wp2_with fail
 refine (HT.out q).mono ?_;rintro e2 w2 ⟨rfl, hb⟩;have HO := af hb;clear hb;go_wp2;go_ret;exact ⟨rfl, (ag w q).trans HO.out⟩
theorem Ug (x y : Br) : (x.d == y.d && (x.o == y.o && (x.s.t == y.s.t && (x.s.i == y.s.i && (x.s.p == y.s.p && (x.s.s == y.s.s && (x.s.e == y.s.e && (x.s.n.toList == y.s.n.toList)))))))) = decide (x = y) := by
 obtain ⟨d, o, a, b, c, e, f, g⟩ := x;obtain ⟨d', o', a', b', c', e', f', g'⟩ := y;dsimp only;rw [Ci, aem];simp [Br.mk.injEq, Sp.mk.injEq]
theorem Uh (x y : Br) (w : World) : (binOp .eql 90 (.agg (pK x).toArray) (.agg (pK y).toArray)).run prog w = .ok (.bool (decide (x = y))) w := by
 have u3 := aee;have a3 := Tryz.isAgg3;have z3 := Tryz.sizeOf3;have u4 := underlying4;have a4 := Tryz.isAgg4;have z4 := Tryz.sizeOf4;have u9 := afb;have a9 := Tryz.isAgg9;have z9 := Tryz.sizeOf9;have ags := Tryz.isAgg30;have zs := Tryz.sizeOf30;have hS : Tryz.prog.underlying 90 = some (.struct (Tryz.prog.fieldsOf 90)) := by kernel_rfl
 have hp : Tryz.prog.stoodInHeld 90 = false := by kernel_rfl
 rw [← Ug];simp only [pK];rw [run_eql_struct, show (10000 : Nat) = 9999 + 1 from rfl, run_equalIn_agg w 9999 90 _ _ hS hp];simp only [Program.fieldsOf, underlying90];clear hS hp;go_simp
 (repeat' split) <;> simp_all
theorem Fh : NeqAt prog 90 (fun x : Br => .agg (pK x).toArray) (fun x y => decide (x = y)) := by
 refine ⟨fun x y w => ?_, GuardAt.agg (fun x : Br => (pK x).toArray) (by kernel_rfl)⟩;have h := Uh x y w;rw [run_eql_struct] at h;rw [run_neq_struct];cases hr : (Op.equalIn 10000 90 (.agg (pK x).toArray) (.agg (pK y).toArray)).run prog w with
 | ok b w' =>
  rw [hr] at h;simp only [Result.andThen_ok, Result.ok.injEq, Value.bool.injEq] at h ⊢;rw [h.1];exact ⟨rfl, h.2⟩
 | halt x w' =>
  rw [hr] at h;simp [Result.andThen] at h
theorem uI : ∀ l m : List Br, Lib.allEq (fun x y => decide (x = y)) l m = decide (l = m)
 | [], [] => rfl
 | [], _ :: _ => rfl
 | _ :: _, [] => rfl
 | x :: r, y :: s => by
  rw [Lib.allEq, uI r s, aem];simp
theorem Bs {w : World} {v1 v2 : Value} {l1 l2 : List Br} (h1 : tu w v1 l1) (h2 : tu w v2 l2) :
  Calls prog 46 #[v1, v2] w fun e w' => e = .returned (.bool (decide (l1 = l2))) ∧ ∃ q, w' = w.drewN q := by
 obtain ⟨p1, n1, c1, rfl⟩ := h1.sl;obtain ⟨p2, n2, c2, rfl⟩ := h2.sl;obtain ⟨zy, zw, Aw⟩ := h1.len;obtain ⟨sG, rX, VU⟩ := h2.len;unfold maxLen at Aw VU;by_cases aN : n1 = n2
 ·subst aN;by_cases h0 : 0 < n1
  ·obtain ⟨g1, o1, rfl, T9⟩ := h1.at_ h0;obtain ⟨g2, o2, rfl, Ui⟩ := h2.at_ h0;have := AnyQ.slices_Equal Tryz.equalBr 8 Tryz.isAgg90 Tryz.sizeOf90 pK gH (fun x y => decide (x = y)) Fh g1 o1 n1 c1 g2 o2 n1 c2 l1 l2 w (by omega) (by omega) (by omega) (by omega)
    (fun j hj i v hi => by
     have Jj : l1[j]? = some l1[j]! := by rw [acF hj, ae1 l1 j hj]
     exact T9 j _ Jj i v hi)
    (fun j hj i v hi => by
     have Jj : l2[j]? = some l2[j]! := by rw [acF hj, ae1 l2 j hj]
     exact Ui j _ Jj i v hi)
   refine this.mono fun e w' ⟨he, hw⟩ => ⟨?_, hw⟩
   rw [he, acY (by omega), acY (by omega), uI]
  ·obtain rfl : l1 = [] := acP (by omega);obtain rfl : l2 = [] := acP (by omega);obtain rfl : n1 = 0 := by omega
   clear h1 h2 zy sG h0;rw [ac4 rfl];go_enter func46, ntmps46
   go_wp2;refine wp_loop_rounds 1 ?_;rw [rounds_succ];go_wp2;go_ret;exact ⟨rfl, 0, rfl⟩
 ·have hd : decide (l1 = l2) = false := ac1 (by rintro rfl; omega);rw [hd];have hi : ¬ (n1 : Int) = (n2 : Int) := by omega
  clear h1 h2 hd zy sG;go_enter func46, ntmps46
  go_wp2;go_ret;exact ⟨rfl, 0, rfl⟩
end Go.Proofs.YtionbmlicmibgaaGreatDoor
