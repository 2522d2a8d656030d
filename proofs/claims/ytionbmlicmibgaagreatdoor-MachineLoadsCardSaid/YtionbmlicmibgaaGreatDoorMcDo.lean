import Derived.Test.YtionbmlicmibgaaGreatDoorMcIng
set_option linter.unusedVariables false
set_option linter.unusedSimpArgs false
namespace Go.Proofs.YtionbmlicmibgaaGreatDoor
open Go.Proofs.Tryz
open Go.RowKit
set_option maxRecDepth 200000 in
set_option maxHeartbeats 8000000 in
theorem Ky {w : World} {P : Pm} {m : Mp} (h : dc w P m) {v : Value} {l : List UInt8} (hv : By w v l) (hl : l.length ≤ 1100000) {se sq a : Int} {sp : List Sp} {vo : List Int} (hg : jY l = some ⟨2, se, sq, a, sp, vo⟩) : Calls prog 111 #[.pointer (some ⟨P.gi, 0, none⟩), v] w (yN w P (jX m (some ⟨2, se, sq, a, sp, vo⟩))) := by
 obtain ⟨p, n, c, rfl⟩ := hv.sl;have hA := (acG w.heap.size w).alloc (acE _) (.cells #[.int .i64 0, .int .i64 0, .int .i64 0, .int .i64 0, .int .i64 0, .int .i64 0, .int .i64 0, .int .i64 0] 66);have GT := af (ja (hv.below hA) hl);rw [hg] at GT;have HR := af (di.new w iG);have HA := af hA;have HM := af h;have fh := af (gD hg).1;have vp := h.row.lt;clear h hv hl hg hA;go_enter afm, afj
 go_wp2_with fail
 refine GT.out.mono ?_;rintro e w1 ⟨ps, ns, ds, pv, nv, dv, rfl, q_, fj, aK⟩;unfold pW;dsimp only;have aS := af (HA.out.trans (aK.mono HA.out.size));have eO := HR.out.below aK;have hB := (acG w1.heap.size w1).alloc (acE _) (.cells #[.int .i64 2, .int .i64 se, .int .i64 sq, .int .i64 a, .slice ps ns ds, .slice pv nv dv] 25);have jb := (q_.below hB)
 have jc := (fj.below hB)
 have kt : w.heap.size < w1.heap.size := eO.lt;go_upto_region 2 with fail
 obtain ⟨X, hX⟩ : ∃ X, w1.alloc (.cells #[.int .i64 2, .int .i64 se, .int .i64 sq, .int .i64 a, .slice ps ns ds, .slice pv nv dv] 25) = X := ⟨_, rfl⟩
 have hb := bk.new (k := 2) (se := se) (sq := sq) (a := a) (vs := .slice ps ns ds) (vv := .slice pv nv dv) w1;rw [hX] at hb hB jb jc;obtain ⟨b, eS⟩ : ∃ b, w1.heap.size = b := ⟨_, rfl⟩
 obtain ⟨r, cT⟩ : ∃ r, w.heap.size = r := ⟨_, rfl⟩
 have HX := af (aS.out.trans (hB.mono aS.out.size));have jB := HM.out.below HX.out;have nG := eO.below hB;rw [cT] at nG;rw [eS] at hb;have b_ : Hid (r < b ∧ w.heap.size = r ∧ P.gi < r ∧ (∀ k, kU P k → k < r)) := af ⟨by omega, cT, by omega, fun k hk => by have := HM.out.lt k hk; omega⟩;have U4 : Hid (aI r X (.slice ps ns ds) sp) := af (by rw [← cT]; exact jb.mono HA.out.size);have vq : Hid (bJ (r + 1) X (.slice pv nv dv) vo) := af (jc.mono (by simp; omega));have jE := af jB;have mR := af nG;have dH := af hb;obtain ⟨x0, x1, x2, x3, x4, x5⟩ := hb.box;have z0 := jB.row.c0;have z1 := jB.row.c1;have z2 := jB.row.c2;rw [hX, eS, cT];clear hX eS cT q_ fj aK eO hB jb jc kt hb jB nG aS HR GT vp;have Si := fh.out;rw [Cm.aO] at Si;obtain ⟨h3, h4⟩ : ((1 ≤ se ∧ se ≤ 1099511627776) ∧ 1 ≤ sq ∧ sq ≤ 1099511627776) ∧ fJ sp = true := by
  rcases Si with ⟨e, _⟩ | ⟨_, _, e1, e2, e3⟩ | ⟨e, _⟩ | ⟨e, _⟩ | ⟨e, _⟩
  ·rcases e with e | e <;> cases e
  ·exact ⟨⟨dj.1 e1, dj.1 e2⟩, e3⟩
  ·cases e
  ·cases e
  ·cases e
 have h5 : sp.length ≤ 100000 ∧ ∀ x ∈ sp, x.n.size ≤ 1100000 := by
  unfold fJ at h4;rw [adb, dj, adl] at h4;refine ⟨by omega, fun x hx => ?_⟩;have h6 : x.n.data.toList.length ≤ 32 := ((Sp.aO x).1 (h4.2 x hx)).n2;have h7 : x.n.data.toList.length = x.n.size := by simp
  omega
 have HIN := af (AX jE.out (k := 2) (a := a) (q := pv) (mq := nv) (f := dv) U4.out.gp h5.1 h5.2 h3.1 h3.2 (vo := vo));obtain ⟨rq, er, m2, hi⟩ : ∃ rq er m2, qe m ⟨2, se, sq, a, sp, vo⟩ = (rq, er, m2) := ⟨_, _, _, rfl⟩
 rw [hi] at HIN;have HI := af hi;clear hi h3 h4 h5 Si z0 z1 z2;go_wp2_with fail
 refine HIN.out.mono ?_;rintro e w2 ⟨rfl, P', eZ⟩;unfold wY;dsimp only;have nQ : ¬ Dz P r := jE.out.yH mR.out.z.1 (fun e => by have := b_.out.2.2.1; omega);have mS := af eZ;have aM := mR.out.aU eZ.aU nQ;clear eZ nQ x0 x1 x2 x3 x4 x5;obtain ⟨j0, j1, j2, j3, j4, j5, j6, j7⟩ := (aM).z;obtain ⟨f0, f1, f2, f3, f4, f5, f6, f7⟩ := (aM).f;unfold iG at j0 j1 j2 j3 j4 j5 j6 j7;dsimp only at j0 j1 j2 j3 j4 j5 j6 j7;go_wp2_with fail
 have hst := cV (aM) ⟨rq.er, rq.rs, rq.gn, rq.ad, rq.sa, rq.ot, rq.cy, rq.fu⟩;have hcs := bT w2 r ⟨rq.er, rq.rs, rq.gn, rq.ad, rq.sa, rq.ot, rq.cy, rq.fu⟩;unfold kV at hst hcs;dsimp only at hst hcs;refine ac0 (v := .tuple #[.agg #[.int .i64 rq.er, .int .i64 rq.rs, .int .i64 rq.gn, .int .i64 rq.ad, .int .i64 rq.sa, .int .i64 rq.ot, .int .i64 rq.cy, .int .i64 rq.fu], rR er]) (by
   generalize World.setCell (World.setCell (World.setCell (World.setCell (World.setCell (World.setCell (World.setCell (World.setCell w2 ⟨r, 0, none⟩ (.int .i64 rq.er)) ⟨r, 1, none⟩ (.int .i64 rq.rs)) ⟨r, 2, none⟩ (.int .i64 rq.gn)) ⟨r, 3, none⟩ (.int .i64 rq.ad)) ⟨r, 4, none⟩ (.int .i64 rq.sa)) ⟨r, 5, none⟩ (.int .i64 rq.ot)) ⟨r, 6, none⟩ (.int .i64 rq.cy)) ⟨r, 7, none⟩ (.int .i64 rq.fu) = W9 at hst ⊢;obtain ⟨m0, m1, m2, m3, m4, m5, m6, m7⟩ := hst.z;dsimp only at m0 m1 m2 m3 m4 m5 m6 m7;simp [results, ae3, go_sem, m0, m1, m2, m3, m4, m5, m6, m7]) rfl ?_
 have kO : jX m (some ⟨2, se, sq, a, sp, vo⟩) = (rq, er, m2) := by
  rw [← HI.out];unfold jX;dsimp only;rw [acO (by decide), acW rfl]
 rw [kO];refine ⟨rfl, P', fV.box HM.out.er (mS.out.from HX.out) hcs (by have := b_.out; omega) (fun hk => ?_)⟩;rcases mS.out.new r hk with e | e
 ·have := b_.out.2.2.2 r e; omega
 ·have := mR.out.lt; omega
theorem yQ {w : World} {P : Pm} {m : Mp} (h : dc w P m) {v : Value} {l : List UInt8} (hv : By w v l) (hl : l.length ≤ 1100000) : Calls prog 111 #[.pointer (some ⟨P.gi, 0, none⟩), v] w (yN w P (jX m (jY l))) := by
 cases hg : jY l with
 | none => exact Kx h hv hl hg
 | some c =>
  have aT := (gD hg).1;rw [Cm.aO] at aT;obtain ⟨k, se, sq, a, sp, vo⟩ := c;rcases aT with ⟨e | e, _⟩ | ⟨e, _⟩ | ⟨e, _⟩ | ⟨e, _⟩ | ⟨e, _⟩ <;> (dsimp only at e; subst e)
  ·exact Kr h hv hl hg
  ·exact Kt h hv hl hg
  ·exact Ky h hv hl hg
  ·exact Ku h hv hl hg
  ·exact Kv h hv hl hg
  ·exact Kw h hv hl hg
open Go.RowKit
noncomputable def Qk (m : Mp) (ix tm : Int) (l : List UInt8) : Rp × Mp :=
 if (jX { m with ix := ix, tm := tm } (jY l)).2.1 = 0 then ((jX { m with ix := ix, tm := tm } (jY l)).1, (jX { m with ix := ix, tm := tm } (jY l)).2.2)
 else (⟨(jX { m with ix := ix, tm := tm } (jY l)).2.1, 0, 0, 0, 0, 0, 0, 0⟩, (jX { m with ix := ix, tm := tm } (jY l)).2.2)
def DoP (w : World) (P : Pm) (x : Rp × Mp) (e : Ending) (w' : World) : Prop := e = .returned (wY x.1) ∧ ∃ P', fV w w' P P' x.2
theorem dc.ixt {w w' : World} {P : Pm} {m : Mp} (h : dc w P m) {ix tm : Int} (h0 : 0 ≤ ix ∧ ix ≤ 1099511627776) (h1 : 0 ≤ tm ∧ tm ≤ 1099511627776) (hc : ak w w' fun k => k = P.gi) (aM : iq w' P { m with ix := ix, tm := tm }) : dc w' P { m with ix := ix, tm := tm } :=
 ⟨aM, h.so.aU hc (fun k hk => (h.a1 k hk).1), h.pl, h.tb.aU hc (fun e => h.a2.1 e.symm) (fun e => h.a2.2 e.symm), h.vo.eG hc (fun k hk => (h.a3 k hk).1), ⟨h0.1, h0.2, h1.1, h1.2, h.ok.vo⟩, h.er.aU hc (fun (e : 0 = P.gi) => h.nz P.gi (.inl rfl) e.symm), h.a1, h.a2, h.a3, h.nz⟩
theorem By.Sj {w w' : World} {P : Pm} {m : Mp} {v : Value} {l : List UInt8} (h : dc w P m) (hv : By w v l) (hc : ak w w' fun k => k = P.gi) : By w' v l := by
 obtain ⟨p, c, e, h1, h2, h3, h4⟩ := hv;refine ⟨p, c, e, h1, h2, h3, fun a ha i x hi => hc.cell (h4 a ha i x hi) (fun hb => ?_)⟩;have hh := h4 a ha i x hi;have lJ : ∀ z, P.vv ≠ .int .u8 z := by
  obtain ⟨hl, ⟨e1, h0⟩ | ⟨g, cap, cur, e1, _⟩⟩ := h.vo.1 <;> (intro z; rw [e1]; exact fun e => by cases e)
 have aM := h.row;unfold iq at aM;unfold World.cell? at hh;rw [show (a.add i).block = P.gi from hb, aM] at hh;dsimp only at hh
 split at hh
 ·cases hh
 ·generalize (a.add i).off = o at hh;rcases o with _ | _ | _ | _ | _ | o
  ·cases hh
  ·cases hh
  ·cases hh
  ·cases hh
  ·exact lJ _ (ac3 hh)
  ·simp at hh
set_option maxRecDepth 200000 in
set_option maxHeartbeats 8000000 in
theorem NW {w : World} {P : Pm} {m : Mp} (h : dc w P m) {ix tm : Int} (h0 : 0 ≤ ix ∧ ix ≤ 1099511627776) (h1 : 0 ≤ tm ∧ tm ≤ 1099511627776) {v : Value} {l : List UInt8} (hv : By w v l) (hl : l.length ≤ 1100000) : Calls prog 78 #[.pointer (some ⟨P.gi, 0, none⟩), .agg #[.int .i64 ix, .int .i64 tm, v]] w (DoP w P (Qk m ix tm l)) := by
 obtain ⟨p, n, c, rfl⟩ := hv.sl;have hA := (acG w.heap.size w).alloc (acE _) (.cells #[.int .i64 ix, .int .i64 tm, .slice p n c] 55);have hB := hA.alloc (o := .cells #[.int .i64 0, .int .i64 0, .int .i64 0, .int .i64 0, .int .i64 0, .int .i64 0, .int .i64 0, .int .i64 0] 66) (by simp);have hE : (w.alloc (.cells #[.int .i64 ix, .int .i64 tm, .slice p n c] 55)).heap[w.heap.size]? = _ := acQ _ _;have Wa := (((acG _ _).alloc (acE _) (.cells #[.int .i64 0, .int .i64 0, .int .i64 0, .int .i64 0, .int .i64 0, .int .i64 0, .int .i64 0, .int .i64 0] 66)).block w.heap.size (by simp)).trans hE;have hr := di.new (w.alloc (.cells #[.int .i64 ix, .int .i64 tm, .slice p n c] 55)) iG;have GL : (w.alloc (.cells #[.int .i64 ix, .int .i64 tm, .slice p n c] 55)).heap.size = w.heap.size + 1 := by simp
 rw [GL] at hr;have HM := af h;have HV := af (acD hv hl);have H01 := af (acD h0 h1);go_enter func78, ntmps78
 go_upto_region 1 with fail
 obtain ⟨X, hX⟩ : ∃ X, (w.alloc (.cells #[.int .i64 ix, .int .i64 tm, .slice p n c] 55)).alloc (.cells #[.int .i64 0, .int .i64 0, .int .i64 0, .int .i64 0, .int .i64 0, .int .i64 0, .int .i64 0, .int .i64 0] 66) = X := ⟨_, rfl⟩
 have yF : di X (w.heap.size + 1) iG := by rw [← hX]; exact hr
 have NV : X.heap[w.heap.size]? = some (.cells #[.int .i64 ix, .int .i64 tm, .slice p n c] 55 (0, 0)) := by rw [← hX]; exact Wa
 have GM : Below w.heap.size w X := by rw [← hX]; exact hB
 obtain ⟨b, eS⟩ : ∃ b, w.heap.size = b := ⟨_, rfl⟩
 obtain ⟨r, cT⟩ : ∃ r, b + 1 = r := ⟨_, rfl⟩
 rw [hX, eS, cT];rw [eS] at yF NV;rw [cT] at yF;have HX := af GM;have jE := af (h.below GM);have mR := af yF;have b_ : Hid (w.heap.size = b ∧ b + 1 = r ∧ (∀ k, kU P k → k < b)) := af ⟨eS, cT, fun k hk => by have := h.lt k hk; omega⟩;have x0 := acC X b 0 _ 55 (0, 0) NV;have x1 := acC X b 1 _ 55 (0, 0) NV;have x2 := acC X b 2 _ 55 (0, 0) NV;have jM : Hid (¬ P.gi = b ∧ ¬ P.gi = r) := af (by have h2 := b_.out; have := h2.2.2 P.gi (.inl rfl); exact ⟨by omega, by omega⟩);have rh := af x2;dsimp at x0 x1;clear h hA hB hE Wa hr GL hX yF NV GM eS cT hv hl h0 h1;refine ado (S := (fun U => U.cell? ⟨b, 0, none⟩ = some (.int .i64 ix) ∧ U.cell? ⟨b, 1, none⟩ = some (.int .i64 tm))) (by kernel_rfl) ?_ (fun hHeld => ?_)
 ·(try dsimp only)
  exact ⟨x0, x1⟩
 have D5 : Hid (Below X.heap.size X X.drew) := af (ag X 1);generalize X.drew = V at D5 hHeld ⊢;have z2 := (jE.out.below D5.out).row.c2;have z3 := (jE.out.below D5.out).row.c3;have f2 := (jE.out.below D5.out).row.fr 2;have f3 := (jE.out.below D5.out).row.fr 3;refine ao 0 rfl ?_;refine ao 1 rfl ?_;refine ao 2 rfl ?_;refine ao 3 rfl ?_;refine ao 4 rfl ?_;refine ao 5 rfl ?_;refine ao 6 rfl ?_;refine ao 7 rfl ?_;refine acU (rs := [8]) (by kernel_rfl) (by simp) ?_;refine dz rfl (fun K hK => ?_) ?_
 ·go_simp;first
   | refine hK.out _ _ ?_ (fun hHeld => ?_)
   | (go_wp2_with fail; refine hK.out _ _ ?_ (fun hHeld => ?_))
  ·(try dsimp only)
   exact ⟨(aC _ _ _ _).cell hHeld.1 (fun (e : b = P.gi) => jM.out.1 e.symm), (aC _ _ _ _).cell hHeld.2 (fun (e : b = P.gi) => jM.out.1 e.symm)⟩
  clear hK K;try simp only [Act.put, qA, qB, qC]
  refine ao 9 rfl ?_;refine ao 10 rfl ?_;refine acU (rs := [11]) (by kernel_rfl) (by simp) ?_;refine dz rfl (fun K hK => ?_) ?_
  ·go_simp;first
    | refine hK.out _ _ ?_ (fun hHeld => ?_)
    | (go_wp2_with fail; refine hK.out _ _ ?_ (fun hHeld => ?_))
   ·(try dsimp only)
    exact ⟨(aC _ _ _ _).cell hHeld.1 (fun (e : b = P.gi) => jM.out.1 e.symm), (aC _ _ _ _).cell hHeld.2 (fun (e : b = P.gi) => jM.out.1 e.symm)⟩
   clear hK K;try simp only [Act.put, qA, qB, qC]
   refine adO (by kernel_rfl) ?_ _;obtain ⟨Y, hY⟩ : ∃ Y, (V.setCell ⟨P.gi, 2, none⟩ (.int .i64 ix)).setCell ⟨P.gi, 3, none⟩ (.int .i64 tm) = Y := ⟨_, rfl⟩
   have df : ak V Y fun k => k = P.gi := by rw [← hY]; exact eG (aC _ _ _ _) (aC _ _ _ _)
   have aM : iq Y P { m with ix := ix, tm := tm } := by
    have h1 := (jE.out.below D5.out).row;have h2 : (V.setCell ⟨P.gi, 2, none⟩ (.int .i64 ix)).heap[P.gi]? = some (.cells #[.pointer (some ⟨P.gs, 0, none⟩), .pointer (some ⟨P.gt, 0, none⟩), .int .i64 ix, .int .i64 m.tm, P.vv] 131 (0, 0)) := by
     rw [acK V P.gi 2 _ 131 _ h1]; rfl
    unfold iq;rw [← hY, acK _ P.gi 3 _ 131 _ h2];rfl
   have vY := af ((jE.out.below D5.out).ixt H01.out.1 H01.out.2 df aM);have Ao := af df;have oO := af ((mR.out.below D5.out).aU df (fun (e : r = P.gi) => jM.out.2 e.symm));have aai := af (df.cell (D5.out.cell (lt_of_cell rh.out) |>.trans rh.out) (fun (e : b = P.gi) => jM.out.1 e.symm));rw [hY];clear hY df aM z2 z3 f2 f3;have HVY := af (By.Sj (jE.out.below D5.out) (HV.out.1.below (HX.out.trans (D5.out.mono HX.out.size))) Ao.out);obtain ⟨rc, er, m2, hi⟩ : ∃ rc er m2, jX { m with ix := ix, tm := tm } (jY l) = (rc, er, m2) := ⟨_, _, _, rfl⟩
   have Qr := af (yQ vY.out HVY.out HV.out.2);rw [hi] at Qr;have hd : Qk m ix tm l = if er = 0 then (rc, m2) else (⟨er, 0, 0, 0, 0, 0, 0, 0⟩, m2) := by unfold Qk; rw [hi]
   have HD := af hd;clear hd hi;have y2 := aai.out;go_wp2_with fail
   refine Qr.out.mono ?_;rintro e w1 ⟨rfl, P', eZ⟩;unfold wY;dsimp only;have mS := af eZ;have Kz := af (oO.out.aU eZ.aU (vY.out.yH oO.out.z.1 (fun e => jM.out.2 e.symm)));clear eZ y2;have Zq : Hid (¬ kU P' r) := af (fun hk => by
    rcases mS.out.new r hk with e | e
    ·have := b_.out.2.2 r e; have := b_.out.2.1; omega
    ·have := oO.out.lt; omega)
   have Wn : Hid (fV w w1 P P' m2) := af ⟨mS.out.is, mS.out.gi, ((ak.of_below (HX.out.trans (D5.out.mono HX.out.size)) (Dz P)).trans (Ao.out.mono (S' := Dz P) (fun k e => .inl e)) (fun k e => .inl e)).trans mS.out.aU (fun k e => .inl e), fun k hk => (mS.out.new k hk).imp id (fun e => acN (acN (HX.out.trans (D5.out.mono HX.out.size)).size Ao.out.size) e)⟩;have vZ := (acG w1.heap.size w1).alloc (acE _) (.cells #[.int .i64 rc.er, .int .i64 rc.rs, .int .i64 rc.gn, .int .i64 rc.ad, .int .i64 rc.sa, .int .i64 rc.ot, .int .i64 rc.cy, .int .i64 rc.fu] 66);have Qs := vZ.alloc (o := .cells #[.int .i64 0] 33) vZ.size;have hq5 := (di.new w1 rc).below ((acG _ _).alloc (acE _) (.cells #[.int .i64 0] 33));have h7 : ((w1.alloc (.cells #[.int .i64 rc.er, .int .i64 rc.rs, .int .i64 rc.gn, .int .i64 rc.ad, .int .i64 rc.sa, .int .i64 rc.ot, .int .i64 rc.cy, .int .i64 rc.fu] 66)).alloc (.cells #[.int .i64 0] 33)).heap[w1.heap.size + 1]? = some (.cells #[.int .i64 0] 33 (0, 0)) := by
    have h8 := acQ (w1.alloc (.cells #[.int .i64 rc.er, .int .i64 rc.rs, .int .i64 rc.gn, .int .i64 rc.ad, .int .i64 rc.sa, .int .i64 rc.ot, .int .i64 rc.cy, .int .i64 rc.fu] 66)) (.cells #[.int .i64 0] 33);rw [show (w1.alloc (.cells #[.int .i64 rc.er, .int .i64 rc.rs, .int .i64 rc.gn, .int .i64 rc.ad, .int .i64 rc.sa, .int .i64 rc.ot, .int .i64 rc.cy, .int .i64 rc.fu] 66)).heap.size = w1.heap.size + 1 by simp] at h8;exact h8
   have cE := af Qs;have HQ5 := af hq5;have H7 := af h7;clear vZ Qs hq5 h7;by_cases he : er = 0
   ·subst he;rw [show rR 0 = .nilIface from rfl];go_wp2_with fail
    refine (Sk _ _).mono ?_;rintro e w2 ⟨rfl, rfl⟩;have Da := af (Kz.out.below cE.out);have Zx := af (Wn.out.below cE.out);generalize (w1.alloc (.cells #[.int .i64 rc.er, .int .i64 rc.rs, .int .i64 rc.gn, .int .i64 rc.ad, .int .i64 rc.sa, .int .i64 rc.ot, .int .i64 rc.cy, .int .i64 rc.fu] 66)).alloc (.cells #[.int .i64 0] 33) = W at Da Zx HQ5 ⊢;obtain ⟨q0, q1, q2, q3, q4, q5, q6, q7⟩ := HQ5.out.z;obtain ⟨j0, j1, j2, j3, j4, j5, j6, j7⟩ := Da.out.z;obtain ⟨f0, f1, f2, f3, f4, f5, f6, f7⟩ := Da.out.f;go_wp2_with fail
    have hst := cV Da.out rc;have hcs := bT W r rc;unfold kV at hst hcs;try dsimp only at hst hcs
    refine ac0 (v := .agg #[.int .i64 rc.er, .int .i64 rc.rs, .int .i64 rc.gn, .int .i64 rc.ad, .int .i64 rc.sa, .int .i64 rc.ot, .int .i64 rc.cy, .int .i64 rc.fu]) (by
     generalize World.setCell (World.setCell (World.setCell (World.setCell (World.setCell (World.setCell (World.setCell (World.setCell W ⟨r, 0, none⟩ (.int .i64 rc.er)) ⟨r, 1, none⟩ (.int .i64 rc.rs)) ⟨r, 2, none⟩ (.int .i64 rc.gn)) ⟨r, 3, none⟩ (.int .i64 rc.ad)) ⟨r, 4, none⟩ (.int .i64 rc.sa)) ⟨r, 5, none⟩ (.int .i64 rc.ot)) ⟨r, 6, none⟩ (.int .i64 rc.cy)) ⟨r, 7, none⟩ (.int .i64 rc.fu) = W9 at hst ⊢;obtain ⟨m0, m1, m2, m3, m4, m5, m6, m7⟩ := hst.z;try dsimp only at m0 m1 m2 m3 m4 m5 m6 m7
     simp [results, results78, go_sem, m0, m1, m2, m3, m4, m5, m6, m7]) rfl ?_
    rw [HD.out];try rw [acW rfl]
    try rw [acW aev]
    exact ⟨rfl, P', Zx.out.box HM.out.er hcs (by have := b_.out; omega) Zq.out⟩
   ·have hev : rR er = .iface 238 (.agg #[.int .i64 er]) := acO he;have HE := af he;rw [hev];clear he hev;go_wp2_with fail
    refine (N_ er _ (.int .i64 0) _ (Wn.out.below cE.out).is.er (acC _ _ 0 _ 33 (0, 0) H7.out) (acI _ _ 0 _ 33 H7.out)).mono ?_;rintro e w2 ⟨rfl, h71, h7c⟩;have jd : Hid (¬ r = w1.heap.size + 1 ∧ w.heap.size ≤ w1.heap.size + 1 ∧ ¬ kU P' (w1.heap.size + 1)) := af ⟨(fun e => by have := Kz.out.lt; omega), (by have := Wn.out.aU.size; omega), (fun e => by have := Wn.out.is.lt _ e; omega)⟩;have Da := af ((Kz.out.below cE.out).aU h7c jd.out.1);have Zx := af ((Wn.out.below cE.out).box HM.out.er h7c jd.out.2.1 jd.out.2.2);obtain ⟨b7, cZ⟩ : ∃ b, w1.heap.size + 1 = b := ⟨_, rfl⟩
    rw [cZ] at h71 ⊢;clear h7c cZ;obtain ⟨j0, j1, j2, j3, j4, j5, j6, j7⟩ := Da.out.z;obtain ⟨f0, f1, f2, f3, f4, f5, f6, f7⟩ := Da.out.f;go_wp2_with fail
    have hst := cV Da.out ⟨er, 0, 0, 0, 0, 0, 0, 0⟩;have hcs := bT w2 r ⟨er, 0, 0, 0, 0, 0, 0, 0⟩;unfold kV at hst hcs;try dsimp only at hst hcs
    refine ac0 (v := .agg #[.int .i64 er, .int .i64 0, .int .i64 0, .int .i64 0, .int .i64 0, .int .i64 0, .int .i64 0, .int .i64 0]) (by
     generalize World.setCell (World.setCell (World.setCell (World.setCell (World.setCell (World.setCell (World.setCell (World.setCell w2 ⟨r, 0, none⟩ (.int .i64 er)) ⟨r, 1, none⟩ (.int .i64 0)) ⟨r, 2, none⟩ (.int .i64 0)) ⟨r, 3, none⟩ (.int .i64 0)) ⟨r, 4, none⟩ (.int .i64 0)) ⟨r, 5, none⟩ (.int .i64 0)) ⟨r, 6, none⟩ (.int .i64 0)) ⟨r, 7, none⟩ (.int .i64 0) = W9 at hst ⊢;obtain ⟨m0, m1, m2, m3, m4, m5, m6, m7⟩ := hst.z;try dsimp only at m0 m1 m2 m3 m4 m5 m6 m7
     simp [results, results78, go_sem, m0, m1, m2, m3, m4, m5, m6, m7]) rfl ?_
    rw [HD.out, acO HE.out];exact ⟨rfl, P', Zx.out.box HM.out.er hcs (by have := b_.out; omega) Zq.out⟩
  exact acR
 exact acR
end Go.Proofs.YtionbmlicmibgaaGreatDoor
