import Derived.Test.YtionbmlicmibgaaGreatDoorMcApp
set_option linter.unusedVariables false
set_option linter.unusedSimpArgs false
namespace Go.Proofs.YtionbmlicmibgaaGreatDoor
open Go.Proofs.Tryz
open Go.RowKit
theorem Er {w : World} {gm : Nat} {P : Pm} {m : Mp} (h : dK w gm P m) : Calls prog 40 #[.pointer (some ⟨gm, 0, none⟩)] w fun e w' => e = .returned (.int .i64 m.ix) ∧ w' = w := by
 have h0 := h.cell;have h1 := h.is.row.c2;have HM := af h;clear h;go_enter func40, ntmps40
 go_wp2_with fail
 refine (ff HM.out).mono ?_;rintro e w2 ⟨rfl, rfl⟩;go_wp2_with fail
 go_ret;exact ⟨rfl, rfl⟩
theorem Ia {w : World} {gm : Nat} {P : Pm} {m : Mp} (h : dK w gm P m) : Calls prog 41 #[.pointer (some ⟨gm, 0, none⟩)] w fun e w' => e = .returned (.int .i64 m.tm) ∧ w' = w := by
 have h0 := h.cell;have h1 := h.is.row.c3;have HM := af h;clear h;go_enter func41, ntmps41
 go_wp2_with fail
 refine (ff HM.out).mono ?_;rintro e w2 ⟨rfl, rfl⟩;go_wp2_with fail
 go_ret;exact ⟨rfl, rfl⟩
theorem yY {w : World} {gm : Nat} {P : Pm} {m : Mp} (h : dK w gm P m) : Calls prog 50 #[.pointer (some ⟨gm, 0, none⟩)] w fun e w' => ∃ v', e = .returned v' ∧ bJ w.heap.size w' v' m.vo ∧ Below w.heap.size w w' := by
 have h0 := h.cell;have h1 := h.is.row.c4;have HM := af h;have HC := af (sY h.is.vo.ns (by have := jN h.is.ok.vo; omega));clear h;go_enter func50, ntmps50
 go_wp2_with fail
 refine (ff HM.out).mono ?_;rintro e w2 ⟨rfl, rfl⟩;go_wp2_with fail
 refine HC.out.mono ?_;rintro e w3 ⟨v', rfl, ho, hb⟩;go_wp2_with fail
 go_ret;exact ⟨_, rfl, ho, hb⟩
theorem zi {w : World} {gm : Nat} {P : Pm} {m : Mp} (h : dK w gm P m) {k : Int} (hk : (Lit.int .i64 k).wf = true) : Calls prog 47 #[.pointer (some ⟨gm, 0, none⟩), .int .i64 k] w fun e w' => ∃ v', e = .returned v' ∧ bQ w.heap.size w' v' (g_ m.S k) ∧ Below w.heap.size w w' := by
 have h0 := h.cell;have h1 := h.is.row.c0;have HM := af h;have HC := Bb h.is.so hk;rw [h.is.pl] at HC;have HC := af HC;clear h;go_enter func47, ntmps47
 go_wp2_with fail
 refine (ff HM.out).mono ?_;rintro e w2 ⟨rfl, rfl⟩;go_wp2_with fail
 refine HC.out.mono ?_;rintro e w3 ⟨v', rfl, ho, hb⟩;go_wp2_with fail
 go_ret;exact ⟨_, rfl, ho, hb⟩
theorem oQ {w : World} {gm : Nat} {P : Pm} {m : Mp} (h : dK w gm P m) : Calls prog 42 #[.pointer (some ⟨gm, 0, none⟩)] w (sZ w P.R) := by
 have h0 := h.cell;have h1 := h.is.row.c0;have HM := af h;have HC := af (ry h.is.so);clear h;go_enter func42, ntmps42
 go_wp2_with fail
 refine (ff HM.out).mono ?_;rintro e w2 ⟨rfl, rfl⟩;go_wp2_with fail
 refine HC.out.mono ?_;rintro e w3 ⟨v', rfl, ho, hb⟩;go_wp2_with fail
 go_ret;exact ⟨_, rfl, ho, hb⟩
theorem A4 {w : World} {gm : Nat} {P : Pm} {m : Mp} (h : dK w gm P m) : Calls prog 44 #[.pointer (some ⟨gm, 0, none⟩)] w (xw w m.L) := by
 have h0 := h.cell;have h1 := h.is.row.c1;have HM := af h;have HC := af (j8 h.is.tb);clear h;go_enter func44, ntmps44
 go_wp2_with fail
 refine (ff HM.out).mono ?_;rintro e w2 ⟨rfl, rfl⟩;go_wp2_with fail
 refine HC.out.mono ?_;rintro e w3 ⟨v', rfl, ho, hb⟩;go_wp2_with fail
 go_ret;exact ⟨_, rfl, ho, hb⟩
open Go.RowKit
def WC (w : World) (ok : Bool) (m : Mp) (x : Int) (e : Ending) (w' : World) : Prop :=
 Below w.heap.size w w' ∧ if ok = true then ∃ gm P, e = .returned (.tuple #[.pointer (some ⟨gm, 0, none⟩), .int .i64 0]) ∧ dK w' gm P m ∧ (∀ k, kU P k → w.heap.size ≤ k) ∧ w.heap.size ≤ gm
 else e = .returned (.tuple #[.pointer none, .int .i64 x])
set_option maxHeartbeats 4000000 in
theorem Ko {w : World} (hE : ko w) {v : Value} {l : List Int} (hv : Ns w v l) : Calls prog 28 #[v] w (WC w (lU l) ⟨0, 0, l, [], []⟩ 1) := by
 have HE := af hE;have HV := af hv;have D5 := af (qf hv);clear hE hv;go_enter func28, ntmps28
 go_wp2_with fail
 refine D5.out.mono ?_;rintro e w1 ⟨rfl, aK⟩;have aS := af aK;clear aK;cases ho : lU l
 ·go_wp2_with fail
  refine ac0 (v := .tuple #[.pointer none, .int .i64 1]) (by simp [results, results28, go_sem]) rfl ?_;exact ⟨aS.out, by rw [ho]; rfl⟩
 ·go_wp2_with fail
  refine (Ba _).mono ?_;rintro e w2 ⟨gs, bm, R, rfl, Hy, Hz, KW, aP⟩;have H2 := af (acD Hy (acD Hz (acD KW aP)));clear Hy Hz KW aP;go_wp2_with fail
  refine (ru _).mono ?_;rintro e w3 ⟨rfl, Ny, cF⟩;have H3 := af (acD Ny cF);clear Ny cF;go_wp2_with fail
  have SC := aS.out.trans ((H2.out.2.2.2.trans (H3.out.2.mono H2.out.2.2.2.size)).mono aS.out.size);refine (sY (HV.out.below SC) (by have := jN ho; omega)).mono ?_;rintro e w4 ⟨vv, rfl, fj, bY⟩;obtain ⟨pv, nv, cv, rfl⟩ : ∃ p n c, vv = .slice p n c := by
   obtain ⟨_, ⟨e1, _⟩ | ⟨g, cap, cur, e1, _⟩⟩ := fj.1
   ·exact ⟨_, _, _, e1⟩
   ·exact ⟨_, _, _, e1⟩
  have H4 := af (acD fj bY);have ZF := af SC;clear fj bY SC;go_wp2_with fail
  obtain ⟨Hy, Hz, KW, aP⟩ := H2.out;obtain ⟨Ny, cF⟩ := H3.out;obtain ⟨fj, bY⟩ := H4.out;have hA := (acG w4.heap.size w4).alloc (acE _) (.cells #[.pointer (some ⟨gs, 0, none⟩), .pointer (some ⟨w2.heap.size + 1, 0, none⟩), .int .i64 0, .int .i64 0, .slice pv nv cv] 131);have hB := hA.alloc (o := .cells #[.pointer (some ⟨w4.heap.size, 0, none⟩)] 99) hA.size;have eO := ((acG _ _).alloc (acE _) (.cells #[.pointer (some ⟨w4.heap.size, 0, none⟩)] 99)).block w4.heap.size (by simp) |>.trans (acQ w4 (.cells #[.pointer (some ⟨gs, 0, none⟩), .pointer (some ⟨w2.heap.size + 1, 0, none⟩), .int .i64 0, .int .i64 0, .slice pv nv cv] 131));have zh := acQ (w4.alloc (.cells #[.pointer (some ⟨gs, 0, none⟩), .pointer (some ⟨w2.heap.size + 1, 0, none⟩), .int .i64 0, .int .i64 0, .slice pv nv cv] 131)) (.cells #[.pointer (some ⟨w4.heap.size, 0, none⟩)] 99);rw [show (w4.alloc (.cells #[.pointer (some ⟨gs, 0, none⟩), .pointer (some ⟨w2.heap.size + 1, 0, none⟩), .int .i64 0, .int .i64 0, .slice pv nv cv] 131)).heap.size = w4.heap.size + 1 by simp] at zh;refine ac0 (v := .tuple #[.pointer (some ⟨w4.heap.size + 1, 0, none⟩), .int .i64 0]) (by simp [results, results28, go_sem]) rfl ?_;generalize ((w4.alloc (.cells #[.pointer (some ⟨gs, 0, none⟩), .pointer (some ⟨w2.heap.size + 1, 0, none⟩), .int .i64 0, .int .i64 0, .slice pv nv cv] 131)).alloc (.cells #[.pointer (some ⟨w4.heap.size, 0, none⟩)] 99)) = W at hB eO zh ⊢;have s1 := aS.out.size;have s2 := aP.size;have s3 := cF.size;have s4 := bY.size;have g1 := Ny.gl;have g2 := Ny.bl;have p0 := HE.out.pos;have hlo : ∀ k, kU ⟨w4.heap.size, gs, bm, w2.heap.size + 1, w2.heap.size, R, .slice pv nv cv⟩ k → w.heap.size ≤ k := by
   rintro k (e | e | e | e | e)
   ·have e : k = w4.heap.size := e; omega
   ·have e : k = w2.heap.size + 1 := e; omega
   ·have e : k = w2.heap.size := e; omega
   ·have := KW k e; omega
   ·have := (fj.lt k e).1; omega
  refine ⟨(ZF.out.trans ((bY.trans (hB.mono s4)).mono ZF.out.size)), ?_⟩;rw [acW ho];refine ⟨_, ⟨w4.heap.size, gs, bm, w2.heap.size + 1, w2.heap.size, R, .slice pv nv cv⟩, rfl, ⟨zh, ⟨eO, Hy.below ((cF.trans (bY.mono s3)).trans (hB.mono (by omega))), Hz, Ny.below (bY.trans (hB.mono s4)), (fj.below hB).mono (adq _), ⟨by simp, by simp, by simp, by simp, ho⟩, HE.out.below (ZF.out.trans ((bY.trans (hB.mono s4)).mono ZF.out.size)), fun k hk => ?_, ⟨?_, ?_⟩, fun k hk => ?_, fun k hk => ?_⟩, fun hk => ?_, by omega⟩, hlo, by omega⟩
  ·have := Hy.lt k hk;exact ⟨by show k ≠ w4.heap.size; omega, by show k ≠ w2.heap.size + 1; omega, by show k ≠ w2.heap.size; omega⟩
  ·show w4.heap.size ≠ w2.heap.size + 1; omega
  ·show w4.heap.size ≠ w2.heap.size; omega
  ·have h5 := fj.lt k hk;exact ⟨by show k ≠ w4.heap.size; omega, by show k ≠ w2.heap.size + 1; omega, by show k ≠ w2.heap.size; omega, fun e => by have := Hy.lt k e; omega⟩
  ·have := hlo k hk; omega
  ·rcases hk with e | e | e | e | e
   ·have e : w4.heap.size + 1 = w4.heap.size := e; omega
   ·have e : w4.heap.size + 1 = w2.heap.size + 1 := e; omega
   ·have e : w4.heap.size + 1 = w2.heap.size := e; omega
   ·have := Hy.lt _ e; omega
   ·have := (fj.lt _ e).2; omega
open Go.RowKit
theorem AK (w : World) (a b c : Int) (ha : fits a) (hb : fits b) (hc : fits c) : Ns (w.alloc (.cells #[.int .i64 a, .int .i64 b, .int .i64 c] 3)) (.slice (some ⟨w.heap.size, 0, none⟩) 3 3) [a, b, c] := by
 refine ⟨_, 3, rfl, acE _, by simp [maxLen], (fun e => by cases e), (by simpa using ⟨ha, hb, hc⟩), fun _ => ⟨w.heap.size, 0, rfl, fun i x hx => ?_⟩⟩;have h := acC _ w.heap.size i _ 3 (0, 0) (acQ w (.cells #[.int .i64 a, .int .i64 b, .int .i64 c] 3));rw [ac2, h]
 match i, hx with
 | 0, hx => simpa using hx
 | 1, hx => simpa using hx
 | 2, hx => simpa using hx
 | i + 3, hx => simp at hx
def dM (m : Mp) : List UInt8 := ((fX [m.ix, m.tm, (m.vo.length : Int)] ++ fX m.vo) ++ NY (br m.S)) ++ NY (dN m.L)
set_option maxRecDepth 200000 in
set_option maxHeartbeats 8000000 in
theorem A3 {w : World} {P : Pm} {m : Mp} (h : dc w P m) (hs : (br m.S).length ≤ 400000) (ht : (dN m.L).length ≤ 400000) : Calls prog 90 #[.pointer (some ⟨P.gi, 0, none⟩)] w (yU w (dM m)) := by
 obtain ⟨pv, nv, cv, lJ⟩ : ∃ p n c, P.vv = .slice p n c := by
  obtain ⟨_, ⟨e1, _⟩ | ⟨g, cap, cur, e1, _⟩⟩ := h.vo.1
  ·exact ⟨_, _, _, e1⟩
  ·exact ⟨_, _, _, e1⟩
 have Db : nv = m.vo.length := by
  have h1 := h.vo.ns;rw [lJ] at h1;exact h1.len.1
 have hlen := jN h.ok.vo;have HM := af h;have U6 := af (acD lJ Db);have De := af (acD hs (acD ht hlen));have HF : Hid (fits m.ix ∧ fits m.tm ∧ fits (nv : Int)) := af (by
  have h1 := h.ok;have := h1.i0; have := h1.i1; have := h1.t0; have := h1.t1;unfold fits;omega)
 have vr : Hid (∀ n ∈ [m.ix, m.tm, (nv : Int)], 0 ≤ n) := af (by
  have h1 := h.ok;have := h1.i0; have := h1.t0;intro n hn;simp at hn;rcases hn with e | e | e <;> omega)
 have eJ : Hid (∀ U, Below w.heap.size w U → U.cell? ⟨P.gi, 2, none⟩ = some (.int .i64 m.ix) ∧ U.cell? ⟨P.gi, 3, none⟩ = some (.int .i64 m.tm) ∧ U.cell? ⟨P.gi, 4, none⟩ = some (.slice pv nv cv)) := af fun U hU => ⟨(h.below hU).row.c2, (h.below hU).row.c3, by rw [← lJ]; exact (h.below hU).row.c4⟩
 have Df : Hid (Below w.heap.size w ((w.drew).alloc (.cells #[.int .i64 m.ix, .int .i64 m.tm, .int .i64 (nv : Int)] 3))) := af ((show Below w.heap.size w w.drew from ag w 1).alloc (show Below w.heap.size w w.drew from ag w 1).size _);clear h lJ Db hlen hs ht;go_enter func90, ntmps90
 go_upto_region 1 with fail
 refine ado (S := (fun U => U.cell? ⟨P.gi, 2, none⟩ = some (.int .i64 m.ix) ∧ U.cell? ⟨P.gi, 3, none⟩ = some (.int .i64 m.tm) ∧ U.cell? ⟨P.gi, 4, none⟩ = some (.slice pv nv cv))) (by kernel_rfl) ?_ (fun hHeld => ?_)
 ·(try dsimp only)
  exact eJ.out _ (ag w 1)
 refine ao 0 rfl ?_;refine ao 1 rfl ?_;refine ao 2 rfl ?_;refine ao 3 rfl ?_;refine ao 4 rfl ?_;refine ao 5 rfl ?_;refine ao 6 rfl ?_;refine ao 7 rfl ?_;refine ao 8 rfl ?_;refine ao 9 rfl ?_;refine ao 10 rfl ?_;refine ao 11 rfl ?_;refine ao 12 rfl ?_;refine acU (rs := [13]) (by kernel_rfl) (by simp) ?_;refine dz rfl (fun K hK => ?_) ?_
 ·go_simp;first
   | refine hK.out _ _ ?_ (fun hHeld => ?_)
   | (go_wp2_with fail; refine hK.out _ _ ?_ (fun hHeld => ?_))
  ·(try dsimp only)
   exact eJ.out _ Df.out
  clear hK K;try simp only [Act.put, qA, qB, qC]
  refine acU (rs := [14]) (by kernel_rfl) (by simp) ?_;refine dz rfl (fun K hK => ?_) ?_
  ·go_simp;go_at_call 55
   refine (jg (Own.nil w.heap.size _) (by simp) (show Ns ((w.drew).alloc (.cells #[.int .i64 m.ix, .int .i64 m.tm, .int .i64 (nv : Int)] 3)) (.slice (some ⟨w.heap.size, 0, none⟩) 3 3) [m.ix, m.tm, (nv : Int)] from AK w.drew _ _ _ HF.out.1 HF.out.2.1 HF.out.2.2) vr.out (by simp)).mono ?_;rintro e5 w5 ⟨p5, n5, c5, rfl, bP, aL⟩;have ql := af (show Own w.heap.size w5 (.slice p5 n5 c5) (fX [m.ix, m.tm, (nv : Int)]) from bP);have cH : Hid (Below w.heap.size w w5) := af (Df.out.trans (aL.mono Df.out.size));clear bP aL;first
    | refine hK.out _ _ ?_ (fun hHeld => ?_)
    | (go_wp2_with fail; refine hK.out _ _ ?_ (fun hHeld => ?_))
   ·(try dsimp only)
    exact eJ.out _ cH.out
   clear hK K;try simp only [Act.put, qA, qB, qC]
   refine ao 15 rfl ?_;refine adO (by kernel_rfl) ?_ _;clear hHeld;have z4 := (HM.out.below cH.out).row.c4;rw [U6.out.1] at z4;go_wp2_with fail
   have Ws := af ((HM.out.below cH.out).vo.ns);rw [U6.out.1] at Ws;have HD3 : Hid ((fX [m.ix, m.tm, (nv : Int)]).length ≤ 27) := af (by
    have h1 := HM.out.ok;have := h1.i0; have := h1.i1; have := h1.t0; have := h1.t1;have h2 := De.out.2.2.1;have h3 := U6.out.2;have := gO [m.ix, m.tm, (nv : Int)] (by simp; omega)
    simpa using this)
   refine (jg ql.out cH.out.size Ws.out (fun n hn => (De.out.2.2.2 n hn).1) (by have := HD3.out; have := De.out.2.2.1; simp at *; omega)).mono ?_;rintro e6 w6 ⟨p6, n6, c6, rfl, cw, bK⟩;have wZ := af cw;have oL : Hid (Below w.heap.size w w6) := af (cH.out.trans (bK.mono cH.out.size));clear cw bK z4;have z0 := (HM.out.below oL.out).row.c0;go_wp2_with fail
   have HSI := sX (HM.out.below oL.out).so;rw [HM.out.pl] at HSI;refine HSI.mono ?_;rintro e7 w7 ⟨v7, rfl, nE, cZ⟩;obtain ⟨p7, n7, c7, rfl⟩ := nE.bp.sl;have sU := bH nE.bp;have lQ : Hid (Below w.heap.size w w7) := af (oL.out.trans (cZ.mono oL.out.size));have aak := af (wZ.out.below cZ);go_wp2_with fail
   have kt : (str (br m.S)).size = (br m.S).length := by rw [str_eq]; rfl
   have Zy : (str (br m.S)).data.toList = br m.S := by rw [str_eq]
   have U7 : Hid ((fX [m.ix, m.tm, (nv : Int)] ++ fX m.vo).length ≤ 100) := af (by
    have h1 := HD3.out;have h2 := De.out.2.2;have := gO m.vo (fun n hn => by have := h2.2 n hn; omega);rw [acH]; omega)
   refine (fK aak.out.bp (by have := U7.out; omega) (str (br m.S)) (by rw [kt]; have := De.out.1; omega)).mono ?_;rintro e8 w8 ⟨v8, rfl, Nv, kn⟩;rw [kt, Zy, ac7] at Nv;obtain ⟨p8, n8, c8, rfl⟩ := Nv.bp.sl;have U8 := af (Nv.mono lQ.out.size);have Dg : Hid (Below w.heap.size w w8) := af (lQ.out.trans (kn.mono lQ.out.size));clear Nv kn kt Zy sU nE cZ HSI z0;have z1 := (HM.out.below Dg.out).row.c1;go_wp2_with fail
   refine (nT (HM.out.below Dg.out).tb).mono ?_;rintro e9 w9 ⟨v9, rfl, gE, eW⟩;obtain ⟨p9, n9, c9, rfl⟩ := gE.bp.sl;have sU := bH gE.bp;have FN : Hid (Below w.heap.size w w9) := af (Dg.out.trans (eW.mono Dg.out.size));have aal := af (U8.out.below eW);go_wp2_with fail
   have kt : (str (dN m.L)).size = (dN m.L).length := by rw [str_eq]; rfl
   have Zy : (str (dN m.L)).data.toList = dN m.L := by rw [str_eq]
   refine (fK aal.out.bp (by have := U7.out; have := De.out.1; have := digits_length (br m.S).length (by omega); simp only [acH] at *; omega) (str (dN m.L)) (by rw [kt]; have := De.out.2.1; omega)).mono ?_;rintro e10 Oe ⟨v10, rfl, Wt, aam⟩;rw [kt, Zy, ac7] at Wt;go_wp2_with fail
   go_ret;refine ⟨_, rfl, ?_, FN.out.trans (aam.mono FN.out.size)⟩;have h1 := Wt.mono FN.out.size;rw [U6.out.2] at h1;exact h1
  exact acR
 exact acR
theorem Ef {w : World} {gm : Nat} {P : Pm} {m : Mp} (h : dK w gm P m) (hs : (br m.S).length ≤ 400000) (ht : (dN m.L).length ≤ 400000) : Calls prog 39 #[.pointer (some ⟨gm, 0, none⟩)] w (yU w (dM m)) := by
 have h0 := h.cell;have HM := af h;have HC := af (A3 h.is hs ht);clear h hs ht;go_enter func39, ntmps39
 go_wp2_with fail
 refine (ff HM.out).mono ?_;rintro e w2 ⟨rfl, rfl⟩;go_wp2_with fail
 refine HC.out.mono ?_;rintro e w3 ⟨v', rfl, ho, hb⟩;go_wp2_with fail
 go_ret;exact ⟨_, rfl, ho, hb⟩
open Go.RowKit
def jF : Sp := ⟨1, 2, 0, 0, 7, ⟨#[97]⟩⟩
theorem FF : jF.ok = true := (Sp.aO _).2 ⟨by decide, by decide, by decide, by decide, by decide, by decide, by decide, by decide, by decide, by decide, by show 1 ≤ [(97 : UInt8)].length; decide, by show [(97 : UInt8)].length ≤ 32; decide, by show [(97 : UInt8)].all gq = true; decide⟩
theorem GY : fJ [jF] = true := by
 unfold fJ;simp [FF, oM]
theorem GZ : cW [] jF = ([(1, [jF])], ⟨1, 0, 0, 0, 0⟩) := by
 have h : bj kP [] jF.t = none := rfl;unfold cW;rw [h];dsimp only;rw [acO (by simp), oV];rfl
theorem AH : iH [] [jF] = [(1, [jF])] ∧ nF [] [jF] = ⟨1, 0, 0, 0, 0⟩ := by
 have ha : [jF].all Sp.ok = true := by simp [FF]
 unfold iH nF;rw [acW ha, acW ha];unfold puts puts;rw [GZ];exact ⟨rfl, rfl⟩
def sP : List Cm := [⟨1, 0, 0, 0, [], []⟩, ⟨2, 1, 1, 0, [jF], []⟩, ⟨2, 1, 1, 0, [jF], []⟩, ⟨3, 0, 0, 3, [], []⟩, ⟨2, 1, 2, 0, [jF], []⟩]
def NZ : Rp := ⟨0, 0, 0, 1, 0, 0, 0, 0⟩
def GQ : List Rp := [⟨0, 1, 0, 0, 0, 0, 0, 0⟩, NZ, NZ, ⟨0, 0, 1, 0, 0, 0, 0, 0⟩, ⟨80, 0, 0, 0, 0, 0, 0, 0⟩]
def RR : Nat → Mp
 | 0 => ⟨0, 0, [0, 1, 2], [], []⟩
 | 1 => ⟨1, 1, [0, 1, 2], [], [⟨1, 0, 1, iG⟩]⟩
 | 2 => ⟨2, 1, [0, 1, 2], [(1, [jF])], [⟨1, 1, 2, NZ⟩]⟩
 | 3 => ⟨3, 1, [0, 1, 2], [(1, [jF])], [⟨1, 1, 2, NZ⟩]⟩
 | 4 => ⟨4, 1, [0, 1, 2], [(1, [jF])], []⟩
 | _ => ⟨5, 1, [0, 1, 2], [(1, [jF])], []⟩
theorem Kk (k : Nat) (c : Cm) (h : sP[k]? = some c) : c.ok = true := by
 have h2 : ∀ q : Int, oM 1 q 1099511627776 = true → (⟨2, 1, q, 0, [jF], []⟩ : Cm).ok = true := fun q hq => (Cm.aO _).2 (.inr (.inl ⟨rfl, rfl, (by decide : oM 1 1 1099511627776 = true), hq, GY⟩))
 match k, h with
 | 0, h => simp [sP] at h; subst h; exact (Cm.aO _).2 (.inl ⟨.inr rfl, rfl⟩)
 | 1, h => simp [sP] at h; subst h; exact h2 1 (by decide)
 | 2, h => simp [sP] at h; subst h; exact h2 1 (by decide)
 | 3, h => simp [sP] at h; subst h; exact (Cm.aO _).2 (.inr (.inr (.inl ⟨rfl, rfl, by decide⟩)))
 | 4, h => simp [sP] at h; subst h; exact h2 2 (by decide)
 | k + 5, h => simp [sP] at h
theorem sx {m : Mp} {ix tm : Int} {c : Cm} (hn : m.Qj ix tm = true) (hc : c.ok = true) {r : Rp} {m' : Mp} (h : jX { m with ix := ix, tm := tm } (some c) = (r, 0, m')) : vQ m ix tm c.bytes = (r, 0, m') := by
 unfold vQ;rw [acW hn];unfold Qk;rw [sR hc, h];rw [acW (show ((r, (0 : Int), m').2.1) = 0 from rfl)]
theorem N0 {m : Mp} {ix tm : Int} {c : Cm} (hn : m.Qj ix tm = true) (hc : c.ok = true) {r : Rp} {x : Int} {m' : Mp} (h : jX { m with ix := ix, tm := tm } (some c) = (r, x, m')) (hx : x ≠ 0) : vQ m ix tm c.bytes = (⟨x, 0, 0, 0, 0, 0, 0, 0⟩, 0, m') := by
 unfold vQ;rw [acW hn];unfold Qk;rw [sR hc, h];rw [acO (show ¬ ((r, x, m').2.1) = 0 from hx)]
theorem RS (k : Nat) (c : Cm) (r : Rp) (h : sP[k]? = some c) (hr : GQ[k]? = some r) : vQ (RR k) ((k : Int) + 1) 1 c.bytes = (r, 0, RR (k + 1)) := by
 have aT := Kk k c h
 match k, h, hr with
 | 0, h, hr =>
  simp [sP] at h;simp [GQ] at hr;subst h; subst hr;exact sx (by decide) aT rfl
 | 1, h, hr =>
  simp [sP] at h;simp [GQ] at hr;subst h; subst hr;refine sx (by decide) aT ?_;unfold jX;dsimp only;rw [acO (by decide), acW rfl];unfold qe;dsimp only;rw [acO (by decide)];have e1 : nF (RR 1).S [jF] = ⟨1, 0, 0, 0, 0⟩ := AH.2;have e2 : iH (RR 1).S [jF] = [(1, [jF])] := AH.1;rw [e1, e2];rfl
 | 2, h, hr =>
  simp [sP] at h;simp [GQ] at hr;subst h; subst hr;refine sx (by decide) aT ?_;unfold jX;dsimp only;rw [acO (by decide), acW rfl];unfold qe;dsimp only;rw [acW (by decide)];rfl
 | 3, h, hr =>
  simp [sP] at h;simp [GQ] at hr;subst h; subst hr;exact sx (by decide) aT rfl
 | 4, h, hr =>
  simp [sP] at h;simp [GQ] at hr;subst h; subst hr;refine N0 (r := iG) (x := 80) (by decide) aT ?_ (by decide);unfold jX;dsimp only;rw [acO (by decide), acW rfl];unfold qe;dsimp only;rw [acW (by decide)];rfl
 | k + 5, h, hr => simp [sP] at h
set_option maxRecDepth 200000
set_option maxHeartbeats 4000000
open Go.RowKit
theorem sQ (w : World) : Calls prog 51 #[] w fun e w' => e = .returned (.agg #[.int .i64 1, .int .i64 2, .int .i64 0, .int .i64 0, .int .i64 7, .string ⟨#[97]⟩]) ∧ Below w.heap.size w w' := by
 go_enter func51, ntmps51
 go_wp2;refine ac0 (v := .agg #[.int .i64 1, .int .i64 2, .int .i64 0, .int .i64 0, .int .i64 7, .string ⟨#[97]⟩]) (by
  simp [results, results51, go_sem]) rfl ⟨rfl, ?_⟩
 exact (acG w.heap.size w).alloc (acE _) _
def aag (w : World) (e : Ending) (w' : World) : Prop := ∃ gm P, e = .returned (.tuple #[.pointer (some ⟨gm, 0, none⟩), .bool true]) ∧ dK w' gm P ⟨0, 0, [0, 1, 2], [], []⟩ ∧ (∀ k, kU P k → w.heap.size ≤ k) ∧ w.heap.size ≤ gm ∧ Below w.heap.size w w'
theorem DI {w : World} (hE : ko w) : Calls prog 37 #[] w (aag w) := by
 have hA := (acG w.heap.size w).alloc (acE _) (.cells #[.int .i64 0, .int .i64 1, .int .i64 2] 3);have HN := af (Ko (hE.below hA) (AK w 0 1 2 (by unfold fits; omega) (by unfold fits; omega) (by unfold fits; omega)));have HA := af hA;clear hA hE;go_enter func37, ntmps37
 go_wp2_with fail
 refine HN.out.mono ?_;intro e w2 hp;obtain ⟨aP, hp⟩ := hp;rw [acW (show lU [0, 1, 2] = true by decide)] at hp;obtain ⟨gm, P, rfl, hm, hn, hg⟩ := hp;have hs := HA.out.size;have H2 := af (acD hm (acD (fun k hk => acN hs (hn k hk) : ∀ k, kU P k → w.heap.size ≤ k) (acD (acN hs hg) (HA.out.trans (aP.mono hs)))));clear hm hn hg aP hs HN HA;go_wp2_with fail
 go_ret2
 exact ⟨gm, P, rfl, H2.out.1, H2.out.2.1, H2.out.2.2.1, H2.out.2.2.2⟩
end Go.Proofs.YtionbmlicmibgaaGreatDoor
