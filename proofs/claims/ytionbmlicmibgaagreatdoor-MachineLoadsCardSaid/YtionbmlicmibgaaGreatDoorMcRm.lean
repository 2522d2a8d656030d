import Derived.Test.YtionbmlicmibgaaGreatDoorX4
import Derived.Test.YtionbmlicmibgaaGreatDoorMcBeg
set_option linter.unusedVariables false
set_option linter.unusedSimpArgs false
namespace Go.Proofs.YtionbmlicmibgaaGreatDoor
open Go.Proofs.Tryz
open Go.RowKit
structure Rm where
 gs : Nat
 R : List Rr
 gt : Nat
 vt : Value
 vv : Value
def dP (w : World) (gx : Nat) (ix tm : Int) (vv v3 v4 : Value) : Prop := w.heap[gx]? = some (.cells #[.int .i64 ix, .int .i64 tm, vv, v3, v4] 62 (0, 0))
section
variable {w w' : World} {gx : Nat} {ix tm : Int} {vv v3 v4 : Value}
theorem dP.z (h : dP w gx ix tm vv v3 v4) : w.cell? ⟨gx, 0, none⟩ = some (.int .i64 ix) ∧ w.cell? ⟨gx, 1, none⟩ = some (.int .i64 tm) ∧ w.cell? ⟨gx, 2, none⟩ = some vv ∧ w.cell? ⟨gx, 3, none⟩ = some v3 ∧ w.cell? ⟨gx, 4, none⟩ = some v4 :=
 ⟨acC w gx 0 _ 62 (0, 0) h, acC w gx 1 _ 62 (0, 0) h, acC w gx 2 _ 62 (0, 0) h, acC w gx 3 _ 62 (0, 0) h, acC w gx 4 _ 62 (0, 0) h⟩
theorem dP.fr (h : dP w gx ix tm vv v3 v4) (i : Nat) : w.frozen? ⟨gx, i, none⟩ = false := acI w gx i _ 62 h
theorem dP.lt (h : dP w gx ix tm vv v3 v4) : gx < w.heap.size := lt_of_cell h.z.1
theorem dP.below (h : dP w gx ix tm vv v3 v4) (hb : Below w.heap.size w w') : dP w' gx ix tm vv v3 v4 := (hb.block gx h.lt).trans h
theorem dP.set0 (h : dP w gx ix tm vv v3 v4) (x : Int) : dP (w.setCell ⟨gx, 0, none⟩ (.int .i64 x)) gx x tm vv v3 v4 := by unfold dP at *; rw [acK w gx 0 _ 62 _ h]; rfl
theorem dP.set1 (h : dP w gx ix tm vv v3 v4) (x : Int) : dP (w.setCell ⟨gx, 1, none⟩ (.int .i64 x)) gx ix x vv v3 v4 := by unfold dP at *; rw [acK w gx 1 _ 62 _ h]; rfl
theorem dP.set2 (h : dP w gx ix tm vv v3 v4) (x : Value) : dP (w.setCell ⟨gx, 2, none⟩ x) gx ix tm x v3 v4 := by unfold dP at *; rw [acK w gx 2 _ 62 _ h]; rfl
theorem dP.Lg (h : dP w gx ix tm vv v3 v4) (x : Value) : dP (w.setCell ⟨gx, 3, none⟩ x) gx ix tm vv x v4 := by unfold dP at *; rw [acK w gx 3 _ 62 _ h]; rfl
theorem dP.OB (h : dP w gx ix tm vv v3 v4) (x : Value) : dP (w.setCell ⟨gx, 4, none⟩ x) gx ix tm vv v3 x := by unfold dP at *; rw [acK w gx 4 _ 62 _ h]; rfl
theorem dP.new (w : World) : dP (w.alloc (.cells #[.int .i64 ix, .int .i64 tm, vv, v3, v4] 62)) w.heap.size ix tm vv v3 v4 := acQ _ _
end
structure tf (w : World) (gx : Nat) (Q : Rm) (m : Mp) : Prop where
 row : dP w gx m.ix m.tm Q.vv (.pointer (some ⟨Q.gs, 0, none⟩)) (.pointer (some ⟨Q.gt, 0, none⟩))
 so : dx w Q.gs Q.R
 pl : Q.R.map Rr.pl = m.S
 tb : jh w Q.gt Q.vt m.L
 tok : dS m.L
 vo : Ns w Q.vv m.vo
 vn : m.vo.length ≤ 8
 ix : 0 ≤ m.ix ∧ m.ix < 9223372036854775808
 tm : 0 ≤ m.tm ∧ m.tm < 9223372036854775808
 vf : ∀ n ∈ m.vo, 0 ≤ n ∧ n < 9223372036854775808
theorem tf.below {w w' : World} {gx : Nat} {Q : Rm} {m : Mp} (h : tf w gx Q m) (hb : Below w.heap.size w w') : tf w' gx Q m :=
 ⟨h.row.below hb, h.so.below hb, h.pl, h.tb.below hb, h.tok, h.vo.below hb, h.vn, h.ix, h.tm, h.vf⟩
theorem tf.KA {w : World} {gx : Nat} {Q : Rm} {m : Mp} (h : tf w gx Q m) : fB m.S := by
 have h1 := h.so.ok;rw [h.pl] at h1;exact h1
theorem iY.Ox {w w' : World} {v : Value} {l : List Sp} {S : Nat → Prop} (h : iY w v l) (hc : ak w w' S) (hn : l = [] ∨ ∀ k, v.ownBlock = some k → ¬ S k) : iY w' v l := by
 obtain ⟨p, c, rfl, h1, h2, h3, h4⟩ := h;refine ⟨p, c, rfl, h1, h2, h3, fun h0 => ?_⟩;obtain ⟨g, o, rfl, hx⟩ := h4 h0;refine ⟨g, o, rfl, fun i x hi => ?_⟩;rcases hn with rfl | hn
 ·simp at hi
 ·intro j u hu;exact hc.cell (hx i x hi j u hu) (hn g rfl)
theorem dx.Lh {w w' : World} {gx : Nat} {R : List Rr} {S : Nat → Prop} (h : dx w gx R) (hc : ak w w' S) (aN : ∀ k, S k → ¬ iy gx R k)
  (hp : ∀ k i b, S k → w.cell? ⟨k, i, none⟩ = some (.pointer (some ⟨b, 0, none⟩)) → ∀ x ∈ R, b ≠ x.g) (hs : ∀ k i s, S k → w.cell? ⟨k, i, none⟩ ≠ some (.string s)) : dx w' gx R := by
 obtain ⟨v, c0, aM, Aq⟩ := h.c0;have wx : ¬ S gx := fun e => aN _ e (.inl rfl);refine ⟨⟨v, hc.cell c0 wx, aM.aU hc ?_, Aq⟩, (adR (a := ⟨gx, 0, none⟩) (hc.block gx (lt_of_cell c0) wx)).trans h.fr, h.ok, fun x hx => ?_, h.ids, h.ne⟩
 ·obtain ⟨p, d, rfl, _, _, _, nG⟩ := aM;by_cases h0 : R = []
  ·exact .inl h0
  ·refine .inr fun k hk e => ?_;obtain ⟨g, o, rfl, zq⟩ := nG (adP.2 h0);have Au : g = k := by injection hk
   have Vp : 0 < R.length := adP.2 h0;have h1 := zq 0 R[0] (acF Vp);rw [Au] at h1;exact hp k _ _ e h1 R[0] (List.getElem_mem Vp) rfl
 ·obtain ⟨a0, a1, u, u1, u2, u3⟩ := h.fo x hx;have Xc : ¬ S x.g := fun e => aN _ e (.inr ⟨x, hx, rfl⟩);have hb : w'.heap[x.g]? = w.heap[x.g]? := hc.block x.g (lt_of_cell a0) Xc;refine ⟨(adi (a := ⟨x.g, 0, none⟩) hb).trans a0, (adR (a := ⟨x.g, 1, none⟩) hb).trans a1, u, (adi (a := ⟨x.g, 1, none⟩) hb).trans u1, u2.Ox hc ?_, u3⟩;by_cases h0 : x.L = []
  ·exact .inl h0
  ·refine .inr fun k hk e => ?_;obtain ⟨p, n, d, rfl⟩ := u2.sl;have hl := u2.len.1;have RZ : 0 < x.L.length := adP.2 h0;obtain ⟨g, o, rfl, Av⟩ := u2.at_ (by omega);have Au : g = k := by injection hk
   have h1 := (Av 0 x.L[0] (acF RZ)).c5;rw [Au] at h1;exact hs k _ _ e h1
theorem FY {w : World} {v : Value} {l : List UInt8} (hv : By w v l) (hl : l.length ≤ 1000000) {n : Int} (h0 : 0 ≤ n) (h1 : n < 9223372036854775808) : Calls prog 56 #[v, .int .i64 n] w fun e w' => ∃ p k c, e = .returned (.slice p k c) ∧ Own w.heap.size w' (.slice p k c) (l ++ digits n.toNat) ∧ Below w.heap.size w w' :=
 (gP hv (by omega) n n.toNat (by omega) (by unfold lim; omega)).mono fun e w' ⟨v', he, ho, hb⟩ => by
  obtain ⟨p, k, c, rfl⟩ := ho.bp.sl;exact ⟨p, k, c, he, ho, hb⟩
set_option maxRecDepth 200000 in
set_option maxHeartbeats 16000000 in
theorem rA {w : World} {gx : Nat} {Q : Rm} {m : Mp} (h : tf w gx Q m) : Calls prog 86 #[.pointer (some ⟨gx, 0, none⟩)] w fun e w' => ∃ p n c, e = .returned (.slice p n c) ∧ Own w.heap.size w' (.slice p n c) (dM m) ∧ Below w.heap.size w w' := by
 obtain ⟨pv, nv, cv, lJ⟩ := h.vo.sl;have HM := af h;have Db := h.vo;rw [lJ] at Db;have Lj := Db.len.1;have hl8 := h.vn;have yV : (nv : Int) ≤ 8 := by omega
 have HV := af Db;have De := af Lj;have U6 := af lJ;have HI := af (acD h.ix h.tm);have HD : Hid ((digits m.ix.toNat).length ≤ 9 ∧ (digits m.tm.toNat).length ≤ 9 ∧ (digits nv).length ≤ 9) := af ⟨digits_length _ (by have := h.ix; omega), digits_length _ (by have := h.tm; omega), digits_length _ (by omega)⟩;obtain ⟨IX, vw⟩ : ∃ x, m.ix = x := ⟨_, rfl⟩
 obtain ⟨TM, wm⟩ : ∃ x, m.tm = x := ⟨_, rfl⟩
 have Ih : Hid (∀ U, Below w.heap.size w U → U.cell? ⟨gx, 0, none⟩ = some (.int .i64 IX) ∧ U.cell? ⟨gx, 1, none⟩ = some (.int .i64 TM) ∧ U.cell? ⟨gx, 2, none⟩ = some (.slice pv nv cv) ∧ U.cell? ⟨gx, 3, none⟩ = some (.pointer (some ⟨Q.gs, 0, none⟩)) ∧ U.cell? ⟨gx, 4, none⟩ = some (.pointer (some ⟨Q.gt, 0, none⟩))) := af (fun U hU => by
  have h1 := (h.row.below hU).z;rw [vw, wm, lJ] at h1;exact h1)
 rw [vw, wm] at HI HD;have HXT := af (acD vw wm);have N1 := af (FY (By.nil w.drew) (by simp) HI.out.1.1 HI.out.1.2);obtain ⟨z0, z1, z2, z3, z4⟩ := Ih.out w (acG _ _);clear h lJ Db Lj hl8 vw wm z2 z3 z4;go_enter func86, ntmps86
 go_wp2_with fail
 go_region_held3 (fun U => U.cell? ⟨gx, 0, none⟩ = some (.int .i64 IX) ∧ U.cell? ⟨gx, 1, none⟩ = some (.int .i64 TM)) (first | exact ⟨(Ih.out _ (ag w 1)).1, (Ih.out _ (ag w 1)).2.1⟩ | exact ⟨(Ih.out _ aS.out).1, (Ih.out _ aS.out).2.1⟩ | exact ⟨(Ih.out _ cE.out).1, (Ih.out _ cE.out).2.1⟩) (first | (go_at_call 56; (with_reducible refine N1.out.mono ?_); rintro e1 w1 ⟨p1, n1, c1, rfl, mW, aK⟩; have aS : Hid (Below w.heap.size w w1) := af ((ag w 1).trans aK); have QA := af mW.bp; clear mW aK) | (go_at_call 56; refine (FY QA.out (by have := HD.out; simp; omega) HI.out.2.1 HI.out.2.2).mono ?_; rintro e2 w2 ⟨p2, n2, c2, rfl, eX, aP⟩; have cE : Hid (Below w.heap.size w w2) := af (aS.out.trans (aP.mono aS.out.size)); have jO := af (eX.mono aS.out.size); clear eX aP))
 have z2 := (Ih.out _ cE.out).2.2.1;have N3 := af (FY jO.out.bp (by have := HD.out; simp; omega) (n := (nv : Int)) (by omega) (by omega));clear z0 z1 N1 QA;go_wp2_with fail
 refine N3.out.mono ?_;rintro e w3 ⟨p3, n3, c3, rfl, kY, cF⟩;have fH : Hid (Below w.heap.size w w3) := af (cE.out.trans (cF.mono cE.out.size));obtain ⟨B0, wu⟩ : ∃ x, digits IX.toNat ++ digits TM.toNat ++ digits nv = x := ⟨_, rfl⟩
 have sW : Hid (Own w.heap.size w3 (.slice p3 n3 c3) B0) := af (by
  have h1 := kY.mono cE.out.size;rw [adE, show ((nv : Int)).toNat = nv by omega, wu] at h1;exact h1)
 have SZ : Hid (B0.length ≤ 27) := af (by rw [← wu]; have := HD.out; simp only [acH]; omega);have oN := af wu;clear wu kY cF N3 z2;have z2 := (Ih.out _ fH.out).2.2.1;go_wp2_with fail
 clear z2;go_loopw [3, 5, 28] (fun v3 _ i wr => ∃ (j : Nat) (q : Option Addr) (k d : Nat), v3 = .slice q k d ∧ j ≤ nv ∧ i = .int .i64 j ∧ Hid (Below w.heap.size w wr ∧ Own w.heap.size wr (.slice q k d) (B0 ++ fX (m.vo.take j)))) (fun _ _ i _ => nv - (intOf i).toNat)
 case atStart => exact ⟨0, p3, n3, c3, rfl, by omega, rfl, af ⟨fH.out, by have := sW.out; simpa [fX] using this⟩⟩
 case round =>
  obtain ⟨j, q, k, d, rfl, hj, rfl, HR⟩ := hrel;have NC : Hid ((fX (m.vo.take j)).length ≤ 72) := af (by
   have h1 := gO (m.vo.take j) (fun n hn => by have := HM.out.vf n (adD hn); omega);have h2 := HM.out.vn;rw [ac6] at h1;omega)
  by_cases bd : (j : Int) < (nv : Int)
  ·obtain ⟨x, hx⟩ : ∃ x, m.vo[j]? = some x := ⟨_, acF (by have := De.out; omega)⟩
   obtain ⟨g, o, hgo, hc⟩ := HV.out.at_ (by omega);subst hgo;have ck := (HR.out.1.cell (lt_of_cell (hc j x hx))).trans (hc j x hx);obtain ⟨oo, iu⟩ : ∃ oo, o + j = oo := ⟨_, rfl⟩
   rw [iu] at ck;have WG := HM.out.vf x (acS hx);have iB : Hid (fX (m.vo.take (j + 1)) = fX (m.vo.take j) ++ digits x.toNat) := af (Bc hx);have N5 := af (FY HR.out.2.bp (by have := SZ.out; have := NC.out; rw [acH]; omega) WG.1 WG.2);clear hx hc WG;go_wp2_with fail
   refine N5.out.mono ?_;rintro e w5 ⟨p5, n5, c5, rfl, bP, aL⟩;have cH : Hid (Below w.heap.size w w5) := af (HR.out.1.trans (aL.mono HR.out.1.size));have ql : Hid (Own w.heap.size w5 (.slice p5 n5 c5) (B0 ++ fX (m.vo.take (j + 1)))) := af (by
    rw [iB.out, ← ac7];exact bP.mono HR.out.1.size)
   clear bP aL N5;go_wp2_with fail
   go_roundw;case rel => exact ⟨j + 1, p5, n5, c5, rfl, by omega, by go_num, af ⟨cH.out, ql.out⟩⟩
   case measure => simp [intOf]; omega
  ·have wZ : Hid (Own w.heap.size wr (.slice q k d) (B0 ++ fX m.vo)) := af (by
    have h1 := HR.out.2;rw [acY (by have := De.out; omega)] at h1;exact h1)
   have ZS : Hid ((fX m.vo).length ≤ 72) := af (by
    have h1 := NC.out;rw [acY (by have := De.out; omega)] at h1;exact h1)
   have Om : Hid ((br m.S).length ≤ 300000) := af (oW HM.out.KA);have QG : Hid ((dN m.L).length ≤ 1000) := af (lR HM.out.tok);have Bm := tj (HM.out.below HR.out.1).so;rw [HM.out.pl] at Bm;have Bn := af Bm;have z3 := (Ih.out _ HR.out.1).2.2.2.1;clear Bm;go_wp2_with fail
   refine Bn.out.mono ?_;rintro e w7 ⟨v7, rfl, nE, cZ⟩;obtain ⟨p7, n7, c7, rfl⟩ := nE.bp.sl;have lQ : Hid (Below w.heap.size w w7) := af (HR.out.1.trans (cZ.mono HR.out.1.size));have d7 := bH nE.bp;have J3 := af (jP (wZ.out.bp.below cZ) (by have := SZ.out; have := ZS.out; rw [acH]; omega) (str (br m.S)) (by rw [gF]; have := Om.out; omega));rw [gF, mX] at J3;clear nE cZ Bn z3;go_wp2_with fail
   refine J3.out.mono ?_;rintro e w8 ⟨v8, rfl, Nv, kn⟩;obtain ⟨p8, n8, c8, rfl⟩ := Nv.bp.sl;have Dg : Hid (Below w.heap.size w w8) := af (lQ.out.trans (kn.mono lQ.out.size));have U8 := af Nv.bp;clear Nv kn J3 d7;have HTI := af (o6 (HM.out.below Dg.out).tb HM.out.tok);have z4 := (Ih.out _ Dg.out).2.2.2.2;go_wp2_with fail
   refine HTI.out.mono ?_;rintro e w9 ⟨v9, rfl, gE, eW⟩;obtain ⟨p9, n9, c9, rfl⟩ := gE.bp.sl;have FN : Hid (Below w.heap.size w w9) := af (Dg.out.trans (eW.mono Dg.out.size));have d9 := bH gE.bp;have HDS : Hid ((digits (br m.S).length).length ≤ 9) := af (digits_length _ (by have := Om.out; omega));have QI := af (jP (U8.out.below eW) (by have := SZ.out; have := ZS.out; have := Om.out; have := HDS.out; simp only [acH]; omega) (str (dN m.L)) (by rw [gF]; have := QG.out; omega));rw [gF, mX] at QI;clear gE eW HTI z4;go_wp2_with fail
   refine QI.out.mono ?_;rintro e wA ⟨vA, rfl, hoA, vS⟩;obtain ⟨pA, nA, cA, rfl⟩ := hoA.bp.sl;have U2 := af (acD (hoA.mono FN.out.size) (FN.out.trans (vS.mono FN.out.size)));clear hoA vS QI d9;go_wp2;go_ret;refine ⟨_, _, _, rfl, ?_, U2.out.2⟩;have h1 := U2.out.1;have h2 : dM m = B0 ++ fX m.vo ++ digits (br m.S).length ++ br m.S ++ digits (dN m.L).length ++ dN m.L := by
    unfold dM NY;rw [← oN.out, ← HXT.out.1, ← HXT.out.2, De.out];simp [iZ, show fX [] = [] from rfl]
   rw [h2];exact h1
end Go.Proofs.YtionbmlicmibgaaGreatDoor
