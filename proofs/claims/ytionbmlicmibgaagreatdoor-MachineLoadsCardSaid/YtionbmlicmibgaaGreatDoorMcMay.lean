import Derived.Test.YtionbmlicmibgaaGreatDoorMcBeg
set_option linter.unusedVariables false
set_option linter.unusedSimpArgs false
namespace Go.Proofs.YtionbmlicmibgaaGreatDoor
open Go.Proofs.Tryz
open Go.RowKit
structure En (w : World) (P : Pm) (m : Mp) : Prop where
 row : iq w P m
 so : bR w P.gs P.bm P.R
 pl : P.R.map Tr.pl = m.S
 tb : d_ w P.gt P.bt m.L
 vo : bJ 0 w P.vv m.vo
 er : ko w
 a1 : ∀ k, mT P.gs P.bm P.R k → k ≠ P.gi ∧ k ≠ P.gt ∧ k ≠ P.bt
 a2 : P.gi ≠ P.gt ∧ P.gi ≠ P.bt
 a3 : ∀ k, P.vv.ownBlock = some k → k ≠ P.gi ∧ k ≠ P.gt ∧ k ≠ P.bt ∧ ¬ mT P.gs P.bm P.R k
 nz : ∀ k, kU P k → k ≠ 0
theorem En.is {w : World} {P : Pm} {m : Mp} (h : En w P m) (hk : m.Ok) : dc w P m := ⟨h.row, h.so, h.pl, h.tb, h.vo, hk, h.er, h.a1, h.a2, h.a3, h.nz⟩
theorem En.below {w w' : World} {P : Pm} {m : Mp} (h : En w P m) (hb : Below w.heap.size w w') : En w' P m :=
 ⟨(hb.block _ h.row.lt).trans h.row, h.so.below hb, h.pl, h.tb.below hb, h.vo.below hb, h.er.below hb, h.a1, h.a2, h.a3, h.nz⟩
def ep (ix : Int) (L : List St) : Bool := L.all fun x => !(decide (ix < x.s) || decide (ix < x.a))
def lT (m : Mp) : Bool := !decide (1099511627776 < m.ix) && (!decide (1099511627776 < m.tm) && (!((m.ix == 0) != (m.tm == 0)) && (lU m.vo && ep m.ix m.L)))
theorem za {ix : Int} {L : List St} {k : Nat} {x : St} (h : L[k]? = some x) : ep ix (L.take (k + 1)) = (ep ix (L.take k) && !(decide (ix < x.s) || decide (ix < x.a))) := by
 unfold ep;rw [ac5, h];simp
theorem Ep {ix : Int} {L : List St} {k : Nat} {x : St} (h : L[k]? = some x) (hx : (decide (ix < x.s) || decide (ix < x.a)) = true) : ep ix L = false := by
 cases hc : ep ix L with
 | false => rfl
 | true =>
  unfold ep at hc;have := adl.1 hc x (acS h);rw [hx] at this;simp at this
set_option maxRecDepth 200000 in
set_option maxHeartbeats 16000000 in
theorem Eo {w : World} {P : Pm} {m : Mp} (h : En w P m) : Calls prog 89 #[.pointer (some ⟨P.gi, 0, none⟩)] w fun e w' => e = .returned (.bool (lT m)) ∧ Below w.heap.size w w' := by
 obtain ⟨pv, nv, cv, lJ⟩ : ∃ p n c, P.vv = .slice p n c := by
  obtain ⟨_, ⟨e1, _⟩ | ⟨g, cap, cur, e1, _⟩⟩ := h.vo.1
  ·exact ⟨_, _, _, e1⟩
  ·exact ⟨_, _, _, e1⟩
 obtain ⟨IX, vw⟩ : ∃ x, m.ix = x := ⟨_, rfl⟩
 obtain ⟨TM, wm⟩ : ∃ x, m.tm = x := ⟨_, rfl⟩
 obtain ⟨MB, KX⟩ : ∃ x, lT m = x := ⟨_, rfl⟩
 rw [KX];unfold lT at KX;rw [vw, wm] at KX;have eJ : Hid (∀ U, Below w.heap.size w U → U.cell? ⟨P.gi, 2, none⟩ = some (.int .i64 IX) ∧ U.cell? ⟨P.gi, 3, none⟩ = some (.int .i64 TM) ∧ U.cell? ⟨P.gi, 4, none⟩ = some (.slice pv nv cv)) := af fun U hU => ⟨by rw [← vw]; exact (h.below hU).row.c2, by rw [← wm]; exact (h.below hU).row.c3, by rw [← lJ]; exact (h.below hU).row.c4⟩
 have QC : Hid (∀ U, Below w.heap.size w U → Calls prog 61 #[.slice pv nv cv] U fun e w' => e = .returned (.bool (lU m.vo)) ∧ Below U.heap.size U w') := af fun U hU => by
  have h1 := (h.below hU).vo.ns;rw [lJ] at h1;exact qf h1
 have HM := af h;have HIT := af (acD vw wm);clear h lJ vw wm;cases J2 : decide ((1099511627776 : Int) < IX);case true =>
  have H1 := af J2;have Di : Hid (MB = false) := af (by rw [← KX, J2]; rfl);clear J2 KX;go_enter func89, ntmps89
  go_upto_region 1 with fail
  refine ado (S := (fun U => U.cell? ⟨P.gi, 2, none⟩ = some (.int .i64 IX) ∧ U.cell? ⟨P.gi, 3, none⟩ = some (.int .i64 TM) ∧ U.cell? ⟨P.gi, 4, none⟩ = some (.slice pv nv cv))) (by kernel_rfl) ?_ (fun hHeld => ?_)
  ·(try dsimp only)
   exact eJ.out _ (ag w 1)
  refine ao 0 rfl ?_;refine ao 1 rfl ?_;refine ao 2 rfl ?_;refine ao 3 rfl ?_;refine fy (i := 4) (v := (.bool true)) (eY rfl) (by rfl) ?_ ?_
  ·intro w cq
   (try dsimp only at cq)
   go_simp;first | with_reducible rfl | (have h := H1.out; simpa using h) | (have h := H1.out; simp at h; omega)
  try simp only [Act.put, qA, qB, qC]
  refine fy (i := 5) (v := (.bool true)) (eY rfl) (by rfl) ?_ ?_
  ·intro w cq
   (try dsimp only at cq)
   go_simp;try with_reducible rfl
  try simp only [Act.put, qA, qB, qC]
  refine ij 6 rfl ?_;refine ij 7 rfl ?_;refine ij 8 rfl ?_;refine ij 9 rfl ?_;refine ij 10 rfl ?_;refine fy (i := 11) (v := (.bool true)) (eY rfl) (by rfl) ?_ ?_
  ·intro w cq
   (try dsimp only at cq)
   go_simp;try with_reducible rfl
  try simp only [Act.put, qA, qB, qC]
  refine fy (i := 12) (v := (.bool true)) (eY rfl) (by rfl) ?_ ?_
  ·intro w cq
   (try dsimp only at cq)
   go_simp;try with_reducible rfl
  try simp only [Act.put, qA, qB, qC]
  refine ij 13 rfl ?_;refine ij 14 rfl ?_;refine ij 15 rfl ?_;refine ij 16 rfl ?_;refine ij 17 rfl ?_;refine ij 18 rfl ?_;refine ij 19 rfl ?_;refine ij 20 rfl ?_;refine ij 21 rfl ?_;refine ij 22 rfl ?_;refine ij 23 rfl ?_;refine fy (i := 24) (v := (.bool true)) (eY rfl) (by rfl) ?_ ?_
  ·intro w cq
   (try dsimp only at cq)
   go_simp;try with_reducible rfl
  try simp only [Act.put, qA, qB, qC]
  refine fy (i := 25) (v := (.bool true)) (eY rfl) (by rfl) ?_ ?_
  ·intro w cq
   (try dsimp only at cq)
   go_simp;try with_reducible rfl
  try simp only [Act.put, qA, qB, qC]
  refine ij 26 rfl ?_;refine ij 27 rfl ?_;refine ij 28 rfl ?_;refine ij 29 rfl ?_;refine ij 30 rfl ?_;refine ij 31 rfl ?_;refine ao 32 rfl ?_;refine adO (by kernel_rfl) ?_ _;clear hHeld;go_wp2_with fail
  go_ret;exact ⟨fZ Di.out, ag w 1⟩
 case false =>
 cases Oo : decide ((1099511627776 : Int) < TM);case true =>
  have H1 := af J2;have H2 := af Oo;have Di : Hid (MB = false) := af (by rw [← KX, J2, Oo]; rfl);clear J2 Oo KX;go_enter func89, ntmps89
  go_upto_region 1 with fail
  refine ado (S := (fun U => U.cell? ⟨P.gi, 2, none⟩ = some (.int .i64 IX) ∧ U.cell? ⟨P.gi, 3, none⟩ = some (.int .i64 TM) ∧ U.cell? ⟨P.gi, 4, none⟩ = some (.slice pv nv cv))) (by kernel_rfl) ?_ (fun hHeld => ?_)
  ·(try dsimp only)
   exact eJ.out _ (ag w 1)
  refine ao 0 rfl ?_;refine ao 1 rfl ?_;refine ao 2 rfl ?_;refine ao 3 rfl ?_;refine fy (i := 4) (v := (.bool false)) (eY rfl) (by rfl) ?_ ?_
  ·intro w cq
   (try dsimp only at cq)
   go_simp;first | with_reducible rfl | (have h := H1.out; simpa using h) | (have h := H1.out; simp at h; omega)
  try simp only [Act.put, qA, qB, qC]
  refine fy (i := 5) (v := (.bool false)) (eY rfl) (by rfl) ?_ ?_
  ·intro w cq
   (try dsimp only at cq)
   go_simp;try with_reducible rfl
  try simp only [Act.put, qA, qB, qC]
  refine ao 6 rfl ?_;refine ao 7 rfl ?_;refine ao 8 rfl ?_;refine ao 9 rfl ?_;refine fy (i := 10) (v := (.bool true)) (eY rfl) (by rfl) ?_ ?_
  ·intro w cq
   (try dsimp only at cq)
   go_simp;first | with_reducible rfl | (have h := H2.out; simpa using h) | (have h := H2.out; simp at h; omega)
  try simp only [Act.put, qA, qB, qC]
  refine fy (i := 11) (v := (.bool true)) (eY rfl) (by rfl) ?_ ?_
  ·intro w cq
   (try dsimp only at cq)
   go_simp;try with_reducible rfl
  try simp only [Act.put, qA, qB, qC]
  refine fy (i := 12) (v := (.bool true)) (eY rfl) (by rfl) ?_ ?_
  ·intro w cq
   (try dsimp only at cq)
   go_simp;try with_reducible rfl
  try simp only [Act.put, qA, qB, qC]
  refine ij 13 rfl ?_;refine ij 14 rfl ?_;refine ij 15 rfl ?_;refine ij 16 rfl ?_;refine ij 17 rfl ?_;refine ij 18 rfl ?_;refine ij 19 rfl ?_;refine ij 20 rfl ?_;refine ij 21 rfl ?_;refine ij 22 rfl ?_;refine ij 23 rfl ?_;refine fy (i := 24) (v := (.bool true)) (eY rfl) (by rfl) ?_ ?_
  ·intro w cq
   (try dsimp only at cq)
   go_simp;try with_reducible rfl
  try simp only [Act.put, qA, qB, qC]
  refine fy (i := 25) (v := (.bool true)) (eY rfl) (by rfl) ?_ ?_
  ·intro w cq
   (try dsimp only at cq)
   go_simp;try with_reducible rfl
  try simp only [Act.put, qA, qB, qC]
  refine ij 26 rfl ?_;refine ij 27 rfl ?_;refine ij 28 rfl ?_;refine ij 29 rfl ?_;refine ij 30 rfl ?_;refine ij 31 rfl ?_;refine ao 32 rfl ?_;refine adO (by kernel_rfl) ?_ _;clear hHeld;go_wp2_with fail
  go_ret;exact ⟨fZ Di.out, ag w 1⟩
 case false =>
 cases Vf : ((IX == 0) != (TM == 0));case true =>
  have H1 := af J2;have H2 := af Oo;have H3 := af Vf;have Di : Hid (MB = false) := af (by rw [← KX, J2, Oo, Vf]; rfl);clear J2 Oo Vf KX;go_enter func89, ntmps89
  go_upto_region 1 with fail
  refine ado (S := (fun U => U.cell? ⟨P.gi, 2, none⟩ = some (.int .i64 IX) ∧ U.cell? ⟨P.gi, 3, none⟩ = some (.int .i64 TM) ∧ U.cell? ⟨P.gi, 4, none⟩ = some (.slice pv nv cv))) (by kernel_rfl) ?_ (fun hHeld => ?_)
  ·(try dsimp only)
   exact eJ.out _ (ag w 1)
  refine ao 0 rfl ?_;refine ao 1 rfl ?_;refine ao 2 rfl ?_;refine ao 3 rfl ?_;refine fy (i := 4) (v := (.bool false)) (eY rfl) (by rfl) ?_ ?_
  ·intro w cq
   (try dsimp only at cq)
   go_simp;first | with_reducible rfl | (have h := H1.out; simpa using h) | (have h := H1.out; simp at h; omega)
  try simp only [Act.put, qA, qB, qC]
  refine fy (i := 5) (v := (.bool false)) (eY rfl) (by rfl) ?_ ?_
  ·intro w cq
   (try dsimp only at cq)
   go_simp;try with_reducible rfl
  try simp only [Act.put, qA, qB, qC]
  refine ao 6 rfl ?_;refine ao 7 rfl ?_;refine ao 8 rfl ?_;refine ao 9 rfl ?_;refine fy (i := 10) (v := (.bool false)) (eY rfl) (by rfl) ?_ ?_
  ·intro w cq
   (try dsimp only at cq)
   go_simp;first | with_reducible rfl | (have h := H2.out; simpa using h) | (have h := H2.out; simp at h; omega)
  try simp only [Act.put, qA, qB, qC]
  refine fy (i := 11) (v := (.bool false)) (eY rfl) (by rfl) ?_ ?_
  ·intro w cq
   (try dsimp only at cq)
   go_simp;try with_reducible rfl
  try simp only [Act.put, qA, qB, qC]
  refine fy (i := 12) (v := (.bool false)) (eY rfl) (by rfl) ?_ ?_
  ·intro w cq
   (try dsimp only at cq)
   go_simp;try with_reducible rfl
  try simp only [Act.put, qA, qB, qC]
  refine ao 13 rfl ?_;refine ao 14 rfl ?_;refine ao 15 rfl ?_;refine ao 16 rfl ?_;refine ao 17 rfl ?_;refine ao 18 rfl ?_;refine ao 19 rfl ?_;refine ao 20 rfl ?_;refine ao 21 rfl ?_;refine ao 22 rfl ?_;refine fy (i := 23) (v := (.bool true)) (eY rfl) (by rfl) ?_ ?_
  ·intro w cq
   (try dsimp only at cq)
   go_simp;first | with_reducible rfl | (have h := H3.out; simpa using h) | (have h := H3.out; simp at h; omega)
  try simp only [Act.put, qA, qB, qC]
  refine fy (i := 24) (v := (.bool true)) (eY rfl) (by rfl) ?_ ?_
  ·intro w cq
   (try dsimp only at cq)
   go_simp;try with_reducible rfl
  try simp only [Act.put, qA, qB, qC]
  refine fy (i := 25) (v := (.bool true)) (eY rfl) (by rfl) ?_ ?_
  ·intro w cq
   (try dsimp only at cq)
   go_simp;try with_reducible rfl
  try simp only [Act.put, qA, qB, qC]
  refine ij 26 rfl ?_;refine ij 27 rfl ?_;refine ij 28 rfl ?_;refine ij 29 rfl ?_;refine ij 30 rfl ?_;refine ij 31 rfl ?_;refine ao 32 rfl ?_;refine adO (by kernel_rfl) ?_ _;clear hHeld;go_wp2_with fail
  go_ret;exact ⟨fZ Di.out, ag w 1⟩
 case false =>
 have H1 := af J2;have H2 := af Oo;have H3 := af Vf;have Di : Hid (MB = (lU m.vo && ep IX m.L)) := af (by rw [← KX, J2, Oo, Vf]; rfl);clear J2 Oo Vf KX;cases aT : lU m.vo;case false =>
  rw [aT] at Di QC;go_enter func89, ntmps89
  go_upto_region 1 with fail
  refine ado (S := (fun U => U.cell? ⟨P.gi, 2, none⟩ = some (.int .i64 IX) ∧ U.cell? ⟨P.gi, 3, none⟩ = some (.int .i64 TM) ∧ U.cell? ⟨P.gi, 4, none⟩ = some (.slice pv nv cv))) (by kernel_rfl) ?_ (fun hHeld => ?_)
  ·(try dsimp only)
   exact eJ.out _ (ag w 1)
  refine ao 0 rfl ?_;refine ao 1 rfl ?_;refine ao 2 rfl ?_;refine ao 3 rfl ?_;refine fy (i := 4) (v := (.bool false)) (eY rfl) (by rfl) ?_ ?_
  ·intro w cq
   (try dsimp only at cq)
   go_simp;first | with_reducible rfl | (have h := H1.out; simpa using h) | (have h := H1.out; simp at h; omega)
  try simp only [Act.put, qA, qB, qC]
  refine fy (i := 5) (v := (.bool false)) (eY rfl) (by rfl) ?_ ?_
  ·intro w cq
   (try dsimp only at cq)
   go_simp;try with_reducible rfl
  try simp only [Act.put, qA, qB, qC]
  refine ao 6 rfl ?_;refine ao 7 rfl ?_;refine ao 8 rfl ?_;refine ao 9 rfl ?_;refine fy (i := 10) (v := (.bool false)) (eY rfl) (by rfl) ?_ ?_
  ·intro w cq
   (try dsimp only at cq)
   go_simp;first | with_reducible rfl | (have h := H2.out; simpa using h) | (have h := H2.out; simp at h; omega)
  try simp only [Act.put, qA, qB, qC]
  refine fy (i := 11) (v := (.bool false)) (eY rfl) (by rfl) ?_ ?_
  ·intro w cq
   (try dsimp only at cq)
   go_simp;try with_reducible rfl
  try simp only [Act.put, qA, qB, qC]
  refine fy (i := 12) (v := (.bool false)) (eY rfl) (by rfl) ?_ ?_
  ·intro w cq
   (try dsimp only at cq)
   go_simp;try with_reducible rfl
  try simp only [Act.put, qA, qB, qC]
  refine ao 13 rfl ?_;refine ao 14 rfl ?_;refine ao 15 rfl ?_;refine ao 16 rfl ?_;refine ao 17 rfl ?_;refine ao 18 rfl ?_;refine ao 19 rfl ?_;refine ao 20 rfl ?_;refine ao 21 rfl ?_;refine ao 22 rfl ?_;refine fy (i := 23) (v := (.bool false)) (eY rfl) (by rfl) ?_ ?_
  ·intro w cq
   (try dsimp only at cq)
   go_simp;first | with_reducible rfl | (have h := H3.out; simpa using h) | (have h := H3.out; simp at h; omega)
  try simp only [Act.put, qA, qB, qC]
  refine fy (i := 24) (v := (.bool false)) (eY rfl) (by rfl) ?_ ?_
  ·intro w cq
   (try dsimp only at cq)
   go_simp;try with_reducible rfl
  try simp only [Act.put, qA, qB, qC]
  refine fy (i := 25) (v := (.bool false)) (eY rfl) (by rfl) ?_ ?_
  ·intro w cq
   (try dsimp only at cq)
   go_simp;try with_reducible rfl
  try simp only [Act.put, qA, qB, qC]
  refine ao 26 rfl ?_;refine ao 27 rfl ?_;refine ao 28 rfl ?_;refine ao 29 rfl ?_;refine acU (rs := [30]) (by kernel_rfl) (by simp) ?_;refine dz rfl (fun K hK => ?_) acR;go_simp;go_at_call 61
  refine (QC.out _ (ag w 1)).mono ?_;rintro e1 W1 ⟨rfl, aK⟩;first
   | refine hK.out _ _ ?_ (fun hHeld => ?_)
   | (go_wp2_with fail; refine hK.out _ _ ?_ (fun hHeld => ?_))
  ·exact (eJ.out _ ((ag w 1).trans aK))
  clear hK K;try simp only [Act.put, qA, qB, qC]
  refine ao 31 rfl ?_;refine ao 32 rfl ?_;refine adO (by kernel_rfl) ?_ _;clear hHeld;go_wp2_with fail
  go_ret;exact ⟨fZ (Di.out.trans rfl), (ag w 1).trans aK⟩
 case true =>
  rw [aT] at Di QC;go_enter func89, ntmps89
  go_upto_region 1 with fail
  refine ado (S := (fun U => U.cell? ⟨P.gi, 2, none⟩ = some (.int .i64 IX) ∧ U.cell? ⟨P.gi, 3, none⟩ = some (.int .i64 TM) ∧ U.cell? ⟨P.gi, 4, none⟩ = some (.slice pv nv cv))) (by kernel_rfl) ?_ (fun hHeld => ?_)
  ·(try dsimp only)
   exact eJ.out _ (ag w 1)
  refine ao 0 rfl ?_;refine ao 1 rfl ?_;refine ao 2 rfl ?_;refine ao 3 rfl ?_;refine fy (i := 4) (v := (.bool false)) (eY rfl) (by rfl) ?_ ?_
  ·intro w cq
   (try dsimp only at cq)
   go_simp;first | with_reducible rfl | (have h := H1.out; simpa using h) | (have h := H1.out; simp at h; omega)
  try simp only [Act.put, qA, qB, qC]
  refine fy (i := 5) (v := (.bool false)) (eY rfl) (by rfl) ?_ ?_
  ·intro w cq
   (try dsimp only at cq)
   go_simp;try with_reducible rfl
  try simp only [Act.put, qA, qB, qC]
  refine ao 6 rfl ?_;refine ao 7 rfl ?_;refine ao 8 rfl ?_;refine ao 9 rfl ?_;refine fy (i := 10) (v := (.bool false)) (eY rfl) (by rfl) ?_ ?_
  ·intro w cq
   (try dsimp only at cq)
   go_simp;first | with_reducible rfl | (have h := H2.out; simpa using h) | (have h := H2.out; simp at h; omega)
  try simp only [Act.put, qA, qB, qC]
  refine fy (i := 11) (v := (.bool false)) (eY rfl) (by rfl) ?_ ?_
  ·intro w cq
   (try dsimp only at cq)
   go_simp;try with_reducible rfl
  try simp only [Act.put, qA, qB, qC]
  refine fy (i := 12) (v := (.bool false)) (eY rfl) (by rfl) ?_ ?_
  ·intro w cq
   (try dsimp only at cq)
   go_simp;try with_reducible rfl
  try simp only [Act.put, qA, qB, qC]
  refine ao 13 rfl ?_;refine ao 14 rfl ?_;refine ao 15 rfl ?_;refine ao 16 rfl ?_;refine ao 17 rfl ?_;refine ao 18 rfl ?_;refine ao 19 rfl ?_;refine ao 20 rfl ?_;refine ao 21 rfl ?_;refine ao 22 rfl ?_;refine fy (i := 23) (v := (.bool false)) (eY rfl) (by rfl) ?_ ?_
  ·intro w cq
   (try dsimp only at cq)
   go_simp;first | with_reducible rfl | (have h := H3.out; simpa using h) | (have h := H3.out; simp at h; omega)
  try simp only [Act.put, qA, qB, qC]
  refine fy (i := 24) (v := (.bool false)) (eY rfl) (by rfl) ?_ ?_
  ·intro w cq
   (try dsimp only at cq)
   go_simp;try with_reducible rfl
  try simp only [Act.put, qA, qB, qC]
  refine fy (i := 25) (v := (.bool false)) (eY rfl) (by rfl) ?_ ?_
  ·intro w cq
   (try dsimp only at cq)
   go_simp;try with_reducible rfl
  try simp only [Act.put, qA, qB, qC]
  refine ao 26 rfl ?_;refine ao 27 rfl ?_;refine ao 28 rfl ?_;refine ao 29 rfl ?_;refine acU (rs := [30]) (by kernel_rfl) (by simp) ?_;refine dz rfl (fun K hK => ?_) acR;go_simp;go_at_call 61
  refine (QC.out _ (ag w 1)).mono ?_;rintro e1 W1 ⟨rfl, aK⟩;first
   | refine hK.out _ _ ?_ (fun hHeld => ?_)
   | (go_wp2_with fail; refine hK.out _ _ ?_ (fun hHeld => ?_))
  ·exact (eJ.out _ ((ag w 1).trans aK))
  clear hK K;try simp only [Act.put, qA, qB, qC]
  refine ao 31 rfl ?_;refine ao 32 rfl ?_;refine adO (by kernel_rfl) ?_ _;clear hHeld;have aS : Hid (Below w.heap.size w W1) := af ((ag w 1).trans aK);clear aK;have z1 := (HM.out.below aS.out).row.c1;go_wp2_with fail
  refine (j8 (HM.out.below aS.out).tb).mono ?_;rintro e3 w3 ⟨v3, rfl, kY, cF⟩;obtain ⟨p3, n3, c3, rfl⟩ := kY.nP.sl;have HN3 := af kY.nP.len.1;have sW := af kY;have fH : Hid (Below w.heap.size w w3) := af (aS.out.trans (cF.mono aS.out.size));have Oq : (n3 : Int) ≤ 8 := by have := HM.out.tb.ok.len; have := HN3.out; omega
  clear kY cF z1;go_wp2_with fail
  go_loopw [44] (fun i wr => ∃ k : Nat, k ≤ n3 ∧ i = .int .i64 k ∧ Hid (Below w3.heap.size w3 wr ∧ ep IX (m.L.take k) = true)) (fun i _ => n3 - (intOf i).toNat)
  case atStart => exact ⟨0, by omega, rfl, af ⟨acG _ _, rfl⟩⟩
  case round =>
   obtain ⟨k, hk, rfl, HR⟩ := hrel;have Am : Hid (Below w.heap.size w wr) := af (fH.out.trans (HR.out.1.mono fH.out.size));by_cases bd : k < n3
   ·obtain ⟨y, hy⟩ : ∃ y, m.L[k]? = some y := ⟨_, acF (by have := HN3.out; omega)⟩
    obtain ⟨gd, o, rfl, hc⟩ := sW.out.nP.at_ (by omega);have hd := (hc k y hy).below HR.out.1;have d0 := hd.c0;have d1 := hd.c1;have d2 := hd.c2;have d3 := hd.c3;have d4 := hd.c4;have d5 := hd.c5;have d6 := hd.c6;have d7 := hd.c7;have d8 := hd.c8;have d9 := hd.c9;have QE := hd.c10;have HY := af hy;have iB := af (za (ix := IX) hy);have lB := af (Ep (ix := IX) hy);clear hd hc hy;obtain ⟨s, q, a, ⟨e1, e2, e3, e4, e5, e6, e7, e8⟩⟩ := y;dsimp only at *;go_upto_region 6 with fail
    obtain ⟨Y, hY⟩ : ∃ Y, wr.alloc (.cells #[.int .i64 s, .int .i64 q, .int .i64 a, .int .i64 e1, .int .i64 e2, .int .i64 e3, .int .i64 e4, .int .i64 e5, .int .i64 e6, .int .i64 e7, .int .i64 e8] 84) = Y := ⟨_, rfl⟩
    have fF : Below wr.heap.size wr Y := by rw [← hY]; exact (acG _ _).alloc (acE _) _
    have df : ∀ i v, #[Value.int .i64 s, .int .i64 q, .int .i64 a, .int .i64 e1, .int .i64 e2, .int .i64 e3, .int .i64 e4, .int .i64 e5, .int .i64 e6, .int .i64 e7, .int .i64 e8][i]? = some v → Y.cell? ⟨wr.heap.size, i, none⟩ = some v := fun i v hi => by rw [← hY, adX]; exact hi
    have y0 : Y.cell? ⟨wr.heap.size, 0, none⟩ = some (.int .i64 s) := df 0 _ rfl;have y2 : Y.cell? ⟨wr.heap.size, 2, none⟩ = some (.int .i64 a) := df 2 _ rfl;rw [hY];have x2 := (eJ.out _ (Am.out.trans (fF.mono Am.out.size))).1;have eI := af (acD (HR.out.1.trans (fF.mono HR.out.1.size)) (Am.out.trans (fF.mono Am.out.size)));clear hY df fF d0 d1 d2 d3 d4 d5 d6 d7 d8 d9 QE;cases hs : decide (IX < s)
    ·cases ha : decide (IX < a)
     ·have eH : Hid (ep IX (m.L.take (k + 1)) = true) := af (by rw [iB.out, HR.out.2, hs, ha]; rfl);go_quiet (fail)
      go_wp2_with fail
      go_roundw;case rel => exact ⟨k + 1, by omega, by go_num, af ⟨eI.out.1.trans ((ag _ _).mono eI.out.1.size), eH.out⟩⟩
      case measure => simp [intOf]; omega
     ·have HF : Hid (MB = false) := af (by rw [Di.out, lB.out (by rw [ha]; simp)]; rfl);go_quiet (fail)
      go_wp2_with fail
      go_ret;exact ⟨fZ HF.out, eI.out.2.trans ((ag _ _).mono eI.out.2.size)⟩
    ·have HF : Hid (MB = false) := af (by rw [Di.out, lB.out (by rw [hs]; simp)]; rfl);go_quiet (fail)
     go_wp2_with fail
     go_ret;exact ⟨fZ HF.out, eI.out.2.trans ((ag _ _).mono eI.out.2.size)⟩
   ·have e : m.L.take k = m.L := acY (by have := HN3.out; omega);have HF : Hid (MB = true) := af (by rw [Di.out, ← e, HR.out.2]; rfl);go_wp2_with fail
    go_ret;exact ⟨fZ HF.out, Am.out⟩
end Go.Proofs.YtionbmlicmibgaaGreatDoor
