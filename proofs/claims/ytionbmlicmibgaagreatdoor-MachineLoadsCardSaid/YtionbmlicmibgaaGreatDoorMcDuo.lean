import Derived.Test.YtionbmlicmibgaaGreatDoorMcRChk
import Derived.Test.YtionbmlicmibgaaGreatDoorS11p
import Derived.Test.YtionbmlicmibgaaGreatDoorMcArg
import Derived.Test.YtionbmlicmibgaaGreatDoorMcAw
import Derived.Test.YtionbmlicmibgaaGreatDoorMcLoad
set_option linter.unusedVariables false
set_option linter.unusedSimpArgs false
namespace Go.Proofs.YtionbmlicmibgaaGreatDoor
open Go.Proofs.Tryz
open Go.RowKit
theorem da {w a b : World} (h : Below w.heap.size w a) (k : Below a.heap.size a b) : Below w.heap.size w b := h.trans (k.mono h.size)
theorem Hn {w : World} {gm : Nat} {P : Pm} {m : Mp} (h : dK w gm P m) : Calls prog 39 #[.pointer (some ⟨gm, 0, none⟩)] w fun e w' => ∃ p n c, e = .returned (.slice p n c) ∧ Own w.heap.size w' (.slice p n c) (dM m) ∧ Below w.heap.size w w' := by
 have h1 := oW h.is.so.ok;rw [h.is.pl] at h1;have h2 := lR h.is.tb.ok;exact (Ef h (by omega) (by omega)).mono fun e w' ⟨v, he, ho, hb⟩ => by
  obtain ⟨p, n, c, rfl⟩ := ho.bp.sl;exact ⟨p, n, c, he, ho, hb⟩
def Eh (w : World) (v : Value) (m : Mp) : Prop := ∃ B, w.ownsRow B 3 1 v m.S.length ((m.S.map (·.1)).map (Value.int .i64))
theorem Eh.below {w w' : World} {v : Value} {m : Mp} (h : Eh w v m) (hb : Below w.heap.size w w') : Eh w' v m := by
 obtain ⟨B, h⟩ := h;exact ⟨B, mV h hb⟩
theorem Ei {w : World} {gm : Nat} {P : Pm} {m : Mp} (h : dK w gm P m) : Calls prog 42 #[.pointer (some ⟨gm, 0, none⟩)] w fun e w' => ∃ p n c, e = .returned (.slice p n c) ∧ Eh w' (.slice p n c) m ∧ Below w.heap.size w w' := (oQ h).mono fun e w' ⟨v, he, ho, hb⟩ => by
 have hl : P.R.length = m.S.length := by rw [← h.is.pl, adv]
 rw [hl, Sz, h.is.pl] at ho;obtain ⟨p, c, rfl, _⟩ := fL ho;exact ⟨p, _, c, he, ⟨_, ho⟩, hb⟩
theorem Ho {w : World} {p : Option Addr} {n c : Nat} {p' : Option Addr} {n' c' : Nat} {m m' : Mp} (h : Eh w (.slice p n c) m) (h' : Eh w (.slice p' n' c') m') (e : m'.S.map (·.1) = m.S.map (·.1)) : Calls prog 30 #[.slice p n c, .slice p' n' c'] w fun e w' => e = .returned (.bool true) ∧ Below w.heap.size w w' := by
 obtain ⟨B, h⟩ := h;obtain ⟨B', h'⟩ := h';have hl : m'.S.length = m.S.length := by have := aec List.length e; simpa using this
 rw [e, hl] at h';exact Oj h h'
theorem Hp {w : World} {gm : Nat} {P : Pm} {m : Mp} (h : dK w gm P m) : Calls prog 44 #[.pointer (some ⟨gm, 0, none⟩)] w fun e w' => ∃ p n c, e = .returned (.slice p n c) ∧ wh w' (.slice p n c) m.L ∧ Below w.heap.size w w' := (A4 h).mono fun e w' ⟨v, he, ho, hb⟩ => by
 obtain ⟨p, n, c, rfl⟩ := ho.nP.sl;exact ⟨p, n, c, he, ho.nP, hb⟩
theorem Ej {w : World} {gm : Nat} {P : Pm} {m : Mp} (h : dK w gm P m) : Calls prog 50 #[.pointer (some ⟨gm, 0, none⟩)] w fun e w' => ∃ p n c, e = .returned (.slice p n c) ∧ Ns w' (.slice p n c) m.vo ∧ Below w.heap.size w w' := (yY h).mono fun e w' ⟨v, he, ho, hb⟩ => by
 obtain ⟨p, n, c, rfl⟩ := ho.ns.sl;exact ⟨p, n, c, he, ho.ns, hb⟩
theorem Hq {w : World} {v v' : Value} {l : List Int} (h : Ns w v l) (h' : Ns w v' l) : Calls prog 30 #[v, v'] w fun e w' => e = .returned (.bool true) ∧ Below w.heap.size w w' := (Ek h h').mono fun e w' ⟨he, q, hq⟩ => ⟨by rw [he, beq_self_eq_true], by rw [hq]; exact ag w q⟩
theorem A5 {w : World} {v1 v2 : Value} {l : List St} (h1 : wh w v1 l) (h2 : wh w v2 l) : Calls prog 45 #[v1, v2] w fun e w' => e = .returned (.bool true) ∧ Below w.heap.size w w' :=
 (A7 h1 h2).mono fun e w' ⟨he, q, hw⟩ => ⟨by rw [he, ac4 rfl], by rw [hw]; exact ag w q⟩
open Go.RowKit
section
variable {w0 w w' : World} {ga gb gc : Nat} {Pa Pb Pc Pa' : Pm} {a b c a' : Mp}
theorem og {W : World} {v u : Value} {l : List UInt8} (h1 : By W v l) (h2 : By W u l) : Calls prog 20 #[v, u] W fun e w' => e = .returned (.bool true) ∧ W = w' := by
 have h := iO h1 h2;rw [beq_self_eq_true] at h;exact h
end
open Go.RowKit
def SB (w : World) (l : List UInt8) (e : Ending) (w' : World) : Prop :=
 ((∃ L gm P, (loadT (Qn l) = some L ∧ br (wj (DJ l)) = DJ l ∧ lT (FH l L) = true ∧ dM (FH l L) = l) ∧ e = .returned (.tuple #[.pointer (some ⟨gm, 0, none⟩), .int .i64 0]) ∧ dK w' gm P (FH l L) ∧ (∀ k, kU P k → w.heap.size ≤ k) ∧ w.heap.size ≤ gm) ∨
 ((∀ L, loadT (Qn l) = some L → br (wj (DJ l)) = DJ l → lT (FH l L) = true → dM (FH l L) ≠ l) ∧ e = .returned (.tuple #[.pointer none, .int .i64 70]))) ∧ Below w.heap.size w w'
theorem FT {m : Mp} (h : lT m = true) (hi : 0 ≤ m.ix) (ht : 0 ≤ m.tm) : m.Ok := by
 unfold lT at h;simp at h;exact ⟨hi, by omega, ht, by omega, h.2.2.2.1⟩
theorem A_ {W : World} {v u : Value} {l k : List UInt8} (h1 : By W v l) (h2 : By W u k) : Calls prog 20 #[v, u] W fun e w' => e = .returned (.bool (l == k)) ∧ W = w' := iO h1 h2
set_option maxRecDepth 200000 in
set_option maxHeartbeats 16000000 in
theorem Hr {w : World} (hE : ko w) {p : Option Addr} {n c : Nat} {l : List UInt8} (hv : By w (.slice p n c) l) (hl : l.length ≤ 400000) : Calls prog 35 #[.slice p n c] w (SB w l) := by
 have HE := af hE;have HV := af hv;have HL := af hl;have OV := af (je hv (by omega));clear hE hv hl;go_enter func35, ntmps35
 go_wp2_with fail
 refine OV.out.mono ?_;rintro e w1 ⟨g, u, rfl, hg, hsc, Wz, aN, aK⟩;obtain ⟨pu, nu, cu, rfl⟩ := Wz.bp.sl;have aS := af aK;have ZC := af (Hu (w0 := w) HE.out ⟨hsc, Wz.bp, aN, adq _, hg, aK⟩ HL.out);clear hg hsc Wz aN aK OV;go_wp2_with fail
 refine ZC.out.mono ?_;rintro e w2 ⟨SA, aP, dO⟩;have cE : Hid (Below w.heap.size w w2) := af aP;clear aP dO ZC;rcases SA with ⟨oh, L, P, bd, rfl, hmz, wo⟩ | ⟨fI, x, hx0, rfl⟩;case inr =>
  have lB := af fI;have e1 : (x != 0) = true := by simpa using hx0
  clear fI hx0;go_wp2_with fail
  refine ac0 (v := .tuple #[.pointer none, .int .i64 70]) (by simp [results, results35, go_sem]) rfl ?_;exact ⟨.inr ⟨fun L h1 h2 _ _ => lB.out ⟨h2, by rw [h1]; rfl⟩, rfl⟩, cE.out⟩
 case inl =>
  have HF := af (acD oh bd);have HZ := af hmz;have HFR : Hid (∀ k, kU P k → w.heap.size ≤ k) := af fun k hk => acN aS.out.size (wo k hk);obtain ⟨M, hM⟩ : ∃ m, FH l L = m := ⟨_, rfl⟩
  rw [hM] at HZ;have ZD : Hid (0 ≤ M.ix ∧ 0 ≤ M.tm) := af (by rw [← hM]; unfold FH; dsimp only; omega);have HM := af hM;obtain ⟨gi, vp⟩ : ∃ k, P.gi = k := ⟨_, rfl⟩
  have Di := af (Eo HZ.out);rw [vp] at Di ⊢;have Dh := af vp;clear oh bd hmz wo hM vp;go_wp2_with fail
  refine Di.out.mono ?_;rintro e w3 ⟨rfl, cF⟩;have ZE := af (HZ.out.below cF);have fH : Hid (Below w.heap.size w w3) := af (da cE.out cF);clear cF Di;cases WA : lT M with
  | false =>
   have HN := af WA;clear WA;go_wp2_with fail
   refine ac0 (v := .tuple #[.pointer none, .int .i64 70]) (by simp [results, results35, go_sem]) rfl ?_;refine ⟨.inr ⟨fun L' h1 _ h3 _ => ?_, rfl⟩, fH.out⟩;rw [HF.out.2] at h1;injection h1 with h1;rw [← h1, HM.out, HN.out] at h3;cases h3
  | true =>
   have fh := af (FT WA ZD.out.1 ZD.out.2);have WB := af (ZE.out.is fh.out);have A9 := af (A3 WB.out (by have h1 := oW WB.out.so.ok; rw [WB.out.pl] at h1; omega) (by have h2 := lR WB.out.tb.ok; omega));have HN := af WA;rw [Dh.out] at A9;clear WA;go_wp2_with fail
   refine A9.out.mono ?_;rintro e w4 ⟨v4, rfl, iP, bY⟩;obtain ⟨p4, n4, c4, rfl⟩ := iP.bp.sl;have dL : Hid (Below w.heap.size w w4) := af (da fH.out bY);have Vd := af (A_ iP.bp (HV.out.below dL.out));have HI4 := af (WB.out.below bY);obtain ⟨Q, hQ⟩ : ∃ q, (dM M == l) = q := ⟨_, rfl⟩
   rw [hQ] at Vd;have HQ := af hQ;clear iP bY A9 hQ;go_wp2_with fail
   refine Vd.out.mono ?_;rintro e w5 ⟨rfl, rfl⟩;cases Q with
   | false =>
    go_wp2_with fail
    refine ac0 (v := .tuple #[.pointer none, .int .i64 70]) (by simp [results, results35, go_sem]) rfl ?_;refine ⟨.inr ⟨fun L' h1 _ _ h4 => ?_, rfl⟩, dL.out⟩;rw [HF.out.2] at h1;injection h1 with h1;rw [← h1, HM.out] at h4;have := HQ.out;rw [h4] at this;simp at this
   | true =>
    have vS := (acG w4.heap.size w4).alloc (acE _) (.cells #[.pointer (some ⟨gi, 0, none⟩)] 99);have H_ := acQ w4 (.cells #[.pointer (some ⟨gi, 0, none⟩)] 99);have HA := af (acD vS H_);clear vS H_;go_wp2_with fail
    refine ac0 (v := .tuple #[.pointer (some ⟨w4.heap.size, 0, none⟩), .int .i64 0]) (by simp [results, results35, go_sem]) rfl ?_;refine ⟨.inl ⟨L, w4.heap.size, P, ⟨HF.out.2, HF.out.1, by rw [HM.out]; exact HN.out, by rw [HM.out]; simpa using HQ.out⟩, rfl, ?_, HFR.out, dL.out.size⟩, da dL.out HA.out.1⟩;rw [HM.out];refine ⟨by rw [Dh.out]; exact HA.out.2, HI4.out.below HA.out.1, fun e => by have := HI4.out.lt _ e; omega, fun e => ?_⟩;have h1 := HE.out.pos;have h2 := dL.out.size;omega
open Go.RowKit
theorem Kl {m : Mp} (h : m.Ok) (hS : fB m.S) (hL : dS m.L) : AJ (dM m) = m.ix.toNat ∧ yJ (dM m) = m.tm.toNat ∧ Km (dM m) = m.vo ∧ DJ (dM m) = br m.S ∧ Qn (dM m) = dN m.L := by
 obtain ⟨q1, q2⟩ := jN h.vo;have eV := h.i0;have sy := h.i1;have ht0 := h.t0;have Zv := h.t1;have l1 := oW hS;have l2 := lR hL;have hb : (dM m).drop 0 = digits m.ix.toNat ++ (digits m.tm.toNat ++ (digits m.vo.length ++ (fX m.vo ++ (digits (br m.S).length ++ (br m.S ++ (digits (dN m.L).length ++ (dN m.L ++ []))))))) := by
  unfold dM;simp [iZ, NY, show fX [] = [] from rfl]
 generalize dM m = l at hb;have n1 := au (l := l) (a := 0) (n := m.ix.toNat) (by omega) hb;have aK := ai hb;have n2 := au (l := l) (n := m.tm.toNat) (by omega) aK;have aP := ai aK;have n3 := au (l := l) (n := m.vo.length) (by omega) aP;have cF := ai aP;have n4 := yK (l := l) m.vo (fun n hn => by have := q2 n hn; omega) cF;have bY := ai cF;have hl := aec List.length bY;rw [adg, acH, acH] at hl;have hp := bZ (br m.S).length;have e1 : Qo l = (0 + (digits m.ix.toNat).length, 0) := by unfold Qo; rw [n1]
 have e2 : JW l = (0 + (digits m.ix.toNat).length + (digits m.tm.toNat).length, 0) := by unfold JW; rw [e1, n2]
 have e3 : G_ l (JW l) = (m.vo, 0 + (digits m.ix.toNat).length + (digits m.tm.toNat).length + (digits m.vo.length).length + (fX m.vo).length, 0) := by
  unfold G_;rw [e2, n3];dsimp only;rw [Nat.min_eq_left (by omega), n4]
 have e4 : RY l = (0 + (digits m.ix.toNat).length + (digits m.tm.toNat).length + (digits m.vo.length).length + (fX m.vo).length, 0) := by unfold RY; rw [e3]
 have t1 := fa (l := l) (most := l.length - (0 + (digits m.ix.toNat).length + (digits m.tm.toNat).length + (digits m.vo.length).length + (fX m.vo).length)) (x := br m.S) (by omega) (by omega) (by omega) bY;have aL := ai (ai bY);have NT := aec List.length aL;rw [adg, acH, acH] at NT;have RZ := bZ (dN m.L).length;have e5 : Wh l = (0 + (digits m.ix.toNat).length + (digits m.tm.toNat).length + (digits m.vo.length).length + (fX m.vo).length + (digits (br m.S).length).length + (br m.S).length, 0) := by
  unfold Wh;rw [e4];dsimp only;rw [t1]
 have t2 := fa (l := l) (most := l.length - (0 + (digits m.ix.toNat).length + (digits m.tm.toNat).length + (digits m.vo.length).length + (fX m.vo).length + (digits (br m.S).length).length + (br m.S).length)) (x := dN m.L) (by omega) (by omega) (by omega) aL;refine ⟨by unfold AJ; rw [n1], by unfold yJ; rw [e1, n2], by unfold Km; rw [e3], ?_, ?_⟩
 ·unfold DJ;rw [e4];dsimp only;rw [t1]
 ·unfold Qn;rw [e5];dsimp only;rw [t2]
structure lS (m m' : Mp) : Prop where
 ix : m'.ix = m.ix
 tm : m'.tm = m.tm
 vo : m'.vo = m.vo
 L : m'.L = m.L
 S : oc m.S = oc m'.S
theorem lS.img {m m' : Mp} (h : lS m m') : dM m' = dM m := by
 have h1 := sA m.S;have h2 := sA m'.S;rw [h.S] at h1;unfold dM;rw [h.ix, h.tm, h.vo, h.L, ← h2, h1]
theorem lS.fst {m m' : Mp} (h : lS m m') : m'.S.map (·.1) = m.S.map (·.1) := by
 have h1 := FG m.S;have h2 := FG m'.S;rw [h.S, h2] at h1;exact h1
theorem lS.R_ {m : Mp} (h : m.Ok) (hS : fB m.S) (hL : dS m.L) : lS m (FH (dM m) m.L) := by
 obtain ⟨h1, h2, h3, h4, h5⟩ := Kl h hS hL;have eV := h.i0;have ht0 := h.t0;unfold FH;rw [h1, h2, h3, h4, Kn hS];exact ⟨by dsimp only; omega, by dsimp only; omega, rfl, rfl, (FI _).symm⟩
theorem lS.may {m m' : Mp} (h : lS m m') : lT m' = lT m := by
 unfold lT;rw [h.ix, h.tm, h.vo, h.L]
open Go.RowKit
section
variable {w0 w w' : World} {ga gb : Nat} {Pa Pb Pa' : Pm} {a b a' : Mp}
theorem dK.KA (h : dK w ga Pa a) : fB a.S := by
 have h1 := h.is.so.ok;rw [h.is.pl] at h1;exact h1
end
end Go.Proofs.YtionbmlicmibgaaGreatDoor
