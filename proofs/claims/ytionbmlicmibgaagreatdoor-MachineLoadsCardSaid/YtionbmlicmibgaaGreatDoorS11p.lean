import Derived.Test.YtionbmlicmibgaaGreatDoorS9
import Derived.Test.YtionbmlicmibgaaGreatDoorSpArg
set_option linter.unusedVariables false
set_option linter.unusedSimpArgs false
namespace Go.Proofs.YtionbmlicmibgaaGreatDoor
open Go.RowKit
set_option maxRecDepth 200000 in
set_option maxHeartbeats 2000000 in
theorem tQ {w : World} {v : Value} {l : List Sp} (hv : iY w v l) (hl : l.length ≤ 100000) (im : ∀ x ∈ l, x.n.size ≤ 1100000) {B : List UInt8} {E : Nat} (hP : nH l = (B, E)) :
  Calls Tryz.prog 57 #[v] w fun e w' => ∃ v', e = .returned (.tuple #[v', .int .i64 (E : Int)]) ∧ Own w.heap.size w' v' B ∧ Below w.heap.size w w' := by
 obtain ⟨p, n, c, rfl⟩ := hv.sl;obtain ⟨hn, Xh, kO⟩ := hv.len;have HV := af hv;have HN := af hn;have HP := af hP;have HM := af im;have zy : n ≤ 100000 := by omega
 clear hv hn hP im hl;go_enter Tryz.func57, Tryz.ntmps57
 go_wp2_with fail
 refine (gP (By.nil w) (by simp) n n (by omega) (by unfold lim; omega)).mono ?_;rintro e1 w1 ⟨v1, rfl, ho, hb⟩;rw [adE] at ho;have HG := af ho;have HB := af hb;clear hb ho;go_wp2_with fail
 go_loopw [4, 6, 12] (fun v _ c wr => ∃ k : Nat, k ≤ n ∧ c = .int .i64 k ∧ Hid (Own w.heap.size wr v (digits n ++ ((l.take k).map Sp.bytes).flatten) ∧ Below w.heap.size w wr ∧ (l.take k).all Sp.ok = true)) (fun _ _ c _ => n - (intOf c).toNat)
 case atStart => exact ⟨0, by omega, rfl, af ⟨by simpa using HG.out, HB.out, rfl⟩⟩
 case round =>
  obtain ⟨k, hk, rfl, HR⟩ := hrel;by_cases bd : (k : Int) < (n : Int)
  ·obtain ⟨g, o, rfl, hx⟩ := HV.out.at_ (by omega);obtain ⟨x, dC⟩ : ∃ x, l[k]? = some x := ⟨_, acF (by have := HN.out; omega)⟩
   have aG := (hx k x dC).below (HR.out.2.1);obtain ⟨oo, iu⟩ : ∃ oo, o + k * 6 = oo := ⟨_, rfl⟩
   rw [iu] at aG;have c0 := aG.c0;have c1' := aG.c1;have c2 := aG.c2;have c3 := aG.c3;have c4 := aG.c4;have c5 := aG.c5;have OY := HM.out x (acS dC);have vl := af dC;have HAT := af aG;have qs := lp x OY;have jC := af qs;have dH := af (zC x);clear hx dC aG qs;have bg := az wr x;have qw := af bg;have Xu : Below wr.heap.size wr (wr.alloc (.cells #[.int .i64 x.t, .int .i64 x.i, .int .i64 x.p, .int .i64 x.s, .int .i64 x.e, .string x.n] 30)) := (acG _ _).alloc (acE _) _;have Tv := af Xu;have NI : wr.heap.size < (wr.alloc (.cells #[.int .i64 x.t, .int .i64 x.i, .int .i64 x.p, .int .i64 x.s, .int .i64 x.e, .string x.n] 30)).heap.size := by simp
   have Xv := af NI;clear bg Xu NI;by_cases aT : x.ok = true
   ·have fh := af aT;obtain ⟨t, i, p, s, e, nm⟩ := x;dsimp only at *;unfold dZ at *;rw [acW aT] at jC;clear aT;go_wp2_with fail
    refine (jC.out _).mono ?_;rintro e2 w2 ⟨rfl, aP⟩;obtain ⟨d0, d1, d2, d3, d4, d5⟩ := (qw.out.below aP).z;dsimp only at d0 d1 d2 d3 d4 d5;have cE : Hid (Below wr.heap.size wr w2) := af (Tv.out.trans (aP.mono (afe Xv.out)));clear aP;go_wp2_with fail
    refine (dH.out fh.out _).mono ?_;rintro e3 w3 ⟨v3, rfl, kY, cF⟩;have wv := af (HR.out.1.below (cE.out.trans (cF.mono cE.out.size)));have fH := af (HR.out.2.1.trans ((cE.out.trans (cF.mono cE.out.size)).mono HR.out.2.1.size));have Xw := af kY.bp;have LB := fH.out.size;have EI : Hid ((l.take (k + 1)).all Sp.ok = true ∧ digits n ++ ((l.take (k + 1)).map Sp.bytes).flatten = (digits n ++ ((l.take k).map Sp.bytes).flatten) ++ Sp.bytes ⟨t, i, p, s, e, nm⟩) := af (by
     have h1 : l.take (k + 1) = l.take k ++ [⟨t, i, p, s, e, nm⟩] := by rw [ac5, vl.out]; rfl
     rw [h1, aeR, HR.out.2.2];refine ⟨?_, by simp⟩;simp only [aeI, List.all_nil, Bool.and_true, adY];exact fh.out)
    have sI : (digits n ++ ((l.take k).map Sp.bytes).flatten).length + (Sp.bytes ⟨t, i, p, s, e, nm⟩).length ≤ 140737488355328 := by
     have h1 := ng HR.out.2.2;have h2 := pz fh.out;have h3 := digits_length n (by omega);rw [acH, tJ];rw [ac6] at h1;omega
    have yZ := af sI;clear kY cF d0 d1 d2 d3 d4 d5 sI;go_wp2_with (at_builtin; go_must (refine kz rfl _ _ rfl rfl rfl rfl wv.out Xw.out yZ.out LB ?_); intro v4 w4 lz _ bY _)
    go_roundw;case rel => exact ⟨k + 1, by omega, by go_num, af ⟨by rw [EI.out.2]; exact lz, fH.out.trans bY, EI.out.1⟩⟩
    case measure => simp [intOf]; omega
   ·have Tw : B = [] ∧ E = 30 := by
     have cO : l.all Sp.ok = false := by
      rw [adJ];intro h;exact aT (adl.1 h x (acS vl.out))
     have := HP.out;unfold nH at this;rw [cO] at this;simp only [Bool.false_eq_true, if_false, acT] at this;exact ⟨this.1.symm, this.2.symm⟩
    obtain ⟨rfl, rfl⟩ := Tw;obtain ⟨t, i, p, s, e, nm⟩ := x;dsimp only at *;unfold dZ at *;rw [acO aT] at jC;clear aT;go_wp2_with fail
    refine (jC.out _).mono ?_;rintro e2 w2 ⟨rfl, aP⟩;have cE : Hid (Below wr.heap.size wr w2) := af (Tv.out.trans (aP.mono (afe Xv.out)));clear aP;go_wp2;go_ret2
    exact ⟨_, rfl, Own.nil _ _, HR.out.2.1.trans (cE.out.mono HR.out.2.1.size)⟩
  ·have EJ : k = n := by omega
   subst EJ;have cO : l.all Sp.ok = true := by
    have := HR.out.2.2
    rwa [acY (by have := HN.out; omega)] at this
   have hG : Own w.heap.size wr u4 (digits k ++ (l.map Sp.bytes).flatten) := by
    have := HR.out.1
    rwa [acY (by have := HN.out; omega)] at this
   have Tw : B = digits k ++ (l.map Sp.bytes).flatten ∧ E = 0 := by
    have := HP.out;unfold nH at this;rw [cO] at this;simp only [if_true, acT] at this;refine ⟨?_, this.2.symm⟩;rw [← this.1];unfold cN;rw [HN.out]
   obtain ⟨rfl, rfl⟩ := Tw;have HJ := af hG;have mY := af HR.out.2.1;clear hG cO;go_wp2;go_ret2
   exact ⟨_, rfl, HJ.out, mY.out⟩
end Go.Proofs.YtionbmlicmibgaaGreatDoor
